/- dunnageref01.CopyAll. -/
import Derived.Test.YtpkjpkjcdpgaaaaRefNew
namespace Go.Proofs.Ytpkjpkjcdpgaaaa
open Go.RowKit
/-- The first k rows have been copied. -/
def copiedTo (w : World) (lo : Nat) (v : Value) (vs : List Value) (L : List (List UInt8)) (k : Nat) : Prop :=
  w.ownsRow lo 28 1 v k vs ∧ ∀ i (_ : i < L.length), i < k → ∃ g cap, vs[i]? = some (.slice (some ⟨g, 0, none⟩) (L[i]).length cap) ∧ lo ≤ g ∧ g < w.heap.size ∧ v.ownBlock ≠ some g ∧ bytesIn w (some ⟨g, 0, none⟩) L[i]
theorem copiedTo_step {w w1 w3 : World} {lo : Nat} {v : Value} {vs : List Value} {L : List (List UInt8)} {k g cap g3 cap3 : Nat} {o : Obj} (h : copiedTo w lo v vs L k) (hk : k < L.length) (hlo : lo ≤ w.heap.size) (hB : Below w.heap.size w w1)
    (hg1 : w.heap.size ≤ g) (hg2 : g < w1.heap.size) (hb : bytesIn w1 (some ⟨g, 0, none⟩) L[k])
    (hown : w3.ownsRow lo 28 1 (.slice (some ⟨g3, 0, none⟩) (k + 1) cap3) (k + 1) (vs ++ [.slice (some ⟨g, 0, none⟩) (L[k]).length cap]))
    (hgr : (w1.alloc o).grownBy w3 v.ownBlock) (hat : v.ownBlock = some g3 ∨ g3 = w1.heap.size + 1) : copiedTo w3 lo (.slice (some ⟨g3, 0, none⟩) (k + 1) cap3) (vs ++ [.slice (some ⟨g, 0, none⟩) (L[k]).length cap]) L (k + 1) := by
  have hl : vs.length = k := by have := h.1.1; omega
  have hv : ∀ i, v.ownBlock = some i → i < w.heap.size := fun i e => (h.1.lt i e).2
  have hs1 := hB.size
  have hs3 := hgr.size
  have hsa : (w1.alloc o).heap.size = w1.heap.size + 1 := by simp
  have hK : Keeps (fun i => v.ownBlock = some i) w1 w3 := (Keeps.alloc (Keeps.refl _ w1) o).grown hgr (fun i e => .inl e)
  have hown3 : ∀ x, (Value.slice (some ⟨g3, 0, none⟩) (k + 1) cap3).ownBlock = some x → x = g3 := fun x e => (Option.some.inj e).symm
  refine ⟨hown, fun i hi hik => ?_⟩
  by_cases e : i = k
  · subst e
    refine ⟨g, cap, by simp [hl], by omega, by omega, fun e => ?_, hb.keep (Rd := fun i => i = g) hK (fun ad e => by rw [← Option.some.inj e]) (fun i e hn => by have := hv i hn; omega)⟩
    have e2 := hown3 _ e
    rcases hat with h1 | h1
    · have := hv _ h1; omega
    · omega
  · obtain ⟨gi, ci, h1, h2, h3, h4, h5⟩ := h.2 i hi (by omega)
    refine ⟨gi, ci, by rw [List.getElem?_append_left (by omega)]; exact h1, h2, by omega, fun e => ?_, (h5.below hB).keep (Rd := fun i => i = gi) hK (fun ad e => by rw [← Option.some.inj e]) (fun i e hn => by subst e; exact h4 hn)⟩
    have e2 := hown3 _ e
    rcases hat with h6 | h6
    · subst e2; exact h4 h6
    · omega
theorem copiedTo_end {w : World} {lo : Nat} {v : Value} {vs : List Value} {L : List (List UInt8)} (h : copiedTo w lo v vs L L.length) : ∃ a c, v = .slice a L.length c ∧ rowsFrom w lo a L := by
  obtain ⟨sa, c, rfl, hr⟩ := row_slice h.1
  refine ⟨sa, c, rfl, fun j hj => ?_⟩
  obtain ⟨g, rfl, _, hg, hc⟩ := hr j hj
  refine ⟨g, 0, rfl, hg, fun i hi => ?_⟩
  obtain ⟨gi, ci, h1, h2, _, _, h5⟩ := h.2 i hi hi
  exact ⟨some ⟨gi, 0, none⟩, ci, by rw [Nat.zero_add, hc i hi]; exact h1, h5, fun ad e => by rw [← Option.some.inj e]; exact h2⟩
set_option maxRecDepth 100000 in
set_option maxHeartbeats 2000000 in
theorem copyAll_rows (L : List (List UInt8)) (a : Option Addr) (c : Nat) (w : World) (h : rowsAt w a L) (hn : L.length ≤ 4096) (hr : ∀ l ∈ L, l.length = 512) :
    Calls Try.prog 54 #[.slice a L.length c] w fun e w' => ∃ v vs, e = .returned v ∧ copiedTo w' w.heap.size v vs L L.length ∧ Below w.heap.size w w' := by
  obtain ⟨i0, hi, hz0, hz1, hz2⟩ := info_parts infoRow
  have HI := hid hi
  have H := hid h
  clear hi h
  go_enter Try.func54, Try.ntmps54
  go_wp2
  go_loopw [3, 4] (fun v i wr => ∃ (k : Nat) (vs : List Value), k ≤ L.length ∧ i = .int .i64 k ∧ Hid (copiedTo wr w.heap.size v vs L k) ∧ Hid (Below w.heap.size w wr)) (fun _ i _ => L.length - (intOf i).toNat)
  case atStart => exact ⟨0, [], by omega, rfl, ⟨World.ownsRow_nil _ _ _ _, fun i hi h => by omega⟩, Below.refl _ _⟩
  case round =>
    obtain ⟨k, vs, hk, rfl, hM, hB⟩ := hrel
    by_cases hlt : k < L.length
    · have hk0 : (0 : Int) ≤ (k : Int) := by omega
      have hk1 : (k : Int) < (L.length : Int) := by omega
      obtain ⟨b, o, rfl, hc⟩ := H.out k hlt
      obtain ⟨a', c', hcell, hby⟩ := hc k hlt
      have hl5 := hr _ (List.getElem_mem hlt)
      have ck : wr.cell? ⟨b, o + k, none⟩ = some (.slice a' (L[k]).length c') := (hB.out.cell (p := ⟨b, o + k, none⟩) (World.block_lt_of_cell? w _ hcell)).trans hcell
      have hcp := copy_any L[k] a' c' wr (hby.below hB.out) (by omega) (by omega)
      have HSt := hid (fun w1 w3 g cap g3 cap3 o x1 x2 x3 x4 x5 x6 x7 => copiedTo_step (w1 := w1) (w3 := w3) (g := g) (cap := cap) (g3 := g3) (cap3 := cap3) (o := o) hM.out hlt hB.out.size x1 x2 x3 x4 x5 x6 x7)
      rw [hl5] at ck hcp HSt
      have HCp := hid hcp
      have HMr := hid hM.out.1
      have HMlt := hid (fun i e => (hM.out.1.lt i e).1)
      generalize L[k] = lk at *
      clear hcp hM hc hcell hby hl5
      go_wp2_with fail
      refine HCp.out.mono ?_
      clear HCp
      rintro e w1 ⟨g, cap, rfl, hb1, hg1, hg2, hB1⟩
      have HB1 := hid hB1
      have HR1 := hid ((Keeps.of_below (F := fun _ => False) hB1).row HMr.out (fun _ _ e => e))
      have Hb1 := hid hb1
      clear hB1 hb1
      go_wp2_with (refine wpList_append_lies _ rfl (.tmp 11) (.tmp 17) 46 rfl w.heap.size 28 i0 (.slice none 0 0) 1 24 Try.underlying46 HI.out hz0 hz1 hz2 rfl (by omega) u3 k vs rfl (HR1.out.alloc _) ⟨w1.heap.size, 0, none⟩ 1 1 [.slice (some ⟨g, 0, none⟩) 512 cap] rfl rfl (World.news_of_block (cs := #[.slice (some ⟨g, 0, none⟩) 512 cap]) (block_new w1 _)) (by intro u hu; rw [List.mem_singleton.1 hu]; rfl) (by omega) (by unfold maxLen; omega) (by omega) (by have := hB.out.size; have := HB1.out.size; simp; omega) (w1.heap.size + 1) (by simp) ?_; intro g3 cap3 w3 hown hgr hat hlt2; have HO := hid hown; have HG := hid hgr; have HAt := hid hat; clear hown hgr hat hlt2)
      have hbw := hB.out.trans (HB1.out.mono hB.out.size)
      have hba := hbw.alloc hbw.size (.cells #[.slice (some ⟨g, 0, none⟩) 512 cap] 28)
      exact ⟨⟨k + 1, _, by omega, by go_num, HSt.out w1 w3 g cap g3 cap3 _ HB1.out hg1 hg2 Hb1.out HO.out HG.out HAt.out, hba.trans (below_of_row HG.out hba.size HMlt.out)⟩, by simp [intOf]; omega⟩
    · obtain rfl : k = L.length := by omega
      have hge : ¬ ((L.length : Int) < (L.length : Int)) := by omega
      go_wp2
      go_ret
      exact ⟨_, rfl, ⟨vs, hM.out⟩, hB.out⟩
theorem copyAll_any (L : List (List UInt8)) (a : Option Addr) (c : Nat) (w : World) (h : rowsAt w a L) (hn : L.length ≤ 4096) (hr : ∀ l ∈ L, l.length = 512) :
    Calls Try.prog 54 #[.slice a L.length c] w fun e w' => ∃ a' c', e = .returned (.slice a' L.length c') ∧ rowsFrom w' w.heap.size a' L ∧ Below w.heap.size w w' := by
  refine (copyAll_rows L a c w h hn hr).mono ?_
  rintro e w' ⟨v, vs, rfl, hM, hB⟩
  obtain ⟨a', c', rfl, hrows⟩ := copiedTo_end hM
  exact ⟨a', c', rfl, hrows, hB⟩
end Go.Proofs.Ytpkjpkjcdpgaaaa
