/- Rows of the reference that were copied are the caller's: they may be written. -/
import Derived.Test.YtmnepbdbbdcllaaGreatRLog
namespace Go.Proofs.YtmnepbdbbdcllaaGreat
open Go.RowKit
/-- A row of bytes of one's own. -/
def rowB (w : World) (lo g cap : Nat) (l : List UInt8) : Prop := w.ownsRow lo 5 1 (.slice (some ⟨g, 0, none⟩) l.length cap) l.length (l.map (fun x : UInt8 => Value.int .u8 (x.toNat : Int)))
theorem rowB.keep {w w' : World} {lo g cap : Nat} {l : List UInt8} {F : Nat → Prop} (h : rowB w lo g cap l) (k : Keeps F w w') (hF : ¬ F g) : rowB w' lo g cap l := k.row h (fun i e => by rw [← Option.some.inj e]; exact hF)
theorem rowB.below {w w' : World} {lo g cap : Nat} {l : List UInt8} (h : rowB w lo g cap l) (k : Below w.heap.size w w') : rowB w' lo g cap l := h.keep (F := fun _ => False) (Keeps.of_below k) (fun e => e)
theorem rowB.bytes {w : World} {lo g cap : Nat} {l : List UInt8} (h : rowB w lo g cap l) : bytesIn w (some ⟨g, 0, none⟩) l := fun j hj => ⟨g, 0, rfl, fun i hi => by
  rw [Nat.zero_add, h.cellAt i (by omega)]
  simp [hi]⟩
/-- The first k rows have been copied, each to a block of its own. -/
def copiedW (w : World) (lo : Nat) (v : Value) (vs : List Value) (L : List (List UInt8)) (k : Nat) : Prop :=
  w.ownsRow lo 37 1 v k vs ∧ (∀ i (_ : i < L.length), i < k → ∃ g cap, vs[i]? = some (.slice (some ⟨g, 0, none⟩) (L[i]).length cap) ∧ lo ≤ g ∧ g < w.heap.size ∧ v.ownBlock ≠ some g ∧ rowB w lo g cap L[i]) ∧ ∀ (i j g n1 c1 n2 c2 : Nat), vs[i]? = some (.slice (some ⟨g, 0, none⟩) n1 c1) → vs[j]? = some (.slice (some ⟨g, 0, none⟩) n2 c2) → i = j
theorem copiedW_lt {w : World} {lo : Nat} {v : Value} {vs : List Value} {L : List (List UInt8)} {k : Nat} (h : copiedW w lo v vs L k) (hk : k ≤ L.length) {i g n1 c1 : Nat} (hi : vs[i]? = some (.slice (some ⟨g, 0, none⟩) n1 c1)) : g < w.heap.size := by
  have hl : vs.length = k := by have := h.1.1; omega
  have hik : i < k := by have := (List.getElem?_eq_some_iff.1 hi).1; omega
  obtain ⟨g', cap, h1, _, h3, _⟩ := h.2.1 i (by omega) hik
  rw [hi] at h1
  simp only [Option.some.injEq, Value.slice.injEq, Addr.mk.injEq] at h1
  omega
set_option maxRecDepth 100000 in
set_option maxHeartbeats 1000000 in
theorem copy_w (l : List UInt8) (a : Option Addr) (c : Nat) (w : World) (h : bytesIn w a l) (hp : 0 < l.length) (hm : l.length ≤ 1048576) :
    Calls Tryz.prog 71 #[.slice a l.length c] w fun e w' => ∃ g cap, e = .returned (.slice (some ⟨g, 0, none⟩) l.length cap) ∧ rowB w' w.heap.size g cap l ∧ w.heap.size ≤ g ∧ g < w'.heap.size ∧ Below w.heap.size w w' := by
  obtain ⟨b, o, rfl, hc⟩ := h 0 hp
  obtain ⟨i0, hi, hz0, hz1, hz2⟩ := info_parts infoU8
  have HI := hid hi
  have HC := hid (cells_of_bytes hc)
  clear hi h hc
  go_enter Tryz.func71, Tryz.ntmps71
  go_wp2_with (refine wpList_append_lies _ rfl (.tmp 4) (.tmp 5) 37 rfl w.heap.size 5 i0 (.int .u8 0) 1 1 Tryz.underlying37 HI.out hz0 hz1 hz2 rfl (by omega) (.slice none 0 0) 0 [] rfl (World.ownsRow_nil _ _ _ _) ⟨b, o, none⟩ l.length c (l.map (fun x : UInt8 => Value.int .u8 (x.toNat : Int))) rfl (by simp) HC.out (by intro u hu; obtain ⟨x, _, rfl⟩ := List.mem_map.1 hu; rfl) hp (by unfold maxLen; omega) (by omega) (Nat.le_refl _) w.heap.size rfl ?_; intro g cap w1 hown hgr hat hlt; have HO := hid hown; have HG := hid hgr; clear hown hgr hat hlt)
  go_ret
  have hl := HO.out.lt g rfl
  rw [Nat.zero_add, List.nil_append] at HO
  exact ⟨g, cap, by simp, HO.out, hl.1, hl.2, below_of_row HG.out (Nat.le_refl _) (fun i e => by cases e)⟩
theorem copiedW_step {w w1 w3 : World} {lo : Nat} {v : Value} {vs : List Value} {L : List (List UInt8)} {k g cap g3 cap3 : Nat} {o : Obj} (h : copiedW w lo v vs L k) (hk : k < L.length) (hlo : lo ≤ w.heap.size) (hB : Below w.heap.size w w1)
    (hg1 : w.heap.size ≤ g) (hg2 : g < w1.heap.size) (hb : rowB w1 w.heap.size g cap L[k])
    (hown : w3.ownsRow lo 37 1 (.slice (some ⟨g3, 0, none⟩) (k + 1) cap3) (k + 1) (vs ++ [.slice (some ⟨g, 0, none⟩) (L[k]).length cap]))
    (hgr : (w1.alloc o).grownBy w3 v.ownBlock) (hat : v.ownBlock = some g3 ∨ g3 = w1.heap.size + 1) : copiedW w3 lo (.slice (some ⟨g3, 0, none⟩) (k + 1) cap3) (vs ++ [.slice (some ⟨g, 0, none⟩) (L[k]).length cap]) L (k + 1) := by
  have hl : vs.length = k := by have := h.1.1; omega
  have hv : ∀ i, v.ownBlock = some i → i < w.heap.size := fun i e => (h.1.lt i e).2
  have hs1 := hB.size
  have hs3 := hgr.size
  have hsa : (w1.alloc o).heap.size = w1.heap.size + 1 := by simp
  have hK : Keeps (fun i => v.ownBlock = some i) w1 w3 := (Keeps.alloc (Keeps.refl _ w1) o).grown hgr (fun i e => .inl e)
  have hown3 : ∀ x, (Value.slice (some ⟨g3, 0, none⟩) (k + 1) cap3).ownBlock = some x → x = g3 := fun x e => (Option.some.inj e).symm
  refine ⟨hown, fun i hi hik => ?_, fun i j gx n1 c1 n2 c2 hi hj => ?_⟩
  rotate_left
  · have hilen := (List.getElem?_eq_some_iff.1 hi).1
    have hjlen := (List.getElem?_eq_some_iff.1 hj).1
    simp only [List.length_append, List.length_singleton] at hilen hjlen
    by_cases ei : i < vs.length
    · rw [List.getElem?_append_left ei] at hi
      have h1 := copiedW_lt h (by omega) hi
      by_cases ej : j < vs.length
      · rw [List.getElem?_append_left ej] at hj
        exact h.2.2 i j gx n1 c1 n2 c2 hi hj
      · obtain rfl : j = vs.length := by omega
        simp at hj <;> omega
    · obtain rfl : i = vs.length := by omega
      by_cases ej : j < vs.length
      · rw [List.getElem?_append_left ej] at hj
        have h1 := copiedW_lt h (by omega) hj
        simp at hi <;> omega
      · omega
  by_cases e : i = k
  · subst e
    refine ⟨g, cap, by simp [hl], by omega, by omega, fun e => ?_, rowB.keep (World.ownsRow.mono hb hlo) hK (fun e => by have := hv g e; omega)⟩
    have e2 := hown3 _ e
    rcases hat with h1 | h1
    · have := hv _ h1; omega
    · omega
  · obtain ⟨gi, ci, h1, h2, h3, h4, h5⟩ := h.2.1 i hi (by omega)
    refine ⟨gi, ci, by rw [List.getElem?_append_left (by omega)]; exact h1, h2, by omega, fun e => ?_, (h5.below hB).keep hK (fun e => h4 e)⟩
    have e2 := hown3 _ e
    rcases hat with h6 | h6
    · subst e2; exact h4 h6
    · omega
theorem copiedW_end {w : World} {lo : Nat} {v : Value} {vs : List Value} {L : List (List UInt8)} (h : copiedW w lo v vs L L.length) : ∃ a c, v = .slice a L.length c ∧ rowsFrom w lo a L := by
  obtain ⟨sa, c, rfl, hr⟩ := row_slice h.1
  refine ⟨sa, c, rfl, fun j hj => ?_⟩
  obtain ⟨g, rfl, _, hg, hc⟩ := hr j hj
  refine ⟨g, 0, rfl, hg, fun i hi => ?_⟩
  obtain ⟨gi, ci, h1, h2, _, _, h5⟩ := h.2.1 i hi hi
  exact ⟨some ⟨gi, 0, none⟩, ci, by rw [Nat.zero_add, hc i hi]; exact h1, h5.bytes, fun ad e => by rw [← Option.some.inj e]; exact h2⟩
set_option maxRecDepth 100000 in
set_option maxHeartbeats 2000000 in
theorem copyAll_w (L : List (List UInt8)) (a : Option Addr) (c : Nat) (w : World) (h : rowsAt w a L) (hn : L.length ≤ 4096) (hr : ∀ l ∈ L, l.length = 512) :
    Calls Tryz.prog 57 #[.slice a L.length c] w fun e w' => ∃ v vs, e = .returned v ∧ copiedW w' w.heap.size v vs L L.length ∧ Below w.heap.size w w' := by
  obtain ⟨i0, hi, hz0, hz1, hz2⟩ := info_parts infoRow
  have HI := hid hi
  have H := hid h
  clear hi h
  go_enter Tryz.func57, Tryz.ntmps57
  go_wp2
  go_loopw [3, 4] (fun v i wr => ∃ (k : Nat) (vs : List Value), k ≤ L.length ∧ i = .int .i64 k ∧ Hid (copiedW wr w.heap.size v vs L k) ∧ Hid (Below w.heap.size w wr)) (fun _ i _ => L.length - (intOf i).toNat)
  case atStart => exact ⟨0, [], by omega, rfl, ⟨World.ownsRow_nil _ _ _ _, fun i hi h => by omega, fun i j g n1 c1 n2 c2 hi => by simp at hi⟩, Below.refl _ _⟩
  case round =>
    obtain ⟨k, vs, hk, rfl, hM, hB⟩ := hrel
    by_cases hlt : k < L.length
    · have hk0 : (0 : Int) ≤ (k : Int) := by omega
      have hk1 : (k : Int) < (L.length : Int) := by omega
      obtain ⟨b, o, rfl, hc⟩ := H.out k hlt
      obtain ⟨a', c', hcell, hby⟩ := hc k hlt
      have hl5 := hr _ (List.getElem_mem hlt)
      have ck : wr.cell? ⟨b, o + k, none⟩ = some (.slice a' (L[k]).length c') := (hB.out.cell (p := ⟨b, o + k, none⟩) (World.block_lt_of_cell? w _ hcell)).trans hcell
      have hcp := copy_w L[k] a' c' wr (hby.below hB.out) (by omega) (by omega)
      have HSt := hid (fun w1 w3 g cap g3 cap3 o x1 x2 x3 x4 x5 x6 x7 => copiedW_step (w1 := w1) (w3 := w3) (g := g) (cap := cap) (g3 := g3) (cap3 := cap3) (o := o) hM.out hlt hB.out.size x1 x2 x3 x4 x5 x6 x7)
      rw [hl5] at ck hcp HSt
      have HCp := hid hcp
      have HMr := hid hM.out.1
      have HMlt := hid (fun i e => (hM.out.1.lt i e).1)
      generalize L[k] = lk at *
      clear hcp hM hc hcell hby hl5
      go_wp2_with fail
      refine HCp.out.mono ?_
      clear HCp
      rintro e w1 ⟨g, cap, rfl, hb1, hg1, hg2, hB1⟩
      have HB1 := hid hB1
      have HR1 := hid ((Keeps.of_below (F := fun _ => False) hB1).row HMr.out (fun _ _ e => e))
      have Hb1 := hid hb1
      clear hB1 hb1
      go_wp2_with (refine wpList_append_lies _ rfl (.tmp 11) (.tmp 17) 51 rfl w.heap.size 37 i0 (.slice none 0 0) 1 24 Tryz.underlying51 HI.out hz0 hz1 hz2 rfl (by omega) u3 k vs rfl (HR1.out.alloc _) ⟨w1.heap.size, 0, none⟩ 1 1 [.slice (some ⟨g, 0, none⟩) 512 cap] rfl rfl (World.news_of_block (cs := #[.slice (some ⟨g, 0, none⟩) 512 cap]) (block_new w1 _)) (by intro u hu; rw [List.mem_singleton.1 hu]; rfl) (by omega) (by unfold maxLen; omega) (by omega) (by have := hB.out.size; have := HB1.out.size; simp; omega) (w1.heap.size + 1) (by simp) ?_; intro g3 cap3 w3 hown hgr hat hlt2; have HO := hid hown; have HG := hid hgr; have HAt := hid hat; clear hown hgr hat hlt2)
      have hbw := hB.out.trans (HB1.out.mono hB.out.size)
      have hba := hbw.alloc hbw.size (.cells #[.slice (some ⟨g, 0, none⟩) 512 cap] 37)
      exact ⟨⟨k + 1, _, by omega, by go_num, HSt.out w1 w3 g cap g3 cap3 _ HB1.out hg1 hg2 Hb1.out HO.out HG.out HAt.out, hba.trans (below_of_row HG.out hba.size HMlt.out)⟩, by simp [intOf]; omega⟩
    · obtain rfl : k = L.length := by omega
      have hge : ¬ ((L.length : Int) < (L.length : Int)) := by omega
      go_wp2
      go_ret
      exact ⟨_, rfl, ⟨vs, hM.out⟩, hB.out⟩
/-- One row is another now. -/
theorem copiedW_set {w w1 : World} {lo go N c i g cap : Nat} {vs : List Value} {L : List (List UInt8)} {b : List UInt8} (h : copiedW w lo (.slice (some ⟨go, 0, none⟩) N c) vs L N) (hlo : lo ≤ w.heap.size) (hB : Below w.heap.size w w1)
    (hg1 : w.heap.size ≤ g) (hg2 : g < w1.heap.size) (hb : rowB w1 w.heap.size g cap b) (hi : i < N) (hL : L.length = N) :
    copiedW (w1.setCell ⟨go, i, none⟩ (.slice (some ⟨g, 0, none⟩) b.length cap)) lo (.slice (some ⟨go, 0, none⟩) N c) (vs.set i (.slice (some ⟨g, 0, none⟩) b.length cap)) (L.set i b) N := by
  have hrow := (Keeps.of_below (F := fun _ => False) hB).row h.1 (fun _ _ e => e)
  have hgo := (h.1.lt go rfl).2
  have hl : vs.length = N := by have := h.1.1; omega
  have hK : Keeps (fun i => i = go) w1 (w1.setCell ⟨go, i, none⟩ (.slice (some ⟨g, 0, none⟩) b.length cap)) := Keeps.of_grown (r := some go) (grown_setCell (grown_refl _ _) _ _) (fun i e => (Option.some.inj e).symm)
  have hs1 := hB.size
  have hs2 := hK.size
  refine ⟨(hrow.stored i _).1, fun j hj hjN => ?_, fun a j gx n1 c1 n2 c2 ha hj => ?_⟩
  rotate_left
  · by_cases ea : a = i
    · by_cases ej : j = i
      · omega
      · subst ea
        rw [List.getElem?_set_ne (by omega)] at hj
        have h1 := copiedW_lt h (by omega) hj
        rw [List.getElem?_set_self (by omega)] at ha
        simp at ha <;> omega
    · rw [List.getElem?_set_ne (by omega)] at ha
      have h1 := copiedW_lt h (by omega) ha
      by_cases ej : j = i
      · subst ej
        rw [List.getElem?_set_self (by omega)] at hj
        simp at hj <;> omega
      · rw [List.getElem?_set_ne (by omega)] at hj
        exact h.2.2 a j gx n1 c1 n2 c2 ha hj
  by_cases e : j = i
  · subst e
    refine ⟨g, cap, ?_, by omega, by omega, fun e => ?_, ?_⟩
    · rw [List.getElem?_set_self (by omega), List.getElem_set_self]
    · have e2 : go = g := Option.some.inj e
      omega
    · rw [List.getElem_set_self]
      exact rowB.keep (World.ownsRow.mono hb hlo) hK (fun e => by omega)
  · have hj' : j < L.length := by simpa using hj
    obtain ⟨gi, ci, h1, h2, h3, h4, h5⟩ := h.2.1 j hj' hjN
    have e3 : (L.set i b)[j] = L[j] := List.getElem_set_ne (by omega) _
    refine ⟨gi, ci, by rw [List.getElem?_set_ne (by omega), e3]; exact h1, h2, by omega, h4, ?_⟩
    rw [e3]
    exact (h5.below hB).keep hK (fun e => h4 (by rw [e]; rfl))
set_option maxRecDepth 100000 in
set_option maxHeartbeats 2000000 in
theorem rat_w (r : Nat) (fv lv : Value) (vs : List Value) (Rd : Nat → Prop) (R : RefS) (n : Nat) (w : World) (h : RefIn w r fv lv vs Rd R) (hR : okR R) (hn : n ≤ R.l.length) (hm : R.l.length ≤ 1000000) :
    Calls Tryz.prog 54 #[.pointer (some ⟨r, 0, none⟩), .int .i64 n] w fun e w' => Below w.heap.size w w' ∧ ∃ a' c' vk, e = .returned (.slice a' R.first.length c') ∧ copiedW w' w.heap.size (.slice a' R.first.length c') vk (atL R n) R.first.length := by
  obtain ⟨a, c, hfv, hrows, -⟩ := h.first
  have c0 : w.cell? ⟨r, 0, none⟩ = some (.slice a R.first.length c) := by rw [cell_of_block h.heap, ← hfv]; rfl
  have HC := hid (copyAll_w R.first a c w hrows hR.1 hR.2.1)
  have H := hid h
  have HR := hid hR
  clear h hR hrows hfv
  go_enter Tryz.func54, Tryz.ntmps54
  go_wp2_with fail
  refine HC.out.mono ?_
  clear HC
  rintro e w1 ⟨v, vs1, rfl, hM, hB⟩
  have HM := hid hM
  have HB := hid hB
  clear hM hB
  go_wp2
  obtain ⟨a', c', rfl⟩ : ∃ a' c', v = .slice a' R.first.length c' := by
    obtain ⟨sa, cp, e, _⟩ := row_slice HM.out.1
    exact ⟨sa, cp, e⟩
  go_loopw [6] (fun i wr => ∃ (k : Nat) (vk : List Value), k ≤ n ∧ i = .int .i64 k ∧ Hid (copiedW wr w.heap.size (.slice a' R.first.length c') vk (atL R k) R.first.length) ∧ Hid (Below w.heap.size w wr)) (fun i _ => n - (intOf i).toNat)
  case atStart => exact ⟨0, vs1, by omega, rfl, HM.out, HB.out⟩
  case round =>
    obtain ⟨k, vk, hk, rfl, hM, hBr⟩ := hrel
    by_cases hlt : k < n
    · have hk0 : (0 : Int) ≤ (k : Int) := by omega
      have hk1 : (k : Int) < (n : Int) := by omega
      have hkl : k < R.l.length := by omega
      have hk2 : (k : Int) < (R.l.length : Int) := by omega
      have hH := H.out.below hBr.out
      obtain ⟨sa, cap, hlv, hs⟩ := H.out.slice
      have hkv : k < vs.length := by rw [← hH.len]; exact hkl
      obtain ⟨g, rfl, q0w, q1w, q2w⟩ := hs k hkl hkv
      have hgw := World.block_lt_of_cell? w _ q0w
      have hrw := lt_of_heap H.out.heap
      have q0 := (hBr.out.cell (p := ⟨g, k * 3, none⟩) hgw).trans q0w
      have q1 := (hBr.out.cell (p := ⟨g, k * 3 + 1, none⟩) hgw).trans q1w
      have q2 := (hBr.out.cell (p := ⟨g, k * 3 + 2, none⟩) hgw).trans q2w
      clear q0w q1w q2w
      obtain ⟨ab, cb, ev, hby, -⟩ := hH.bytes k hkl hkv
      have t1 : wr.cell? ⟨r, 1, none⟩ = some (.slice (some ⟨g, 0, none⟩) R.l.length cap) := by rw [cell_of_block hH.heap, ← hlv]; rfl
      have HA : Hid (atL R (k + 1) = if R.l[k].flush then atL R k else (atL R k).set R.l[k].n.toNat R.l[k].b) := by simp [Hid, atL, hkl]
      have HLA := hid (length_atL R k)
      cases hf : R.l[k].flush
      · obtain ⟨n0, n1, n5⟩ := HR.out.2.2 R.l[k] (List.getElem_mem hkl) hf
        rw [hf] at q0
        simp only [hf, Bool.false_eq_true, if_false] at HA
        rw [ev] at q2
        obtain ⟨sa2, cp2, e2, hr2⟩ := row_slice hM.out.1
        simp only [Value.slice.injEq, true_and] at e2
        obtain ⟨rfl, rfl⟩ := e2
        obtain ⟨go, rfl, hgo, hglo, hcv⟩ := hr2 R.l[k].n.toNat (by omega)
        obtain ⟨gi, ci, y1, -⟩ := hM.out.2.1 R.l[k].n.toNat (by rw [HLA.out]; omega) (by omega)
        obtain ⟨vo, cg⟩ : ∃ vo, wr.cell? ⟨go, R.l[k].n.toNat, none⟩ = some vo := ⟨_, (hcv R.l[k].n.toNat (by omega)).trans y1⟩
        clear y1
        have fg : wr.frozen? ⟨go, R.l[k].n.toNat, none⟩ = false := hM.out.1.frozenAt _
        have HCp := hid (fun W (hW : Below wr.heap.size wr W) => copy_w R.l[k].b ab cb W (hby.below hW) (by omega) (by omega))
        rw [n5] at q2 HCp
        generalize R.l[k].n = nn at *
        generalize R.l[k].b = bb at *
        have HSet := hid (fun w1 g cap (x1 : Below wr.heap.size wr w1) (x2 : wr.heap.size ≤ g) (x3 : g < w1.heap.size) (x4 : rowB w1 wr.heap.size g cap bb) => copiedW_set (i := nn.toNat) (cap := cap) hM.out hBr.out.size x1 x2 x3 x4 (by omega) HLA.out)
        rw [n5] at HSet
        clear hs hby ev hlv hH hcv hr2 hM
        go_wp2
        refine wp_region_noPanic ?_
        refine wp_region_held_drew (S := fun W => W.cell? ⟨r, 1, none⟩ = some (.slice (some ⟨g, 0, none⟩) R.l.length cap) ∧ W.cell? ⟨g, k * 3 + 1, none⟩ = some (.int .i64 nn) ∧ W.cell? ⟨g, k * 3 + 2, none⟩ = some (.slice ab 512 cb)) (by kernel_rfl) ⟨t1, q1, q2⟩ (fun hHeld => ?_)
        refine wpAnyH_take (i := 0) (v := ?_) rfl (by kernel_rfl) (by kernel_rfl) (by kernel_rfl) (fun _ _ _ h => h) (Or.inl ⟨by rfl, ?_⟩) (by assumption) ?_
        rotate_left
        · (intro W hSw; (try dsimp only at hSw); obtain ⟨s1, s2, s3⟩ := hSw; go_simp; try with_reducible rfl)
        try simp only [List.getElem_toArray, List.getElem_cons_zero, Act.put, List.setIfInBounds_toArray, List.set_cons_zero, List.set_cons_succ]
        refine wpAnyH_take (i := 1) (v := ?_) rfl (by kernel_rfl) (by kernel_rfl) (by kernel_rfl) (fun _ _ _ h => h) (Or.inl ⟨by rfl, ?_⟩) (by assumption) ?_
        rotate_left
        · (intro W hSw; (try dsimp only at hSw); obtain ⟨s1, s2, s3⟩ := hSw; go_simp; try with_reducible rfl)
        try simp only [List.getElem_toArray, List.getElem_cons_succ, List.getElem_cons_zero, Act.put, List.setIfInBounds_toArray, List.set_cons_zero, List.set_cons_succ]
        refine wpAnyH_take (i := 2) (v := ?_) rfl (by kernel_rfl) (by kernel_rfl) (by kernel_rfl) (fun _ _ _ h => h) (Or.inl ⟨by rfl, ?_⟩) (by assumption) ?_
        rotate_left
        · (intro W hSw; (try dsimp only at hSw); obtain ⟨s1, s2, s3⟩ := hSw; go_simp; try with_reducible rfl)
        try simp only [List.getElem_toArray, List.getElem_cons_succ, List.getElem_cons_zero, Act.put, List.setIfInBounds_toArray, List.set_cons_zero, List.set_cons_succ]
        refine wpAnyH_take (i := 3) (v := ?_) rfl (by kernel_rfl) (by kernel_rfl) (by kernel_rfl) (fun _ _ _ h => h) (Or.inl ⟨by rfl, ?_⟩) (by assumption) ?_
        rotate_left
        · (intro W hSw; (try dsimp only at hSw); obtain ⟨s1, s2, s3⟩ := hSw; go_simp; try with_reducible rfl)
        try simp only [List.getElem_toArray, List.getElem_cons_succ, List.getElem_cons_zero, Act.put, List.setIfInBounds_toArray, List.set_cons_zero, List.set_cons_succ]
        refine wpAnyH_take (i := 4) (v := ?_) rfl (by kernel_rfl) (by kernel_rfl) (by kernel_rfl) (fun _ _ _ h => h) (Or.inl ⟨by rfl, ?_⟩) (by assumption) ?_
        rotate_left
        · (intro W hSw; (try dsimp only at hSw); obtain ⟨s1, s2, s3⟩ := hSw; go_simp; try with_reducible rfl)
        try simp only [List.getElem_toArray, List.getElem_cons_succ, List.getElem_cons_zero, Act.put, List.setIfInBounds_toArray, List.set_cons_zero, List.set_cons_succ]
        refine wpAnyH_take (i := 5) (v := ?_) rfl (by kernel_rfl) (by kernel_rfl) (by kernel_rfl) (fun _ _ _ h => h) (Or.inl ⟨by rfl, ?_⟩) (by assumption) ?_
        rotate_left
        · (intro W hSw; (try dsimp only at hSw); obtain ⟨s1, s2, s3⟩ := hSw; go_simp; try with_reducible rfl)
        try simp only [List.getElem_toArray, List.getElem_cons_succ, List.getElem_cons_zero, Act.put, List.setIfInBounds_toArray, List.set_cons_zero, List.set_cons_succ]
        refine wpAnyH_take (i := 6) (v := ?_) rfl (by kernel_rfl) (by kernel_rfl) (by kernel_rfl) (fun _ _ _ h => h) (Or.inl ⟨by rfl, ?_⟩) (by assumption) ?_
        rotate_left
        · (intro W hSw; (try dsimp only at hSw); obtain ⟨s1, s2, s3⟩ := hSw; go_simp; try with_reducible rfl)
        try simp only [List.getElem_toArray, List.getElem_cons_succ, List.getElem_cons_zero, Act.put, List.setIfInBounds_toArray, List.set_cons_zero, List.set_cons_succ]
        refine wpAnyH_take (i := 7) (v := ?_) rfl (by kernel_rfl) (by kernel_rfl) (by kernel_rfl) (fun _ _ _ h => h) (Or.inl ⟨by rfl, ?_⟩) (by assumption) ?_
        rotate_left
        · (intro W hSw; (try dsimp only at hSw); obtain ⟨s1, s2, s3⟩ := hSw; go_simp; try with_reducible rfl)
        try simp only [List.getElem_toArray, List.getElem_cons_succ, List.getElem_cons_zero, Act.put, List.setIfInBounds_toArray, List.set_cons_zero, List.set_cons_succ]
        refine wpAnyH_take (i := 8) (v := ?_) rfl (by kernel_rfl) (by kernel_rfl) (by kernel_rfl) (fun _ _ _ h => h) (Or.inl ⟨by rfl, ?_⟩) (by assumption) ?_
        rotate_left
        · (intro W hSw; (try dsimp only at hSw); obtain ⟨s1, s2, s3⟩ := hSw; go_simp; try with_reducible rfl)
        try simp only [List.getElem_toArray, List.getElem_cons_succ, List.getElem_cons_zero, Act.put, List.setIfInBounds_toArray, List.set_cons_zero, List.set_cons_succ]
        refine wpAnyH_take (i := 9) (v := ?_) rfl (by kernel_rfl) (by kernel_rfl) (by kernel_rfl) (fun _ _ _ h => h) (Or.inl ⟨by rfl, ?_⟩) (by assumption) ?_
        rotate_left
        · (intro W hSw; (try dsimp only at hSw); obtain ⟨s1, s2, s3⟩ := hSw; go_simp; try with_reducible rfl)
        try simp only [List.getElem_toArray, List.getElem_cons_succ, List.getElem_cons_zero, Act.put, List.setIfInBounds_toArray, List.set_cons_zero, List.set_cons_succ]
        refine wpAnyH_take (i := 10) (v := ?_) rfl (by kernel_rfl) (by kernel_rfl) (by kernel_rfl) (fun _ _ _ h => h) (Or.inl ⟨by rfl, ?_⟩) (by assumption) ?_
        rotate_left
        · (intro W hSw; (try dsimp only at hSw); obtain ⟨s1, s2, s3⟩ := hSw; go_simp; try with_reducible rfl)
        try simp only [List.getElem_toArray, List.getElem_cons_succ, List.getElem_cons_zero, Act.put, List.setIfInBounds_toArray, List.set_cons_zero, List.set_cons_succ]
        refine wpAnyH_take (i := 11) (v := ?_) rfl (by kernel_rfl) (by kernel_rfl) (by kernel_rfl) (fun _ _ _ h => h) (Or.inl ⟨by rfl, ?_⟩) (by assumption) ?_
        rotate_left
        · (intro W hSw; (try dsimp only at hSw); obtain ⟨s1, s2, s3⟩ := hSw; go_simp; try with_reducible rfl)
        try simp only [List.getElem_toArray, List.getElem_cons_succ, List.getElem_cons_zero, Act.put, List.setIfInBounds_toArray, List.set_cons_zero, List.set_cons_succ]
        refine wpAnyH_take (i := 12) (v := ?_) rfl (by kernel_rfl) (by kernel_rfl) (by kernel_rfl) (fun _ _ _ h => h) (Or.inl ⟨by rfl, ?_⟩) (by assumption) ?_
        rotate_left
        · (intro W hSw; (try dsimp only at hSw); obtain ⟨s1, s2, s3⟩ := hSw; go_simp; try with_reducible rfl)
        try simp only [List.getElem_toArray, List.getElem_cons_succ, List.getElem_cons_zero, Act.put, List.setIfInBounds_toArray, List.set_cons_zero, List.set_cons_succ]
        refine wpAnyH_take (i := 13) (v := ?_) rfl (by kernel_rfl) (by kernel_rfl) (by kernel_rfl) (fun _ _ _ h => h) (Or.inl ⟨by rfl, ?_⟩) (by assumption) ?_
        rotate_left
        · (intro W hSw; (try dsimp only at hSw); obtain ⟨s1, s2, s3⟩ := hSw; go_simp; try with_reducible rfl)
        try simp only [List.getElem_toArray, List.getElem_cons_succ, List.getElem_cons_zero, Act.put, List.setIfInBounds_toArray, List.set_cons_zero, List.set_cons_succ]
        refine wpAnyH_take (i := 14) (v := ?_) rfl (by kernel_rfl) (by kernel_rfl) (by kernel_rfl) (fun _ _ _ h => h) (Or.inl ⟨by rfl, ?_⟩) (by assumption) ?_
        rotate_left
        · (intro W hSw; (try dsimp only at hSw); obtain ⟨s1, s2, s3⟩ := hSw; go_simp; try with_reducible rfl)
        try simp only [List.getElem_toArray, List.getElem_cons_succ, List.getElem_cons_zero, Act.put, List.setIfInBounds_toArray, List.set_cons_zero, List.set_cons_succ]
        refine wpAnyH_take (i := 15) (v := ?_) rfl (by kernel_rfl) (by kernel_rfl) (by kernel_rfl) (fun _ _ _ h => h) (Or.inl ⟨by rfl, ?_⟩) (by assumption) ?_
        rotate_left
        · (intro W hSw; (try dsimp only at hSw); obtain ⟨s1, s2, s3⟩ := hSw; go_simp; try with_reducible rfl)
        try simp only [List.getElem_toArray, List.getElem_cons_succ, List.getElem_cons_zero, Act.put, List.setIfInBounds_toArray, List.set_cons_zero, List.set_cons_succ]
        refine wpAnyH_take (i := 16) (v := ?_) rfl (by kernel_rfl) (by kernel_rfl) (by kernel_rfl) (fun _ _ _ h => h) (Or.inl ⟨by rfl, ?_⟩) (by assumption) ?_
        rotate_left
        · (intro W hSw; (try dsimp only at hSw); obtain ⟨s1, s2, s3⟩ := hSw; go_simp; try with_reducible rfl)
        try simp only [List.getElem_toArray, List.getElem_cons_succ, List.getElem_cons_zero, Act.put, List.setIfInBounds_toArray, List.set_cons_zero, List.set_cons_succ]
        refine wpAnyH_ready (rs := [17]) (by kernel_rfl) (by simp) (AllReadyH.cons rfl (fun K hK => ?_) AllReadyH.nil)
        rw [if_pos (by rfl)]
        go_simp
        refine (HCp.out wr.drew (Below.refl _ _).drew).mono ?_
        clear HCp
        rintro e w15 ⟨g5, cap5, rfl, hb5, hg5, hg6, hb15⟩
        have hb15' := below_undrew hb15
        have v0 := (hb15'.cell (p := ⟨r, 1, none⟩) (World.block_lt_of_cell? wr _ t1)).trans t1
        have v1 := (hb15'.cell (p := ⟨g, k * 3 + 1, none⟩) (World.block_lt_of_cell? wr _ q1)).trans q1
        have v2 := (hb15'.cell (p := ⟨g, k * 3 + 2, none⟩) (World.block_lt_of_cell? wr _ q2)).trans q2
        have z0 : w15.cell? ⟨go, nn.toNat, none⟩ = some vo := (hb15'.cell (p := ⟨go, nn.toNat, none⟩) hgo).trans cg
        have z1 : w15.frozen? ⟨go, nn.toNat, none⟩ = false := ((bcell hb15').2 go nn.toNat hgo).trans fg
        have HSt := hid (HSet.out w15 g5 cap5 hb15' hg5 hg6 hb5)
        have HB15 := hid (hBr.out.trans (hb15'.mono hBr.out.size))
        have hnr : go ≠ r := by omega
        have hng : go ≠ g := by omega
        go_wp2_with fail
        refine hK.out _ _ ⟨v0, v1, v2⟩ (fun hHeld => ?_)
        clear hK K hb15 hb15' HSet hb5 t1 q1 q2
        try simp only [List.getElem_toArray, List.getElem_cons_succ, List.getElem_cons_zero, Act.put, List.setIfInBounds_toArray, List.set_cons_zero, List.set_cons_succ]
        refine wpAnyH_take (i := 18) (v := ?_) rfl (by kernel_rfl) (by kernel_rfl) (by kernel_rfl) (fun _ _ _ h => h) (Or.inl ⟨by rfl, ?_⟩) (by assumption) ?_
        rotate_left
        · (intro W hSw; (try dsimp only at hSw); obtain ⟨s1, s2, s3⟩ := hSw; go_simp; try with_reducible rfl)
        try simp only [List.getElem_toArray, List.getElem_cons_succ, List.getElem_cons_zero, Act.put, List.setIfInBounds_toArray, List.set_cons_zero, List.set_cons_succ]
        refine wpAnyH_ready (rs := [19]) (by kernel_rfl) (by simp) (AllReadyH.cons rfl (fun K hK => ?_) AllReadyH.nil)
        rw [if_pos (by rfl)]
        unfold Oper.wp
        go_simp
        refine hK.out _ _ ⟨by rw [World.cell?_setCell_far _ _ _ _ hnr]; exact v0, by rw [World.cell?_setCell_far _ _ _ _ hng]; exact v1, by rw [World.cell?_setCell_far _ _ _ _ hng]; exact v2⟩ (fun hHeld => ?_)
        clear hK K
        try simp only [List.getElem_toArray, List.getElem_cons_succ, List.getElem_cons_zero, Act.put, List.setIfInBounds_toArray, List.set_cons_zero, List.set_cons_succ]
        refine wpAnyH_done (by kernel_rfl) ?_ _
        refine NoPanic.normal ?_
        clear v0 v1 v2 z0 z1
        go_wp2
        exact ⟨⟨k + 1, _, by omega, by go_num, by rw [HA.out]; exact HSt.out, HB15.out.setCell hglo _⟩, by simp [intOf]; omega⟩
      · rw [hf] at q0
        simp only [hf, if_true] at HA
        clear hs hby ev hlv hH q2
        go_wp2
        exact ⟨⟨k + 1, vk, by omega, by go_num, by rw [HA.out]; exact hM.out, hBr.out⟩, by simp [intOf]; omega⟩
    · obtain rfl : k = n := by omega
      have hge : ¬ ((k : Int) < (k : Int)) := by omega
      go_wp2
      go_ret
      first | exact ⟨hBr.out, a', c', vk, rfl, hM.out⟩ | exact ⟨hBr.out, a', c', rfl, vk, hM.out⟩
set_option maxRecDepth 100000 in
set_option maxHeartbeats 2000000 in
theorem rimage_w (r : Nat) (fv lv : Value) (vs : List Value) (Rd : Nat → Prop) (R : RefS) (w : World) (h : RefIn w r fv lv vs Rd R) (hR : okR R) (hm : R.l.length ≤ 1000000) :
    Calls Tryz.prog 23 #[.pointer (some ⟨r, 0, none⟩)] w fun e w' => Below w.heap.size w w' ∧ ∃ a' c' vk, e = .returned (.slice a' R.first.length c') ∧ copiedW w' w.heap.size (.slice a' R.first.length c') vk (atL R R.l.length) R.first.length := by
  obtain ⟨sa, cap, hlv, _⟩ := h.slice
  have c1 : w.cell? ⟨r, 1, none⟩ = some (.slice sa R.l.length cap) := by rw [cell_of_block h.heap, ← hlv]; rfl
  have HC := hid (rat_w r fv lv vs Rd R R.l.length w h hR (Nat.le_refl _) hm)
  clear h hlv
  go_enter Tryz.func23, Tryz.ntmps23
  go_wp2_with fail
  refine HC.out.mono ?_
  clear HC
  rintro e w1 ⟨hB, a', c', vk, rfl, hrows⟩
  have HR := hid hrows
  have HB := hid hB
  clear hrows hB
  go_wp2
  go_ret
  first | exact ⟨HB.out, a', c', vk, rfl, HR.out⟩ | exact ⟨HB.out, a', c', rfl, vk, HR.out⟩
theorem copiedW_below {w w' : World} {lo : Nat} {v : Value} {vs : List Value} {L : List (List UInt8)} {k : Nat} (h : copiedW w lo v vs L k) (hb : Below w.heap.size w w') : copiedW w' lo v vs L k :=
  ⟨(Keeps.of_below (F := fun _ => False) hb).row h.1 (fun _ _ e => e), fun i hi hik => by
    obtain ⟨g', c', t1, t2, t3, t4, t5⟩ := h.2.1 i hi hik
    exact ⟨g', c', t1, t2, Nat.lt_of_lt_of_le t3 hb.size, t4, t5.below hb⟩, h.2.2⟩
/-- One byte is another now. -/
theorem copiedW_poke {w : World} {lo N s x : Nat} {a : Option Addr} {c g cap : Nat} {vs : List Value} {L : List (List UInt8)} (h : copiedW w lo (.slice a N c) vs L N) (hs : s < L.length) (hv : vs[s]? = some (.slice (some ⟨g, 0, none⟩) (L[s]).length cap)) (hb : rowB w lo g cap L[s]) (hne : (Value.slice a N c).ownBlock ≠ some g) (b : UInt8) :
    copiedW (w.setCell ⟨g, x, none⟩ (.int .u8 (b.toNat : Int))) lo (.slice a N c) vs (L.set s ((L[s]).set x b)) N := by
  have hK : Keeps (fun i => i = g) w (w.setCell ⟨g, x, none⟩ (.int .u8 (b.toNat : Int))) := Keeps.of_grown (r := some g) (grown_setCell (grown_refl _ _) _ _) (fun i e => (Option.some.inj e).symm)
  refine ⟨hK.row h.1 (fun i e e2 => hne (by rw [e, e2])), fun j hj hjN => ?_, h.2.2⟩
  have hj' : j < L.length := by simpa using hj
  by_cases e : j = s
  · subst e
    obtain ⟨gi, ci, h1, h2, h3, h4, h5⟩ := h.2.1 j hj' hjN
    rw [hv] at h1
    simp only [Option.some.injEq, Value.slice.injEq, Addr.mk.injEq, true_and, and_true] at h1
    obtain ⟨rfl, rfl⟩ := h1
    have e1 : (L.set j ((L[j]).set x b))[j] = (L[j]).set x b := List.getElem_set_self _
    refine ⟨g, cap, ?_, h2, Nat.lt_of_lt_of_le h3 hK.size, h4, ?_⟩
    · rw [e1, List.length_set]; exact hv
    · rw [e1]
      have := (World.ownsRow.stored hb x (.int .u8 (b.toNat : Int))).1
      unfold rowB
      rw [List.length_set, List.map_set]
      exact this
  · obtain ⟨gi, ci, h1, h2, h3, h4, h5⟩ := h.2.1 j hj' hjN
    have e3 : (L.set s ((L[s]).set x b))[j] = L[j] := List.getElem_set_ne (by omega) _
    refine ⟨gi, ci, by rw [e3]; exact h1, h2, Nat.lt_of_lt_of_le h3 hK.size, h4, ?_⟩
    rw [e3]
    exact h5.keep hK (fun eg => e (h.2.2 j s gi _ _ _ _ h1 (by rw [hv, eg])))
end Go.Proofs.YtmnepbdbbdcllaaGreat
