/- give, GivePage, GiveInode. -/
import Derived.Test.YtkkmbgjlmdddoaaGreatAlGive
namespace Go.Proofs.YtkkmbgjlmdddoaaGreat
open Go.RowKit
section
variable {w : World} {m c ino : Nat} {F : Nat → Prop} {size N : Nat} {Pg Cm : Nat → List UInt8} {D : Int → Bool} {o u : Nat}
theorem rowU.wpg {w : World} {g : Nat} {l : List UInt8} (h : rowU w g l) (hl : l.length = 512) (b cap : Nat) (hb : b < N) (hF : ¬ F g) (hn : ¬ F w.heap.size) :
    WPgs (w.alloc (.cells #[.int .i64 b, .slice (some ⟨g, 0, none⟩) 512 cap] 85)) w.heap.size [⟨b, g, cap, l⟩] F N := by
  have hbl := block_new w (.cells #[.int .i64 b, .slice (some ⟨g, 0, none⟩) 512 cap] 85)
  have hb0 : Below w.heap.size w (w.alloc (.cells #[.int .i64 b, .slice (some ⟨g, 0, none⟩) 512 cap] 85)) := (Below.refl _ w).alloc (Nat.le_refl _) _
  refine ⟨fun i hi => ?_, fun _ => hn, fun p hp => ?_⟩
  · obtain rfl : i = 0 := by simp at hi; omega
    exact ⟨cell_of_block hbl 0, cell_of_block hbl 1⟩
  · obtain rfl : p = ⟨b, g, cap, l⟩ := by simpa using hp
    exact ⟨hb, hl, (h.below hb0).1, hF⟩
/-- What give tells. -/
def GiveTo (w : World) (c : Nat) (F : Nat → Prop) (size N : Nat) (Pg Cm : Nat → List UInt8) (D : Int → Bool) (o u b a z : Nat) (n : Int) (e : Ending) (w' : World) : Prop :=
  Keeps F w w' ∧ ((¬ ((a : Int) ≤ n ∧ n < (z : Int)) ∧ e = .returned (.int .i64 2) ∧ Pc w' c F size N Pg Cm D o (u + 1)) ∨
    (((a : Int) ≤ n ∧ n < (z : Int)) ∧ bitL (Pg b) n.toNat = false ∧ e = .returned (.int .i64 4) ∧ Pc w' c F size N Pg Cm D o (u + 1)) ∨
    (((a : Int) ≤ n ∧ n < (z : Int)) ∧ bitL (Pg b) n.toNat = true ∧ min size 100 < (dkD N D).length + (if D b then 0 else 1) ∧ e = .returned (.int .i64 7) ∧ Pc w' c F size N Pg Cm D o (u + 1)) ∨
    (((a : Int) ≤ n ∧ n < (z : Int)) ∧ bitL (Pg b) n.toNat = true ∧ (dkD N D).length + (if D b then 0 else 1) ≤ min size 100 ∧ e = .returned (.int .i64 0) ∧ Pc w' c F size N (updP Pg b (flipL (Pg b) n.toNat)) Cm (updT D b) o (u + 1)))
theorem newC_one (D : Int → Bool) (p : WPg) : newC D [p] = (if D (p.n : Int) then 0 else 1) := by
  rw [newC_cons]; rfl
set_option maxRecDepth 100000 in
set_option maxHeartbeats 2000000 in
theorem agive_any (h : mapB w m c ino) (hmF : ¬ F m) (b a z x y : Nat) (n : Int) (hb : b < N) (hz : z ≤ 4096) (hu : u < 1000000) (hp : Pc w c F size N Pg Cm D o u) :
    Calls Tryz.prog 68 #[.pointer (some ⟨m, 0, none⟩), numV b a z x y, .int .i64 n] w (GiveTo w c F size N Pg Cm D o u b a z n) := by
  obtain ⟨wa, hwa⟩ : ∃ wa, wa = w.alloc (.cells #[.int .i64 b, .int .i64 a, .int .i64 z, .complex .f64 x y] 102) := ⟨_, rfl⟩
  have hb0 : Below w.heap.size w wa := by rw [hwa]; exact (Below.refl _ w).alloc (Nat.le_refl _) _
  have hbl : wa.heap[w.heap.size]? = some (.cells #[.int .i64 b, .int .i64 a, .int .i64 z, .complex .f64 x y] 102 (0, 0)) := by rw [hwa]; exact block_new w _
  have HH := hid (fun W => ahas_any b a z x y n W)
  have HMa := hid (h.below hb0)
  have HPa := hid hp
  have HB0 := hid hb0
  have HLen := hid (hp.len b hb)
  have HFl := hid hp.lt
  have HC : Hid (∀ (W : World), Keeps F wa W → W.cell? ⟨w.heap.size, 0, none⟩ = some (.int .i64 b) ∧ W.cell? ⟨w.heap.size, 1, none⟩ = some (.int .i64 a) ∧ W.cell? ⟨w.heap.size, 2, none⟩ = some (.int .i64 z) ∧ W.cell? ⟨w.heap.size, 3, none⟩ = some (.complex .f64 x y)) := fun W hW => by
    have hw := hW.heap hbl (fun hf => Nat.lt_irrefl _ (hp.lt _ hf))
    exact ⟨cell_of_block hw 0, cell_of_block hw 1, cell_of_block hw 2, cell_of_block hw 3⟩
  have HSa : Hid (w.heap.size < wa.heap.size) := lt_of_heap hbl
  clear h hp hb0 hbl
  unfold numV
  unfold numV at HH
  by_cases hin : (a : Int) ≤ n ∧ n < (z : Int)
  · rw [decide_eq_true hin] at HH
    have HIn := hid hin
    obtain ⟨k, rfl⟩ : ∃ k : Nat, n = (k : Int) := ⟨n.toNat, by omega⟩
    have hk : k < 4096 := by omega
    have hkk : ((k : Int)).toNat = k := by omega
    have HKk := hid hkk
    clear hin hkk
    go_enter Tryz.func68, Tryz.ntmps68
    go_wp2_with fail
    rw [← hwa]
    clear hwa
    refine (HH.out wa).mono ?_
    clear HH
    rintro e w1 ⟨rfl, hb1⟩
    obtain ⟨c0, c1, c2, c3⟩ := HC.out w1 (Keeps.of_below hb1)
    have HB1 := hid (HB0.out.trans (hb1.mono HB0.out.size))
    have HBi := hid (abits_any (HMa.out.below hb1) hmF b a z x y hb hu HPa.out HB1.out)
    unfold numV at HBi
    have HKa1 : Hid (Keeps F wa w1) := Keeps.of_below hb1
    have HM1 := hid (HMa.out.below hb1)
    have hs1 := hb1.size
    clear hb1
    go_wp2_with fail
    refine HBi.out.mono ?_
    clear HBi
    rintro e w2 ⟨g, cap, rfl, hcap, hg, hrow, hK2, hW2⟩
    have HRow := hid hrow
    have HIs := hid (isSet_any g k cap (Pg b) w2 hrow.1 HLen.out hk)
    have HKa2 := hid (HKa1.out.trans hK2 (fun i e => .inl e))
    have HK2 := hid ((Keeps.of_below HB1.out).trans hK2 (fun i e => .inl e))
    have HW2 := hid hW2
    have HM2 : Hid (mapB w2 m c ino) := HM1.out.keep hK2 hmF
    have HgF : Hid (¬ F g) := fun hf => by have := HFl.out _ hf; have := HB1.out.size; omega
    have Hgw : Hid (wa.heap.size ≤ g) := Nat.le_trans hs1 hg
    clear hrow hK2 hW2 c0 c1 c2 c3
    cases hbit : bitL (Pg b) k with
    | false =>
      rw [hbit] at HIs
      have HBit := hid hbit
      clear hbit
      go_wp2_with fail
      refine HIs.out.mono ?_
      clear HIs
      rintro e w3 ⟨rfl, h3⟩
      obtain rfl := h3.symm
      clear h3
      go_wp2
      go_ret
      exact ⟨HK2.out, .inr (.inl ⟨HIn.out, by rw [HKk.out]; exact HBit.out, rfl, HW2.out _ (Keeps.refl _ _)⟩)⟩
    | true =>
      rw [hbit] at HIs
      have HBit := hid hbit
      have HFp := hid (flip_any g k cap (Pg b) w2 HRow.out HLen.out hk)
      clear hbit
      go_wp2_with fail
      refine HIs.out.mono ?_
      clear HIs
      rintro e w3 ⟨rfl, h3⟩
      obtain rfl := h3.symm
      clear h3
      go_wp2_with fail
      refine HFp.out.mono ?_
      clear HFp
      rintro e w3 ⟨rfl, hr3, hk3⟩
      have hK3 : Keeps F w w3 := HK2.out.trans hk3 (fun i e => .inr (by have e' : i = g := e; have := HB1.out.size; have := Hgw.out; have := HSa.out; omega))
      have hgF := HgF.out
      have hcl := HC.out w2 HKa2.out
      have d0 : w3.cell? ⟨w.heap.size, 0, none⟩ = some (.int .i64 b) := hk3.cell hcl.1 (show ¬ w.heap.size = g by have := Hgw.out; have := HSa.out; omega)
      have hnF : ¬ F w3.heap.size := fun hf => by have := HFl.out _ hf; have := hK3.size; omega
      have hwp := hr3.wpg (N := N) (F := F) (by rw [length_flipL]; exact HLen.out) b cap hb hgF hnF
      have hb4 : Below w3.heap.size w3 (w3.alloc (.cells #[.int .i64 b, .slice (some ⟨g, 0, none⟩) 512 cap] 85)) := (Below.refl _ w3).alloc (Nat.le_refl _) _
      have hgm : ¬ m = g := fun e => by have h1 := HMa.out.lt; have := Hgw.out; omega
      have hP3 : Pc w3 c F size N Pg Cm D o (u + 1) := HW2.out _ (hk3.mono (fun i e => by have e' : i = g := e; have := Hgw.out; have := HSa.out; omega))
      have HWr := hid (awrite_any ((HM2.out.keep hk3 hgm).below hb4) hmF w3.heap.size [⟨b, g, cap, flipL (Pg b) k⟩] hwp 1 (by simp) (by simp) (hP3.below hb4))
      have HK4 : Hid (Keeps F w (w3.alloc (.cells #[.int .i64 b, .slice (some ⟨g, 0, none⟩) 512 cap] 85))) := hK3.trans (Keeps.of_below hb4 : Keeps (fun _ => False) w3 _) (fun i e => e.elim)
      clear hr3 hk3 hK3 hgF hcl hnF hwp hb4 hgm hP3
      go_wp2_with fail
      refine HWr.out.mono ?_
      clear HWr
      rintro e w5 ⟨hk5, hw5⟩
      have HK5 := hid (HK4.out.trans hk5 (fun i e => .inl e))
      rw [newC_one] at hw5
      rcases hw5 with ⟨hf, rfl, hp5⟩ | ⟨hf, rfl, hp5⟩
      · have HP5 := hid hp5
        have Hf := hid hf
        clear hp5 hf hk5 d0
        go_wp2
        go_ret
        exact ⟨HK5.out, .inr (.inr (.inl ⟨HIn.out, by rw [HKk.out]; exact HBit.out, Hf.out, rfl, HP5.out⟩))⟩
      · have HP5 := hid hp5
        have Hf := hid hf
        clear hp5 hf hk5 d0
        go_wp2
        go_ret
        refine ⟨HK5.out, .inr (.inr (.inr ⟨HIn.out, by rw [HKk.out]; exact HBit.out, Hf.out, rfl, ?_⟩))⟩
        rw [HKk.out]
        exact HP5.out
  · rw [decide_eq_false hin] at HH
    have HIn := hid hin
    clear hin
    go_enter Tryz.func68, Tryz.ntmps68
    go_wp2_with fail
    rw [← hwa]
    clear hwa
    refine (HH.out wa).mono ?_
    clear HH
    rintro e w1 ⟨rfl, hb1⟩
    have HB1 := hid (HB0.out.trans (hb1.mono HB0.out.size))
    clear hb1
    go_wp2
    go_ret
    exact ⟨Keeps.of_below HB1.out, .inl ⟨HIn.out, rfl, (HPa.out.below HB1.out).more (Nat.le_refl _) (Nat.le_succ _)⟩⟩
theorem GiveTo.from {w w0 : World} {b a z : Nat} {n : Int} {e : Ending} {w' : World} (h : GiveTo w c F size N Pg Cm D o u b a z n e w') (k : Keeps F w0 w) : GiveTo w0 c F size N Pg Cm D o u b a z n e w' := ⟨k.trans h.1 (fun _ e => .inl e), h.2⟩
set_option maxRecDepth 100000 in
set_option maxHeartbeats 1000000 in
theorem aGivePage_any (h : mapB w m c ino) (hmF : ¬ F m) (hi : ino ≤ 512) (n : Int) (hN : 3 ≤ N) (hu : u < 1000000) (hp : Pc w c F size N Pg Cm D o u) :
    Calls Tryz.prog 27 #[.pointer (some ⟨m, 0, none⟩), .int .i64 n] w (GiveTo w c F size N Pg Cm D o u 2 (3 + ino / 8) N n) := by
  have hN4 := hp.four
  have HO := hid (amofPages_any h hi hp)
  have HT := hid (fun W (hW : Below w.heap.size w W) => agive_any (h.below hW) hmF 2 (3 + ino / 8) N oneF 0 n (by omega) hN4 hu (hp.below hW))
  clear h hp hN4
  go_enter Tryz.func27, Tryz.ntmps27
  go_wp2_with fail
  refine HO.out.mono ?_
  clear HO
  rintro e w1 ⟨rfl, hb1⟩
  have HT1 := hid (HT.out w1 hb1)
  have HK1 : Hid (Keeps F w w1) := Keeps.of_below hb1
  clear HT hb1
  go_wp2_with fail
  refine HT1.out.mono ?_
  clear HT1
  intro e w2 hg
  have HG := hid (hg.from HK1.out)
  obtain ⟨v, rfl⟩ : ∃ v : Int, e = .returned (.int .i64 v) := by
    rcases hg.2 with ⟨-, h, -⟩ | ⟨-, -, h, -⟩ | ⟨-, -, -, h, -⟩ | ⟨-, -, -, h, -⟩ <;> exact ⟨_, h⟩
  clear hg
  go_wp2
  go_ret
  exact HG.out
set_option maxRecDepth 100000 in
set_option maxHeartbeats 1000000 in
theorem aGiveInode_any (h : mapB w m c ino) (hmF : ¬ F m) (hi : ino ≤ 512) (n : Int) (hN : 3 ≤ N) (hu : u < 1000000) (hp : Pc w c F size N Pg Cm D o u) :
    Calls Tryz.prog 28 #[.pointer (some ⟨m, 0, none⟩), .int .i64 n] w (GiveTo w c F size N Pg Cm D o u 1 1 ino n) := by
  have HO := hid (amofInodes_any h)
  have HT := hid (fun W (hW : Below w.heap.size w W) => agive_any (h.below hW) hmF 1 1 ino 0 oneF n (by omega) (by omega) hu (hp.below hW))
  clear h hp
  go_enter Tryz.func28, Tryz.ntmps28
  go_wp2_with fail
  refine HO.out.mono ?_
  clear HO
  rintro e w1 ⟨rfl, hb1⟩
  have HT1 := hid (HT.out w1 hb1)
  have HK1 : Hid (Keeps F w w1) := Keeps.of_below hb1
  clear HT hb1
  go_wp2_with fail
  refine HT1.out.mono ?_
  clear HT1
  intro e w2 hg
  have HG := hid (hg.from HK1.out)
  obtain ⟨v, rfl⟩ : ∃ v : Int, e = .returned (.int .i64 v) := by
    rcases hg.2 with ⟨-, h, -⟩ | ⟨-, -, h, -⟩ | ⟨-, -, -, h, -⟩ | ⟨-, -, -, h, -⟩ <;> exact ⟨_, h⟩
  clear hg
  go_wp2
  go_ret
  exact HG.out
end
end Go.Proofs.YtkkmbgjlmdddoaaGreat
