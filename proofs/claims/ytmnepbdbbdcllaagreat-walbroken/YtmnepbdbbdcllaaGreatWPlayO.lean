/- law03's open: the log and the reference beside one another; sizes that are refused. -/
import Derived.Test.YtmnepbdbbdcllaaGreatWPlayP
namespace Go.Proofs.YtmnepbdbbdcllaaGreat
open Go.RowKit
set_option maxRecDepth 100000 in
set_option maxHeartbeats 1000000 in
/-- law03's open: the log and the reference beside one another. -/
theorem wopen_pl (n size : Nat) (h1 : 1 ≤ size) (h2 : size + 2 ≤ n) (hn : n ≤ 4096) (w : World) :
    Calls Tryz.prog 5 #[.int .i64 n, .int .i64 size] w fun e w' => Below w.heap.size w w' ∧ ∃ p d q r fv F Rd, e = .returned (.tuple #[.pointer (some ⟨p, 0, none⟩), .pointer (some ⟨q, 0, none⟩), .bool true]) ∧ w.heap.size ≤ p ∧ p < q ∧ p < r ∧
      LogIn w' p d (freshN n) size 0 F ∧ TwoAt w' d (freshN n) F ∧ (∀ i, d.fv.ownBlock = some i → i < p) ∧ (∀ i, F i → w.heap.size ≤ i ∧ i < p) ∧ RLogIn w' q r fv (.slice none 0 0) [] Rd (rfresh n) size 0 ∧ (∀ i, Rd i → w.heap.size ≤ i ∧ i < p) ∧ ∀ i, F i → ¬ Rd i := by
  go_enter Tryz.func5, Tryz.ntmps5
  go_wp2_with fail
  refine (new_disk n (by omega) hn _).mono ?_
  rintro e w1 ⟨d, rfl, hD, -, hfv0, hB⟩
  have HFv0 := hid hfv0
  have HFl0 : Hid (∀ i, d.fv.ownBlock = some i → i < w1.heap.size) := fun i hi => by
    obtain ⟨ad, c, e1, e2, _⟩ := hD.first
    have hpos : 0 < (freshS (List.replicate n blankS)).first.length := by show 0 < (List.replicate n blankS).length; simp; omega
    have h00 := e2 0 _ (List.getElem?_eq_getElem hpos)
    have h1 := World.block_lt_of_cell? w1 _ h00
    rw [add_block] at h1
    rw [e1] at hi
    obtain rfl := Option.some.inj hi
    exact h1
  have HD : Hid (DiskIn w1 d (freshN n)) := hD
  have HB1 := hid hB
  have HRn := hid (rnew_ok n (by omega) hn w1)
  clear hD hB hfv0
  go_wp2_with fail
  refine HRn.out.mono ?_
  clear HRn
  rintro e w2 ⟨rfl, hb2, fv, hR2⟩
  have HR2 := hid hR2
  have HB2 := hid (HB1.out.trans (hb2.mono HB1.out.size))
  have hs12 := hb2.size
  have hs01 := HB1.out.size
  have hOp := open_zero_two d (freshN n) size w2 (HD.out.below hb2) (by show 0 ≤ 4096; decide) h1 (by rw [freshN_len]; exact h2) (by rw [show ((0 : Int)) = ((0 : Nat) : Int) from rfl, freshN_seen n 0 (by omega)]; exact blank_zeros)
  have HOp := hid hOp
  clear hb2 hR2 HD hOp
  go_wp2_with fail
  refine HOp.out.mono ?_
  clear HOp
  rintro e w3 ⟨hb3, p, d3, rfl, hp3, hL3, hC3, hcf3, hfv3⟩
  have HC3 := hid hC3
  have HCf := hid hcf3
  have HFv3 := hid hfv3
  clear hC3 hcf3 hfv3
  have HL3 := hid hL3
  have HB3 := hid (HB2.out.trans (hb3.mono HB2.out.size))
  have hs23 := hb3.size
  have hpl := lt_of_heap hL3.heap
  have hR3 := HR2.out.keep (Keeps.of_below (F := fun _ => False) hb3) (fun _ _ h => h) (fun h => h)
  have hRo := ropen_zero w1.heap.size fv (.slice none 0 0) [] _ (rfresh n) size w3 hR3 (fun i hi => by omega) (okR_fresh n hn) (by show 0 ≤ 1000000; decide) h1 (by rw [rfresh_length]; exact h2) (by
    show (rfresh n).first[0]? = some zeros
    rw [List.getElem?_eq_getElem (by rw [rfresh_length]; omega), rfresh_at])
  have HRo := hid hRo
  clear hb3 hL3 hR3 hRo HR2
  go_wp2_with fail
  refine HRo.out.mono ?_
  clear HRo
  rintro e w4 ⟨hb4, q, r, rfl, hq, hr, hRl⟩
  have HC4 := hid (HC3.out.below hb4)
  have HRl := hid hRl
  have HL4 : Hid (LogIn w4 p d3 (freshN n) size 0 (fun i => w2.heap.size ≤ i ∧ i < p)) := ⟨below_block hb4 HL3.out.heap (lt_of_heap HL3.out.heap), HL3.out.disk.below hb4, HL3.out.off⟩
  have HB4 := hid (HB3.out.trans (hb4.mono HB3.out.size))
  clear hb4 hRl HL3
  go_wp2
  go_returns
  refine ⟨HB4.out, p, d3, q, r, fv, (fun i => w2.heap.size ≤ i ∧ i < p), _, rfl, by omega, by omega, by omega, HL4.out, .inl ⟨HC4.out, rfl, fun i hi => ?_⟩, fun i hi => ?_, fun i hi => ⟨by omega, hi.2⟩, HRl.out, fun i hi => ?_, fun i hi hr => ?_⟩
  · have := HCf.out i hi
    omega
  · rw [HFv3.out] at hi
    have h2 := HFl0.out i hi
    omega
  · omega
  · omega
theorem rnew_no (n : Int) (h : ¬ (1 ≤ n ∧ n ≤ 4096)) (w : World) : Calls Tryz.prog 30 #[.int .i64 n] w fun e w' => e = .returned (.tuple #[.pointer none, .int .i64 2]) ∧ w' = w := by
  by_cases h1 : n < 1
  · go_enter Tryz.func30, Tryz.ntmps30
    go_wp2
    go_returns
    exact ⟨rfl, rfl⟩
  · have h2 : 4096 < n := by omega
    go_enter Tryz.func30, Tryz.ntmps30
    go_wp2
    go_returns
    exact ⟨rfl, rfl⟩
theorem ropen_nil (n : Int) (w : World) : Calls Tryz.prog 27 #[.pointer none, .int .i64 n] w fun e w' => e = .returned (.tuple #[.pointer none, .int .i64 1]) ∧ w' = w := by
  go_enter Tryz.func27, Tryz.ntmps27
  go_wp2
  go_returns
  exact ⟨rfl, rfl⟩
set_option maxRecDepth 100000 in
theorem open_range (d : DL) (S : DiskS) (n : Int) (w : World) (h : DiskIn w d S) (hn : ¬ (1 ≤ n ∧ n ≤ (S.safe.length : Int) - 2)) : Calls Tryz.prog 26 #[.pointer (some ⟨d.p, 0, none⟩), .int .i64 n] w fun e w' => e = .returned (.tuple #[.pointer none, .int .i64 2]) ∧ w' = w := by
  have hm := h.plates.most
  have HSe := hid (sectors_disk d S w h)
  clear h
  by_cases h1 : n < 1
  · clear HSe
    go_enter Tryz.func26, Tryz.ntmps26
    go_wp2
    go_returns
    exact ⟨rfl, rfl⟩
  · have h2 : n > (S.safe.length : Int) - 2 := by omega
    clear hn
    go_enter Tryz.func26, Tryz.ntmps26
    go_wp2_with fail
    refine HSe.out.mono ?_
    rintro e w1 ⟨rfl, hw1⟩
    obtain rfl := hw1.symm
    go_wp2
    go_returns
    exact ⟨rfl, rfl⟩
set_option maxRecDepth 100000 in
theorem ropen_range (r : Nat) (fv lv : Value) (vs : List Value) (Rd : Nat → Prop) (R : RefS) (n : Int) (w : World) (h : RefIn w r fv lv vs Rd R) (hR : R.first.length ≤ 4096) (hn : ¬ (1 ≤ n ∧ n ≤ (R.first.length : Int) - 2)) : Calls Tryz.prog 27 #[.pointer (some ⟨r, 0, none⟩), .int .i64 n] w fun e w' => e = .returned (.tuple #[.pointer none, .int .i64 2]) ∧ w' = w := by
  have HSe := hid (rsectors_any r fv lv vs Rd R w h)
  clear h
  by_cases h1 : n < 1
  · clear HSe
    go_enter Tryz.func27, Tryz.ntmps27
    go_wp2
    go_returns
    exact ⟨rfl, rfl⟩
  · have h2 : n > (R.first.length : Int) - 2 := by omega
    clear hn
    go_enter Tryz.func27, Tryz.ntmps27
    go_wp2_with fail
    refine HSe.out.mono ?_
    rintro e w1 ⟨rfl, hw1⟩
    obtain rfl := hw1.symm
    go_wp2
    go_returns
    exact ⟨rfl, rfl⟩
set_option maxRecDepth 100000 in
/-- law03's open, of what is refused. -/
theorem wopen_no (n size : Int) (h : ¬ (1 ≤ n ∧ n ≤ 4096 ∧ 1 ≤ size ∧ size + 2 ≤ n)) (w : World) :
    Calls Tryz.prog 5 #[.int .i64 n, .int .i64 size] w fun e w' => Below w.heap.size w w' ∧ e = .returned (.tuple #[.pointer none, .pointer none, .bool true]) := by
  by_cases hn : 1 ≤ n ∧ n ≤ 4096
  · obtain ⟨N, rfl⟩ : ∃ N : Nat, n = (N : Int) := ⟨n.toNat, by omega⟩
    have h1 : 1 ≤ N := by omega
    have h2 : N ≤ 4096 := by omega
    have hs : ¬ (1 ≤ size ∧ size ≤ (N : Int) - 2) := by omega
    clear h hn
    go_enter Tryz.func5, Tryz.ntmps5
    go_wp2_with fail
    refine (new_disk N h1 h2 _).mono ?_
    rintro e w1 ⟨d, rfl, hD, -, -, hB⟩
    have HD : Hid (DiskIn w1 d (freshN N)) := hD
    have HB1 := hid hB
    have HRn := hid (rnew_ok N h1 h2 w1)
    clear hD hB
    go_wp2_with fail
    refine HRn.out.mono ?_
    clear HRn
    rintro e w2 ⟨rfl, hb2, fv, hR2⟩
    have HR2 := hid hR2
    have HB2 := hid (HB1.out.trans (hb2.mono HB1.out.size))
    have HOp := hid (open_range d (freshN N) size w2 (HD.out.below hb2) (by rw [freshN_len]; exact hs))
    clear hb2 hR2 HD
    go_wp2_with fail
    refine HOp.out.mono ?_
    clear HOp
    rintro e w3 ⟨rfl, hw3⟩
    obtain rfl := hw3.symm
    have HRo := hid (ropen_range _ fv _ _ _ (rfresh N) size w2 HR2.out (by rw [rfresh_length]; exact h2) (by rw [rfresh_length]; exact hs))
    clear HR2
    go_wp2_with fail
    refine HRo.out.mono ?_
    clear HRo
    rintro e w4 ⟨rfl, hw4⟩
    obtain rfl := hw4.symm
    go_wp2
    go_returns
    exact ⟨HB2.out, rfl⟩
  · have HN := hid (new_bad n hn w)
    have HR := hid (rnew_no n hn w)
    clear h hn
    go_enter Tryz.func5, Tryz.ntmps5
    go_wp2_with fail
    refine HN.out.mono ?_
    clear HN
    rintro e w1 ⟨rfl, hw1⟩
    obtain rfl := hw1.symm
    go_wp2_with fail
    refine HR.out.mono ?_
    clear HR
    rintro e w2 ⟨rfl, hw2⟩
    obtain rfl := hw2.symm
    go_wp2_with fail
    refine (open_nil size _).mono ?_
    rintro e w3 ⟨rfl, hw3⟩
    obtain rfl := hw3.symm
    go_wp2_with fail
    refine (ropen_nil size _).mono ?_
    rintro e w4 ⟨rfl, hw4⟩
    obtain rfl := hw4.symm
    go_wp2
    go_returns
    exact ⟨Below.refl _ _, rfl⟩
end Go.Proofs.YtmnepbdbbdcllaaGreat
