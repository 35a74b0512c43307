/- law04's open: both caches alike; or both refused. -/
import Derived.Test.YtjgclmlclkfgpaaGreatBPlayD
import Derived.Test.YtjgclmlclkfgpaaGreatWPlayP
namespace Go.Proofs.YtjgclmlclkfgpaaGreat
open Go.RowKit Go.Maps
set_option maxRecDepth 100000 in
set_option maxHeartbeats 1000000 in
theorem b4open_pl (size most : Nat) (h1 : 1 ≤ size) (h2 : size ≤ 12) (hm1 : 1 ≤ most) (hm2 : most ≤ 64) (w : World) :
    Calls Tryz.prog 7 #[.int .i64 size, .int .i64 most] w fun e w' => ∃ c q, e = .returned (.tuple #[.pointer (some ⟨c, 0, none⟩), .pointer (some ⟨q, 0, none⟩), .bool true]) ∧ JAt w w' c q size 11 0 0 (fun _ => False) := by
  obtain ⟨n, hn⟩ : ∃ n, n = size + 12 := ⟨_, rfl⟩
  have hn1 : IntKind.i64.wrap ((size : Int) + 12) = (n : Int) := by rw [IntWalk.i64_in _ (by omega)]; omega
  have hn2 : size + 2 ≤ n := by omega
  have hn3 : n ≤ 4096 := by omega
  have HN := hid hn
  clear hn
  go_enter Tryz.func7, Tryz.ntmps7
  go_wp2_with fail
  refine (new_disk n (by omega) hn3 _).mono ?_
  rintro e w1 ⟨d, rfl, hD, -, hfv0, hB⟩
  have HFv0 := hid hfv0
  have HFl0 : Hid (∀ i, d.fv.ownBlock = some i → i < w1.heap.size) := fun i hi => by
    obtain ⟨ad, c, e1, e2, _⟩ := hD.first
    have hpos : 0 < (freshS (List.replicate n blankS)).first.length := by show 0 < (List.replicate n blankS).length; simp; omega
    have h00 := e2 0 _ (List.getElem?_eq_getElem hpos)
    have h1 := World.block_lt_of_cell? w1 _ h00
    rw [add_block] at h1
    rw [e1] at hi
    obtain rfl := Option.some.inj hi
    exact h1
  clear hfv0
  have HD : Hid (DiskIn w1 d (freshN n)) := hD
  have HB1 := hid hB
  have HRn := hid (rnew_ok n (by omega) hn3 w1)
  clear hD hB
  go_wp2_with fail
  refine HRn.out.mono ?_
  clear HRn
  rintro e w2 ⟨rfl, hb2, fv, hR2⟩
  have HR2 := hid hR2
  have HB2 := hid (HB1.out.trans (hb2.mono HB1.out.size))
  have hs12 := hb2.size
  have hs01 := HB1.out.size
  have hOp := open_zero_two d (freshN n) size w2 (HD.out.below hb2) (by show 0 ≤ 4096; decide) h1 (by rw [freshN_len]; exact hn2) (by rw [show ((0 : Int)) = ((0 : Nat) : Int) from rfl, freshN_seen n 0 (by omega)]; exact blank_zeros)
  have HOp := hid hOp
  clear hb2 hR2 HD hOp
  go_wp2_with fail
  refine HOp.out.mono ?_
  clear HOp
  rintro e w3 ⟨hb3, p, d3, rfl, hp3, hL3, hC3, hcf3, hfv3⟩
  have HC3 := hid hC3
  have HCf := hid hcf3
  have HFv3 := hid hfv3
  clear hC3 hcf3 hfv3
  have HL3 := hid hL3
  have HB3 := hid (HB2.out.trans (hb3.mono HB2.out.size))
  have hs23 := hb3.size
  have hpl := lt_of_heap hL3.heap
  have hR3 := HR2.out.keep (Keeps.of_below (F := fun _ => False) hb3) (fun _ _ h => h) (fun h => h)
  have hRo := ropen_zero w1.heap.size fv (.slice none 0 0) [] _ (rfresh n) size w3 hR3 (fun i hi => by omega) (okR_fresh n hn3) (by show 0 ≤ 1000000; decide) h1 (by rw [rfresh_length]; exact hn2) (by
    show (rfresh n).first[0]? = some zeros
    rw [List.getElem?_eq_getElem (by rw [rfresh_length]; omega), rfresh_at])
  have HRo := hid hRo
  clear hb3 hL3 hR3 hRo HR2
  go_wp2_with fail
  refine HRo.out.mono ?_
  clear HRo
  rintro e w4 ⟨hb4, q, r, rfl, hq, hr, hRl⟩
  have HRl := hid hRl
  have HC4 := hid (HC3.out.below hb4)
  have HL4 : Hid (LogIn w4 p d3 (freshN n) size 0 (fun i => w2.heap.size ≤ i ∧ i < p)) := ⟨below_block hb4 HL3.out.heap (lt_of_heap HL3.out.heap), HL3.out.disk.below hb4, HL3.out.off⟩
  have HB4 := hid (HB3.out.trans (hb4.mono HB3.out.size))
  have hs34 := hb4.size
  have HNw := hid (bnew_two p d3 (freshN n) size (fun i => w2.heap.size ≤ i ∧ i < p) most hm1 hm2 w4 HL4.out (fun i hi => by omega) (by rw [freshN_len]; omega))
  have hrq : r < w4.heap.size := lt_of_heap hRl.disk.heap
  have hqq : q < w4.heap.size := lt_of_heap hRl.heap
  clear hb4 hRl HL3 HL4
  go_wp2_with fail
  refine HNw.out.mono ?_
  clear HNw
  rintro e w5 ⟨hb5, c, L, rfl, hc5, hdv, hLF, hLp, hLd, hft, hC5⟩
  have HLF := hid hLF
  have HLp := hid hLp
  have HLd := hid hLd
  have HCC5 := hid (HC4.out.below hb5)
  have HC5 := hid hC5
  have HB5 := hid (HB4.out.trans (hb5.mono HB4.out.size))
  have HR5 := hid (HRl.out.belowK hb5)
  have HRk := hid (r4new_ok q most hm1 hm2 w5)
  have HFt := hid hft
  have HDv := hid hdv
  have hs45 := hb5.size
  clear hb5 hC5 hft hLF HRl hdv hLp hLd HC4
  go_wp2_with fail
  refine HRk.out.mono ?_
  clear HRk
  rintro e w6 ⟨rfl, hb6, hq6⟩
  have HQ6 := hid hq6
  have HC6 := hid (HC5.out.below hb6)
  have hs56 := hb6.size
  have HCC6 := hid (HCC5.out.below hb6)
  have HR6 := hid (HR5.out.belowK hb6)
  have HFo := hid (HC5.out.footLt)
  have HB6 := hid (HB5.out.trans (hb6.mono HB5.out.size))
  clear hb6 hq6 HC5 HR5 HCC5
  go_wp2
  go_returns
  have hNp : pagesS (freshN n) size = 11 := by unfold pagesS; rw [freshN_len, HN.out]; omega
  have hrl := HR6.out
  rw [rfresh_ref] at hrl
  have hC := HC6.out
  rw [hNp] at hC
  have hft : ∀ i, L.foot c i → (w2.heap.size ≤ i ∧ i < p) ∨ w4.heap.size ≤ i := HFt.out
  have hfo : ∀ i, L.foot c i → i < w5.heap.size := HFo.out
  have hfvb : ∀ i, L.d.fv.ownBlock = some i → w.heap.size ≤ i ∧ i < w1.heap.size := fun i hi => by
    rw [HLd.out, HFv3.out] at hi
    exact ⟨HFv0.out i hi, HFl0.out i hi⟩
  refine ⟨c, w5.heap.size, rfl, L, ⟨freshN n, size, 11, fun _ => none, most, 0, fun _ => none⟩, q, r, fv, .slice none 0 0, [], fun i => w1.heap.size < i ∧ i < w2.heap.size, fun _ => False, ⟨most, [], fun _ => [], []⟩, ?_, rfl, rfl, fun i hi => hi.elim⟩
  refine {
    at_ := hC
    two := ?_
    r4 := ⟨⟨none, 0, none, 0, HQ6.out, fun j hj => (by simp at hj), fun j hj => (by simp at hj), fun ad e => (by cases e), fun ad e => (by cases e)⟩, fun p hp => (by simp at hp), fun i hi => hi.elim, fun h => h, by simp⟩
    rl := hrl
    like := ⟨rfl, by simp, fun p hp => (by simp at hp), fun n => (by simp), by simp, fun n => (by simp), fun n hn => (by simp at hn), Nat.zero_le _⟩
    made := made_fresh _ (by simp; omega) (fun s hs => by rw [List.eq_of_mem_replicate hs]; exact blank_size)
    ops := Nat.le_refl _
    uses := Nat.le_refl _
    room := by rw [CS.dirtyKeys_none rfl]; simp
    most := ⟨hm1, hm2⟩
    off := ⟨fun i hi hg => ?_, fun hg => ?_, fun i hi hg => ?_, fun n g cap hn => ?_⟩
    apart := fun i hi => ⟨fun e => ?_, fun h => h, fun hd => ?_⟩
    qr := fun e => ?_
    Br := fun h => h
    Rq := fun hd => ?_
    new := fun i hi => ?_
    newq := ⟨by omega, by omega⟩
    fvl := fun i hi => ?_
    bel := HB6.out }
  · rw [HLd.out, HLF.out]
    exact .inl ⟨HCC6.out, rfl, HCf.out⟩
  · have h3 := hft i hi
    have h4 := hfo i hi
    rcases hg with e9 | e9 <;> omega
  · rw [HLp.out] at hg
    rcases hg with e9 | e9 <;> omega
  · have h3 := hfvb i hi
    rcases hg with e9 | e9 <;> omega
  · rw [HDv.out] at hn; cases hn
  · have h3 := hft i hi
    omega
  · have h3 := hft i hi
    have h4 : w1.heap.size < i ∧ i < w2.heap.size := hd
    omega
  · omega
  · have h4 : w1.heap.size < w5.heap.size ∧ w5.heap.size < w2.heap.size := hd
    omega
  · have h3 := hft i hi
    omega
  · have h3 := hfvb i hi
    omega
set_option maxRecDepth 100000 in
set_option maxHeartbeats 1000000 in
theorem b4open_no (size : Nat) (most : Int) (h1 : 1 ≤ size) (h2 : size ≤ 12) (hm : ¬ (1 ≤ most ∧ most ≤ 64)) (w : World) :
    Calls Tryz.prog 7 #[.int .i64 size, .int .i64 most] w fun e w' => e = .returned (.tuple #[.pointer none, .pointer none, .bool true]) ∧ Below w.heap.size w w' := by
  obtain ⟨n, hn⟩ : ∃ n, n = size + 12 := ⟨_, rfl⟩
  have hn1 : IntKind.i64.wrap ((size : Int) + 12) = (n : Int) := by rw [IntWalk.i64_in _ (by omega)]; omega
  have hn2 : size + 2 ≤ n := by omega
  have hn3 : n ≤ 4096 := by omega
  have HN := hid hn
  clear hn
  go_enter Tryz.func7, Tryz.ntmps7
  go_wp2_with fail
  refine (new_disk n (by omega) hn3 _).mono ?_
  rintro e w1 ⟨d, rfl, hD, -, hfv0, hB⟩
  have HFv0 := hid hfv0
  have HFl0 : Hid (∀ i, d.fv.ownBlock = some i → i < w1.heap.size) := fun i hi => by
    obtain ⟨ad, c, e1, e2, _⟩ := hD.first
    have hpos : 0 < (freshS (List.replicate n blankS)).first.length := by show 0 < (List.replicate n blankS).length; simp; omega
    have h00 := e2 0 _ (List.getElem?_eq_getElem hpos)
    have h1 := World.block_lt_of_cell? w1 _ h00
    rw [add_block] at h1
    rw [e1] at hi
    obtain rfl := Option.some.inj hi
    exact h1
  clear hfv0
  have HD : Hid (DiskIn w1 d (freshN n)) := hD
  have HB1 := hid hB
  have HRn := hid (rnew_ok n (by omega) hn3 w1)
  clear hD hB
  go_wp2_with fail
  refine HRn.out.mono ?_
  clear HRn
  rintro e w2 ⟨rfl, hb2, fv, hR2⟩
  have HR2 := hid hR2
  have HB2 := hid (HB1.out.trans (hb2.mono HB1.out.size))
  have hs12 := hb2.size
  have hs01 := HB1.out.size
  have hOp := open_zero_two d (freshN n) size w2 (HD.out.below hb2) (by show 0 ≤ 4096; decide) h1 (by rw [freshN_len]; exact hn2) (by rw [show ((0 : Int)) = ((0 : Nat) : Int) from rfl, freshN_seen n 0 (by omega)]; exact blank_zeros)
  have HOp := hid hOp
  clear hb2 hR2 HD hOp
  go_wp2_with fail
  refine HOp.out.mono ?_
  clear HOp
  rintro e w3 ⟨hb3, p, d3, rfl, hp3, hL3, hC3, hcf3, hfv3⟩
  have HC3 := hid hC3
  have HCf := hid hcf3
  have HFv3 := hid hfv3
  clear hC3 hcf3 hfv3
  have HL3 := hid hL3
  have HB3 := hid (HB2.out.trans (hb3.mono HB2.out.size))
  have hs23 := hb3.size
  have hpl := lt_of_heap hL3.heap
  have hR3 := HR2.out.keep (Keeps.of_below (F := fun _ => False) hb3) (fun _ _ h => h) (fun h => h)
  have hRo := ropen_zero w1.heap.size fv (.slice none 0 0) [] _ (rfresh n) size w3 hR3 (fun i hi => by omega) (okR_fresh n hn3) (by show 0 ≤ 1000000; decide) h1 (by rw [rfresh_length]; exact hn2) (by
    show (rfresh n).first[0]? = some zeros
    rw [List.getElem?_eq_getElem (by rw [rfresh_length]; omega), rfresh_at])
  have HRo := hid hRo
  clear hb3 hL3 hR3 hRo HR2
  go_wp2_with fail
  refine HRo.out.mono ?_
  clear HRo
  rintro e w4 ⟨hb4, q, r, rfl, hq, hr, hRl⟩
  have HRl := hid hRl
  have HC4 := hid (HC3.out.below hb4)
  have HL4 : Hid (LogIn w4 p d3 (freshN n) size 0 (fun i => w2.heap.size ≤ i ∧ i < p)) := ⟨below_block hb4 HL3.out.heap (lt_of_heap HL3.out.heap), HL3.out.disk.below hb4, HL3.out.off⟩
  have HB4 := hid (HB3.out.trans (hb4.mono HB3.out.size))
  have hs34 := hb4.size
  have HNw := hid (bnew_range p most hm w4)
  have HRk := hid (r4new_range q most hm w4)
  clear hb4 hRl HL3 HL4 hm
  go_wp2_with fail
  refine HNw.out.mono ?_
  clear HNw
  rintro e w5 ⟨rfl, h5⟩
  obtain rfl := h5.symm
  clear h5
  go_wp2_with fail
  refine HRk.out.mono ?_
  clear HRk
  rintro e w6 ⟨rfl, h6⟩
  obtain rfl := h6.symm
  clear h6
  go_wp2
  go_returns
  exact ⟨rfl, HB4.out⟩
end Go.Proofs.YtjgclmlclkfgpaaGreat
