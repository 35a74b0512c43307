/- The walk of DiskOrder. -/
import Derived.Test.YtpdpmcibeliocabTwo
namespace Go.Proofs.Ytpdpmcibeliocab
open Go.RowKit
set_option maxRecDepth 100000 in
set_option maxHeartbeats 2000000 in
theorem order_walk (f1 f2 : Bool) (n1 l1 x1 n2 l2 x2 : Int) (a1 : 0 ≤ x1) (b1 : x1 ≤ 255) (a2 : 0 ≤ x2) (b2 : x2 ≤ 255) (w : World) :
    Calls Try.prog 6 #[.agg #[.bool f1, .int .i64 n1, .int .i64 l1, .int .u8 x1], .agg #[.bool f2, .int .i64 n2, .int .i64 l2, .int .u8 x2]] w fun e w' => e = .returned (.bool true) ∧ Below w.heap.size w w' := by
  go_enter Try.func6, Try.ntmps6
  go_wp2_with fail
  obtain ⟨m1, m2, m3, m4⟩ := new2 w (.cells #[.bool f1, .int .i64 n1, .int .i64 l1, .int .u8 x1] 49) (.cells #[.bool f2, .int .i64 n2, .int .i64 l2, .int .u8 x2] 49)
  generalize hW : (w.alloc (.cells #[.bool f1, .int .i64 n1, .int .i64 l1, .int .u8 x1] 49)).alloc (.cells #[.bool f2, .int .i64 n2, .int .i64 l2, .int .u8 x2] 49) = wA at *
  have HX := hid m1
  have HY := hid m2
  have HBA := hid m3
  clear m1 m2 m3 m4 hW
  refine (new_disk 5 (by omega) (by omega) wA).mono ?_
  rintro e wB ⟨d1, rfl, hD1, hf1, hv1, hb1⟩
  have HD1 := hid hD1
  have HF1 := hid hf1
  have HV1 := hid hv1
  have HB1 := hid hb1
  clear hD1 hf1 hv1 hb1
  go_wp2_with fail
  refine (new_disk 5 (by omega) (by omega) wB).mono ?_
  rintro e wC ⟨d2, rfl, hD2, hf2, hv2, hb2⟩
  have HT : Hid (Two w wC w.heap.size (w.heap.size + 1) #[.bool f1, .int .i64 n1, .int .i64 l1, .int .u8 x1] #[.bool f2, .int .i64 n2, .int .i64 l2, .int .u8 x2] d1 d2 (freshS (List.replicate 5 blankS)) (freshS (List.replicate 5 blankS))) := by
    have hs1 := HB1.out.size
    have hs2 := HBA.out.size
    have hx := lt_of_heap HX.out
    have hy := lt_of_heap HY.out
    refine ⟨(HBA.out.trans (HB1.out.mono hs2)).trans (hb2.mono (by omega)), ?_, ?_, HD1.out.below hb2, hD2, fun i hi => ?_, fun i hi => ?_⟩
    · exact below_block hb2 (below_block HB1.out HX.out hx) (by omega)
    · exact below_block hb2 (below_block HB1.out HY.out hy) (by omega)
    · have h1 := HF1.out i hi
      have h2 := HD1.out.foot_lt hi
      refine ⟨by omega, by omega, by omega, fun hn => ?_, fun hn => ?_⟩
      · have := hf2 i hn; omega
      · have := hv2 i hn; omega
    · have h1 := hf2 i hi
      refine ⟨by omega, by omega, by omega, fun hn => ?_, fun hn => ?_⟩
      · have := HD1.out.foot_lt hn; omega
      · have := HD1.out.fv_lt hn; omega
  clear hD2 hf2 hv2 hb2 HX HY HBA HD1 HF1 HV1 HB1
  go_wp2_with fail
  refine (live_any wC).mono ?_
  rintro e wD ⟨rfl, hbD⟩
  have HT0 := hid (HT.out.grow hbD)
  clear HT hbD
  go_wp2_with fail
  refine wp_region_noPanic ?_
  refine wp_region_held_drew (S := fun W => W.heap[w.heap.size]? = some (.cells #[.bool f1, .int .i64 n1, .int .i64 l1, .int .u8 x1] 49 (0, 0))) (by kernel_rfl) HT0.out.hx (fun hHeld => ?_)
  refine wpAnyH_take (i := 0) (v := ?_) rfl (by kernel_rfl) (by kernel_rfl) (by kernel_rfl) (fun _ _ _ h => h) (Or.inl ⟨by rfl, ?_⟩) (by assumption) ?_
  rotate_left
  · (intro W hSw; (try dsimp only at hSw); go_simp; try with_reducible rfl)
  try simp only [List.getElem_toArray, List.getElem_cons_zero, Act.put, List.setIfInBounds_toArray, List.set_cons_zero, List.set_cons_succ]
  refine wpAnyH_take (i := 1) (v := ?_) rfl (by kernel_rfl) (by kernel_rfl) (by kernel_rfl) (fun _ _ _ h => h) (Or.inl ⟨by rfl, ?_⟩) (by assumption) ?_
  rotate_left
  · (intro W hSw; (try dsimp only at hSw); go_simp; try with_reducible rfl)
  try simp only [List.getElem_toArray, List.getElem_cons_succ, List.getElem_cons_zero, Act.put, List.setIfInBounds_toArray, List.set_cons_zero, List.set_cons_succ]
  refine wpAnyH_take (i := 2) (v := ?_) rfl (by kernel_rfl) (by kernel_rfl) (by kernel_rfl) (fun _ _ _ h => h) (Or.inl ⟨by rfl, ?_⟩) (by assumption) ?_
  rotate_left
  · (intro W hSw; (try dsimp only at hSw); have q0 := cell_of_block hSw 0; have q1 := cell_of_block hSw 1; have q2 := cell_of_block hSw 2; have q3 := cell_of_block hSw 3; go_simp; try with_reducible rfl)
  try simp only [List.getElem_toArray, List.getElem_cons_succ, List.getElem_cons_zero, Act.put, List.setIfInBounds_toArray, List.set_cons_zero, List.set_cons_succ]
  refine wpAnyH_take (i := 3) (v := ?_) rfl (by kernel_rfl) (by kernel_rfl) (by kernel_rfl) (fun _ _ _ h => h) (Or.inl ⟨by rfl, ?_⟩) (by assumption) ?_
  rotate_left
  · (intro W hSw; (try dsimp only at hSw); have q0 := cell_of_block hSw 0; have q1 := cell_of_block hSw 1; have q2 := cell_of_block hSw 2; have q3 := cell_of_block hSw 3; go_simp; try with_reducible rfl)
  try simp only [List.getElem_toArray, List.getElem_cons_succ, List.getElem_cons_zero, Act.put, List.setIfInBounds_toArray, List.set_cons_zero, List.set_cons_succ]
  refine wpAnyH_ready (rs := [4]) (by kernel_rfl) (by simp) (AllReadyH.cons rfl (fun K hK => ?_) AllReadyH.nil)
  rw [if_pos (by rfl)]
  go_simp
  refine (deed_full f1 n1 l1 x1 _ a1 b1).mono ?_
  rintro e wE1 ⟨g1, rfl, -, -, hbE, hBE⟩
  have HTe := hid (HT0.out.grow (below_undrew hBE))
  have hw := write_any d1 _ n1 (fullS (deedLen l1) x1) ⟨g1, 0, none⟩ (deedLen l1) (deedLen l1) wE1 HTe.out.D1 (by decide) (length_full _ _) hbE
  have HWr := hid hw
  clear hw hbE hBE HT0 hHeld
  go_wp2_with fail
  refine hK.out _ _ HTe.out.hx (fun hHeld => ?_)
  clear hK K
  try simp only [List.getElem_toArray, List.getElem_cons_succ, List.getElem_cons_zero, Act.put, List.setIfInBounds_toArray, List.set_cons_zero, List.set_cons_succ]
  refine wpAnyH_ready (rs := [5]) (by kernel_rfl) (by simp) (AllReadyH.cons rfl (fun K hK => ?_) AllReadyH.nil)
  rw [if_pos (by rfl)]
  go_simp
  refine HWr.out.mono ?_
  clear HWr
  rintro e wF1 ⟨rfl, dn1, hDN, e1, e2, hfN, hKN⟩
  have HT1 := hid (HTe.out.put hDN e2 hfN hKN)
  have HE1 := hid e1
  clear hDN e1 e2 hfN hKN HTe hHeld
  go_wp2_with fail
  refine hK.out _ _ HT1.out.hx (fun hHeld => ?_)
  clear hK K hHeld
  refine wpAnyH_done (by kernel_rfl) ?_ _
  refine NoPanic.normal ?_
  go_wp2_with fail
  refine wp_region_noPanic ?_
  refine wp_region_held_drew (S := fun W => W.heap[(w.heap.size + 1)]? = some (.cells #[.bool f2, .int .i64 n2, .int .i64 l2, .int .u8 x2] 49 (0, 0))) (by kernel_rfl) HT1.out.hy (fun hHeld => ?_)
  refine wpAnyH_take (i := 0) (v := ?_) rfl (by kernel_rfl) (by kernel_rfl) (by kernel_rfl) (fun _ _ _ h => h) (Or.inl ⟨by rfl, ?_⟩) (by assumption) ?_
  rotate_left
  · (intro W hSw; (try dsimp only at hSw); go_simp; try with_reducible rfl)
  try simp only [List.getElem_toArray, List.getElem_cons_zero, Act.put, List.setIfInBounds_toArray, List.set_cons_zero, List.set_cons_succ]
  refine wpAnyH_take (i := 1) (v := ?_) rfl (by kernel_rfl) (by kernel_rfl) (by kernel_rfl) (fun _ _ _ h => h) (Or.inl ⟨by rfl, ?_⟩) (by assumption) ?_
  rotate_left
  · (intro W hSw; (try dsimp only at hSw); go_simp; try with_reducible rfl)
  try simp only [List.getElem_toArray, List.getElem_cons_succ, List.getElem_cons_zero, Act.put, List.setIfInBounds_toArray, List.set_cons_zero, List.set_cons_succ]
  refine wpAnyH_take (i := 2) (v := ?_) rfl (by kernel_rfl) (by kernel_rfl) (by kernel_rfl) (fun _ _ _ h => h) (Or.inl ⟨by rfl, ?_⟩) (by assumption) ?_
  rotate_left
  · (intro W hSw; (try dsimp only at hSw); have q0 := cell_of_block hSw 0; have q1 := cell_of_block hSw 1; have q2 := cell_of_block hSw 2; have q3 := cell_of_block hSw 3; go_simp; try with_reducible rfl)
  try simp only [List.getElem_toArray, List.getElem_cons_succ, List.getElem_cons_zero, Act.put, List.setIfInBounds_toArray, List.set_cons_zero, List.set_cons_succ]
  refine wpAnyH_take (i := 3) (v := ?_) rfl (by kernel_rfl) (by kernel_rfl) (by kernel_rfl) (fun _ _ _ h => h) (Or.inl ⟨by rfl, ?_⟩) (by assumption) ?_
  rotate_left
  · (intro W hSw; (try dsimp only at hSw); have q0 := cell_of_block hSw 0; have q1 := cell_of_block hSw 1; have q2 := cell_of_block hSw 2; have q3 := cell_of_block hSw 3; go_simp; try with_reducible rfl)
  try simp only [List.getElem_toArray, List.getElem_cons_succ, List.getElem_cons_zero, Act.put, List.setIfInBounds_toArray, List.set_cons_zero, List.set_cons_succ]
  refine wpAnyH_ready (rs := [4]) (by kernel_rfl) (by simp) (AllReadyH.cons rfl (fun K hK => ?_) AllReadyH.nil)
  rw [if_pos (by rfl)]
  go_simp
  refine (deed_full f2 n2 l2 x2 _ a2 b2).mono ?_
  rintro e wE2 ⟨g2, rfl, -, -, hbE, hBE⟩
  have HTe := hid (HT1.out.grow (below_undrew hBE))
  have hw := write_any dn1 _ n2 (fullS (deedLen l2) x2) ⟨g2, 0, none⟩ (deedLen l2) (deedLen l2) wE2 HTe.out.D1 (Nat.lt_of_le_of_lt (put_ops _ _ _) (by decide)) (length_full _ _) hbE
  rw [HE1.out] at hw
  have HWr := hid hw
  clear hw hbE hBE HT1 hHeld
  go_wp2_with fail
  refine hK.out _ _ HTe.out.hy (fun hHeld => ?_)
  clear hK K
  try simp only [List.getElem_toArray, List.getElem_cons_succ, List.getElem_cons_zero, Act.put, List.setIfInBounds_toArray, List.set_cons_zero, List.set_cons_succ]
  refine wpAnyH_ready (rs := [5]) (by kernel_rfl) (by simp) (AllReadyH.cons rfl (fun K hK => ?_) AllReadyH.nil)
  rw [if_pos (by rfl)]
  go_simp
  refine HWr.out.mono ?_
  clear HWr
  rintro e wF2 ⟨rfl, dn2, hDN, e1, e2, hfN, hKN⟩
  have HT2 := hid (HTe.out.put hDN e2 hfN hKN)
  have HE2 := hid e1
  clear hDN e1 e2 hfN hKN HTe hHeld
  go_wp2_with fail
  refine hK.out _ _ HT2.out.hy (fun hHeld => ?_)
  clear hK K hHeld
  refine wpAnyH_done (by kernel_rfl) ?_ _
  refine NoPanic.normal ?_
  go_wp2_with fail
  have HTs := hid HT2.out.swap
  clear HT2
  refine wp_region_noPanic ?_
  refine wp_region_held_drew (S := fun W => W.heap[(w.heap.size + 1)]? = some (.cells #[.bool f2, .int .i64 n2, .int .i64 l2, .int .u8 x2] 49 (0, 0))) (by kernel_rfl) HTs.out.hy (fun hHeld => ?_)
  refine wpAnyH_take (i := 0) (v := ?_) rfl (by kernel_rfl) (by kernel_rfl) (by kernel_rfl) (fun _ _ _ h => h) (Or.inl ⟨by rfl, ?_⟩) (by assumption) ?_
  rotate_left
  · (intro W hSw; (try dsimp only at hSw); go_simp; try with_reducible rfl)
  try simp only [List.getElem_toArray, List.getElem_cons_zero, Act.put, List.setIfInBounds_toArray, List.set_cons_zero, List.set_cons_succ]
  refine wpAnyH_take (i := 1) (v := ?_) rfl (by kernel_rfl) (by kernel_rfl) (by kernel_rfl) (fun _ _ _ h => h) (Or.inl ⟨by rfl, ?_⟩) (by assumption) ?_
  rotate_left
  · (intro W hSw; (try dsimp only at hSw); go_simp; try with_reducible rfl)
  try simp only [List.getElem_toArray, List.getElem_cons_succ, List.getElem_cons_zero, Act.put, List.setIfInBounds_toArray, List.set_cons_zero, List.set_cons_succ]
  refine wpAnyH_take (i := 2) (v := ?_) rfl (by kernel_rfl) (by kernel_rfl) (by kernel_rfl) (fun _ _ _ h => h) (Or.inl ⟨by rfl, ?_⟩) (by assumption) ?_
  rotate_left
  · (intro W hSw; (try dsimp only at hSw); have q0 := cell_of_block hSw 0; have q1 := cell_of_block hSw 1; have q2 := cell_of_block hSw 2; have q3 := cell_of_block hSw 3; go_simp; try with_reducible rfl)
  try simp only [List.getElem_toArray, List.getElem_cons_succ, List.getElem_cons_zero, Act.put, List.setIfInBounds_toArray, List.set_cons_zero, List.set_cons_succ]
  refine wpAnyH_take (i := 3) (v := ?_) rfl (by kernel_rfl) (by kernel_rfl) (by kernel_rfl) (fun _ _ _ h => h) (Or.inl ⟨by rfl, ?_⟩) (by assumption) ?_
  rotate_left
  · (intro W hSw; (try dsimp only at hSw); have q0 := cell_of_block hSw 0; have q1 := cell_of_block hSw 1; have q2 := cell_of_block hSw 2; have q3 := cell_of_block hSw 3; go_simp; try with_reducible rfl)
  try simp only [List.getElem_toArray, List.getElem_cons_succ, List.getElem_cons_zero, Act.put, List.setIfInBounds_toArray, List.set_cons_zero, List.set_cons_succ]
  refine wpAnyH_ready (rs := [4]) (by kernel_rfl) (by simp) (AllReadyH.cons rfl (fun K hK => ?_) AllReadyH.nil)
  rw [if_pos (by rfl)]
  go_simp
  refine (deed_full f2 n2 l2 x2 _ a2 b2).mono ?_
  rintro e wE3 ⟨g3, rfl, -, -, hbE, hBE⟩
  have HTe := hid (HTs.out.grow (below_undrew hBE))
  have hw := write_any d2 _ n2 (fullS (deedLen l2) x2) ⟨g3, 0, none⟩ (deedLen l2) (deedLen l2) wE3 HTe.out.D1 (by decide) (length_full _ _) hbE
  have HWr := hid hw
  clear hw hbE hBE HTs hHeld
  go_wp2_with fail
  refine hK.out _ _ HTe.out.hy (fun hHeld => ?_)
  clear hK K
  try simp only [List.getElem_toArray, List.getElem_cons_succ, List.getElem_cons_zero, Act.put, List.setIfInBounds_toArray, List.set_cons_zero, List.set_cons_succ]
  refine wpAnyH_ready (rs := [5]) (by kernel_rfl) (by simp) (AllReadyH.cons rfl (fun K hK => ?_) AllReadyH.nil)
  rw [if_pos (by rfl)]
  go_simp
  refine HWr.out.mono ?_
  clear HWr
  rintro e wF3 ⟨rfl, dn3, hDN, e1, e2, hfN, hKN⟩
  have HT3 := hid (HTe.out.put hDN e2 hfN hKN)
  have HE3 := hid e1
  clear hDN e1 e2 hfN hKN HTe hHeld
  go_wp2_with fail
  refine hK.out _ _ HT3.out.hy (fun hHeld => ?_)
  clear hK K hHeld
  refine wpAnyH_done (by kernel_rfl) ?_ _
  refine NoPanic.normal ?_
  go_wp2_with fail
  refine wp_region_noPanic ?_
  refine wp_region_held_drew (S := fun W => W.heap[w.heap.size]? = some (.cells #[.bool f1, .int .i64 n1, .int .i64 l1, .int .u8 x1] 49 (0, 0))) (by kernel_rfl) HT3.out.hx (fun hHeld => ?_)
  refine wpAnyH_take (i := 0) (v := ?_) rfl (by kernel_rfl) (by kernel_rfl) (by kernel_rfl) (fun _ _ _ h => h) (Or.inl ⟨by rfl, ?_⟩) (by assumption) ?_
  rotate_left
  · (intro W hSw; (try dsimp only at hSw); go_simp; try with_reducible rfl)
  try simp only [List.getElem_toArray, List.getElem_cons_zero, Act.put, List.setIfInBounds_toArray, List.set_cons_zero, List.set_cons_succ]
  refine wpAnyH_take (i := 1) (v := ?_) rfl (by kernel_rfl) (by kernel_rfl) (by kernel_rfl) (fun _ _ _ h => h) (Or.inl ⟨by rfl, ?_⟩) (by assumption) ?_
  rotate_left
  · (intro W hSw; (try dsimp only at hSw); go_simp; try with_reducible rfl)
  try simp only [List.getElem_toArray, List.getElem_cons_succ, List.getElem_cons_zero, Act.put, List.setIfInBounds_toArray, List.set_cons_zero, List.set_cons_succ]
  refine wpAnyH_take (i := 2) (v := ?_) rfl (by kernel_rfl) (by kernel_rfl) (by kernel_rfl) (fun _ _ _ h => h) (Or.inl ⟨by rfl, ?_⟩) (by assumption) ?_
  rotate_left
  · (intro W hSw; (try dsimp only at hSw); have q0 := cell_of_block hSw 0; have q1 := cell_of_block hSw 1; have q2 := cell_of_block hSw 2; have q3 := cell_of_block hSw 3; go_simp; try with_reducible rfl)
  try simp only [List.getElem_toArray, List.getElem_cons_succ, List.getElem_cons_zero, Act.put, List.setIfInBounds_toArray, List.set_cons_zero, List.set_cons_succ]
  refine wpAnyH_take (i := 3) (v := ?_) rfl (by kernel_rfl) (by kernel_rfl) (by kernel_rfl) (fun _ _ _ h => h) (Or.inl ⟨by rfl, ?_⟩) (by assumption) ?_
  rotate_left
  · (intro W hSw; (try dsimp only at hSw); have q0 := cell_of_block hSw 0; have q1 := cell_of_block hSw 1; have q2 := cell_of_block hSw 2; have q3 := cell_of_block hSw 3; go_simp; try with_reducible rfl)
  try simp only [List.getElem_toArray, List.getElem_cons_succ, List.getElem_cons_zero, Act.put, List.setIfInBounds_toArray, List.set_cons_zero, List.set_cons_succ]
  refine wpAnyH_ready (rs := [4]) (by kernel_rfl) (by simp) (AllReadyH.cons rfl (fun K hK => ?_) AllReadyH.nil)
  rw [if_pos (by rfl)]
  go_simp
  refine (deed_full f1 n1 l1 x1 _ a1 b1).mono ?_
  rintro e wE4 ⟨g4, rfl, -, -, hbE, hBE⟩
  have HTe := hid (HT3.out.grow (below_undrew hBE))
  have hw := write_any dn3 _ n1 (fullS (deedLen l1) x1) ⟨g4, 0, none⟩ (deedLen l1) (deedLen l1) wE4 HTe.out.D1 (Nat.lt_of_le_of_lt (put_ops _ _ _) (by decide)) (length_full _ _) hbE
  rw [HE3.out] at hw
  have HWr := hid hw
  clear hw hbE hBE HT3 hHeld
  go_wp2_with fail
  refine hK.out _ _ HTe.out.hx (fun hHeld => ?_)
  clear hK K
  try simp only [List.getElem_toArray, List.getElem_cons_succ, List.getElem_cons_zero, Act.put, List.setIfInBounds_toArray, List.set_cons_zero, List.set_cons_succ]
  refine wpAnyH_ready (rs := [5]) (by kernel_rfl) (by simp) (AllReadyH.cons rfl (fun K hK => ?_) AllReadyH.nil)
  rw [if_pos (by rfl)]
  go_simp
  refine HWr.out.mono ?_
  clear HWr
  rintro e wF4 ⟨rfl, dn4, hDN, e1, e2, hfN, hKN⟩
  have HT4 := hid (HTe.out.put hDN e2 hfN hKN)
  have HE4 := hid e1
  clear hDN e1 e2 hfN hKN HTe hHeld
  go_wp2_with fail
  refine hK.out _ _ HT4.out.hx (fun hHeld => ?_)
  clear hK K hHeld
  refine wpAnyH_done (by kernel_rfl) ?_ _
  refine NoPanic.normal ?_
  go_wp2_with fail
  have HTold := hid (fun h => put_comm_told (freshS (List.replicate 5 blankS)) (n := n1) (m := n2) h (fullS (deedLen l1) x1) (fullS (deedLen l2) x2))
  have ho1 := Nat.le_trans (put_ops ((freshS (List.replicate 5 blankS)).put n1 (fullS (deedLen l1) x1)) n2 (fullS (deedLen l2) x2)) (Nat.succ_le_succ (put_ops (freshS (List.replicate 5 blankS)) n1 (fullS (deedLen l1) x1)))
  have ho2 := Nat.le_trans (put_ops ((freshS (List.replicate 5 blankS)).put n2 (fullS (deedLen l2) x2)) n1 (fullS (deedLen l1) x1)) (Nat.succ_le_succ (put_ops (freshS (List.replicate 5 blankS)) n2 (fullS (deedLen l2) x2)))
  have HO1 := hid (Nat.le_trans ho1 (show _ ≤ opsMax by decide))
  have HO2 := hid (Nat.le_trans ho2 (show _ ≤ opsMax by decide))
  clear ho1 ho2
  generalize ((freshS (List.replicate 5 blankS)).put n1 (fullS (deedLen l1) x1)).put n2 (fullS (deedLen l2) x2) = S1 at *
  generalize ((freshS (List.replicate 5 blankS)).put n2 (fullS (deedLen l2) x2)).put n1 (fullS (deedLen l1) x1) = S2 at *
  have hw1 := waiting_disk dn2 S1 wF4 HT4.out.D2 HO1.out
  rw [HE2.out] at hw1
  refine hw1.mono ?_
  clear hw1
  rintro e wG ⟨v1, v2, rfl, hr1, hr2, hBG⟩
  have HTg := hid (HT4.out.grow hBG)
  obtain ⟨p1, c1, rfl, hi1⟩ := ints_of_row hr1
  have hlc : (waitKeys S1.waits S1.safe.length).length = (waitCounts S1.waits S1.safe.length).length := by simp [waitCounts]
  rw [hlc] at hr2
  obtain ⟨p2, c2, rfl, hi2⟩ := ints_of_row hr2
  have hw2 := waiting_disk dn4 S2 wG HTg.out.D1 HO2.out
  rw [HE4.out] at hw2
  have HW2 := hid hw2
  have HI1 := hid hi1
  have HI2 := hid hi2
  clear hr1 hr2 hw2 hi1 hi2 hBG HT4 hlc
  go_wp2_with fail
  refine HW2.out.mono ?_
  clear HW2
  rintro e wH ⟨v3, v4, rfl, hr3, hr4, hBH⟩
  have HTh := hid (HTg.out.grow hBH)
  obtain ⟨p3, c3, rfl, hi3⟩ := ints_of_row hr3
  have hlc : (waitKeys S2.waits S2.safe.length).length = (waitCounts S2.waits S2.safe.length).length := by simp [waitCounts]
  rw [hlc] at hr4
  obtain ⟨p4, c4, rfl, hi4⟩ := ints_of_row hr4
  have HI1h := hid (HI1.out.below hBH)
  have HI2h := hid (HI2.out.below hBH)
  have HI3 := hid hi3
  have HI4 := hid hi4
  clear hr3 hr4 hi3 hi4 hBH HTg HI1 HI2 hlc
  have q1 : wH.cell? ⟨w.heap.size, 1, none⟩ = some (.int .i64 n1) := cell_of_block HTh.out.hx 1
  have q2 : wH.cell? ⟨w.heap.size + 1, 1, none⟩ = some (.int .i64 n2) := cell_of_block HTh.out.hy 1
  by_cases hN : n1 = n2
  · subst hN
    go_wp2
    go_ret
    exact ⟨rfl, HTh.out.below⟩
  · have hNe : (n1 == n2) = false := by simpa using hN
    obtain ⟨t1, t2, t3⟩ := HTold.out hN
    have hs := same_disks dn2 dn4 S1 S2 wH HTh.out.D2 HTh.out.D1
    rw [HE2.out, HE4.out, decide_eq_true t1] at hs
    have HS := hid hs
    have hl2 : (waitKeys S2.waits S2.safe.length).length < 4611686018427387904 := by
      have := length_waitKeys S2.waits S2.safe.length
      have := HTh.out.D1.plates.most
      omega
    have hlc2 : (waitCounts S2.waits S2.safe.length).length < 4611686018427387904 := by simpa [waitCounts] using hl2
    have HB := hid HTh.out.below
    rw [t2] at HI1h ⊢
    rw [t3] at HI2h ⊢
    generalize waitKeys S2.waits S2.safe.length = ks at *
    generalize waitCounts S2.waits S2.safe.length = cs at *
    clear t1 t2 t3 hs HTold hN HTh HO1 HO2
    go_wp2_with fail
    refine HS.out.mono ?_
    clear HS
    rintro e wI ⟨rfl, hBI⟩
    have hk1 := same_ints ks ks p1 p3 c1 c3 wI (HI1h.out.below hBI) (HI3.out.below hBI) hl2
    rw [decide_eq_true rfl] at hk1
    have HK1 := hid hk1
    have HI2i := hid (HI2h.out.below hBI)
    have HI4i := hid (HI4.out.below hBI)
    have HBI := hid (HB.out.trans (hBI.mono HB.out.size))
    clear hk1 hBI HI1h HI3 HI2h HI4 HB
    go_wp2_with fail
    refine HK1.out.mono ?_
    clear HK1
    rintro e wJ ⟨rfl, hBJ⟩
    have hk2 := same_ints cs cs p2 p4 c2 c4 wJ (HI2i.out.below hBJ) (HI4i.out.below hBJ) hlc2
    rw [decide_eq_true rfl] at hk2
    have HK2 := hid hk2
    have HBJ := hid (HBI.out.trans (hBJ.mono HBI.out.size))
    clear hk2 hBJ HI2i HI4i HBI
    go_wp2_with fail
    refine HK2.out.mono ?_
    clear HK2
    rintro e wK ⟨rfl, hBK⟩
    have HBK := hid (HBJ.out.trans (hBK.mono HBJ.out.size))
    clear hBK HBJ
    go_wp2
    go_ret
    exact ⟨rfl, HBK.out⟩
end Go.Proofs.Ytpdpmcibeliocab
