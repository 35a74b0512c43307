/- The walk of TopSums. -/
import Derived.Test.YtabpfneihihmaaaDoorSumsPlain
namespace Go.Proofs.YtabpfneihihmaaaDoor
open Go.RowKit
set_option maxRecDepth 100000 in
set_option maxHeartbeats 4000000 in
theorem topSums_walk (xs ys : List UInt8) (va vb : Value) (n : Int) (n0 : 0 ≤ n) (n1 : n ≤ 255) (w : World) (hK : Sh.Kat w) (hS : Sh.Sat w) (hC : Sh.Cat w) (ha : Sh.Bytes w va xs) (hb : Sh.Bytes w vb ys) :
    Calls Tryd.prog 3 #[va, vb, .int .u8 n] w fun e w' => e = .returned (.bool true) ∧ Below w.heap.size w w' := by
  have hsz2 := hK.lt
  have HA := hid ha
  have HBb := hid hb
  have HK := hid hK
  have HS := hid hS
  have HC := hid hC
  clear ha hb hK hS hC
  go_enter Tryd.func3, Tryd.ntmps3
  go_wp2_with fail
  refine (new_disk 6 (by omega) (by omega) _).mono ?_
  rintro e w1 ⟨d, rfl, hD, hF, hFv, hB⟩
  have HD : Hid (DiskIn w1 d topS0) := hD
  have HF : Hid (∀ i, d.foot topS0.waits i → w.heap.size ≤ i) := hF
  have HB := hid hB
  have hsz1 := hB.size
  obtain ⟨B1, hB1⟩ : ∃ B1, B1 = w1.heap.size := ⟨_, rfl⟩
  have HFl : Hid (∀ i, d.foot topS0.waits i → i < B1) := fun i hi => by rw [hB1]; exact hD.foot_lt hi
  have HFv : Hid (∀ i, d.fv.ownBlock = some i → i < B1) := fun i hi => by rw [hB1]; exact hD.fv_lt hi
  obtain ⟨m1, m2, m3, m4⟩ := new2 w1 (.cells zcells 5) (.cells zcells 5)
  have HR1 : Hid (ownRow ((w1.alloc (.cells zcells 5)).alloc (.cells zcells 5)) w1.heap.size zerosL) := ⟨length_zerosL, m1⟩
  have HR2 : Hid (ownRow ((w1.alloc (.cells zcells 5)).alloc (.cells zcells 5)) (w1.heap.size + 1) zerosL) := ⟨length_zerosL, m2⟩
  have HBm := hid m3
  clear hD hF hFv hB m1 m2 m3 m4
  go_wp2
  refine wp_region_noPanic ?_
  refine wp_region_held_drew (S := fun W => True) (by kernel_rfl) trivial (fun hHeld => ?_)
  refine wpAnyH_ready (rs := [0, 1]) (by kernel_rfl) (by simp) (AllReadyH.cons rfl (fun K hK => ?_) (AllReadyH.cons rfl (fun K hK => ?_) AllReadyH.nil))
  · rw [if_pos (by rfl)]
    refine wp_mk_row (.const (.int .i64 512)) (.const (.int .i64 512)) rfl rfl rfl w1.heap.size rfl ?_
    refine hK.out _ _ trivial (fun hHeld => ?_)
    clear hK K
    try simp only [List.getElem_toArray, List.getElem_cons_zero, Act.put, List.setIfInBounds_toArray, List.set_cons_zero, List.set_cons_succ]
    refine wpAnyH_ready (rs := [1, 2]) (by kernel_rfl) (by simp) (AllReadyH.cons rfl (fun K hK => ?_) (AllReadyH.cons rfl (fun K hK => ?_) AllReadyH.nil))
    · rw [if_pos (by rfl)]
      refine wp_mk_row (.const (.int .i64 512)) (.const (.int .i64 512)) rfl rfl rfl (w1.heap.size + 1) (by simp) ?_
      refine hK.out _ _ trivial (fun hHeld => ?_)
      clear hK K
      try simp only [List.getElem_toArray, List.getElem_cons_succ, List.getElem_cons_zero, Act.put, List.setIfInBounds_toArray, List.set_cons_zero, List.set_cons_succ]
      refine wpAnyH_ready (rs := [2]) (by kernel_rfl) (by simp) (AllReadyH.cons rfl (fun K hK => ?_) AllReadyH.nil)
      rw [if_pos (by rfl)]
      unfold Oper.wp
      go_simp
      refine hK.out _ _ trivial (fun hHeld => ?_)
      clear hK K
      try simp only [List.getElem_toArray, List.getElem_cons_succ, List.getElem_cons_zero, Act.put, List.setIfInBounds_toArray, List.set_cons_zero, List.set_cons_succ]
      refine wpAnyH_ready (rs := [3]) (by kernel_rfl) (by simp) (AllReadyH.cons rfl (fun K hK => ?_) AllReadyH.nil)
      rw [if_pos (by rfl)]
      unfold Oper.wp
      go_simp
      refine hK.out _ _ trivial (fun hHeld => ?_)
      clear hK K
      try simp only [List.getElem_toArray, List.getElem_cons_succ, List.getElem_cons_zero, Act.put, List.setIfInBounds_toArray, List.set_cons_zero, List.set_cons_succ]
      refine wpAnyH_done (by kernel_rfl) ?_ _
      refine NoPanic.normal ?_
      have HX : Hid (ownRow ((w1.alloc (.cells zcells 5)).alloc (.cells zcells 5)).drew w1.heap.size zerosL) := HR1.out
      have HY : Hid (ownRow ((w1.alloc (.cells zcells 5)).alloc (.cells zcells 5)).drew (w1.heap.size + 1) zerosL) := HR2.out
      have HD2 := hid (HD.out.below (w' := ((w1.alloc (.cells zcells 5)).alloc (.cells zcells 5)).drew) HBm.out.drew)
      have HB2 := hid (HB.out.trans (HBm.out.drew.mono hsz1))
      have lx : B1 ≤ w1.heap.size := by omega
      have ly : B1 ≤ w1.heap.size + 1 := by omega
      have hne : w1.heap.size ≠ w1.heap.size + 1 := by omega
      have hB1w : w.heap.size ≤ B1 := by omega
      clear HR1 HR2 HBm HD HB hB1
      generalize ((w1.alloc (.cells zcells 5)).alloc (.cells zcells 5)).drew = w2 at *
      generalize hgx : w1.heap.size + 1 = yb at *
      generalize hgy : w1.heap.size = bx at *
      clear hgx hgy
      go_wp2_with (first
        | (refine wpList_copy_row rfl (.tmp 31) (.tmp 32) rfl bx zerosL xs va rfl rfl HX.out (HA.out.up HB2.out) ?_; intro r3 w3 hr3 hk3; have HX3 := hid hr3; have HK3 := hid hk3; have HY3 := hid (HY.out.keep hk3 (fun e => hne e.symm)); have HB3 := hid (HB2.out.trans (hk3.below HB2.out.size (fun i e => by subst e; omega))); have HD3 := hid (HD2.out.keep hk3 (fun i hi e => by have := HFl.out i hi; omega) (fun i hi e => by have := HFv.out i hi; omega)); clear hr3 hk3 HX HY HD2)
        | (refine wpList_copy_row rfl (.tmp 34) (.tmp 35) rfl yb zerosL ys vb rfl rfl HY3.out (HBb.out.up HB3.out) ?_; intro r4 w4 hr4 hk4; have HY4 := hid hr4; have HX4 := hid (HX3.out.keep hk4 (fun e => hne e)); have HB4 := hid (HB3.out.trans (hk4.below HB3.out.size (fun i e => by subst e; omega))); have HD4 := hid (HD3.out.keep hk4 (fun i hi e => by have := HFl.out i hi; omega) (fun i hi e => by have := HFv.out i hi; omega)); clear hr4 hk4 HX3 HY3 HD3))
      have hX : (List.take 512 xs ++ List.drop (min xs.length 512) zerosL).length = 512 := HX4.out.1
      have hY : (List.take 512 ys ++ List.drop (min ys.length 512) zerosL).length = 512 := HY4.out.1
      generalize List.take 512 xs ++ List.drop (min xs.length 512) zerosL = X at *
      generalize List.take 512 ys ++ List.drop (min ys.length 512) zerosL = Y at *
      have HX0 := hid hX
      have HY0 := hid hY
      clear hX hY
      have hk0 : 0 ≤ n % 6 := by omega
      have hk1 : n % 6 < 6 := by omega
      generalize n % 6 = k at *
      have hw4 := write_any d topS0 k X ⟨bx, 0, none⟩ 512 512 w4 HD4.out (by rw [topS0_ops]; decide) HX0.out HX4.out.at
      rw [errW_ok hk0 (by rw [topS0_safe]; exact hk1) HX0.out] at hw4
      have HW4 := hid hw4
      have HOx := hid (HX4.out.off HD4.out)
      have HOy := hid (HY4.out.off HD4.out)
      clear hw4
      refine HW4.out.mono ?_
      clear HW4
      rintro e w5 ⟨rfl, d5, hD5, e5, -, hf5, hK5⟩
      have HX5 := hid (HX4.out.keep hK5 HOx.out)
      have HY5 := hid (HY4.out.keep hK5 HOy.out)
      have HF5 : Hid (∀ i, d5.foot (topS0.put k X).waits i → w.heap.size ≤ i) := fun i hi => (hf5 i hi).elim (HF.out i) (fun h => Nat.le_trans HB4.out.size h)
      have HB5 := hid (HB4.out.trans (hK5.below HB4.out.size (fun i e => HF.out i e)))
      have HD5 := hid hD5
      have HOx5 := hid (HX5.out.off hD5)
      have HOy5 := hid (HY5.out.off hD5)
      have hw5 := flush_disk d5 (topS0.put k X) w5 hD5 (Nat.lt_of_le_of_lt (put_ops _ _ _) (by rw [topS0_ops]; decide))
      rw [e5] at hw5
      have HW5 := hid hw5
      clear hw5 hD5 e5 hf5 hK5 HX4 HY4 HD4 HOx HOy HF HB4
      go_wp2_with fail
      refine HW5.out.mono ?_
      clear HW5
      rintro e w6 ⟨rfl, d6, hD6, e6, -, hf6, hK6⟩
      have HX6 := hid (HX5.out.keep hK6 HOx5.out)
      have HY6 := hid (HY5.out.keep hK6 HOy5.out)
      have HF6 : Hid (∀ i, d6.foot (topS2 k X).waits i → w.heap.size ≤ i) := fun i hi => (hf6 i hi).elim (HF5.out i) (fun h => Nat.le_trans HB5.out.size h)
      have HB6 := hid (HB5.out.trans (hK6.below HB5.out.size (fun i e => HF5.out i e)))
      have HD6 : Hid (DiskIn w6 d6 (topS2 k X)) := hD6
      have HOx6 := hid (HX6.out.off HD6.out)
      have HOy6 := hid (HY6.out.off HD6.out)
      have hw6 := write_any d6 (topS2 k X) k Y ⟨yb, 0, none⟩ 512 512 w6 HD6.out (Nat.lt_of_le_of_lt topS2_ops (by decide)) HY0.out HY6.out.at
      rw [errW_ok hk0 (by rw [topS2_len]; exact hk1) HY0.out, e6] at hw6
      have HW6 := hid hw6
      clear hw6 hD6 e6 hf6 hK6 HX5 HY5 HD5 HOx5 HOy5 HF5 HB5
      go_wp2_with fail
      refine HW6.out.mono ?_
      clear HW6
      rintro e w7 ⟨rfl, d7, hD7, e7, -, hf7, hK7⟩
      have HX7 := hid (HX6.out.keep hK7 HOx6.out)
      have HY7 := hid (HY6.out.keep hK7 HOy6.out)
      have HB7 := hid (HB6.out.trans (hK7.below HB6.out.size (fun i e => HF6.out i e)))
      have HD7 : Hid (DiskIn w7 d7 (topS3 k X Y)) := hD7
      have HOps : Hid ((topS3 k X Y).ops.length ≤ opsMax) := Nat.le_trans topS3_ops (by decide)
      have HG0 := hid (topS3_good0 (k := k) (X := X) (Y := Y))
      have HG1 := hid (topS3_good1 (X := X) hk0 hk1 HY0.out)
      have HL0 := hid (topC0_len (k := k) (X := X) (Y := Y))
      have HL1 := hid (topC1_len (k := k) (X := X) (Y := Y))
      have HS0 := hid (topC0_seen (Y := Y) hk0 hk1 HX0.out)
      have HS1 := hid (topC1_seen (X := X) hk0 hk1 HY0.out)
      have hw7 := crash_any d7 (topS3 k X Y) [] none 0 w7 HD7.out HOps.out (by decide) (fun j hj => by simp at hj)
      rw [e7] at hw7
      have HW7 := hid hw7
      have HP7 := hid e7
      clear hw7 e7 hD7 hf7 hK7 HX6 HY6 HD6 HOx6 HOy6 HF6 HB6
      go_wp2_with fail
      refine HW7.out.mono ?_
      clear HW7
      rintro e w8 ⟨hb8, h8⟩
      rcases h8 with ⟨hbad, -⟩ | ⟨-, d8, rfl, hD8, -, -⟩
      · exact absurd HG0.out hbad
      have HD8 : Hid (DiskIn w8 d8 (topC0 k X Y)) := hD8
      have HX8 := hid (HX7.out.below hb8)
      have HY8 := hid (HY7.out.below hb8)
      have HD78 := hid (HD7.out.below hb8)
      have HB8 := hid (HB7.out.trans (hb8.mono HB7.out.size))
      clear hb8 hD8 HX7 HY7 HD7 HB7
      by_cases h128 : 128 ≤ n
      · have HDA := hid (HD78.out.below ((Below.refl w8.heap.size w8).alloc (Nat.le_refl _) (.cells #[.int .i64 1] 3)))
        have HYA := hid (HY8.out.below ((Below.refl w8.heap.size w8).alloc (Nat.le_refl _) (.cells #[.int .i64 1] 3)))
        have HBA := hid (HB8.out.trans (((Below.refl w8.heap.size w8).alloc (Nat.le_refl _) (.cells #[.int .i64 1] 3)).mono HB8.out.size))
        have hw8 := crash_any d7 (topS3 k X Y) [1] (some ⟨w8.heap.size, 0, none⟩) 1 (w8.alloc (.cells #[.int .i64 1] 3)) HDA.out HOps.out (by decide) (fun j hj => ⟨w8.heap.size, 0, rfl, fun i hi => by
          obtain rfl : i = 0 := by simp at hi; omega
          rw [cell_of_block (block_new w8 _)]; rfl⟩)
        rw [HP7.out] at hw8
        have HW8 := hid hw8
        clear hw8 HD78 HX8 HY8
        go_wp2_with fail
        refine HW8.out.mono ?_
        clear HW8
        rintro e w9 ⟨hb9, h9⟩
        rcases h9 with ⟨hbad, -⟩ | ⟨-, d9, rfl, hD9, -, -⟩
        · exact absurd HG1.out hbad
        have HD9 : Hid (DiskIn w9 d9 (topC1 k X Y)) := hD9
        have HY9 := hid (HYA.out.below hb9)
        have HB9 := hid (HBA.out.trans (hb9.mono HBA.out.size))
        clear hb9 hD9 HYA HDA HBA
        have hr9 := read_cap d9 (topC1 k X Y) k w9 HD9.out hk0 (by rw [HL1.out]; exact hk1)
        rw [HS1.out, show ByteArray.size ⟨Array.mk Y⟩ = 512 from HY0.out] at hr9
        have HW9 := hid hr9
        have heq : ∀ W, (Op.equalIn 10000 33 (.agg ((Sh.sumS Y).map Sh.B).toArray) (.agg ((Sh.sumS Y).map Sh.B).toArray)).run Tryd.prog W = .ok true W := fun W => by rw [Sh.run_eq32 _ _ (Sh.length_sumS Y) (Sh.length_sumS Y) W]; simp
        clear hr9
        go_wp2_with fail
        refine HW9.out.mono ?_
        clear HW9
        rintro e wa ⟨gb, gc, rfl, hgc, hgb, hat, hba⟩
        have HGa : Hid (Sh.Bytes wa (.slice (some ⟨gb, 0, none⟩) 512 gc) Y) := by
          have := bytes_of_at (s := ⟨Array.mk Y⟩) (l := Y) hat rfl (by rw [show ByteArray.size ⟨Array.mk Y⟩ = 512 from HY0.out]; exact hgc)
          rw [show ByteArray.size ⟨Array.mk Y⟩ = 512 from HY0.out] at this
          exact this
        have HRa := hid (HY9.out.below hba)
        have HBa := hid (HB9.out.trans (hba.mono HB9.out.size))
        have hlt : Y.length < 4611686018427387904 := by rw [HY0.out]; decide
        have hlt2 : Y.length < 576460752303423488 := by rw [HY0.out]; decide
        have HLt := hid hlt
        have HLt2 := hid hlt2
        clear hlt hlt2 hat hba
        go_wp2_with fail
        refine (Sh.sum_any Y _ wa (HK.out.below HBa.out hsz2) (HS.out.below HBa.out (by omega)) HGa.out HLt2.out).mono ?_
        rintro e wb ⟨rfl, hbb⟩
        have HBb2 := hid (HBa.out.trans (hbb.mono HBa.out.size))
        have HGb := hid (HGa.out.up hbb)
        have HRb := hid (HRa.out.below hbb)
        clear hbb
        go_wp2_with fail
        refine (Sh.sum_any Y _ wb (HK.out.below HBb2.out hsz2) (HS.out.below HBb2.out (by omega)) HRb.out.bytes HLt2.out).mono ?_
        rintro e wc ⟨rfl, hbc⟩
        have HBc := hid (HBb2.out.trans (hbc.mono HBb2.out.size))
        have HGc := hid (HGb.out.up hbc)
        have HRc := hid (HRb.out.below hbc)
        clear hbc
        go_wp2_with fail
        refine (Sh.crc_any Y _ wc (HC.out.below HBc.out (by omega)) HGc.out HLt.out).mono ?_
        rintro e wd ⟨rfl, hed⟩
        obtain rfl := hed.symm
        go_wp2_with fail
        refine (Sh.crc_any Y _ wc (HC.out.below HBc.out (by omega)) HRc.out.bytes HLt.out).mono ?_
        rintro e wd ⟨rfl, hed⟩
        obtain rfl := hed.symm
        go_wp2
        go_ret
        exact ⟨rfl, HBc.out⟩
      · have hr9 := read_cap d8 (topC0 k X Y) k w8 HD8.out hk0 (by rw [HL0.out]; exact hk1)
        rw [HS0.out, show ByteArray.size ⟨Array.mk X⟩ = 512 from HX0.out] at hr9
        have HW9 := hid hr9
        have heq : ∀ W, (Op.equalIn 10000 33 (.agg ((Sh.sumS X).map Sh.B).toArray) (.agg ((Sh.sumS X).map Sh.B).toArray)).run Tryd.prog W = .ok true W := fun W => by rw [Sh.run_eq32 _ _ (Sh.length_sumS X) (Sh.length_sumS X) W]; simp
        clear hr9
        go_wp2_with fail
        refine HW9.out.mono ?_
        clear HW9
        rintro e wa ⟨gb, gc, rfl, hgc, hgb, hat, hba⟩
        have HGa : Hid (Sh.Bytes wa (.slice (some ⟨gb, 0, none⟩) 512 gc) X) := by
          have := bytes_of_at (s := ⟨Array.mk X⟩) (l := X) hat rfl (by rw [show ByteArray.size ⟨Array.mk X⟩ = 512 from HX0.out]; exact hgc)
          rw [show ByteArray.size ⟨Array.mk X⟩ = 512 from HX0.out] at this
          exact this
        have HRa := hid (HX8.out.below hba)
        have HBa := hid (HB8.out.trans (hba.mono HB8.out.size))
        have hlt : X.length < 4611686018427387904 := by rw [HX0.out]; decide
        have hlt2 : X.length < 576460752303423488 := by rw [HX0.out]; decide
        have HLt := hid hlt
        have HLt2 := hid hlt2
        clear hlt hlt2 hat hba
        go_wp2_with fail
        refine (Sh.sum_any X _ wa (HK.out.below HBa.out hsz2) (HS.out.below HBa.out (by omega)) HGa.out HLt2.out).mono ?_
        rintro e wb ⟨rfl, hbb⟩
        have HBb2 := hid (HBa.out.trans (hbb.mono HBa.out.size))
        have HGb := hid (HGa.out.up hbb)
        have HRb := hid (HRa.out.below hbb)
        clear hbb
        go_wp2_with fail
        refine (Sh.sum_any X _ wb (HK.out.below HBb2.out hsz2) (HS.out.below HBb2.out (by omega)) HRb.out.bytes HLt2.out).mono ?_
        rintro e wc ⟨rfl, hbc⟩
        have HBc := hid (HBb2.out.trans (hbc.mono HBb2.out.size))
        have HGc := hid (HGb.out.up hbc)
        have HRc := hid (HRb.out.below hbc)
        clear hbc
        go_wp2_with fail
        refine (Sh.crc_any X _ wc (HC.out.below HBc.out (by omega)) HGc.out HLt.out).mono ?_
        rintro e wd ⟨rfl, hed⟩
        obtain rfl := hed.symm
        go_wp2_with fail
        refine (Sh.crc_any X _ wc (HC.out.below HBc.out (by omega)) HRc.out.bytes HLt.out).mono ?_
        rintro e wd ⟨rfl, hed⟩
        obtain rfl := hed.symm
        go_wp2
        go_ret
        exact ⟨rfl, HBc.out⟩
    · rw [if_pos (by rfl)]
      unfold Oper.wp
      go_simp
      refine hK.out _ _ trivial (fun hHeld => ?_)
      clear hK K
      try simp only [List.getElem_toArray, List.getElem_cons_succ, List.getElem_cons_zero, Act.put, List.setIfInBounds_toArray, List.set_cons_zero, List.set_cons_succ]
      refine wpAnyH_ready (rs := [1]) (by kernel_rfl) (by simp) (AllReadyH.cons rfl (fun K hK => ?_) AllReadyH.nil)
      rw [if_pos (by rfl)]
      refine wp_mk_row (.const (.int .i64 512)) (.const (.int .i64 512)) rfl rfl rfl (w1.heap.size + 1) (by simp) ?_
      refine hK.out _ _ trivial (fun hHeld => ?_)
      clear hK K
      try simp only [List.getElem_toArray, List.getElem_cons_succ, List.getElem_cons_zero, Act.put, List.setIfInBounds_toArray, List.set_cons_zero, List.set_cons_succ]
      refine wpAnyH_ready (rs := [3]) (by kernel_rfl) (by simp) (AllReadyH.cons rfl (fun K hK => ?_) AllReadyH.nil)
      rw [if_pos (by rfl)]
      unfold Oper.wp
      go_simp
      refine hK.out _ _ trivial (fun hHeld => ?_)
      clear hK K
      try simp only [List.getElem_toArray, List.getElem_cons_succ, List.getElem_cons_zero, Act.put, List.setIfInBounds_toArray, List.set_cons_zero, List.set_cons_succ]
      refine wpAnyH_done (by kernel_rfl) ?_ _
      refine NoPanic.normal ?_
      have HX : Hid (ownRow ((w1.alloc (.cells zcells 5)).alloc (.cells zcells 5)).drew w1.heap.size zerosL) := HR1.out
      have HY : Hid (ownRow ((w1.alloc (.cells zcells 5)).alloc (.cells zcells 5)).drew (w1.heap.size + 1) zerosL) := HR2.out
      have HD2 := hid (HD.out.below (w' := ((w1.alloc (.cells zcells 5)).alloc (.cells zcells 5)).drew) HBm.out.drew)
      have HB2 := hid (HB.out.trans (HBm.out.drew.mono hsz1))
      have lx : B1 ≤ w1.heap.size := by omega
      have ly : B1 ≤ w1.heap.size + 1 := by omega
      have hne : w1.heap.size ≠ w1.heap.size + 1 := by omega
      have hB1w : w.heap.size ≤ B1 := by omega
      clear HR1 HR2 HBm HD HB hB1
      generalize ((w1.alloc (.cells zcells 5)).alloc (.cells zcells 5)).drew = w2 at *
      generalize hgx : w1.heap.size + 1 = yb at *
      generalize hgy : w1.heap.size = bx at *
      clear hgx hgy
      go_wp2_with (first
        | (refine wpList_copy_row rfl (.tmp 31) (.tmp 32) rfl bx zerosL xs va rfl rfl HX.out (HA.out.up HB2.out) ?_; intro r3 w3 hr3 hk3; have HX3 := hid hr3; have HK3 := hid hk3; have HY3 := hid (HY.out.keep hk3 (fun e => hne e.symm)); have HB3 := hid (HB2.out.trans (hk3.below HB2.out.size (fun i e => by subst e; omega))); have HD3 := hid (HD2.out.keep hk3 (fun i hi e => by have := HFl.out i hi; omega) (fun i hi e => by have := HFv.out i hi; omega)); clear hr3 hk3 HX HY HD2)
        | (refine wpList_copy_row rfl (.tmp 34) (.tmp 35) rfl yb zerosL ys vb rfl rfl HY3.out (HBb.out.up HB3.out) ?_; intro r4 w4 hr4 hk4; have HY4 := hid hr4; have HX4 := hid (HX3.out.keep hk4 (fun e => hne e)); have HB4 := hid (HB3.out.trans (hk4.below HB3.out.size (fun i e => by subst e; omega))); have HD4 := hid (HD3.out.keep hk4 (fun i hi e => by have := HFl.out i hi; omega) (fun i hi e => by have := HFv.out i hi; omega)); clear hr4 hk4 HX3 HY3 HD3))
      have hX : (List.take 512 xs ++ List.drop (min xs.length 512) zerosL).length = 512 := HX4.out.1
      have hY : (List.take 512 ys ++ List.drop (min ys.length 512) zerosL).length = 512 := HY4.out.1
      generalize List.take 512 xs ++ List.drop (min xs.length 512) zerosL = X at *
      generalize List.take 512 ys ++ List.drop (min ys.length 512) zerosL = Y at *
      have HX0 := hid hX
      have HY0 := hid hY
      clear hX hY
      have hk0 : 0 ≤ n % 6 := by omega
      have hk1 : n % 6 < 6 := by omega
      generalize n % 6 = k at *
      have hw4 := write_any d topS0 k X ⟨bx, 0, none⟩ 512 512 w4 HD4.out (by rw [topS0_ops]; decide) HX0.out HX4.out.at
      rw [errW_ok hk0 (by rw [topS0_safe]; exact hk1) HX0.out] at hw4
      have HW4 := hid hw4
      have HOx := hid (HX4.out.off HD4.out)
      have HOy := hid (HY4.out.off HD4.out)
      clear hw4
      refine HW4.out.mono ?_
      clear HW4
      rintro e w5 ⟨rfl, d5, hD5, e5, -, hf5, hK5⟩
      have HX5 := hid (HX4.out.keep hK5 HOx.out)
      have HY5 := hid (HY4.out.keep hK5 HOy.out)
      have HF5 : Hid (∀ i, d5.foot (topS0.put k X).waits i → w.heap.size ≤ i) := fun i hi => (hf5 i hi).elim (HF.out i) (fun h => Nat.le_trans HB4.out.size h)
      have HB5 := hid (HB4.out.trans (hK5.below HB4.out.size (fun i e => HF.out i e)))
      have HD5 := hid hD5
      have HOx5 := hid (HX5.out.off hD5)
      have HOy5 := hid (HY5.out.off hD5)
      have hw5 := flush_disk d5 (topS0.put k X) w5 hD5 (Nat.lt_of_le_of_lt (put_ops _ _ _) (by rw [topS0_ops]; decide))
      rw [e5] at hw5
      have HW5 := hid hw5
      clear hw5 hD5 e5 hf5 hK5 HX4 HY4 HD4 HOx HOy HF HB4
      go_wp2_with fail
      refine HW5.out.mono ?_
      clear HW5
      rintro e w6 ⟨rfl, d6, hD6, e6, -, hf6, hK6⟩
      have HX6 := hid (HX5.out.keep hK6 HOx5.out)
      have HY6 := hid (HY5.out.keep hK6 HOy5.out)
      have HF6 : Hid (∀ i, d6.foot (topS2 k X).waits i → w.heap.size ≤ i) := fun i hi => (hf6 i hi).elim (HF5.out i) (fun h => Nat.le_trans HB5.out.size h)
      have HB6 := hid (HB5.out.trans (hK6.below HB5.out.size (fun i e => HF5.out i e)))
      have HD6 : Hid (DiskIn w6 d6 (topS2 k X)) := hD6
      have HOx6 := hid (HX6.out.off HD6.out)
      have HOy6 := hid (HY6.out.off HD6.out)
      have hw6 := write_any d6 (topS2 k X) k Y ⟨yb, 0, none⟩ 512 512 w6 HD6.out (Nat.lt_of_le_of_lt topS2_ops (by decide)) HY0.out HY6.out.at
      rw [errW_ok hk0 (by rw [topS2_len]; exact hk1) HY0.out, e6] at hw6
      have HW6 := hid hw6
      clear hw6 hD6 e6 hf6 hK6 HX5 HY5 HD5 HOx5 HOy5 HF5 HB5
      go_wp2_with fail
      refine HW6.out.mono ?_
      clear HW6
      rintro e w7 ⟨rfl, d7, hD7, e7, -, hf7, hK7⟩
      have HX7 := hid (HX6.out.keep hK7 HOx6.out)
      have HY7 := hid (HY6.out.keep hK7 HOy6.out)
      have HB7 := hid (HB6.out.trans (hK7.below HB6.out.size (fun i e => HF6.out i e)))
      have HD7 : Hid (DiskIn w7 d7 (topS3 k X Y)) := hD7
      have HOps : Hid ((topS3 k X Y).ops.length ≤ opsMax) := Nat.le_trans topS3_ops (by decide)
      have HG0 := hid (topS3_good0 (k := k) (X := X) (Y := Y))
      have HG1 := hid (topS3_good1 (X := X) hk0 hk1 HY0.out)
      have HL0 := hid (topC0_len (k := k) (X := X) (Y := Y))
      have HL1 := hid (topC1_len (k := k) (X := X) (Y := Y))
      have HS0 := hid (topC0_seen (Y := Y) hk0 hk1 HX0.out)
      have HS1 := hid (topC1_seen (X := X) hk0 hk1 HY0.out)
      have hw7 := crash_any d7 (topS3 k X Y) [] none 0 w7 HD7.out HOps.out (by decide) (fun j hj => by simp at hj)
      rw [e7] at hw7
      have HW7 := hid hw7
      have HP7 := hid e7
      clear hw7 e7 hD7 hf7 hK7 HX6 HY6 HD6 HOx6 HOy6 HF6 HB6
      go_wp2_with fail
      refine HW7.out.mono ?_
      clear HW7
      rintro e w8 ⟨hb8, h8⟩
      rcases h8 with ⟨hbad, -⟩ | ⟨-, d8, rfl, hD8, -, -⟩
      · exact absurd HG0.out hbad
      have HD8 : Hid (DiskIn w8 d8 (topC0 k X Y)) := hD8
      have HX8 := hid (HX7.out.below hb8)
      have HY8 := hid (HY7.out.below hb8)
      have HD78 := hid (HD7.out.below hb8)
      have HB8 := hid (HB7.out.trans (hb8.mono HB7.out.size))
      clear hb8 hD8 HX7 HY7 HD7 HB7
      by_cases h128 : 128 ≤ n
      · have HDA := hid (HD78.out.below ((Below.refl w8.heap.size w8).alloc (Nat.le_refl _) (.cells #[.int .i64 1] 3)))
        have HYA := hid (HY8.out.below ((Below.refl w8.heap.size w8).alloc (Nat.le_refl _) (.cells #[.int .i64 1] 3)))
        have HBA := hid (HB8.out.trans (((Below.refl w8.heap.size w8).alloc (Nat.le_refl _) (.cells #[.int .i64 1] 3)).mono HB8.out.size))
        have hw8 := crash_any d7 (topS3 k X Y) [1] (some ⟨w8.heap.size, 0, none⟩) 1 (w8.alloc (.cells #[.int .i64 1] 3)) HDA.out HOps.out (by decide) (fun j hj => ⟨w8.heap.size, 0, rfl, fun i hi => by
          obtain rfl : i = 0 := by simp at hi; omega
          rw [cell_of_block (block_new w8 _)]; rfl⟩)
        rw [HP7.out] at hw8
        have HW8 := hid hw8
        clear hw8 HD78 HX8 HY8
        go_wp2_with fail
        refine HW8.out.mono ?_
        clear HW8
        rintro e w9 ⟨hb9, h9⟩
        rcases h9 with ⟨hbad, -⟩ | ⟨-, d9, rfl, hD9, -, -⟩
        · exact absurd HG1.out hbad
        have HD9 : Hid (DiskIn w9 d9 (topC1 k X Y)) := hD9
        have HY9 := hid (HYA.out.below hb9)
        have HB9 := hid (HBA.out.trans (hb9.mono HBA.out.size))
        clear hb9 hD9 HYA HDA HBA
        have hr9 := read_cap d9 (topC1 k X Y) k w9 HD9.out hk0 (by rw [HL1.out]; exact hk1)
        rw [HS1.out, show ByteArray.size ⟨Array.mk Y⟩ = 512 from HY0.out] at hr9
        have HW9 := hid hr9
        have heq : ∀ W, (Op.equalIn 10000 33 (.agg ((Sh.sumS Y).map Sh.B).toArray) (.agg ((Sh.sumS Y).map Sh.B).toArray)).run Tryd.prog W = .ok true W := fun W => by rw [Sh.run_eq32 _ _ (Sh.length_sumS Y) (Sh.length_sumS Y) W]; simp
        clear hr9
        go_wp2_with fail
        refine HW9.out.mono ?_
        clear HW9
        rintro e wa ⟨gb, gc, rfl, hgc, hgb, hat, hba⟩
        have HGa : Hid (Sh.Bytes wa (.slice (some ⟨gb, 0, none⟩) 512 gc) Y) := by
          have := bytes_of_at (s := ⟨Array.mk Y⟩) (l := Y) hat rfl (by rw [show ByteArray.size ⟨Array.mk Y⟩ = 512 from HY0.out]; exact hgc)
          rw [show ByteArray.size ⟨Array.mk Y⟩ = 512 from HY0.out] at this
          exact this
        have HRa := hid (HY9.out.below hba)
        have HBa := hid (HB9.out.trans (hba.mono HB9.out.size))
        have hlt : Y.length < 4611686018427387904 := by rw [HY0.out]; decide
        have hlt2 : Y.length < 576460752303423488 := by rw [HY0.out]; decide
        have HLt := hid hlt
        have HLt2 := hid hlt2
        clear hlt hlt2 hat hba
        go_wp2_with fail
        refine (Sh.sum_any Y _ wa (HK.out.below HBa.out hsz2) (HS.out.below HBa.out (by omega)) HGa.out HLt2.out).mono ?_
        rintro e wb ⟨rfl, hbb⟩
        have HBb2 := hid (HBa.out.trans (hbb.mono HBa.out.size))
        have HGb := hid (HGa.out.up hbb)
        have HRb := hid (HRa.out.below hbb)
        clear hbb
        go_wp2_with fail
        refine (Sh.sum_any Y _ wb (HK.out.below HBb2.out hsz2) (HS.out.below HBb2.out (by omega)) HRb.out.bytes HLt2.out).mono ?_
        rintro e wc ⟨rfl, hbc⟩
        have HBc := hid (HBb2.out.trans (hbc.mono HBb2.out.size))
        have HGc := hid (HGb.out.up hbc)
        have HRc := hid (HRb.out.below hbc)
        clear hbc
        go_wp2_with fail
        refine (Sh.crc_any Y _ wc (HC.out.below HBc.out (by omega)) HGc.out HLt.out).mono ?_
        rintro e wd ⟨rfl, hed⟩
        obtain rfl := hed.symm
        go_wp2_with fail
        refine (Sh.crc_any Y _ wc (HC.out.below HBc.out (by omega)) HRc.out.bytes HLt.out).mono ?_
        rintro e wd ⟨rfl, hed⟩
        obtain rfl := hed.symm
        go_wp2
        go_ret
        exact ⟨rfl, HBc.out⟩
      · have hr9 := read_cap d8 (topC0 k X Y) k w8 HD8.out hk0 (by rw [HL0.out]; exact hk1)
        rw [HS0.out, show ByteArray.size ⟨Array.mk X⟩ = 512 from HX0.out] at hr9
        have HW9 := hid hr9
        have heq : ∀ W, (Op.equalIn 10000 33 (.agg ((Sh.sumS X).map Sh.B).toArray) (.agg ((Sh.sumS X).map Sh.B).toArray)).run Tryd.prog W = .ok true W := fun W => by rw [Sh.run_eq32 _ _ (Sh.length_sumS X) (Sh.length_sumS X) W]; simp
        clear hr9
        go_wp2_with fail
        refine HW9.out.mono ?_
        clear HW9
        rintro e wa ⟨gb, gc, rfl, hgc, hgb, hat, hba⟩
        have HGa : Hid (Sh.Bytes wa (.slice (some ⟨gb, 0, none⟩) 512 gc) X) := by
          have := bytes_of_at (s := ⟨Array.mk X⟩) (l := X) hat rfl (by rw [show ByteArray.size ⟨Array.mk X⟩ = 512 from HX0.out]; exact hgc)
          rw [show ByteArray.size ⟨Array.mk X⟩ = 512 from HX0.out] at this
          exact this
        have HRa := hid (HX8.out.below hba)
        have HBa := hid (HB8.out.trans (hba.mono HB8.out.size))
        have hlt : X.length < 4611686018427387904 := by rw [HX0.out]; decide
        have hlt2 : X.length < 576460752303423488 := by rw [HX0.out]; decide
        have HLt := hid hlt
        have HLt2 := hid hlt2
        clear hlt hlt2 hat hba
        go_wp2_with fail
        refine (Sh.sum_any X _ wa (HK.out.below HBa.out hsz2) (HS.out.below HBa.out (by omega)) HGa.out HLt2.out).mono ?_
        rintro e wb ⟨rfl, hbb⟩
        have HBb2 := hid (HBa.out.trans (hbb.mono HBa.out.size))
        have HGb := hid (HGa.out.up hbb)
        have HRb := hid (HRa.out.below hbb)
        clear hbb
        go_wp2_with fail
        refine (Sh.sum_any X _ wb (HK.out.below HBb2.out hsz2) (HS.out.below HBb2.out (by omega)) HRb.out.bytes HLt2.out).mono ?_
        rintro e wc ⟨rfl, hbc⟩
        have HBc := hid (HBb2.out.trans (hbc.mono HBb2.out.size))
        have HGc := hid (HGb.out.up hbc)
        have HRc := hid (HRb.out.below hbc)
        clear hbc
        go_wp2_with fail
        refine (Sh.crc_any X _ wc (HC.out.below HBc.out (by omega)) HGc.out HLt.out).mono ?_
        rintro e wd ⟨rfl, hed⟩
        obtain rfl := hed.symm
        go_wp2_with fail
        refine (Sh.crc_any X _ wc (HC.out.below HBc.out (by omega)) HRc.out.bytes HLt.out).mono ?_
        rintro e wd ⟨rfl, hed⟩
        obtain rfl := hed.symm
        go_wp2
        go_ret
        exact ⟨rfl, HBc.out⟩
  · rw [if_pos (by rfl)]
    refine wp_mk_row (.const (.int .i64 512)) (.const (.int .i64 512)) rfl rfl rfl w1.heap.size rfl ?_
    refine hK.out _ _ trivial (fun hHeld => ?_)
    clear hK K
    try simp only [List.getElem_toArray, List.getElem_cons_succ, List.getElem_cons_zero, Act.put, List.setIfInBounds_toArray, List.set_cons_zero, List.set_cons_succ]
    refine wpAnyH_ready (rs := [0]) (by kernel_rfl) (by simp) (AllReadyH.cons rfl (fun K hK => ?_) AllReadyH.nil)
    rw [if_pos (by rfl)]
    refine wp_mk_row (.const (.int .i64 512)) (.const (.int .i64 512)) rfl rfl rfl (w1.heap.size + 1) (by simp) ?_
    refine hK.out _ _ trivial (fun hHeld => ?_)
    clear hK K
    try simp only [List.getElem_toArray, List.getElem_cons_zero, Act.put, List.setIfInBounds_toArray, List.set_cons_zero, List.set_cons_succ]
    refine wpAnyH_ready (rs := [2]) (by kernel_rfl) (by simp) (AllReadyH.cons rfl (fun K hK => ?_) AllReadyH.nil)
    rw [if_pos (by rfl)]
    unfold Oper.wp
    go_simp
    refine hK.out _ _ trivial (fun hHeld => ?_)
    clear hK K
    try simp only [List.getElem_toArray, List.getElem_cons_succ, List.getElem_cons_zero, Act.put, List.setIfInBounds_toArray, List.set_cons_zero, List.set_cons_succ]
    refine wpAnyH_ready (rs := [3]) (by kernel_rfl) (by simp) (AllReadyH.cons rfl (fun K hK => ?_) AllReadyH.nil)
    rw [if_pos (by rfl)]
    unfold Oper.wp
    go_simp
    refine hK.out _ _ trivial (fun hHeld => ?_)
    clear hK K
    try simp only [List.getElem_toArray, List.getElem_cons_succ, List.getElem_cons_zero, Act.put, List.setIfInBounds_toArray, List.set_cons_zero, List.set_cons_succ]
    refine wpAnyH_done (by kernel_rfl) ?_ _
    refine NoPanic.normal ?_
    have HX : Hid (ownRow ((w1.alloc (.cells zcells 5)).alloc (.cells zcells 5)).drew (w1.heap.size + 1) zerosL) := HR2.out
    have HY : Hid (ownRow ((w1.alloc (.cells zcells 5)).alloc (.cells zcells 5)).drew w1.heap.size zerosL) := HR1.out
    have HD2 := hid (HD.out.below (w' := ((w1.alloc (.cells zcells 5)).alloc (.cells zcells 5)).drew) HBm.out.drew)
    have HB2 := hid (HB.out.trans (HBm.out.drew.mono hsz1))
    have lx : B1 ≤ w1.heap.size + 1 := by omega
    have ly : B1 ≤ w1.heap.size := by omega
    have hne : w1.heap.size + 1 ≠ w1.heap.size := by omega
    have hB1w : w.heap.size ≤ B1 := by omega
    clear HR1 HR2 HBm HD HB hB1
    generalize ((w1.alloc (.cells zcells 5)).alloc (.cells zcells 5)).drew = w2 at *
    generalize hgx : w1.heap.size + 1 = bx at *
    generalize hgy : w1.heap.size = yb at *
    clear hgx hgy
    go_wp2_with (first
      | (refine wpList_copy_row rfl (.tmp 31) (.tmp 32) rfl bx zerosL xs va rfl rfl HX.out (HA.out.up HB2.out) ?_; intro r3 w3 hr3 hk3; have HX3 := hid hr3; have HK3 := hid hk3; have HY3 := hid (HY.out.keep hk3 (fun e => hne e.symm)); have HB3 := hid (HB2.out.trans (hk3.below HB2.out.size (fun i e => by subst e; omega))); have HD3 := hid (HD2.out.keep hk3 (fun i hi e => by have := HFl.out i hi; omega) (fun i hi e => by have := HFv.out i hi; omega)); clear hr3 hk3 HX HY HD2)
      | (refine wpList_copy_row rfl (.tmp 34) (.tmp 35) rfl yb zerosL ys vb rfl rfl HY3.out (HBb.out.up HB3.out) ?_; intro r4 w4 hr4 hk4; have HY4 := hid hr4; have HX4 := hid (HX3.out.keep hk4 (fun e => hne e)); have HB4 := hid (HB3.out.trans (hk4.below HB3.out.size (fun i e => by subst e; omega))); have HD4 := hid (HD3.out.keep hk4 (fun i hi e => by have := HFl.out i hi; omega) (fun i hi e => by have := HFv.out i hi; omega)); clear hr4 hk4 HX3 HY3 HD3))
    have hX : (List.take 512 xs ++ List.drop (min xs.length 512) zerosL).length = 512 := HX4.out.1
    have hY : (List.take 512 ys ++ List.drop (min ys.length 512) zerosL).length = 512 := HY4.out.1
    generalize List.take 512 xs ++ List.drop (min xs.length 512) zerosL = X at *
    generalize List.take 512 ys ++ List.drop (min ys.length 512) zerosL = Y at *
    have HX0 := hid hX
    have HY0 := hid hY
    clear hX hY
    have hk0 : 0 ≤ n % 6 := by omega
    have hk1 : n % 6 < 6 := by omega
    generalize n % 6 = k at *
    have hw4 := write_any d topS0 k X ⟨bx, 0, none⟩ 512 512 w4 HD4.out (by rw [topS0_ops]; decide) HX0.out HX4.out.at
    rw [errW_ok hk0 (by rw [topS0_safe]; exact hk1) HX0.out] at hw4
    have HW4 := hid hw4
    have HOx := hid (HX4.out.off HD4.out)
    have HOy := hid (HY4.out.off HD4.out)
    clear hw4
    refine HW4.out.mono ?_
    clear HW4
    rintro e w5 ⟨rfl, d5, hD5, e5, -, hf5, hK5⟩
    have HX5 := hid (HX4.out.keep hK5 HOx.out)
    have HY5 := hid (HY4.out.keep hK5 HOy.out)
    have HF5 : Hid (∀ i, d5.foot (topS0.put k X).waits i → w.heap.size ≤ i) := fun i hi => (hf5 i hi).elim (HF.out i) (fun h => Nat.le_trans HB4.out.size h)
    have HB5 := hid (HB4.out.trans (hK5.below HB4.out.size (fun i e => HF.out i e)))
    have HD5 := hid hD5
    have HOx5 := hid (HX5.out.off hD5)
    have HOy5 := hid (HY5.out.off hD5)
    have hw5 := flush_disk d5 (topS0.put k X) w5 hD5 (Nat.lt_of_le_of_lt (put_ops _ _ _) (by rw [topS0_ops]; decide))
    rw [e5] at hw5
    have HW5 := hid hw5
    clear hw5 hD5 e5 hf5 hK5 HX4 HY4 HD4 HOx HOy HF HB4
    go_wp2_with fail
    refine HW5.out.mono ?_
    clear HW5
    rintro e w6 ⟨rfl, d6, hD6, e6, -, hf6, hK6⟩
    have HX6 := hid (HX5.out.keep hK6 HOx5.out)
    have HY6 := hid (HY5.out.keep hK6 HOy5.out)
    have HF6 : Hid (∀ i, d6.foot (topS2 k X).waits i → w.heap.size ≤ i) := fun i hi => (hf6 i hi).elim (HF5.out i) (fun h => Nat.le_trans HB5.out.size h)
    have HB6 := hid (HB5.out.trans (hK6.below HB5.out.size (fun i e => HF5.out i e)))
    have HD6 : Hid (DiskIn w6 d6 (topS2 k X)) := hD6
    have HOx6 := hid (HX6.out.off HD6.out)
    have HOy6 := hid (HY6.out.off HD6.out)
    have hw6 := write_any d6 (topS2 k X) k Y ⟨yb, 0, none⟩ 512 512 w6 HD6.out (Nat.lt_of_le_of_lt topS2_ops (by decide)) HY0.out HY6.out.at
    rw [errW_ok hk0 (by rw [topS2_len]; exact hk1) HY0.out, e6] at hw6
    have HW6 := hid hw6
    clear hw6 hD6 e6 hf6 hK6 HX5 HY5 HD5 HOx5 HOy5 HF5 HB5
    go_wp2_with fail
    refine HW6.out.mono ?_
    clear HW6
    rintro e w7 ⟨rfl, d7, hD7, e7, -, hf7, hK7⟩
    have HX7 := hid (HX6.out.keep hK7 HOx6.out)
    have HY7 := hid (HY6.out.keep hK7 HOy6.out)
    have HB7 := hid (HB6.out.trans (hK7.below HB6.out.size (fun i e => HF6.out i e)))
    have HD7 : Hid (DiskIn w7 d7 (topS3 k X Y)) := hD7
    have HOps : Hid ((topS3 k X Y).ops.length ≤ opsMax) := Nat.le_trans topS3_ops (by decide)
    have HG0 := hid (topS3_good0 (k := k) (X := X) (Y := Y))
    have HG1 := hid (topS3_good1 (X := X) hk0 hk1 HY0.out)
    have HL0 := hid (topC0_len (k := k) (X := X) (Y := Y))
    have HL1 := hid (topC1_len (k := k) (X := X) (Y := Y))
    have HS0 := hid (topC0_seen (Y := Y) hk0 hk1 HX0.out)
    have HS1 := hid (topC1_seen (X := X) hk0 hk1 HY0.out)
    have hw7 := crash_any d7 (topS3 k X Y) [] none 0 w7 HD7.out HOps.out (by decide) (fun j hj => by simp at hj)
    rw [e7] at hw7
    have HW7 := hid hw7
    have HP7 := hid e7
    clear hw7 e7 hD7 hf7 hK7 HX6 HY6 HD6 HOx6 HOy6 HF6 HB6
    go_wp2_with fail
    refine HW7.out.mono ?_
    clear HW7
    rintro e w8 ⟨hb8, h8⟩
    rcases h8 with ⟨hbad, -⟩ | ⟨-, d8, rfl, hD8, -, -⟩
    · exact absurd HG0.out hbad
    have HD8 : Hid (DiskIn w8 d8 (topC0 k X Y)) := hD8
    have HX8 := hid (HX7.out.below hb8)
    have HY8 := hid (HY7.out.below hb8)
    have HD78 := hid (HD7.out.below hb8)
    have HB8 := hid (HB7.out.trans (hb8.mono HB7.out.size))
    clear hb8 hD8 HX7 HY7 HD7 HB7
    by_cases h128 : 128 ≤ n
    · have HDA := hid (HD78.out.below ((Below.refl w8.heap.size w8).alloc (Nat.le_refl _) (.cells #[.int .i64 1] 3)))
      have HYA := hid (HY8.out.below ((Below.refl w8.heap.size w8).alloc (Nat.le_refl _) (.cells #[.int .i64 1] 3)))
      have HBA := hid (HB8.out.trans (((Below.refl w8.heap.size w8).alloc (Nat.le_refl _) (.cells #[.int .i64 1] 3)).mono HB8.out.size))
      have hw8 := crash_any d7 (topS3 k X Y) [1] (some ⟨w8.heap.size, 0, none⟩) 1 (w8.alloc (.cells #[.int .i64 1] 3)) HDA.out HOps.out (by decide) (fun j hj => ⟨w8.heap.size, 0, rfl, fun i hi => by
        obtain rfl : i = 0 := by simp at hi; omega
        rw [cell_of_block (block_new w8 _)]; rfl⟩)
      rw [HP7.out] at hw8
      have HW8 := hid hw8
      clear hw8 HD78 HX8 HY8
      go_wp2_with fail
      refine HW8.out.mono ?_
      clear HW8
      rintro e w9 ⟨hb9, h9⟩
      rcases h9 with ⟨hbad, -⟩ | ⟨-, d9, rfl, hD9, -, -⟩
      · exact absurd HG1.out hbad
      have HD9 : Hid (DiskIn w9 d9 (topC1 k X Y)) := hD9
      have HY9 := hid (HYA.out.below hb9)
      have HB9 := hid (HBA.out.trans (hb9.mono HBA.out.size))
      clear hb9 hD9 HYA HDA HBA
      have hr9 := read_cap d9 (topC1 k X Y) k w9 HD9.out hk0 (by rw [HL1.out]; exact hk1)
      rw [HS1.out, show ByteArray.size ⟨Array.mk Y⟩ = 512 from HY0.out] at hr9
      have HW9 := hid hr9
      have heq : ∀ W, (Op.equalIn 10000 33 (.agg ((Sh.sumS Y).map Sh.B).toArray) (.agg ((Sh.sumS Y).map Sh.B).toArray)).run Tryd.prog W = .ok true W := fun W => by rw [Sh.run_eq32 _ _ (Sh.length_sumS Y) (Sh.length_sumS Y) W]; simp
      clear hr9
      go_wp2_with fail
      refine HW9.out.mono ?_
      clear HW9
      rintro e wa ⟨gb, gc, rfl, hgc, hgb, hat, hba⟩
      have HGa : Hid (Sh.Bytes wa (.slice (some ⟨gb, 0, none⟩) 512 gc) Y) := by
        have := bytes_of_at (s := ⟨Array.mk Y⟩) (l := Y) hat rfl (by rw [show ByteArray.size ⟨Array.mk Y⟩ = 512 from HY0.out]; exact hgc)
        rw [show ByteArray.size ⟨Array.mk Y⟩ = 512 from HY0.out] at this
        exact this
      have HRa := hid (HY9.out.below hba)
      have HBa := hid (HB9.out.trans (hba.mono HB9.out.size))
      have hlt : Y.length < 4611686018427387904 := by rw [HY0.out]; decide
      have hlt2 : Y.length < 576460752303423488 := by rw [HY0.out]; decide
      have HLt := hid hlt
      have HLt2 := hid hlt2
      clear hlt hlt2 hat hba
      go_wp2_with fail
      refine (Sh.sum_any Y _ wa (HK.out.below HBa.out hsz2) (HS.out.below HBa.out (by omega)) HGa.out HLt2.out).mono ?_
      rintro e wb ⟨rfl, hbb⟩
      have HBb2 := hid (HBa.out.trans (hbb.mono HBa.out.size))
      have HGb := hid (HGa.out.up hbb)
      have HRb := hid (HRa.out.below hbb)
      clear hbb
      go_wp2_with fail
      refine (Sh.sum_any Y _ wb (HK.out.below HBb2.out hsz2) (HS.out.below HBb2.out (by omega)) HRb.out.bytes HLt2.out).mono ?_
      rintro e wc ⟨rfl, hbc⟩
      have HBc := hid (HBb2.out.trans (hbc.mono HBb2.out.size))
      have HGc := hid (HGb.out.up hbc)
      have HRc := hid (HRb.out.below hbc)
      clear hbc
      go_wp2_with fail
      refine (Sh.crc_any Y _ wc (HC.out.below HBc.out (by omega)) HGc.out HLt.out).mono ?_
      rintro e wd ⟨rfl, hed⟩
      obtain rfl := hed.symm
      go_wp2_with fail
      refine (Sh.crc_any Y _ wc (HC.out.below HBc.out (by omega)) HRc.out.bytes HLt.out).mono ?_
      rintro e wd ⟨rfl, hed⟩
      obtain rfl := hed.symm
      go_wp2
      go_ret
      exact ⟨rfl, HBc.out⟩
    · have hr9 := read_cap d8 (topC0 k X Y) k w8 HD8.out hk0 (by rw [HL0.out]; exact hk1)
      rw [HS0.out, show ByteArray.size ⟨Array.mk X⟩ = 512 from HX0.out] at hr9
      have HW9 := hid hr9
      have heq : ∀ W, (Op.equalIn 10000 33 (.agg ((Sh.sumS X).map Sh.B).toArray) (.agg ((Sh.sumS X).map Sh.B).toArray)).run Tryd.prog W = .ok true W := fun W => by rw [Sh.run_eq32 _ _ (Sh.length_sumS X) (Sh.length_sumS X) W]; simp
      clear hr9
      go_wp2_with fail
      refine HW9.out.mono ?_
      clear HW9
      rintro e wa ⟨gb, gc, rfl, hgc, hgb, hat, hba⟩
      have HGa : Hid (Sh.Bytes wa (.slice (some ⟨gb, 0, none⟩) 512 gc) X) := by
        have := bytes_of_at (s := ⟨Array.mk X⟩) (l := X) hat rfl (by rw [show ByteArray.size ⟨Array.mk X⟩ = 512 from HX0.out]; exact hgc)
        rw [show ByteArray.size ⟨Array.mk X⟩ = 512 from HX0.out] at this
        exact this
      have HRa := hid (HX8.out.below hba)
      have HBa := hid (HB8.out.trans (hba.mono HB8.out.size))
      have hlt : X.length < 4611686018427387904 := by rw [HX0.out]; decide
      have hlt2 : X.length < 576460752303423488 := by rw [HX0.out]; decide
      have HLt := hid hlt
      have HLt2 := hid hlt2
      clear hlt hlt2 hat hba
      go_wp2_with fail
      refine (Sh.sum_any X _ wa (HK.out.below HBa.out hsz2) (HS.out.below HBa.out (by omega)) HGa.out HLt2.out).mono ?_
      rintro e wb ⟨rfl, hbb⟩
      have HBb2 := hid (HBa.out.trans (hbb.mono HBa.out.size))
      have HGb := hid (HGa.out.up hbb)
      have HRb := hid (HRa.out.below hbb)
      clear hbb
      go_wp2_with fail
      refine (Sh.sum_any X _ wb (HK.out.below HBb2.out hsz2) (HS.out.below HBb2.out (by omega)) HRb.out.bytes HLt2.out).mono ?_
      rintro e wc ⟨rfl, hbc⟩
      have HBc := hid (HBb2.out.trans (hbc.mono HBb2.out.size))
      have HGc := hid (HGb.out.up hbc)
      have HRc := hid (HRb.out.below hbc)
      clear hbc
      go_wp2_with fail
      refine (Sh.crc_any X _ wc (HC.out.below HBc.out (by omega)) HGc.out HLt.out).mono ?_
      rintro e wd ⟨rfl, hed⟩
      obtain rfl := hed.symm
      go_wp2_with fail
      refine (Sh.crc_any X _ wc (HC.out.below HBc.out (by omega)) HRc.out.bytes HLt.out).mono ?_
      rintro e wd ⟨rfl, hed⟩
      obtain rfl := hed.symm
      go_wp2
      go_ret
      exact ⟨rfl, HBc.out⟩
end Go.Proofs.YtabpfneihihmaaaDoor
