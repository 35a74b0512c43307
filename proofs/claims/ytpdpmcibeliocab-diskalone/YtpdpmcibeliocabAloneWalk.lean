/- The walk of DiskAlone. -/
import Derived.Test.YtpdpmcibeliocabAlonePlain
namespace Go.Proofs.Ytpdpmcibeliocab
open Go.RowKit
set_option maxRecDepth 100000 in
set_option maxHeartbeats 4000000 in
theorem alone_walk (ds : List DeedS) (a : Option Addr) (c : Nat) (hlen : ds.length ≤ 9223372036854775807) (k m : Int) (k0 : 0 ≤ k) (k1 : k ≤ 255) (m0 : 0 ≤ m) (m1 : m ≤ 255) (w : World) (hds : deedsAt w a ds) :
    Calls Try.prog 3 #[.slice a ds.length c, .int .u8 k, .int .u8 m] w fun e w' => e = .returned (.bool true) ∧ Below w.heap.size w w' := by
  have HDS := hid hds
  have HZ := hid (play_sizes 5 ds (min ds.length 40) (Nat.min_le_left _ _))
  have H40 : Hid (min ds.length 40 ≤ 40) := Nat.min_le_right _ _
  clear hds
  go_enter Try.func3, Try.ntmps3
  go_wp2_with fail
  refine (play_any 5 (by omega) (by omega) ds a c hlen w HDS.out).mono ?_
  rintro e w1 ⟨d, r, rfl, fv, lv, vs, Rd, hP⟩
  have HD := hid hP.D
  have HB := hid hP.below
  have HF : Hid (∀ i, d.foot (playS 5 ds (min ds.length 40)).waits i → w.heap.size ≤ i) := fun i hi => (hP.fd i hi).1
  have HSL : Hid ((playS 5 ds (min ds.length 40)).safe.length = 5) := HZ.out.1
  have HOps : Hid ((playS 5 ds (min ds.length 40)).ops.length ≤ opsMax) := Nat.le_trans HZ.out.2.2.1 (Nat.le_trans H40.out (by decide))
  have HOk : Hid (okS (playS 5 ds (min ds.length 40))) := ok_play 5 ds _ (Nat.min_le_left _ _)
  clear hP HZ H40 HDS
  generalize playS 5 ds (min ds.length 40) = S at *
  go_wp2_with fail
  refine (live_any w1).mono ?_
  rintro e w2 ⟨rfl, hb2⟩
  have HD2 := hid (HD.out.below hb2)
  have HB2 := hid (HB.out.trans (hb2.mono HB.out.size))
  have HWt := hid (waiting_disk d S w2 HD2.out HOps.out)
  clear hb2 HD HB
  go_wp2_with fail
  refine HWt.out.mono ?_
  clear HWt
  rintro e w3 ⟨v1, v2, rfl, hr1, hr2, hb3⟩
  obtain ⟨p1, c1, rfl, hi1⟩ := ints_of_row hr1
  have hlc : (waitKeys S.waits S.safe.length).length = (waitCounts S.waits S.safe.length).length := by simp [waitCounts]
  rw [hlc] at hr2
  obtain ⟨p2, c2, rfl, hi2⟩ := ints_of_row hr2
  rw [← hlc]
  have HI1 := hid hi1
  have HI2 := hid hi2
  have HD3 := hid (HD2.out.below hb3)
  have HB3 := hid (HB2.out.trans (hb3.mono HB2.out.size))
  have hkl := length_waitKeys S.waits S.safe.length
  have hkl5 : (waitKeys S.waits S.safe.length).length ≤ 5 := by have := HSL.out; omega
  have HCnt : Hid (∀ j (h : j < (waitKeys S.waits S.safe.length).length) (h' : j < (waitCounts S.waits S.safe.length).length), (waitCounts S.waits S.safe.length)[j] = ((S.waits (waitKeys S.waits S.safe.length)[j]).length : Int)) := fun j h h' => by simp [waitCounts]
  have HGz := hid (good_zeros S.waits S.safe.length)
  have HGo := hid (fun at' x h h0 h1 => good_one S.waits S.safe.length at' x h h0 h1)
  have HAl := hid (fun at' x h n hn => crash_alone S.waits S.safe S.safe.length at' x h n hn)
  have HZr := hid (crashL_zeros S.waits S.safe (waitKeys S.waits S.safe.length) (waitKeys S.waits S.safe.length).length)
  have HCr := hid (fun keep a c w h h2 h3 => crash_any d S keep a c w h HOps.out h2 h3)
  have HLc := hid hlc
  have HMem := hid (fun j (h : j < (waitKeys S.waits S.safe.length).length) => (mem_waitKeys.1 (List.getElem_mem h) : 0 ≤ (waitKeys S.waits S.safe.length)[j] ∧ _))
  have HLen := hid (fun j (h : j < (waitKeys S.waits S.safe.length).length) => HD3.out.plates.len (waitKeys S.waits S.safe.length)[j])
  clear hr1 hr2 hb3 hi1 hi2 hkl HD2 HB2 hlc
  generalize waitKeys S.waits S.safe.length = ks at *
  generalize waitCounts S.waits S.safe.length = cs at *
  by_cases hk0 : ks.length = 0
  · have hks : ks = [] := List.length_eq_zero_iff.1 hk0
    subst hks
    go_wp2
    go_ret
    exact ⟨rfl, HB3.out⟩
  · have hkp : (0 : Int) < (ks.length : Int) := by omega
    have hkn : ¬ ((ks.length : Int) = 0) := by omega
    obtain ⟨at', hat⟩ : ∃ at' : Nat, k % (ks.length : Int) = (at' : Int) := ⟨(k % (ks.length : Int)).toNat, by have := Int.emod_nonneg k (show (ks.length : Int) ≠ 0 by omega); omega⟩
    have hatl : at' < ks.length := by have := Int.emod_lt_of_pos k hkp; omega
    have hatl2 : at' < cs.length := by rw [← HLc.out]; exact hatl
    have ha0 : (0 : Int) ≤ (at' : Int) := by omega
    have ha1 : (at' : Int) < (ks.length : Int) := by omega
    obtain ⟨cnt, hcnt, hcb⟩ : ∃ cnt : Nat, cs[at'] = (cnt : Int) ∧ cnt = (S.waits ks[at']).length := ⟨_, HCnt.out at' hatl hatl2, rfl⟩
    have hcm : cnt ≤ 1000000000 := by have h1 := HLen.out at' hatl; have h2 := HOps.out; unfold opsMax at h2; omega
    obtain ⟨b1, o1, rfl, hc1⟩ := HI1.out at' hatl
    obtain ⟨b2, o2, rfl, hc2⟩ := HI2.out at' hatl2
    have hb1 : b1 < w3.heap.size := World.block_lt_of_cell? w3 _ (hc1 at' hatl)
    have hb2 : b2 < w3.heap.size := World.block_lt_of_cell? w3 _ (hc2 at' hatl2)
    have HC1 := hid (hc1 at' hatl)
    have HC2 : Hid (w3.cell? ⟨b2, o2 + at', none⟩ = some (.int .i64 cnt)) := by rw [← hcnt]; exact hc2 at' hatl2
    have HCB := hid hcb
    clear hc1 hc2 hcnt hcb HI1 HI2 HCnt
    go_wp2_with (first
      | (refine wpList_make_ints rfl (.tmp 48) (.tmp 48) rfl ks.length rfl rfl (by omega) ?_; intro w4 hB4 hb4 hz4; have HB4 := hid hB4; have Hb4 := hid hb4; clear hB4 hb4 hz4)
      | (refine wpList_make_ints rfl (.tmp 51) (.tmp 51) rfl ks.length rfl rfl (by omega) ?_; intro w5 hB5 hb5 hz5; have HB5 := hid hB5; have Hb5 := hid hb5; have hs34 := HB4.out.size; have hs45 := hB5.size; have q2 : w5.cell? ⟨b2, o2 + at', none⟩ = some (.int .i64 cnt) := ((hB5.cell (p := ⟨b2, o2 + at', none⟩) (Nat.lt_of_lt_of_le hb2 hs34)).trans (HB4.out.cell (p := ⟨b2, o2 + at', none⟩) hb2)).trans HC2.out; have qb : w5.cell? ⟨w4.heap.size, at', none⟩ = some (.int .i64 0) := (cell_of_block hb5 at').trans (by simp [hatl]); have fb : w5.frozen? ⟨w4.heap.size, at', none⟩ = false := frozen_of_block hb5 _; clear hB5 hb5 hz5))
    have hx0 : 0 ≤ m % ((cnt : Int) + 1) := Int.emod_nonneg _ (by omega)
    have hx1 : m % ((cnt : Int) + 1) < (cnt : Int) + 1 := Int.emod_lt_of_pos _ (by omega)
    generalize m % ((cnt : Int) + 1) = x at *
    have l34 := lt_of_heap Hb4.out
    have l45 := lt_of_heap Hb5.out
    have hA6 : (w5.setCell ⟨w4.heap.size, at', none⟩ (.int .i64 x)).heap[w3.heap.size]? = some (.cells ((List.replicate ks.length (0 : Int)).map encZ).toArray 3 (0, 0)) := by
      rw [block_setCell_other _ _ (by omega), List.map_replicate]
      exact below_block HB5.out Hb4.out (by omega)
    have hB6 : (w5.setCell ⟨w4.heap.size, at', none⟩ (.int .i64 x)).heap[w4.heap.size]? = some (.cells (((List.replicate ks.length (0 : Int)).set at' x).map encZ).toArray 3 (0, 0)) := by
      have := block_setCell Hb5.out at' (.int .i64 x)
      rw [List.setIfInBounds_toArray] at this
      rw [List.map_set, List.map_replicate]
      exact this
    have hK6 : Keeps (fun i => i = w4.heap.size) w3 (w5.setCell ⟨w4.heap.size, at', none⟩ (.int .i64 x)) := ((Keeps.of_below HB4.out).andBelow HB5.out).grown (grown_setCell (grown_refl _ _) _ _) (fun i e => .inl (Option.some.inj e).symm)
    have hD6 := HD3.out.keep hK6 (fun i hi e => by have := HD3.out.foot_lt hi; omega) (fun i hi e => by have := HD3.out.fv_lt hi; omega)
    have hBl6 : Below w.heap.size w (w5.setCell ⟨w4.heap.size, at', none⟩ (.int .i64 x)) := ((HB3.out.trans (HB4.out.mono HB3.out.size)).trans (HB5.out.mono (Nat.le_trans HB3.out.size hs34))).setCell (Nat.le_trans HB3.out.size hs34) _
    have hn6 : (w5.setCell ⟨w4.heap.size, at', none⟩ (.int .i64 x)).cell? ⟨b1, o1 + at', none⟩ = some (.int .i64 ks[at']) := hK6.cell HC1.out (fun e => by have e2 : b1 = w4.heap.size := e; omega)
    generalize w5.setCell ⟨w4.heap.size, at', none⟩ (.int .i64 x) = w6 at *
    have hc1 := HCr.out (List.replicate ks.length 0) (some ⟨w3.heap.size, 0, none⟩) ks.length w6 hD6 (by simp; omega) (ints_of_block hA6)
    rw [List.length_replicate, HZr.out] at hc1
    have HCr1 := hid hc1
    have HB6b := hid hB6
    have HD6 := hid hD6
    have HBl6 := hid hBl6
    have HN6 := hid hn6
    have h6b := lt_of_heap hB6
    have h6n := World.block_lt_of_cell? w6 _ hn6
    clear hc1 hA6 hB6 hK6 hD6 hBl6 hn6 q2 qb fb HB4 Hb4 HB5 Hb5 HD3 HB3 HC1 HC2 hs34 hs45
    refine HCr1.out.mono ?_
    clear HCr1
    rintro e w7 ⟨hb7, h7⟩
    rcases h7 with ⟨hbad, -⟩ | ⟨-, dA, rfl, hDA, -, -⟩
    · exact absurd HGz.out hbad
    have HB7b := hid (below_block hb7 HB6b.out h6b)
    have HDA := hid hDA
    have HD7 := hid (HD6.out.below hb7)
    have HBl7 := hid (HBl6.out.trans (hb7.mono HBl6.out.size))
    have HN7 := hid ((hb7.cell (p := ⟨b1, o1 + at', none⟩) h6n).trans HN6.out)
    have hc2 := HCr.out ((List.replicate ks.length 0).set at' x) (some ⟨w4.heap.size, 0, none⟩) ks.length w7 HD7.out (by simp; omega) (ints_of_block HB7b.out)
    rw [List.length_set, List.length_replicate] at hc2
    have HG2 := hid (HGo.out at' x hatl hx0 (by have := HCB.out; omega))
    have HAl2 := hid (fun n hn => HAl.out at' x hatl n hn)
    have HYl : Hid ((crashL S.waits S.safe (ks.zip ((List.replicate ks.length 0).set at' x))).length = 5) := (length_crashL _ _ _).trans HSL.out
    generalize crashL S.waits S.safe (ks.zip ((List.replicate ks.length 0).set at' x)) = Y at *
    have HCr2 := hid hc2
    have h7n := World.block_lt_of_cell? w7 _ HN7.out
    clear hc2 hb7 hDA HB6b HD6 HBl6 HN6 h6b h6n HCr HAl HGo HZr
    go_wp2_with fail
    refine HCr2.out.mono ?_
    clear HCr2
    rintro e w8 ⟨hb8, h8⟩
    rcases h8 with ⟨hbad, -⟩ | ⟨-, dB, rfl, hDB, -, -⟩
    · exact absurd HG2.out hbad
    have hDA8 := HDA.out.below hb8
    have HBl8 := hid (HBl7.out.trans (hb8.mono HBl7.out.size))
    have HN8 := hid ((hb8.cell (p := ⟨b1, o1 + at', none⟩) h7n).trans HN7.out)
    have him := image_disk dA (freshS S.safe) w8 hDA8
    rw [imgS_fresh, show (freshS S.safe).safe.length = 5 from HSL.out] at him
    have HIm := hid him
    have HDB := hid hDB
    have h8n := World.block_lt_of_cell? w8 _ HN8.out
    clear him hDA8 hb8 hDB HDA HBl7 HN7 h7n
    go_wp2_with fail
    refine HIm.out.mono ?_
    clear HIm
    rintro e w9 ⟨gA, rfl, hrA, hgA, hb9⟩
    have hDB9 := HDB.out.below hb9
    have HBl9 := hid (HBl8.out.trans (hb9.mono HBl8.out.size))
    have HN9 := hid ((hb9.cell (p := ⟨b1, o1 + at', none⟩) h8n).trans HN8.out)
    have him := image_disk dB (freshS Y) w9 hDB9
    rw [imgS_fresh, show (freshS Y).safe.length = 5 from HYl.out] at him
    have HIm := hid him
    have HRA := hid hrA
    have h9n := World.block_lt_of_cell? w9 _ HN9.out
    clear him hDB9 hrA hb9 HDB HBl8 HN8 h8n
    go_wp2_with fail
    refine HIm.out.mono ?_
    clear HIm
    rintro e w10 ⟨gB, rfl, hrB, hgB, hb10⟩
    have HRA10 := hid (HRA.out.below hb10)
    have HRB := hid hrB
    have HBl10 := hid (HBl9.out.trans (hb10.mono HBl9.out.size))
    have HN10 := hid ((hb10.cell (p := ⟨b1, o1 + at', none⟩) h9n).trans HN9.out)
    clear hrB hb10 HRA HBl9 HN9 h9n
    go_wp2
    go_loopw [21] (fun i wr => ∃ j : Nat, j ≤ 5 ∧ i = .int .i64 j ∧ Hid (Below w10.heap.size w10 wr)) (fun i _ => 5 - (intOf i).toNat)
    case atStart => exact ⟨0, by omega, rfl, Below.refl _ _⟩
    case round =>
      obtain ⟨j, hj, rfl, hB⟩ := hrel
      by_cases hlt : j < 5
      · have hj0 : (0 : Int) ≤ (j : Int) := by omega
        have hj5 : (j : Int) < 5 := by omega
        have hjS : j < S.safe.length := by rw [HSL.out]; exact hlt
        have hjY : j < Y.length := by rw [HYl.out]; exact hlt
        have hjA : j < (bytesOf S.safe).length := by rw [length_bytesOf]; exact hjS
        have hjB : j < (bytesOf Y).length := by rw [length_bytesOf]; exact hjY
        obtain ⟨bA, oA, eA, hcA⟩ := HRA10.out j hjA
        simp only [Option.some.injEq, Addr.mk.injEq, and_true] at eA
        obtain ⟨rfl, rfl⟩ := eA
        obtain ⟨bB, oB, eB, hcB⟩ := HRB.out j hjB
        simp only [Option.some.injEq, Addr.mk.injEq, and_true] at eB
        obtain ⟨rfl, rfl⟩ := eB
        obtain ⟨aA, cA, kA, iA⟩ := hcA j hjA
        obtain ⟨aB, cB, kB, iB⟩ := hcB j hjB
        rw [Nat.zero_add] at kA kB
        have tN : wr.cell? ⟨b1, o1 + at', none⟩ = some (.int .i64 ks[at']) := (hB.out.cell (p := ⟨b1, o1 + at', none⟩) (World.block_lt_of_cell? w10 _ HN10.out)).trans HN10.out
        have tA : wr.cell? ⟨gA, j, none⟩ = some (.slice aA ((bytesOf S.safe)[j]).length cA) := (hB.out.cell (p := ⟨gA, j, none⟩) (World.block_lt_of_cell? w10 _ kA)).trans kA
        have tB : wr.cell? ⟨gB, j, none⟩ = some (.slice aB ((bytesOf Y)[j]).length cB) := (hB.out.cell (p := ⟨gB, j, none⟩) (World.block_lt_of_cell? w10 _ kB)).trans kB
        have HAl3 := hid (HAl2.out j)
        by_cases hN : (j : Int) = ks[at']
        · have hNe : ((j : Int) != ks[at']) = false := by rw [bne_eq_false_iff_eq]; exact hN
          generalize ((bytesOf S.safe)[j]).length = nA at *
          generalize ((bytesOf Y)[j]).length = nB at *
          generalize ks[at'] = kk at *
          clear kA kB iA iB hcA hcB hN
          go_wp2
          refine wp_region_noPanic ?_
          refine wp_region_held_drew (S := fun W => W.cell? ⟨b1, o1 + at', none⟩ = some (.int .i64 kk) ∧ W.cell? ⟨gA, j, none⟩ = some (.slice aA nA cA) ∧ W.cell? ⟨gB, j, none⟩ = some (.slice aB nB cB)) (by kernel_rfl) ⟨tN, tA, tB⟩ (fun hHeld => ?_)
          refine wpAnyH_take (i := 0) (v := ?_) rfl (by kernel_rfl) (by kernel_rfl) (by kernel_rfl) (fun _ _ _ h => h) (Or.inl ⟨by rfl, ?_⟩) (by assumption) ?_
          rotate_left
          · (intro W hSw; (try dsimp only at hSw); go_simp; try with_reducible rfl)
          try simp only [List.getElem_toArray, List.getElem_cons_zero, Act.put, List.setIfInBounds_toArray, List.set_cons_zero, List.set_cons_succ]
          refine wpAnyH_take (i := 1) (v := ?_) rfl (by kernel_rfl) (by kernel_rfl) (by kernel_rfl) (fun _ _ _ h => h) (Or.inl ⟨by rfl, ?_⟩) (by assumption) ?_
          rotate_left
          · (intro W hSw; (try dsimp only at hSw); go_simp; try with_reducible rfl)
          try simp only [List.getElem_toArray, List.getElem_cons_succ, List.getElem_cons_zero, Act.put, List.setIfInBounds_toArray, List.set_cons_zero, List.set_cons_succ]
          refine wpAnyH_take (i := 2) (v := ?_) rfl (by kernel_rfl) (by kernel_rfl) (by kernel_rfl) (fun _ _ _ h => h) (Or.inl ⟨by rfl, ?_⟩) (by assumption) ?_
          rotate_left
          · (intro W hSw; (try dsimp only at hSw); go_simp; try with_reducible rfl)
          try simp only [List.getElem_toArray, List.getElem_cons_succ, List.getElem_cons_zero, Act.put, List.setIfInBounds_toArray, List.set_cons_zero, List.set_cons_succ]
          refine wpAnyH_take (i := 3) (v := ?_) rfl (by kernel_rfl) (by kernel_rfl) (by kernel_rfl) (fun _ _ _ h => h) (Or.inl ⟨by rfl, ?_⟩) (by assumption) ?_
          rotate_left
          · (intro W hSw; (try dsimp only at hSw); go_simp; try with_reducible rfl)
          try simp only [List.getElem_toArray, List.getElem_cons_succ, List.getElem_cons_zero, Act.put, List.setIfInBounds_toArray, List.set_cons_zero, List.set_cons_succ]
          refine wpAnyH_take (i := 4) (v := ?_) rfl (by kernel_rfl) (by kernel_rfl) (by kernel_rfl) (fun _ _ _ h => h) (Or.inl ⟨by rfl, ?_⟩) (by assumption) ?_
          rotate_left
          · (intro W hSw; (try dsimp only at hSw); obtain ⟨s1, s2, s3⟩ := hSw; go_simp; try with_reducible rfl)
          try simp only [List.getElem_toArray, List.getElem_cons_succ, List.getElem_cons_zero, Act.put, List.setIfInBounds_toArray, List.set_cons_zero, List.set_cons_succ]
          refine wpAnyH_take (i := 5) (v := ?_) rfl (by kernel_rfl) (by kernel_rfl) (by kernel_rfl) (fun _ _ _ h => h) (Or.inl ⟨by rfl, ?_⟩) (by assumption) ?_
          rotate_left
          · (intro W hSw; (try dsimp only at hSw); go_simp; try with_reducible rfl)
          try simp only [List.getElem_toArray, List.getElem_cons_succ, List.getElem_cons_zero, Act.put, List.setIfInBounds_toArray, List.set_cons_zero, List.set_cons_succ]
          refine wpAnyH_take (i := 6) (v := ?_) rfl (by kernel_rfl) (by kernel_rfl) (by kernel_rfl) (fun _ _ _ h => h) (Or.inl ⟨by rfl, ?_⟩) (by assumption) ?_
          rotate_left
          · (intro W hSw; (try dsimp only at hSw); go_simp; try with_reducible rfl)
          try simp only [List.getElem_toArray, List.getElem_cons_succ, List.getElem_cons_zero, Act.put, List.setIfInBounds_toArray, List.set_cons_zero, List.set_cons_succ]
          refine wpAnyH_take (i := 7) (v := undef) rfl (by kernel_rfl) (by kernel_rfl) (by kernel_rfl) (fun _ _ _ h => h) (Or.inr ⟨by rfl, rfl⟩) (by assumption) ?_
          try simp only [List.getElem_toArray, List.getElem_cons_succ, List.getElem_cons_zero, Act.put, List.setIfInBounds_toArray, List.set_cons_zero, List.set_cons_succ]
          refine wpAnyH_take (i := 8) (v := undef) rfl (by kernel_rfl) (by kernel_rfl) (by kernel_rfl) (fun _ _ _ h => h) (Or.inr ⟨by rfl, rfl⟩) (by assumption) ?_
          try simp only [List.getElem_toArray, List.getElem_cons_succ, List.getElem_cons_zero, Act.put, List.setIfInBounds_toArray, List.set_cons_zero, List.set_cons_succ]
          refine wpAnyH_take (i := 9) (v := undef) rfl (by kernel_rfl) (by kernel_rfl) (by kernel_rfl) (fun _ _ _ h => h) (Or.inr ⟨by rfl, rfl⟩) (by assumption) ?_
          try simp only [List.getElem_toArray, List.getElem_cons_succ, List.getElem_cons_zero, Act.put, List.setIfInBounds_toArray, List.set_cons_zero, List.set_cons_succ]
          refine wpAnyH_take (i := 10) (v := undef) rfl (by kernel_rfl) (by kernel_rfl) (by kernel_rfl) (fun _ _ _ h => h) (Or.inr ⟨by rfl, rfl⟩) (by assumption) ?_
          try simp only [List.getElem_toArray, List.getElem_cons_succ, List.getElem_cons_zero, Act.put, List.setIfInBounds_toArray, List.set_cons_zero, List.set_cons_succ]
          refine wpAnyH_take (i := 11) (v := undef) rfl (by kernel_rfl) (by kernel_rfl) (by kernel_rfl) (fun _ _ _ h => h) (Or.inr ⟨by rfl, rfl⟩) (by assumption) ?_
          try simp only [List.getElem_toArray, List.getElem_cons_succ, List.getElem_cons_zero, Act.put, List.setIfInBounds_toArray, List.set_cons_zero, List.set_cons_succ]
          refine wpAnyH_take (i := 12) (v := undef) rfl (by kernel_rfl) (by kernel_rfl) (by kernel_rfl) (fun _ _ _ h => h) (Or.inr ⟨by rfl, rfl⟩) (by assumption) ?_
          try simp only [List.getElem_toArray, List.getElem_cons_succ, List.getElem_cons_zero, Act.put, List.setIfInBounds_toArray, List.set_cons_zero, List.set_cons_succ]
          refine wpAnyH_take (i := 13) (v := undef) rfl (by kernel_rfl) (by kernel_rfl) (by kernel_rfl) (fun _ _ _ h => h) (Or.inr ⟨by rfl, rfl⟩) (by assumption) ?_
          try simp only [List.getElem_toArray, List.getElem_cons_succ, List.getElem_cons_zero, Act.put, List.setIfInBounds_toArray, List.set_cons_zero, List.set_cons_succ]
          refine wpAnyH_take (i := 14) (v := undef) rfl (by kernel_rfl) (by kernel_rfl) (by kernel_rfl) (fun _ _ _ h => h) (Or.inr ⟨by rfl, rfl⟩) (by assumption) ?_
          try simp only [List.getElem_toArray, List.getElem_cons_succ, List.getElem_cons_zero, Act.put, List.setIfInBounds_toArray, List.set_cons_zero, List.set_cons_succ]
          refine wpAnyH_take (i := 15) (v := undef) rfl (by kernel_rfl) (by kernel_rfl) (by kernel_rfl) (fun _ _ _ h => h) (Or.inr ⟨by rfl, rfl⟩) (by assumption) ?_
          try simp only [List.getElem_toArray, List.getElem_cons_succ, List.getElem_cons_zero, Act.put, List.setIfInBounds_toArray, List.set_cons_zero, List.set_cons_succ]
          refine wpAnyH_take (i := 16) (v := undef) rfl (by kernel_rfl) (by kernel_rfl) (by kernel_rfl) (fun _ _ _ h => h) (Or.inr ⟨by rfl, rfl⟩) (by assumption) ?_
          try simp only [List.getElem_toArray, List.getElem_cons_succ, List.getElem_cons_zero, Act.put, List.setIfInBounds_toArray, List.set_cons_zero, List.set_cons_succ]
          refine wpAnyH_take (i := 17) (v := ?_) rfl (by kernel_rfl) (by kernel_rfl) (by kernel_rfl) (fun _ _ _ h => h) (Or.inl ⟨by rfl, ?_⟩) (by assumption) ?_
          rotate_left
          · (intro W hSw; (try dsimp only at hSw); go_simp; try with_reducible rfl)
          try simp only [List.getElem_toArray, List.getElem_cons_succ, List.getElem_cons_zero, Act.put, List.setIfInBounds_toArray, List.set_cons_zero, List.set_cons_succ]
          refine wpAnyH_done (by kernel_rfl) ?_ _
          refine NoPanic.normal ?_
          clear hHeld tN tA tB
          go_wp2
          exact ⟨⟨j + 1, by omega, by go_num, hB.out.drew⟩, by simp [intOf]; omega⟩
        · have hNe : ((j : Int) != ks[at']) = true := by rw [bne_iff_ne]; exact hN
          have hYj : Y[j] = S.safe[j] := by
            have := HAl3.out hN
            rw [List.getElem?_eq_getElem hjY, List.getElem?_eq_getElem hjS] at this
            exact Option.some.inj this
          have hbj : (bytesOf Y)[j] = (bytesOf S.safe)[j] := by simp only [bytesOf, List.getElem_map, hYj]
          have hl5 : ((bytesOf S.safe)[j]).length = 512 := by
            have := HOk.out.1 (S.safe[j]) (List.getElem_mem hjS)
            simpa [bytesOf] using this
          rw [hbj] at tB iB kB
          have hsb := fun W (hw : Below wr.heap.size wr W) => same_bytes ((bytesOf S.safe)[j]) ((bytesOf S.safe)[j]) aA aB cA cB W ((iA.below hB.out).below hw) ((iB.below hB.out).below hw) (by rw [hl5]; decide)
          rw [hl5] at tA tB hsb
          have HSb := hid hsb
          generalize (bytesOf S.safe)[j] = lA at *
          generalize ks[at'] = kk at *
          clear kA kB iA iB hcA hcB hN hsb hYj hbj hl5
          go_wp2
          refine wp_region_noPanic ?_
          refine wp_region_held_drew (S := fun W => W.cell? ⟨b1, o1 + at', none⟩ = some (.int .i64 kk) ∧ W.cell? ⟨gA, j, none⟩ = some (.slice aA 512 cA) ∧ W.cell? ⟨gB, j, none⟩ = some (.slice aB 512 cB)) (by kernel_rfl) ⟨tN, tA, tB⟩ (fun hHeld => ?_)
          refine wpAnyH_take (i := 0) (v := ?_) rfl (by kernel_rfl) (by kernel_rfl) (by kernel_rfl) (fun _ _ _ h => h) (Or.inl ⟨by rfl, ?_⟩) (by assumption) ?_
          rotate_left
          · (intro W hSw; (try dsimp only at hSw); go_simp; try with_reducible rfl)
          try simp only [List.getElem_toArray, List.getElem_cons_zero, Act.put, List.setIfInBounds_toArray, List.set_cons_zero, List.set_cons_succ]
          refine wpAnyH_take (i := 1) (v := ?_) rfl (by kernel_rfl) (by kernel_rfl) (by kernel_rfl) (fun _ _ _ h => h) (Or.inl ⟨by rfl, ?_⟩) (by assumption) ?_
          rotate_left
          · (intro W hSw; (try dsimp only at hSw); go_simp; try with_reducible rfl)
          try simp only [List.getElem_toArray, List.getElem_cons_succ, List.getElem_cons_zero, Act.put, List.setIfInBounds_toArray, List.set_cons_zero, List.set_cons_succ]
          refine wpAnyH_take (i := 2) (v := ?_) rfl (by kernel_rfl) (by kernel_rfl) (by kernel_rfl) (fun _ _ _ h => h) (Or.inl ⟨by rfl, ?_⟩) (by assumption) ?_
          rotate_left
          · (intro W hSw; (try dsimp only at hSw); go_simp; try with_reducible rfl)
          try simp only [List.getElem_toArray, List.getElem_cons_succ, List.getElem_cons_zero, Act.put, List.setIfInBounds_toArray, List.set_cons_zero, List.set_cons_succ]
          refine wpAnyH_take (i := 3) (v := ?_) rfl (by kernel_rfl) (by kernel_rfl) (by kernel_rfl) (fun _ _ _ h => h) (Or.inl ⟨by rfl, ?_⟩) (by assumption) ?_
          rotate_left
          · (intro W hSw; (try dsimp only at hSw); go_simp; try with_reducible rfl)
          try simp only [List.getElem_toArray, List.getElem_cons_succ, List.getElem_cons_zero, Act.put, List.setIfInBounds_toArray, List.set_cons_zero, List.set_cons_succ]
          refine wpAnyH_take (i := 4) (v := ?_) rfl (by kernel_rfl) (by kernel_rfl) (by kernel_rfl) (fun _ _ _ h => h) (Or.inl ⟨by rfl, ?_⟩) (by assumption) ?_
          rotate_left
          · (intro W hSw; (try dsimp only at hSw); obtain ⟨s1, s2, s3⟩ := hSw; go_simp; try with_reducible rfl)
          try simp only [List.getElem_toArray, List.getElem_cons_succ, List.getElem_cons_zero, Act.put, List.setIfInBounds_toArray, List.set_cons_zero, List.set_cons_succ]
          refine wpAnyH_take (i := 5) (v := ?_) rfl (by kernel_rfl) (by kernel_rfl) (by kernel_rfl) (fun _ _ _ h => h) (Or.inl ⟨by rfl, ?_⟩) (by assumption) ?_
          rotate_left
          · (intro W hSw; (try dsimp only at hSw); go_simp; try with_reducible rfl)
          try simp only [List.getElem_toArray, List.getElem_cons_succ, List.getElem_cons_zero, Act.put, List.setIfInBounds_toArray, List.set_cons_zero, List.set_cons_succ]
          refine wpAnyH_take (i := 6) (v := ?_) rfl (by kernel_rfl) (by kernel_rfl) (by kernel_rfl) (fun _ _ _ h => h) (Or.inl ⟨by rfl, ?_⟩) (by assumption) ?_
          rotate_left
          · (intro W hSw; (try dsimp only at hSw); go_simp; try with_reducible rfl)
          try simp only [List.getElem_toArray, List.getElem_cons_succ, List.getElem_cons_zero, Act.put, List.setIfInBounds_toArray, List.set_cons_zero, List.set_cons_succ]
          refine wpAnyH_take (i := 7) (v := ?_) rfl (by kernel_rfl) (by kernel_rfl) (by kernel_rfl) (fun _ _ _ h => h) (Or.inl ⟨by rfl, ?_⟩) (by assumption) ?_
          rotate_left
          · (intro W hSw; (try dsimp only at hSw); go_simp; try with_reducible rfl)
          try simp only [List.getElem_toArray, List.getElem_cons_succ, List.getElem_cons_zero, Act.put, List.setIfInBounds_toArray, List.set_cons_zero, List.set_cons_succ]
          refine wpAnyH_take (i := 8) (v := ?_) rfl (by kernel_rfl) (by kernel_rfl) (by kernel_rfl) (fun _ _ _ h => h) (Or.inl ⟨by rfl, ?_⟩) (by assumption) ?_
          rotate_left
          · (intro W hSw; (try dsimp only at hSw); go_simp; try with_reducible rfl)
          try simp only [List.getElem_toArray, List.getElem_cons_succ, List.getElem_cons_zero, Act.put, List.setIfInBounds_toArray, List.set_cons_zero, List.set_cons_succ]
          refine wpAnyH_take (i := 9) (v := ?_) rfl (by kernel_rfl) (by kernel_rfl) (by kernel_rfl) (fun _ _ _ h => h) (Or.inl ⟨by rfl, ?_⟩) (by assumption) ?_
          rotate_left
          · (intro W hSw; (try dsimp only at hSw); go_simp; try with_reducible rfl)
          try simp only [List.getElem_toArray, List.getElem_cons_succ, List.getElem_cons_zero, Act.put, List.setIfInBounds_toArray, List.set_cons_zero, List.set_cons_succ]
          refine wpAnyH_take (i := 10) (v := ?_) rfl (by kernel_rfl) (by kernel_rfl) (by kernel_rfl) (fun _ _ _ h => h) (Or.inl ⟨by rfl, ?_⟩) (by assumption) ?_
          rotate_left
          · (intro W hSw; (try dsimp only at hSw); obtain ⟨s1, s2, s3⟩ := hSw; go_simp; try with_reducible rfl)
          try simp only [List.getElem_toArray, List.getElem_cons_succ, List.getElem_cons_zero, Act.put, List.setIfInBounds_toArray, List.set_cons_zero, List.set_cons_succ]
          refine wpAnyH_take (i := 11) (v := ?_) rfl (by kernel_rfl) (by kernel_rfl) (by kernel_rfl) (fun _ _ _ h => h) (Or.inl ⟨by rfl, ?_⟩) (by assumption) ?_
          rotate_left
          · (intro W hSw; (try dsimp only at hSw); go_simp; try with_reducible rfl)
          try simp only [List.getElem_toArray, List.getElem_cons_succ, List.getElem_cons_zero, Act.put, List.setIfInBounds_toArray, List.set_cons_zero, List.set_cons_succ]
          refine wpAnyH_take (i := 12) (v := ?_) rfl (by kernel_rfl) (by kernel_rfl) (by kernel_rfl) (fun _ _ _ h => h) (Or.inl ⟨by rfl, ?_⟩) (by assumption) ?_
          rotate_left
          · (intro W hSw; (try dsimp only at hSw); go_simp; try with_reducible rfl)
          try simp only [List.getElem_toArray, List.getElem_cons_succ, List.getElem_cons_zero, Act.put, List.setIfInBounds_toArray, List.set_cons_zero, List.set_cons_succ]
          refine wpAnyH_take (i := 13) (v := ?_) rfl (by kernel_rfl) (by kernel_rfl) (by kernel_rfl) (fun _ _ _ h => h) (Or.inl ⟨by rfl, ?_⟩) (by assumption) ?_
          rotate_left
          · (intro W hSw; (try dsimp only at hSw); go_simp; try with_reducible rfl)
          try simp only [List.getElem_toArray, List.getElem_cons_succ, List.getElem_cons_zero, Act.put, List.setIfInBounds_toArray, List.set_cons_zero, List.set_cons_succ]
          refine wpAnyH_take (i := 14) (v := ?_) rfl (by kernel_rfl) (by kernel_rfl) (by kernel_rfl) (fun _ _ _ h => h) (Or.inl ⟨by rfl, ?_⟩) (by assumption) ?_
          rotate_left
          · (intro W hSw; (try dsimp only at hSw); obtain ⟨s1, s2, s3⟩ := hSw; go_simp; try with_reducible rfl)
          try simp only [List.getElem_toArray, List.getElem_cons_succ, List.getElem_cons_zero, Act.put, List.setIfInBounds_toArray, List.set_cons_zero, List.set_cons_succ]
          refine wpAnyH_ready (rs := [15]) (by kernel_rfl) (by simp) (AllReadyH.cons rfl (fun K hK => ?_) AllReadyH.nil)
          rw [if_pos (by rfl)]
          go_simp
          refine (HSb.out wr.drew (Below.refl _ _).drew).mono ?_
          clear HSb
          rintro e w11 ⟨rfl, hb11⟩
          simp only [decide_true]
          have hb11' := below_undrew hb11
          have HB11 := hid (hB.out.trans (hb11'.mono hB.out.size))
          have u1 : w11.cell? ⟨b1, o1 + at', none⟩ = some (.int .i64 kk) := (hb11'.cell (p := ⟨b1, o1 + at', none⟩) (World.block_lt_of_cell? wr _ tN)).trans tN
          have u2 : w11.cell? ⟨gA, j, none⟩ = some (.slice aA 512 cA) := (hb11'.cell (p := ⟨gA, j, none⟩) (World.block_lt_of_cell? wr _ tA)).trans tA
          have u3 : w11.cell? ⟨gB, j, none⟩ = some (.slice aB 512 cB) := (hb11'.cell (p := ⟨gB, j, none⟩) (World.block_lt_of_cell? wr _ tB)).trans tB
          go_wp2_with fail
          refine hK.out _ _ ⟨u1, u2, u3⟩ (fun hHeld => ?_)
          clear hK K hb11 hb11'
          try simp only [List.getElem_toArray, List.getElem_cons_succ, List.getElem_cons_zero, Act.put, List.setIfInBounds_toArray, List.set_cons_zero, List.set_cons_succ]
          refine wpAnyH_take (i := 16) (v := ?_) rfl (by kernel_rfl) (by kernel_rfl) (by kernel_rfl) (fun _ _ _ h => h) (Or.inl ⟨by rfl, ?_⟩) (by assumption) ?_
          rotate_left
          · (intro W hSw; (try dsimp only at hSw); go_simp; try with_reducible rfl)
          try simp only [List.getElem_toArray, List.getElem_cons_succ, List.getElem_cons_zero, Act.put, List.setIfInBounds_toArray, List.set_cons_zero, List.set_cons_succ]
          refine wpAnyH_take (i := 17) (v := ?_) rfl (by kernel_rfl) (by kernel_rfl) (by kernel_rfl) (fun _ _ _ h => h) (Or.inl ⟨by rfl, ?_⟩) (by assumption) ?_
          rotate_left
          · (intro W hSw; (try dsimp only at hSw); go_simp; try with_reducible rfl)
          try simp only [List.getElem_toArray, List.getElem_cons_succ, List.getElem_cons_zero, Act.put, List.setIfInBounds_toArray, List.set_cons_zero, List.set_cons_succ]
          refine wpAnyH_done (by kernel_rfl) ?_ _
          refine NoPanic.normal ?_
          clear hHeld tN tA tB u1 u2 u3
          go_wp2
          exact ⟨⟨j + 1, by omega, by go_num, HB11⟩, by simp [intOf]; omega⟩
      · obtain rfl : j = 5 := by omega
        go_wp2
        go_ret
        exact ⟨rfl, HBl10.out.trans (hB.out.mono HBl10.out.size)⟩
end Go.Proofs.Ytpdpmcibeliocab
