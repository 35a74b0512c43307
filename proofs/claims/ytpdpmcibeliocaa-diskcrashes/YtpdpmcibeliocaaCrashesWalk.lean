/- The walk of DiskCrashes. -/
import Derived.Test.YtpdpmcibeliocaaCrashesPlain
namespace Go.Proofs.Ytpdpmcibeliocaa
open Go.RowKit
set_option maxRecDepth 100000 in
set_option maxHeartbeats 4000000 in
theorem crashes_walk (ds : List DeedS) (a : Option Addr) (c : Nat) (hlen : ds.length ≤ 9223372036854775807) (ch : List UInt8) (ca : Option Addr) (cc : Nat) (hch : ch.length ≤ 9223372036854775807) (w : World) (hds : deedsAt w a ds) (hcb : bytesIn w ca ch) :
    Calls Try.prog 5 #[.slice a ds.length c, .slice ca ch.length cc] w fun e w' => e = .returned (.bool true) ∧ Below w.heap.size w w' := by
  have HDS := hid hds
  have HCB := hid hcb
  have HZ := hid (play_sizes 5 ds (min ds.length 40) (Nat.min_le_left _ _))
  have H40 : Hid (min ds.length 40 ≤ 40) := Nat.min_le_right _ _
  clear hds hcb
  go_enter Try.func5, Try.ntmps5
  go_wp2_with fail
  refine (play_any 5 (by omega) (by omega) ds a c hlen w HDS.out).mono ?_
  rintro e w1 ⟨d, r, rfl, fv, lv, vs, Rd, hP⟩
  have HD := hid hP.D
  have HB := hid hP.below
  have HF : Hid (∀ i, d.foot (playS 5 ds (min ds.length 40)).waits i → w.heap.size ≤ i) := fun i hi => (hP.fd i hi).1
  have HSL : Hid ((playS 5 ds (min ds.length 40)).safe.length = 5) := HZ.out.1
  have HOps : Hid ((playS 5 ds (min ds.length 40)).ops.length < opsMax) := Nat.lt_of_le_of_lt (Nat.le_trans HZ.out.2.2.1 H40.out) (by decide)
  have HOk : Hid (okS (playS 5 ds (min ds.length 40))) := ok_play 5 ds _ (Nat.min_le_left _ _)
  clear hP HZ H40 HDS
  generalize playS 5 ds (min ds.length 40) = S at *
  go_wp2_with fail
  refine (live_any w1).mono ?_
  rintro e w2 ⟨rfl, hb2⟩
  have HD2 := hid (HD.out.below hb2)
  have HB2 := hid (HB.out.trans (hb2.mono HB.out.size))
  have HWt := hid (waiting_disk d S w2 HD2.out (Nat.le_of_lt HOps.out))
  clear hb2 HD HB
  go_wp2_with fail
  refine HWt.out.mono ?_
  clear HWt
  rintro e w3 ⟨v1, v2, rfl, hr1, hr2, hb3⟩
  obtain ⟨p1, c1, rfl, hi1⟩ := ints_of_row hr1
  have hlc : (waitKeys S.waits S.safe.length).length = (waitCounts S.waits S.safe.length).length := by simp [waitCounts]
  rw [hlc] at hr2
  obtain ⟨p2, c2, rfl, hi2⟩ := ints_of_row hr2
  rw [← hlc]
  have HI1 := hid hi1
  have HI2 := hid hi2
  have HD3 := hid (HD2.out.below hb3)
  have HB3 := hid (HB2.out.trans (hb3.mono HB2.out.size))
  have HCB3 := hid (HCB.out.below (HB3.out))
  have hkl := length_waitKeys S.waits S.safe.length
  have hkl5 : (waitKeys S.waits S.safe.length).length ≤ 5 := by have := HSL.out; omega
  have HCnt : Hid (∀ j (h : j < (waitKeys S.waits S.safe.length).length) (h' : j < (waitCounts S.waits S.safe.length).length), 0 ≤ (waitCounts S.waits S.safe.length)[j] ∧ (waitCounts S.waits S.safe.length)[j] ≤ 1000000000) := fun j h h' => by
    have h1 := HD3.out.plates.len (waitKeys S.waits S.safe.length)[j]
    have h2 := HOps.out
    unfold opsMax at h2
    have e : (waitCounts S.waits S.safe.length)[j] = ((S.waits (waitKeys S.waits S.safe.length)[j]).length : Int) := by simp [waitCounts]
    rw [e]; omega
  have HGn := hid (good_nil S.waits S.safe.length)
  have HGc := hid (good_counts S.waits S.safe.length)
  have HGk := hid (good_keepL ch S.waits S.safe.length)
  have HSm := hid (fun keep n h => crash_some S.waits S.safe S.safe.length keep n h)
  have HCa := hid (crash_all S)
  have HCr := hid (fun keep a c w h h2 h3 => crash_any d S keep a c w h (Nat.le_of_lt HOps.out) h2 h3)
  have HLc := hid hlc
  have HSort := hid (sorted_waitKeys S.waits S.safe.length)
  have HMem := hid (fun j (h : j < (waitKeys S.waits S.safe.length).length) => (mem_waitKeys.1 (List.getElem_mem h) : 0 ≤ (waitKeys S.waits S.safe.length)[j] ∧ _))
  obtain ⟨i0, hi, hz0, hz1, hz2⟩ := info_parts infoInt
  have HI := hid hi
  clear hr1 hr2 hb3 hi1 hi2 hkl HD2 HB2 hlc hi HCB
  generalize waitKeys S.waits S.safe.length = ks at *
  generalize waitCounts S.waits S.safe.length = cs at *
  go_wp2
  go_loopw [10, 11] (fun v i wr => ∃ k : Nat, k ≤ ks.length ∧ i = .int .i64 k ∧ Hid (wr.ownsRow w3.heap.size 3 1 v k (((keepL ch cs).take k).map encZ)) ∧ Hid (Below w3.heap.size w3 wr)) (fun _ i _ => ks.length - (intOf i).toNat)
  case atStart => exact ⟨0, by omega, rfl, World.ownsRow_nil _ _ _ _, Below.refl _ _⟩
  case round =>
    obtain ⟨k, hk, rfl, hF, hBr⟩ := hrel
    by_cases hlt : k < ks.length
    · have hk0 : (0 : Int) ≤ (k : Int) := by omega
      have hk2 : (k : Int) < (ks.length : Int) := by omega
      have hltc : k < cs.length := by rw [← HLc.out]; exact hlt
      have HS := hid (keepL_step ch cs k hltc)
      by_cases hc : k < ch.length
      · have hc2 : (k : Int) < (ch.length : Int) := by omega
        obtain ⟨b2, o2, rfl, hc2'⟩ := HI2.out k hltc
        obtain ⟨b3, o3, rfl, hc3⟩ := HCB3.out k hc
        obtain ⟨n0, n1⟩ := HCnt.out k hlt hltc
        have t2 : wr.cell? ⟨b2, o2 + k, none⟩ = some (.int .i64 cs[k]) := (hBr.out.cell (p := ⟨b2, o2 + k, none⟩) (World.block_lt_of_cell? w3 _ (hc2' k hltc))).trans (hc2' k hltc)
        have t3 : wr.cell? ⟨b3, o3 + k, none⟩ = some (.int .u8 (ch[k].toNat : Int)) := (hBr.out.cell (p := ⟨b3, o3 + k, none⟩) (World.block_lt_of_cell? w3 _ (hc3 k hc))).trans (hc3 k hc)
        have x1 : ((ch[k].toNat : Nat) : Int) ≤ 255 := by have := ch[k].toNat_lt; omega
        have x0 : (0 : Int) ≤ ((ch[k].toNat : Nat) : Int) := by omega
        have hkA : keepAt ch cs k = ((ch[k].toNat : Nat) : Int) % (cs[k] + 1) := by simp [keepAt, hc, hltc]
        rw [hkA] at HS
        have HFd : Hid (wr.drew.ownsRow w3.heap.size 3 1 u10 k (((keepL ch cs).take k).map encZ)) := hF.out
        have HBd := hid hBr.out.drew
        generalize cs[k] = cnt at *
        generalize ((ch[k].toNat : Nat) : Int) = X at *
        clear hc2' hc3 hkA hF
        go_wp2
        refine wp_region_noPanic ?_
        refine wp_region_held_drew (S := fun W => W.cell? ⟨b2, o2 + k, none⟩ = some (.int .i64 cnt) ∧ W.cell? ⟨b3, o3 + k, none⟩ = some (.int .u8 X)) (by kernel_rfl) ⟨t2, t3⟩ (fun hHeld => ?_)
        refine wpAnyH_take (i := 0) (v := ?_) rfl (by kernel_rfl) (by kernel_rfl) (by kernel_rfl) (fun _ _ _ h => h) (Or.inl ⟨by rfl, ?_⟩) (by assumption) ?_
        rotate_left
        · (intro W hSw; (try dsimp only at hSw); obtain ⟨s1, s2⟩ := hSw; go_simp; try with_reducible rfl)
        try simp only [List.getElem_toArray, List.getElem_cons_zero, Act.put, List.setIfInBounds_toArray, List.set_cons_zero, List.set_cons_succ]
        refine wpAnyH_take (i := 1) (v := ?_) rfl (by kernel_rfl) (by kernel_rfl) (by kernel_rfl) (fun _ _ _ h => h) (Or.inl ⟨by rfl, ?_⟩) (by assumption) ?_
        rotate_left
        · (intro W hSw; (try dsimp only at hSw); obtain ⟨s1, s2⟩ := hSw; go_simp; try with_reducible rfl)
        try simp only [List.getElem_toArray, List.getElem_cons_succ, List.getElem_cons_zero, Act.put, List.setIfInBounds_toArray, List.set_cons_zero, List.set_cons_succ]
        refine wpAnyH_take (i := 2) (v := ?_) rfl (by kernel_rfl) (by kernel_rfl) (by kernel_rfl) (fun _ _ _ h => h) (Or.inl ⟨by rfl, ?_⟩) (by assumption) ?_
        rotate_left
        · (intro W hSw; (try dsimp only at hSw); obtain ⟨s1, s2⟩ := hSw; go_simp; try with_reducible rfl)
        try simp only [List.getElem_toArray, List.getElem_cons_succ, List.getElem_cons_zero, Act.put, List.setIfInBounds_toArray, List.set_cons_zero, List.set_cons_succ]
        refine wpAnyH_take (i := 3) (v := ?_) rfl (by kernel_rfl) (by kernel_rfl) (by kernel_rfl) (fun _ _ _ h => h) (Or.inl ⟨by rfl, ?_⟩) (by assumption) ?_
        rotate_left
        · (intro W hSw; (try dsimp only at hSw); obtain ⟨s1, s2⟩ := hSw; go_simp; try with_reducible rfl)
        try simp only [List.getElem_toArray, List.getElem_cons_succ, List.getElem_cons_zero, Act.put, List.setIfInBounds_toArray, List.set_cons_zero, List.set_cons_succ]
        refine wpAnyH_take (i := 4) (v := ?_) rfl (by kernel_rfl) (by kernel_rfl) (by kernel_rfl) (fun _ _ _ h => h) (Or.inl ⟨by rfl, ?_⟩) (by assumption) ?_
        rotate_left
        · (intro W hSw; (try dsimp only at hSw); obtain ⟨s1, s2⟩ := hSw; go_simp; try with_reducible rfl)
        try simp only [List.getElem_toArray, List.getElem_cons_succ, List.getElem_cons_zero, Act.put, List.setIfInBounds_toArray, List.set_cons_zero, List.set_cons_succ]
        refine wpAnyH_take (i := 5) (v := ?_) rfl (by kernel_rfl) (by kernel_rfl) (by kernel_rfl) (fun _ _ _ h => h) (Or.inl ⟨by rfl, ?_⟩) (by assumption) ?_
        rotate_left
        · (intro W hSw; (try dsimp only at hSw); obtain ⟨s1, s2⟩ := hSw; go_simp; try with_reducible rfl)
        try simp only [List.getElem_toArray, List.getElem_cons_succ, List.getElem_cons_zero, Act.put, List.setIfInBounds_toArray, List.set_cons_zero, List.set_cons_succ]
        refine wpAnyH_take (i := 6) (v := ?_) rfl (by kernel_rfl) (by kernel_rfl) (by kernel_rfl) (fun _ _ _ h => h) (Or.inl ⟨by rfl, ?_⟩) (by assumption) ?_
        rotate_left
        · (intro W hSw; (try dsimp only at hSw); obtain ⟨s1, s2⟩ := hSw; go_simp; try with_reducible rfl)
        try simp only [List.getElem_toArray, List.getElem_cons_succ, List.getElem_cons_zero, Act.put, List.setIfInBounds_toArray, List.set_cons_zero, List.set_cons_succ]
        refine wpAnyH_take (i := 7) (v := ?_) rfl (by kernel_rfl) (by kernel_rfl) (by kernel_rfl) (fun _ _ _ h => h) (Or.inl ⟨by rfl, ?_⟩) (by assumption) ?_
        rotate_left
        · (intro W hSw; (try dsimp only at hSw); obtain ⟨s1, s2⟩ := hSw; go_simp; try with_reducible rfl)
        try simp only [List.getElem_toArray, List.getElem_cons_succ, List.getElem_cons_zero, Act.put, List.setIfInBounds_toArray, List.set_cons_zero, List.set_cons_succ]
        refine wpAnyH_take (i := 8) (v := ?_) rfl (by kernel_rfl) (by kernel_rfl) (by kernel_rfl) (fun _ _ _ h => h) (Or.inl ⟨by rfl, ?_⟩) (by assumption) ?_
        rotate_left
        · (intro W hSw; (try dsimp only at hSw); obtain ⟨s1, s2⟩ := hSw; go_simp; try with_reducible rfl)
        try simp only [List.getElem_toArray, List.getElem_cons_succ, List.getElem_cons_zero, Act.put, List.setIfInBounds_toArray, List.set_cons_zero, List.set_cons_succ]
        refine wpAnyH_take (i := 9) (v := ?_) rfl (by kernel_rfl) (by kernel_rfl) (by kernel_rfl) (fun _ _ _ h => h) (Or.inl ⟨by rfl, ?_⟩) (by assumption) ?_
        rotate_left
        · (intro W hSw; (try dsimp only at hSw); obtain ⟨s1, s2⟩ := hSw; go_simp; try with_reducible rfl)
        try simp only [List.getElem_toArray, List.getElem_cons_succ, List.getElem_cons_zero, Act.put, List.setIfInBounds_toArray, List.set_cons_zero, List.set_cons_succ]
        refine wpAnyH_take (i := 10) (v := .int .i64 (X % (cnt + 1))) rfl (by kernel_rfl) (by kernel_rfl) (by kernel_rfl) (fun _ _ _ h => h) (Or.inl ⟨by rfl, ?_⟩) (by assumption) ?_
        · intro W hSw
          go_simp
          rw [IntWalk.i64_in (cnt + 1) (by omega), IntWalk.i64_in X (by omega), if_neg (show ¬ (cnt + 1 = 0) by omega), Int.tmod_eq_emod_of_nonneg x0]
        try simp only [List.getElem_toArray, List.getElem_cons_succ, List.getElem_cons_zero, Act.put, List.setIfInBounds_toArray, List.set_cons_zero, List.set_cons_succ]
        refine wpAnyH_take (i := 11) (v := ?_) rfl (by kernel_rfl) (by kernel_rfl) (by kernel_rfl) (fun _ _ _ h => h) (Or.inl ⟨by rfl, ?_⟩) (by assumption) ?_
        rotate_left
        · (intro W hSw; (try dsimp only at hSw); obtain ⟨s1, s2⟩ := hSw; go_simp; try with_reducible rfl)
        try simp only [List.getElem_toArray, List.getElem_cons_succ, List.getElem_cons_zero, Act.put, List.setIfInBounds_toArray, List.set_cons_zero, List.set_cons_succ]
        refine wpAnyH_done (by kernel_rfl) ?_ _
        refine NoPanic.normal ?_
        clear t2 t3
        generalize wr.drew = wd at *
        go_wp2_with (refine wpList_append_lies _ rfl (.tmp 63) (.tmp 65) 35 rfl w3.heap.size 3 i0 (.int .i64 0) 1 8 Try.underlying35 HI.out hz0 hz1 hz2 rfl (by omega) u10 k _ rfl (HFd.out.alloc _) ⟨wd.heap.size, 0, none⟩ 1 1 [.int .i64 (X % (cnt + 1))] rfl rfl (World.news_of_block (cs := #[.int .i64 (X % (cnt + 1))]) (block_new wd _)) (by intro u hu; rw [List.mem_singleton.1 hu]; rfl) (by omega) (by unfold maxLen; omega) (by omega) (by have := HBd.out.size; simp; omega) (wd.heap.size + 1) (by simp) ?_; intro g2 cap2 w5 hown hgr hat hlt2; have HO := hid hown; have HG := hid hgr; clear hown hgr hat hlt2)
        have hba := HBd.out.alloc HBd.out.size (.cells #[.int .i64 (X % (cnt + 1))] 3)
        refine ⟨⟨k + 1, by omega, by go_num, ?_, hba.trans (below_of_row HG.out hba.size (fun i e => (HFd.out.lt i e).1))⟩, by simp [intOf]; omega⟩
        have := HO.out
        rwa [HS.out] at this
      · have hc2 : ¬ ((k : Int) < (ch.length : Int)) := by omega
        have hkA : keepAt ch cs k = 0 := by simp [keepAt, hc]
        rw [hkA] at HS
        have HFd := hF
        have HBd := hBr
        go_wp2_with (refine wpList_append_lies _ rfl (.tmp 63) (.tmp 65) 35 rfl w3.heap.size 3 i0 (.int .i64 0) 1 8 Try.underlying35 HI.out hz0 hz1 hz2 rfl (by omega) u10 k _ rfl (HFd.out.alloc _) ⟨wr.heap.size, 0, none⟩ 1 1 [.int .i64 0] rfl rfl (World.news_of_block (cs := #[.int .i64 0]) (block_new wr _)) (by intro u hu; rw [List.mem_singleton.1 hu]; rfl) (by omega) (by unfold maxLen; omega) (by omega) (by have := HBd.out.size; simp; omega) (wr.heap.size + 1) (by simp) ?_; intro g2 cap2 w5 hown hgr hat hlt2; have HO := hid hown; have HG := hid hgr; clear hown hgr hat hlt2)
        have hba := HBd.out.alloc HBd.out.size (.cells #[.int .i64 0] 3)
        refine ⟨⟨k + 1, by omega, by go_num, ?_, hba.trans (below_of_row HG.out hba.size (fun i e => (HFd.out.lt i e).1))⟩, by simp [intOf]; omega⟩
        have := HO.out
        rwa [HS.out] at this
    · obtain rfl : k = ks.length := by omega
      have hge : ¬ ((ks.length : Int) < (ks.length : Int)) := by omega
      have hkl : (keepL ch cs).length = ks.length := by rw [length_keepL, HLc.out]
      have hrow := hF.out
      rw [List.take_of_length_le (Nat.le_of_eq hkl), ← hkl] at hrow
      obtain ⟨p3, c3, rfl, hi3⟩ := ints_of_row hrow
      rw [hkl]
      have HKl := hid hkl
      have HI3 := hid hi3
      have HI1w := hid (HI1.out.below hBr.out)
      have HI2w := hid (HI2.out.below hBr.out)
      have HDw := hid (HD3.out.below hBr.out)
      have HBw := hid (HB3.out.trans (hBr.out.mono HB3.out.size))
      clear hrow hi3 hkl hF HI1 HI2 HD3 HB3 hBr HCB3 HCnt
      generalize keepL ch cs = KL at *
      have hn := HCr.out [] none 0 wr HDw.out (by decide) (fun j hj => absurd hj (by simp))
      rw [List.zip_nil_right, List.length_nil, show crashL S.waits S.safe [] = S.safe from rfl] at hn
      have HN := hid hn
      clear hn
      go_wp2_with fail
      refine HN.out.mono ?_
      clear HN
      rintro e w4 ⟨hb4, h4⟩
      rcases h4 with ⟨hbad, -⟩ | ⟨-, dA, rfl, hDA, -, -⟩
      · exact absurd HGn.out hbad
      have HD4 := hid (HDw.out.below hb4)
      have HI14 := hid (HI1w.out.below hb4)
      have HI24 := hid (HI2w.out.below hb4)
      have HI34 := hid (HI3.out.below hb4)
      have HB4 := hid (HBw.out.trans (hb4.mono HBw.out.size))
      have HA4 := hid hDA
      have hn := HCr.out cs p2 c2 w4 HD4.out (by rw [← HLc.out]; omega) HI24.out
      rw [HCa.out, ← HLc.out] at hn
      have HN := hid hn
      clear hn hb4 hDA HDw HI1w HI2w HI3 HBw
      go_wp2_with fail
      refine HN.out.mono ?_
      clear HN
      rintro e w5 ⟨hb5, h5⟩
      rcases h5 with ⟨hbad, -⟩ | ⟨-, dB, rfl, hDB, -, -⟩
      · exact absurd HGc.out hbad
      have HD5 := hid (HD4.out.below hb5)
      have HI15 := hid (HI14.out.below hb5)
      have HI35 := hid (HI34.out.below hb5)
      have HB5 := hid (HB4.out.trans (hb5.mono HB4.out.size))
      have HA5 := hid (HA4.out.below hb5)
      have HDB5 := hid hDB
      have hn := HCr.out KL p3 c3 w5 HD5.out (by rw [HKl.out]; omega) HI35.out
      rw [HKl.out] at hn
      have HSm2 := hid (HSm.out KL)
      have HYl : Hid ((crashL S.waits S.safe (ks.zip KL)).length = 5) := (length_crashL _ _ _).trans HSL.out
      generalize crashL S.waits S.safe (ks.zip KL) = Y at *
      have HN := hid hn
      clear hn hb5 hDB HD4 HI14 HI24 HI34 HB4 HA4 HCr HCa HSm
      go_wp2_with fail
      refine HN.out.mono ?_
      clear HN
      rintro e w6 ⟨hb6, h6⟩
      rcases h6 with ⟨hbad, -⟩ | ⟨-, dC, rfl, hDC, -, -⟩
      · exact absurd HGk.out hbad
      have HD6 := hid (HD5.out.below hb6)
      have HI16 := hid (HI15.out.below hb6)
      have HI36 := hid (HI35.out.below hb6)
      have HB6 := hid (HB5.out.trans (hb6.mono HB5.out.size))
      have HA6 := hid (HA5.out.below hb6)
      have HDB6 := hid (HDB5.out.below hb6)
      have HDC6 := hid hDC
      have h5s : (bytesOf S.safe).length = 5 := by rw [length_bytesOf]; exact HSL.out
      have h5i : (bytesOf (imgS S)).length = 5 := by rw [length_bytesOf, length_imgS]; exact HSL.out
      have HRowS : Hid (∀ l ∈ bytesOf S.safe, l.length = 512) := fun l hl => by
        obtain ⟨s, hs, rfl⟩ := List.mem_map.1 hl
        have := HOk.out.1 s hs
        simpa using this
      have HRowI : Hid (∀ l ∈ bytesOf (imgS S), l.length = 512) := fun l hl => by
        obtain ⟨s, hs, rfl⟩ := List.mem_map.1 hl
        obtain ⟨k, hk, rfl⟩ := List.mem_map.1 hs
        have := ok_seen HOk.out k (List.mem_range.1 hk)
        simpa using this
      have HAllS := hid (fun u v c c' W h1 h2 => same_all (bytesOf S.safe) (bytesOf S.safe) u v c c' W h1 h2 (by rw [h5s]; decide) (fun l hl => by rw [HRowS.out l hl]; decide))
      have HAllI := hid (fun u v c c' W h1 h2 => same_all (bytesOf (imgS S)) (bytesOf (imgS S)) u v c c' W h1 h2 (by rw [h5i]; decide) (fun l hl => by rw [HRowI.out l hl]; decide))
      rw [decide_eq_true rfl, h5s] at HAllS
      rw [decide_eq_true rfl, h5i] at HAllI
      have him := image_disk dA (freshS S.safe) w6 HA6.out
      rw [imgS_fresh, show (freshS S.safe).safe.length = 5 from HSL.out] at him
      have HIm := hid him
      clear him hb6 hDC HD5 HI15 HI35 HB5 HA5 HDB5 h5s h5i
      go_wp2_with fail
      refine HIm.out.mono ?_
      clear HIm
      rintro e w7 ⟨g7, rfl, hr7, hg7, hb7⟩
      have HD7 := hid (HD6.out.below hb7)
      have HI17 := hid (HI16.out.below hb7)
      have HI37 := hid (HI36.out.below hb7)
      have HB7 := hid (HB6.out.trans (hb7.mono HB6.out.size))
      have HDB7 := hid (HDB6.out.below hb7)
      have HDC7 := hid (HDC6.out.below hb7)
      have HR7 := hid hr7.at
      have hsa := safe_disk d S w7 HD7.out
      rw [HSL.out] at hsa
      have HSa := hid hsa
      clear hr7 hb7 hsa HD6 HI16 HI36 HB6 HDB6 HDC6 HA6
      go_wp2_with fail
      refine HSa.out.mono ?_
      clear HSa
      rintro e w8 ⟨g8, rfl, hr8, hg8, hb8⟩
      have HD8 := hid (HD7.out.below hb8)
      have HI18 := hid (HI17.out.below hb8)
      have HI38 := hid (HI37.out.below hb8)
      have HB8 := hid (HB7.out.trans (hb8.mono HB7.out.size))
      have HDB8 := hid (HDB7.out.below hb8)
      have HDC8 := hid (HDC7.out.below hb8)
      have HS8 := hid (HAllS.out (some ⟨g7, 0, none⟩) (some ⟨g8, 0, none⟩) 5 5 w8 (HR7.out.below hb8) hr8.at)
      clear hr8 hb8 HD7 HI17 HI37 HB7 HDB7 HDC7 HR7 HAllS
      go_wp2_with fail
      refine HS8.out.mono ?_
      clear HS8
      rintro e w9 ⟨rfl, hb9⟩
      have HD9 := hid (HD8.out.below hb9)
      have HI19 := hid (HI18.out.below hb9)
      have HI39 := hid (HI38.out.below hb9)
      have HB9 := hid (HB8.out.trans (hb9.mono HB8.out.size))
      have HDC9 := hid (HDC8.out.below hb9)
      have him := image_disk dB (freshS (imgS S)) w9 (HDB8.out.below hb9)
      rw [imgS_fresh, show (freshS (imgS S)).safe.length = 5 from (length_imgS S).trans HSL.out] at him
      have HIm := hid him
      clear him hb9 HD8 HI18 HI38 HB8 HDB8 HDC8
      go_wp2_with fail
      refine HIm.out.mono ?_
      clear HIm
      rintro e w10 ⟨g10, rfl, hr10, hg10, hb10⟩
      have HD10 := hid (HD9.out.below hb10)
      have HI110 := hid (HI19.out.below hb10)
      have HI310 := hid (HI39.out.below hb10)
      have HB10 := hid (HB9.out.trans (hb10.mono HB9.out.size))
      have HDC10 := hid (HDC9.out.below hb10)
      have HR10 := hid hr10.at
      have him := image_disk d S w10 HD10.out
      rw [HSL.out] at him
      have HIm := hid him
      clear him hr10 hb10 HD9 HI19 HI39 HB9 HDC9
      go_wp2_with fail
      refine HIm.out.mono ?_
      clear HIm
      rintro e w11 ⟨g11, rfl, hr11, hg11, hb11⟩
      have HD11 := hid (HD10.out.below hb11)
      have HI111 := hid (HI110.out.below hb11)
      have HI311 := hid (HI310.out.below hb11)
      have HB11 := hid (HB10.out.trans (hb11.mono HB10.out.size))
      have HDC11 := hid (HDC10.out.below hb11)
      have HS11 := hid (HAllI.out (some ⟨g10, 0, none⟩) (some ⟨g11, 0, none⟩) 5 5 w11 (HR10.out.below hb11) hr11.at)
      clear hr11 hb11 HD10 HI110 HI310 HB10 HDC10 HR10
      go_wp2_with fail
      refine HS11.out.mono ?_
      clear HS11
      rintro e w12 ⟨rfl, hb12⟩
      have HD12 := hid (HD11.out.below hb12)
      have HI112 := hid (HI111.out.below hb12)
      have HI312 := hid (HI311.out.below hb12)
      have HB12 := hid (HB11.out.trans (hb12.mono HB11.out.size))
      have him := image_disk dC (freshS Y) w12 (HDC11.out.below hb12)
      rw [imgS_fresh, show (freshS Y).safe.length = 5 from HYl.out] at him
      have HIm := hid him
      clear him hb12 HD11 HI111 HI311 HB11 HDC11
      go_wp2_with fail
      refine HIm.out.mono ?_
      clear HIm
      rintro e w13 ⟨g13, rfl, hr13, hg13, hb13⟩
      have HD13 := hid (HD12.out.below hb13)
      have HI113 := hid (HI112.out.below hb13)
      have HI313 := hid (HI312.out.below hb13)
      have HB13 := hid (HB12.out.trans (hb13.mono HB12.out.size))
      have HR13 := hid hr13
      have hsa := safe_disk d S w13 HD13.out
      rw [HSL.out] at hsa
      have HSa := hid hsa
      clear hr13 hb13 hsa HD12 HI112 HI312 HB12
      go_wp2_with fail
      refine HSa.out.mono ?_
      clear HSa
      rintro e w14 ⟨g14, rfl, hr14, hg14, hb14⟩
      have HD14 := hid (HD13.out.below hb14)
      have HI114 := hid (HI113.out.below hb14)
      have HI314 := hid (HI313.out.below hb14)
      have HB14 := hid (HB13.out.trans (hb14.mono HB13.out.size))
      have HR1314 := hid (HR13.out.at.below hb14)
      have HR14 := hid hr14.at
      clear hr14 hb14 HD13 HI113 HI313 HB13 HR13
      go_wp2
      go_loopw [21, 22] (fun v i wr => ∃ j t : Nat, j ≤ 5 ∧ t ≤ ks.length ∧ i = .int .i64 j ∧ v = .int .i64 t ∧ Hid (∀ m (hm : m < ks.length), m < t ↔ ks[m] < (j : Int)) ∧ Hid (Below w14.heap.size w14 wr)) (fun _ i _ => 5 - (intOf i).toNat)
      case atStart => exact ⟨0, 0, by omega, by omega, rfl, rfl, fun m hm => by have := (HMem.out m hm).1; constructor <;> intro h <;> omega, Below.refl _ _⟩
      case round =>
        obtain ⟨j, t, hj, ht, rfl, rfl, hInv, hB⟩ := hrel
        by_cases hlt : j < 5
        · have hj0 : (0 : Int) ≤ (j : Int) := by omega
          have hj5 : (j : Int) < 5 := by omega
          have hjS : j < S.safe.length := by rw [HSL.out]; exact hlt
          have hjY : j < Y.length := by rw [HYl.out]; exact hlt
          have hjA : j < (bytesOf Y).length := by rw [length_bytesOf]; exact hjY
          have hjB : j < (bytesOf S.safe).length := by rw [length_bytesOf]; exact hjS
          obtain ⟨bA, oA, eA, hcA⟩ := HR1314.out j hjA
          simp only [Option.some.injEq, Addr.mk.injEq, and_true] at eA
          obtain ⟨rfl, rfl⟩ := eA
          obtain ⟨bB, oB, eB, hcB⟩ := HR14.out j hjB
          simp only [Option.some.injEq, Addr.mk.injEq, and_true] at eB
          obtain ⟨rfl, rfl⟩ := eB
          obtain ⟨aA, cA, kA, iA⟩ := hcA j hjA
          obtain ⟨aB, cB, kB, iB⟩ := hcB j hjB
          rw [Nat.zero_add] at kA kB
          have tA : wr.cell? ⟨g13, j, none⟩ = some (.slice aA ((bytesOf Y)[j]).length cA) := (hB.out.cell (p := ⟨g13, j, none⟩) (World.block_lt_of_cell? w14 _ kA)).trans kA
          have tB : wr.cell? ⟨g14, j, none⟩ = some (.slice aB ((bytesOf S.safe)[j]).length cB) := (hB.out.cell (p := ⟨g14, j, none⟩) (World.block_lt_of_cell? w14 _ kB)).trans kB
          by_cases htl : t < ks.length
          · have ht0 : (0 : Int) ≤ (t : Int) := by omega
            have ht1 : (t : Int) < (ks.length : Int) := by omega
            obtain ⟨b1, o1, rfl, hc1⟩ := HI114.out t htl
            have tN : wr.cell? ⟨b1, o1 + t, none⟩ = some (.int .i64 ks[t]) := (hB.out.cell (p := ⟨b1, o1 + t, none⟩) (World.block_lt_of_cell? w14 _ (hc1 t htl))).trans (hc1 t htl)
            by_cases hN : ks[t] = (j : Int)
            · obtain ⟨hnx, huq⟩ := at_hit HSort.out hInv.out htl hN
              rw [hN] at tN
              have htk : t < KL.length := by rw [HKl.out]; exact htl
              obtain ⟨b3, o3, rfl, hc3⟩ := HI314.out t htk
              have tK : wr.cell? ⟨b3, o3 + t, none⟩ = some (.int .i64 KL[t]) := (hB.out.cell (p := ⟨b3, o3 + t, none⟩) (World.block_lt_of_cell? w14 _ (hc3 t htk))).trans (hc3 t htk)
              by_cases hK0 : KL[t] = 0
              · have hYj : Y[j] = S.safe[j] := by
                  have := HSm2.out j (fun m hm hm' e => by obtain rfl := huq m hm e; exact hK0)
                  rw [List.getElem?_eq_getElem hjY, List.getElem?_eq_getElem hjS] at this
                  exact Option.some.inj this
                have hbj : (bytesOf Y)[j] = (bytesOf S.safe)[j] := by simp only [bytesOf, List.getElem_map, hYj]
                have hl5 : ((bytesOf S.safe)[j]).length = 512 := HRowS.out _ (List.getElem_mem hjB)
                rw [hbj] at tA iA kA
                have hsb := fun W (hw : Below wr.heap.size wr W) => same_bytes ((bytesOf S.safe)[j]) ((bytesOf S.safe)[j]) aA aB cA cB W ((iA.below hB.out).below hw) ((iB.below hB.out).below hw) (by rw [hl5]; decide)
                rw [hl5] at tA tB hsb
                rw [hK0] at tK
                have HSb := hid hsb
                have HNx := hid hnx
                generalize (bytesOf S.safe)[j] = lA at *
                clear kA kB iA iB hcA hcB hsb hYj hbj hl5 hN hc1 hc3 hnx huq hK0
                go_wp2
                refine wp_region_noPanic ?_
                refine wp_region_held_drew (S := fun W => W.cell? ⟨b3, o3 + t, none⟩ = some (.int .i64 0) ∧ W.cell? ⟨g13, j, none⟩ = some (.slice aA 512 cA) ∧ W.cell? ⟨g14, j, none⟩ = some (.slice aB 512 cB)) (by kernel_rfl) ⟨tK, tA, tB⟩ (fun hHeld => ?_)
                refine wpAnyH_take (i := 0) (v := ?_) rfl (by kernel_rfl) (by kernel_rfl) (by kernel_rfl) (fun _ _ _ h => h) (Or.inl ⟨by rfl, ?_⟩) (by assumption) ?_
                rotate_left
                · (intro W hSw; (try dsimp only at hSw); obtain ⟨s1, s2, s3⟩ := hSw; go_simp; try with_reducible rfl)
                try simp only [List.getElem_toArray, List.getElem_cons_zero, Act.put, List.setIfInBounds_toArray, List.set_cons_zero, List.set_cons_succ]
                refine wpAnyH_take (i := 1) (v := ?_) rfl (by kernel_rfl) (by kernel_rfl) (by kernel_rfl) (fun _ _ _ h => h) (Or.inl ⟨by rfl, ?_⟩) (by assumption) ?_
                rotate_left
                · (intro W hSw; (try dsimp only at hSw); obtain ⟨s1, s2, s3⟩ := hSw; go_simp; try with_reducible rfl)
                try simp only [List.getElem_toArray, List.getElem_cons_succ, List.getElem_cons_zero, Act.put, List.setIfInBounds_toArray, List.set_cons_zero, List.set_cons_succ]
                refine wpAnyH_take (i := 2) (v := ?_) rfl (by kernel_rfl) (by kernel_rfl) (by kernel_rfl) (fun _ _ _ h => h) (Or.inl ⟨by rfl, ?_⟩) (by assumption) ?_
                rotate_left
                · (intro W hSw; (try dsimp only at hSw); obtain ⟨s1, s2, s3⟩ := hSw; go_simp; try with_reducible rfl)
                try simp only [List.getElem_toArray, List.getElem_cons_succ, List.getElem_cons_zero, Act.put, List.setIfInBounds_toArray, List.set_cons_zero, List.set_cons_succ]
                refine wpAnyH_take (i := 3) (v := ?_) rfl (by kernel_rfl) (by kernel_rfl) (by kernel_rfl) (fun _ _ _ h => h) (Or.inl ⟨by rfl, ?_⟩) (by assumption) ?_
                rotate_left
                · (intro W hSw; (try dsimp only at hSw); obtain ⟨s1, s2, s3⟩ := hSw; go_simp; try with_reducible rfl)
                try simp only [List.getElem_toArray, List.getElem_cons_succ, List.getElem_cons_zero, Act.put, List.setIfInBounds_toArray, List.set_cons_zero, List.set_cons_succ]
                refine wpAnyH_take (i := 4) (v := ?_) rfl (by kernel_rfl) (by kernel_rfl) (by kernel_rfl) (fun _ _ _ h => h) (Or.inl ⟨by rfl, ?_⟩) (by assumption) ?_
                rotate_left
                · (intro W hSw; (try dsimp only at hSw); obtain ⟨s1, s2, s3⟩ := hSw; go_simp; try with_reducible rfl)
                try simp only [List.getElem_toArray, List.getElem_cons_succ, List.getElem_cons_zero, Act.put, List.setIfInBounds_toArray, List.set_cons_zero, List.set_cons_succ]
                refine wpAnyH_take (i := 5) (v := ?_) rfl (by kernel_rfl) (by kernel_rfl) (by kernel_rfl) (fun _ _ _ h => h) (Or.inl ⟨by rfl, ?_⟩) (by assumption) ?_
                rotate_left
                · (intro W hSw; (try dsimp only at hSw); obtain ⟨s1, s2, s3⟩ := hSw; go_simp; try with_reducible rfl)
                try simp only [List.getElem_toArray, List.getElem_cons_succ, List.getElem_cons_zero, Act.put, List.setIfInBounds_toArray, List.set_cons_zero, List.set_cons_succ]
                refine wpAnyH_take (i := 6) (v := ?_) rfl (by kernel_rfl) (by kernel_rfl) (by kernel_rfl) (fun _ _ _ h => h) (Or.inl ⟨by rfl, ?_⟩) (by assumption) ?_
                rotate_left
                · (intro W hSw; (try dsimp only at hSw); obtain ⟨s1, s2, s3⟩ := hSw; go_simp; try with_reducible rfl)
                try simp only [List.getElem_toArray, List.getElem_cons_succ, List.getElem_cons_zero, Act.put, List.setIfInBounds_toArray, List.set_cons_zero, List.set_cons_succ]
                refine wpAnyH_take (i := 7) (v := ?_) rfl (by kernel_rfl) (by kernel_rfl) (by kernel_rfl) (fun _ _ _ h => h) (Or.inl ⟨by rfl, ?_⟩) (by assumption) ?_
                rotate_left
                · (intro W hSw; (try dsimp only at hSw); obtain ⟨s1, s2, s3⟩ := hSw; go_simp; try with_reducible rfl)
                try simp only [List.getElem_toArray, List.getElem_cons_succ, List.getElem_cons_zero, Act.put, List.setIfInBounds_toArray, List.set_cons_zero, List.set_cons_succ]
                refine wpAnyH_take (i := 8) (v := ?_) rfl (by kernel_rfl) (by kernel_rfl) (by kernel_rfl) (fun _ _ _ h => h) (Or.inl ⟨by rfl, ?_⟩) (by assumption) ?_
                rotate_left
                · (intro W hSw; (try dsimp only at hSw); obtain ⟨s1, s2, s3⟩ := hSw; go_simp; try with_reducible rfl)
                try simp only [List.getElem_toArray, List.getElem_cons_succ, List.getElem_cons_zero, Act.put, List.setIfInBounds_toArray, List.set_cons_zero, List.set_cons_succ]
                refine wpAnyH_take (i := 9) (v := ?_) rfl (by kernel_rfl) (by kernel_rfl) (by kernel_rfl) (fun _ _ _ h => h) (Or.inl ⟨by rfl, ?_⟩) (by assumption) ?_
                rotate_left
                · (intro W hSw; (try dsimp only at hSw); obtain ⟨s1, s2, s3⟩ := hSw; go_simp; try with_reducible rfl)
                try simp only [List.getElem_toArray, List.getElem_cons_succ, List.getElem_cons_zero, Act.put, List.setIfInBounds_toArray, List.set_cons_zero, List.set_cons_succ]
                refine wpAnyH_take (i := 10) (v := ?_) rfl (by kernel_rfl) (by kernel_rfl) (by kernel_rfl) (fun _ _ _ h => h) (Or.inl ⟨by rfl, ?_⟩) (by assumption) ?_
                rotate_left
                · (intro W hSw; (try dsimp only at hSw); obtain ⟨s1, s2, s3⟩ := hSw; go_simp; try with_reducible rfl)
                try simp only [List.getElem_toArray, List.getElem_cons_succ, List.getElem_cons_zero, Act.put, List.setIfInBounds_toArray, List.set_cons_zero, List.set_cons_succ]
                refine wpAnyH_take (i := 11) (v := ?_) rfl (by kernel_rfl) (by kernel_rfl) (by kernel_rfl) (fun _ _ _ h => h) (Or.inl ⟨by rfl, ?_⟩) (by assumption) ?_
                rotate_left
                · (intro W hSw; (try dsimp only at hSw); obtain ⟨s1, s2, s3⟩ := hSw; go_simp; try with_reducible rfl)
                try simp only [List.getElem_toArray, List.getElem_cons_succ, List.getElem_cons_zero, Act.put, List.setIfInBounds_toArray, List.set_cons_zero, List.set_cons_succ]
                refine wpAnyH_take (i := 12) (v := ?_) rfl (by kernel_rfl) (by kernel_rfl) (by kernel_rfl) (fun _ _ _ h => h) (Or.inl ⟨by rfl, ?_⟩) (by assumption) ?_
                rotate_left
                · (intro W hSw; (try dsimp only at hSw); obtain ⟨s1, s2, s3⟩ := hSw; go_simp; try with_reducible rfl)
                try simp only [List.getElem_toArray, List.getElem_cons_succ, List.getElem_cons_zero, Act.put, List.setIfInBounds_toArray, List.set_cons_zero, List.set_cons_succ]
                refine wpAnyH_take (i := 13) (v := ?_) rfl (by kernel_rfl) (by kernel_rfl) (by kernel_rfl) (fun _ _ _ h => h) (Or.inl ⟨by rfl, ?_⟩) (by assumption) ?_
                rotate_left
                · (intro W hSw; (try dsimp only at hSw); obtain ⟨s1, s2, s3⟩ := hSw; go_simp; try with_reducible rfl)
                try simp only [List.getElem_toArray, List.getElem_cons_succ, List.getElem_cons_zero, Act.put, List.setIfInBounds_toArray, List.set_cons_zero, List.set_cons_succ]
                refine wpAnyH_ready (rs := [14]) (by kernel_rfl) (by simp) (AllReadyH.cons rfl (fun K hK => ?_) AllReadyH.nil)
                rw [if_pos (by rfl)]
                go_simp
                refine (HSb.out wr.drew (Below.refl _ _).drew).mono ?_
                clear HSb
                rintro e w15 ⟨rfl, hb15⟩
                simp only [decide_true]
                have hb15' := below_undrew hb15
                have HB15 := hid (hB.out.trans (hb15'.mono hB.out.size))
                have v0 := (hb15'.cell (p := ⟨b3, o3 + t, none⟩) (World.block_lt_of_cell? wr _ tK)).trans tK
                have v1 := (hb15'.cell (p := ⟨g13, j, none⟩) (World.block_lt_of_cell? wr _ tA)).trans tA
                have v2 := (hb15'.cell (p := ⟨g14, j, none⟩) (World.block_lt_of_cell? wr _ tB)).trans tB
                go_wp2_with fail
                refine hK.out _ _ ⟨v0, v1, v2⟩ (fun hHeld => ?_)
                clear hK K hb15 hb15'
                try simp only [List.getElem_toArray, List.getElem_cons_succ, List.getElem_cons_zero, Act.put, List.setIfInBounds_toArray, List.set_cons_zero, List.set_cons_succ]
                refine wpAnyH_take (i := 15) (v := ?_) rfl (by kernel_rfl) (by kernel_rfl) (by kernel_rfl) (fun _ _ _ h => h) (Or.inl ⟨by rfl, ?_⟩) (by assumption) ?_
                rotate_left
                · (intro W hSw; (try dsimp only at hSw); obtain ⟨s1, s2, s3⟩ := hSw; go_simp; try with_reducible rfl)
                try simp only [List.getElem_toArray, List.getElem_cons_succ, List.getElem_cons_zero, Act.put, List.setIfInBounds_toArray, List.set_cons_zero, List.set_cons_succ]
                refine wpAnyH_take (i := 16) (v := ?_) rfl (by kernel_rfl) (by kernel_rfl) (by kernel_rfl) (fun _ _ _ h => h) (Or.inl ⟨by rfl, ?_⟩) (by assumption) ?_
                rotate_left
                · (intro W hSw; (try dsimp only at hSw); obtain ⟨s1, s2, s3⟩ := hSw; go_simp; try with_reducible rfl)
                try simp only [List.getElem_toArray, List.getElem_cons_succ, List.getElem_cons_zero, Act.put, List.setIfInBounds_toArray, List.set_cons_zero, List.set_cons_succ]
                refine wpAnyH_done (by kernel_rfl) ?_ _
                refine NoPanic.normal ?_
                clear tA tB tK tN v0 v1 v2
                go_wp2
                exact ⟨⟨j + 1, t + 1, by omega, by omega, by go_num, by go_num, fun m hm => by have := HNx.out m hm; push_cast; exact this, HB15⟩, by simp [intOf]; omega⟩
              · have hKe : (KL[t] == 0) = false := by rw [beq_eq_false_iff_ne]; exact hK0
                have HNx := hid hnx
                generalize ((bytesOf S.safe)[j]).length = nB at *
                generalize ((bytesOf Y)[j]).length = nA at *
                generalize KL[t] = kk at *
                clear kA kB iA iB hcA hcB hN hc1 hc3 hnx huq
                go_wp2
                refine wp_region_noPanic ?_
                refine wp_region_held_drew (S := fun W => W.cell? ⟨b3, o3 + t, none⟩ = some (.int .i64 kk)) (by kernel_rfl) tK (fun hHeld => ?_)
                refine wpAnyH_take (i := 0) (v := ?_) rfl (by kernel_rfl) (by kernel_rfl) (by kernel_rfl) (fun _ _ _ h => h) (Or.inl ⟨by rfl, ?_⟩) (by assumption) ?_
                rotate_left
                · (intro W hSw; (try dsimp only at hSw); obtain s1 := hSw; go_simp; try with_reducible rfl)
                try simp only [List.getElem_toArray, List.getElem_cons_zero, Act.put, List.setIfInBounds_toArray, List.set_cons_zero, List.set_cons_succ]
                refine wpAnyH_take (i := 1) (v := ?_) rfl (by kernel_rfl) (by kernel_rfl) (by kernel_rfl) (fun _ _ _ h => h) (Or.inl ⟨by rfl, ?_⟩) (by assumption) ?_
                rotate_left
                · (intro W hSw; (try dsimp only at hSw); obtain s1 := hSw; go_simp; try with_reducible rfl)
                try simp only [List.getElem_toArray, List.getElem_cons_succ, List.getElem_cons_zero, Act.put, List.setIfInBounds_toArray, List.set_cons_zero, List.set_cons_succ]
                refine wpAnyH_take (i := 2) (v := ?_) rfl (by kernel_rfl) (by kernel_rfl) (by kernel_rfl) (fun _ _ _ h => h) (Or.inl ⟨by rfl, ?_⟩) (by assumption) ?_
                rotate_left
                · (intro W hSw; (try dsimp only at hSw); obtain s1 := hSw; go_simp; try with_reducible rfl)
                try simp only [List.getElem_toArray, List.getElem_cons_succ, List.getElem_cons_zero, Act.put, List.setIfInBounds_toArray, List.set_cons_zero, List.set_cons_succ]
                refine wpAnyH_take (i := 3) (v := ?_) rfl (by kernel_rfl) (by kernel_rfl) (by kernel_rfl) (fun _ _ _ h => h) (Or.inl ⟨by rfl, ?_⟩) (by assumption) ?_
                rotate_left
                · (intro W hSw; (try dsimp only at hSw); obtain s1 := hSw; go_simp; try with_reducible rfl)
                try simp only [List.getElem_toArray, List.getElem_cons_succ, List.getElem_cons_zero, Act.put, List.setIfInBounds_toArray, List.set_cons_zero, List.set_cons_succ]
                refine wpAnyH_take (i := 4) (v := ?_) rfl (by kernel_rfl) (by kernel_rfl) (by kernel_rfl) (fun _ _ _ h => h) (Or.inl ⟨by rfl, ?_⟩) (by assumption) ?_
                rotate_left
                · (intro W hSw; (try dsimp only at hSw); obtain s1 := hSw; go_simp; try with_reducible rfl)
                try simp only [List.getElem_toArray, List.getElem_cons_succ, List.getElem_cons_zero, Act.put, List.setIfInBounds_toArray, List.set_cons_zero, List.set_cons_succ]
                refine wpAnyH_take (i := 5) (v := ?_) rfl (by kernel_rfl) (by kernel_rfl) (by kernel_rfl) (fun _ _ _ h => h) (Or.inl ⟨by rfl, ?_⟩) (by assumption) ?_
                rotate_left
                · (intro W hSw; (try dsimp only at hSw); obtain s1 := hSw; go_simp; try with_reducible rfl)
                try simp only [List.getElem_toArray, List.getElem_cons_succ, List.getElem_cons_zero, Act.put, List.setIfInBounds_toArray, List.set_cons_zero, List.set_cons_succ]
                refine wpAnyH_take (i := 6) (v := undef) rfl (by kernel_rfl) (by kernel_rfl) (by kernel_rfl) (fun _ _ _ h => h) (Or.inr ⟨by rfl, rfl⟩) (by assumption) ?_
                try simp only [List.getElem_toArray, List.getElem_cons_succ, List.getElem_cons_zero, Act.put, List.setIfInBounds_toArray, List.set_cons_zero, List.set_cons_succ]
                refine wpAnyH_take (i := 7) (v := undef) rfl (by kernel_rfl) (by kernel_rfl) (by kernel_rfl) (fun _ _ _ h => h) (Or.inr ⟨by rfl, rfl⟩) (by assumption) ?_
                try simp only [List.getElem_toArray, List.getElem_cons_succ, List.getElem_cons_zero, Act.put, List.setIfInBounds_toArray, List.set_cons_zero, List.set_cons_succ]
                refine wpAnyH_take (i := 8) (v := undef) rfl (by kernel_rfl) (by kernel_rfl) (by kernel_rfl) (fun _ _ _ h => h) (Or.inr ⟨by rfl, rfl⟩) (by assumption) ?_
                try simp only [List.getElem_toArray, List.getElem_cons_succ, List.getElem_cons_zero, Act.put, List.setIfInBounds_toArray, List.set_cons_zero, List.set_cons_succ]
                refine wpAnyH_take (i := 9) (v := undef) rfl (by kernel_rfl) (by kernel_rfl) (by kernel_rfl) (fun _ _ _ h => h) (Or.inr ⟨by rfl, rfl⟩) (by assumption) ?_
                try simp only [List.getElem_toArray, List.getElem_cons_succ, List.getElem_cons_zero, Act.put, List.setIfInBounds_toArray, List.set_cons_zero, List.set_cons_succ]
                refine wpAnyH_take (i := 10) (v := undef) rfl (by kernel_rfl) (by kernel_rfl) (by kernel_rfl) (fun _ _ _ h => h) (Or.inr ⟨by rfl, rfl⟩) (by assumption) ?_
                try simp only [List.getElem_toArray, List.getElem_cons_succ, List.getElem_cons_zero, Act.put, List.setIfInBounds_toArray, List.set_cons_zero, List.set_cons_succ]
                refine wpAnyH_take (i := 11) (v := undef) rfl (by kernel_rfl) (by kernel_rfl) (by kernel_rfl) (fun _ _ _ h => h) (Or.inr ⟨by rfl, rfl⟩) (by assumption) ?_
                try simp only [List.getElem_toArray, List.getElem_cons_succ, List.getElem_cons_zero, Act.put, List.setIfInBounds_toArray, List.set_cons_zero, List.set_cons_succ]
                refine wpAnyH_take (i := 12) (v := undef) rfl (by kernel_rfl) (by kernel_rfl) (by kernel_rfl) (fun _ _ _ h => h) (Or.inr ⟨by rfl, rfl⟩) (by assumption) ?_
                try simp only [List.getElem_toArray, List.getElem_cons_succ, List.getElem_cons_zero, Act.put, List.setIfInBounds_toArray, List.set_cons_zero, List.set_cons_succ]
                refine wpAnyH_take (i := 13) (v := undef) rfl (by kernel_rfl) (by kernel_rfl) (by kernel_rfl) (fun _ _ _ h => h) (Or.inr ⟨by rfl, rfl⟩) (by assumption) ?_
                try simp only [List.getElem_toArray, List.getElem_cons_succ, List.getElem_cons_zero, Act.put, List.setIfInBounds_toArray, List.set_cons_zero, List.set_cons_succ]
                refine wpAnyH_take (i := 14) (v := undef) rfl (by kernel_rfl) (by kernel_rfl) (by kernel_rfl) (fun _ _ _ h => h) (Or.inr ⟨by rfl, rfl⟩) (by assumption) ?_
                try simp only [List.getElem_toArray, List.getElem_cons_succ, List.getElem_cons_zero, Act.put, List.setIfInBounds_toArray, List.set_cons_zero, List.set_cons_succ]
                refine wpAnyH_take (i := 15) (v := undef) rfl (by kernel_rfl) (by kernel_rfl) (by kernel_rfl) (fun _ _ _ h => h) (Or.inr ⟨by rfl, rfl⟩) (by assumption) ?_
                try simp only [List.getElem_toArray, List.getElem_cons_succ, List.getElem_cons_zero, Act.put, List.setIfInBounds_toArray, List.set_cons_zero, List.set_cons_succ]
                refine wpAnyH_take (i := 16) (v := ?_) rfl (by kernel_rfl) (by kernel_rfl) (by kernel_rfl) (fun _ _ _ h => h) (Or.inl ⟨by rfl, ?_⟩) (by assumption) ?_
                rotate_left
                · (intro W hSw; (try dsimp only at hSw); obtain s1 := hSw; go_simp; try with_reducible rfl)
                try simp only [List.getElem_toArray, List.getElem_cons_succ, List.getElem_cons_zero, Act.put, List.setIfInBounds_toArray, List.set_cons_zero, List.set_cons_succ]
                refine wpAnyH_done (by kernel_rfl) ?_ _
                refine NoPanic.normal ?_
                clear tA tB tK tN
                go_wp2
                exact ⟨⟨j + 1, t + 1, by omega, by omega, by go_num, by go_num, fun m hm => by have := HNx.out m hm; push_cast; exact this, hB.out.drew⟩, by simp [intOf]; omega⟩
            · obtain ⟨hnx, hne⟩ := at_miss HSort.out hInv.out (fun _ => hN)
              have hNe : (ks[t] == (j : Int)) = false := by rw [beq_eq_false_iff_ne]; exact hN
              have hYj : Y[j] = S.safe[j] := by
                have := HSm2.out j (fun m hm hm' e => absurd e (hne m hm))
                rw [List.getElem?_eq_getElem hjY, List.getElem?_eq_getElem hjS] at this
                exact Option.some.inj this
              have hbj : (bytesOf Y)[j] = (bytesOf S.safe)[j] := by simp only [bytesOf, List.getElem_map, hYj]
              have hl5 : ((bytesOf S.safe)[j]).length = 512 := HRowS.out _ (List.getElem_mem hjB)
              rw [hbj] at tA iA kA
              have hsb := fun W (hw : Below wr.heap.size wr W) => same_bytes ((bytesOf S.safe)[j]) ((bytesOf S.safe)[j]) aA aB cA cB W ((iA.below hB.out).below hw) ((iB.below hB.out).below hw) (by rw [hl5]; decide)
              rw [hl5] at tA tB hsb
              have HSb := hid hsb
              have HNx := hid hnx
              generalize (bytesOf S.safe)[j] = lA at *
              clear kA kB iA iB hcA hcB hsb hYj hbj hl5 hne hnx
              generalize ks[t] = kt at *
              clear hc1 hN
              go_wp2
              refine wp_region_noPanic ?_
              refine wp_region_held_drew (S := fun W => W.cell? ⟨g13, j, none⟩ = some (.slice aA 512 cA) ∧ W.cell? ⟨g14, j, none⟩ = some (.slice aB 512 cB)) (by kernel_rfl) ⟨tA, tB⟩ (fun hHeld => ?_)
              refine wpAnyH_take (i := 0) (v := ?_) rfl (by kernel_rfl) (by kernel_rfl) (by kernel_rfl) (fun _ _ _ h => h) (Or.inl ⟨by rfl, ?_⟩) (by assumption) ?_
              rotate_left
              · (intro W hSw; (try dsimp only at hSw); obtain ⟨s1, s2⟩ := hSw; go_simp; try with_reducible rfl)
              try simp only [List.getElem_toArray, List.getElem_cons_zero, Act.put, List.setIfInBounds_toArray, List.set_cons_zero, List.set_cons_succ]
              refine wpAnyH_take (i := 1) (v := ?_) rfl (by kernel_rfl) (by kernel_rfl) (by kernel_rfl) (fun _ _ _ h => h) (Or.inl ⟨by rfl, ?_⟩) (by assumption) ?_
              rotate_left
              · (intro W hSw; (try dsimp only at hSw); obtain ⟨s1, s2⟩ := hSw; go_simp; try with_reducible rfl)
              try simp only [List.getElem_toArray, List.getElem_cons_succ, List.getElem_cons_zero, Act.put, List.setIfInBounds_toArray, List.set_cons_zero, List.set_cons_succ]
              refine wpAnyH_take (i := 2) (v := ?_) rfl (by kernel_rfl) (by kernel_rfl) (by kernel_rfl) (fun _ _ _ h => h) (Or.inl ⟨by rfl, ?_⟩) (by assumption) ?_
              rotate_left
              · (intro W hSw; (try dsimp only at hSw); obtain ⟨s1, s2⟩ := hSw; go_simp; try with_reducible rfl)
              try simp only [List.getElem_toArray, List.getElem_cons_succ, List.getElem_cons_zero, Act.put, List.setIfInBounds_toArray, List.set_cons_zero, List.set_cons_succ]
              refine wpAnyH_take (i := 3) (v := ?_) rfl (by kernel_rfl) (by kernel_rfl) (by kernel_rfl) (fun _ _ _ h => h) (Or.inl ⟨by rfl, ?_⟩) (by assumption) ?_
              rotate_left
              · (intro W hSw; (try dsimp only at hSw); obtain ⟨s1, s2⟩ := hSw; go_simp; try with_reducible rfl)
              try simp only [List.getElem_toArray, List.getElem_cons_succ, List.getElem_cons_zero, Act.put, List.setIfInBounds_toArray, List.set_cons_zero, List.set_cons_succ]
              refine wpAnyH_take (i := 4) (v := ?_) rfl (by kernel_rfl) (by kernel_rfl) (by kernel_rfl) (fun _ _ _ h => h) (Or.inl ⟨by rfl, ?_⟩) (by assumption) ?_
              rotate_left
              · (intro W hSw; (try dsimp only at hSw); obtain ⟨s1, s2⟩ := hSw; go_simp; try with_reducible rfl)
              try simp only [List.getElem_toArray, List.getElem_cons_succ, List.getElem_cons_zero, Act.put, List.setIfInBounds_toArray, List.set_cons_zero, List.set_cons_succ]
              refine wpAnyH_take (i := 5) (v := ?_) rfl (by kernel_rfl) (by kernel_rfl) (by kernel_rfl) (fun _ _ _ h => h) (Or.inl ⟨by rfl, ?_⟩) (by assumption) ?_
              rotate_left
              · (intro W hSw; (try dsimp only at hSw); obtain ⟨s1, s2⟩ := hSw; go_simp; try with_reducible rfl)
              try simp only [List.getElem_toArray, List.getElem_cons_succ, List.getElem_cons_zero, Act.put, List.setIfInBounds_toArray, List.set_cons_zero, List.set_cons_succ]
              refine wpAnyH_take (i := 6) (v := ?_) rfl (by kernel_rfl) (by kernel_rfl) (by kernel_rfl) (fun _ _ _ h => h) (Or.inl ⟨by rfl, ?_⟩) (by assumption) ?_
              rotate_left
              · (intro W hSw; (try dsimp only at hSw); obtain ⟨s1, s2⟩ := hSw; go_simp; try with_reducible rfl)
              try simp only [List.getElem_toArray, List.getElem_cons_succ, List.getElem_cons_zero, Act.put, List.setIfInBounds_toArray, List.set_cons_zero, List.set_cons_succ]
              refine wpAnyH_take (i := 7) (v := ?_) rfl (by kernel_rfl) (by kernel_rfl) (by kernel_rfl) (fun _ _ _ h => h) (Or.inl ⟨by rfl, ?_⟩) (by assumption) ?_
              rotate_left
              · (intro W hSw; (try dsimp only at hSw); obtain ⟨s1, s2⟩ := hSw; go_simp; try with_reducible rfl)
              try simp only [List.getElem_toArray, List.getElem_cons_succ, List.getElem_cons_zero, Act.put, List.setIfInBounds_toArray, List.set_cons_zero, List.set_cons_succ]
              refine wpAnyH_ready (rs := [8]) (by kernel_rfl) (by simp) (AllReadyH.cons rfl (fun K hK => ?_) AllReadyH.nil)
              rw [if_pos (by rfl)]
              go_simp
              refine (HSb.out wr.drew (Below.refl _ _).drew).mono ?_
              clear HSb
              rintro e w15 ⟨rfl, hb15⟩
              simp only [decide_true]
              have hb15' := below_undrew hb15
              have HB15 := hid (hB.out.trans (hb15'.mono hB.out.size))
              have v0 := (hb15'.cell (p := ⟨g13, j, none⟩) (World.block_lt_of_cell? wr _ tA)).trans tA
              have v1 := (hb15'.cell (p := ⟨g14, j, none⟩) (World.block_lt_of_cell? wr _ tB)).trans tB
              go_wp2_with fail
              refine hK.out _ _ ⟨v0, v1⟩ (fun hHeld => ?_)
              clear hK K hb15 hb15'
              try simp only [List.getElem_toArray, List.getElem_cons_succ, List.getElem_cons_zero, Act.put, List.setIfInBounds_toArray, List.set_cons_zero, List.set_cons_succ]
              refine wpAnyH_take (i := 9) (v := ?_) rfl (by kernel_rfl) (by kernel_rfl) (by kernel_rfl) (fun _ _ _ h => h) (Or.inl ⟨by rfl, ?_⟩) (by assumption) ?_
              rotate_left
              · (intro W hSw; (try dsimp only at hSw); obtain ⟨s1, s2⟩ := hSw; go_simp; try with_reducible rfl)
              try simp only [List.getElem_toArray, List.getElem_cons_succ, List.getElem_cons_zero, Act.put, List.setIfInBounds_toArray, List.set_cons_zero, List.set_cons_succ]
              refine wpAnyH_done (by kernel_rfl) ?_ _
              refine NoPanic.normal ?_
              clear tA tB v0 v1
              go_wp2
              exact ⟨⟨j + 1, t, by omega, ht, by go_num, rfl, fun m hm => by have := HNx.out m hm; push_cast; exact this, HB15⟩, by simp [intOf]; omega⟩
          · have ht1 : ¬ ((t : Int) < (ks.length : Int)) := by omega
            obtain ⟨hnx, hne⟩ := at_miss HSort.out hInv.out (fun h => absurd h htl)
            have hYj : Y[j] = S.safe[j] := by
              have := HSm2.out j (fun m hm hm' e => absurd e (hne m hm))
              rw [List.getElem?_eq_getElem hjY, List.getElem?_eq_getElem hjS] at this
              exact Option.some.inj this
            have hbj : (bytesOf Y)[j] = (bytesOf S.safe)[j] := by simp only [bytesOf, List.getElem_map, hYj]
            have hl5 : ((bytesOf S.safe)[j]).length = 512 := HRowS.out _ (List.getElem_mem hjB)
            rw [hbj] at tA iA kA
            have hsb := fun W (hw : Below wr.heap.size wr W) => same_bytes ((bytesOf S.safe)[j]) ((bytesOf S.safe)[j]) aA aB cA cB W ((iA.below hB.out).below hw) ((iB.below hB.out).below hw) (by rw [hl5]; decide)
            rw [hl5] at tA tB hsb
            have HSb := hid hsb
            have HNx := hid hnx
            generalize (bytesOf S.safe)[j] = lA at *
            clear kA kB iA iB hcA hcB hsb hYj hbj hl5 hne hnx
            go_wp2
            refine wp_region_noPanic ?_
            refine wp_region_held_drew (S := fun W => W.cell? ⟨g13, j, none⟩ = some (.slice aA 512 cA) ∧ W.cell? ⟨g14, j, none⟩ = some (.slice aB 512 cB)) (by kernel_rfl) ⟨tA, tB⟩ (fun hHeld => ?_)
            refine wpAnyH_take (i := 0) (v := ?_) rfl (by kernel_rfl) (by kernel_rfl) (by kernel_rfl) (fun _ _ _ h => h) (Or.inl ⟨by rfl, ?_⟩) (by assumption) ?_
            rotate_left
            · (intro W hSw; (try dsimp only at hSw); obtain ⟨s1, s2⟩ := hSw; go_simp; try with_reducible rfl)
            try simp only [List.getElem_toArray, List.getElem_cons_zero, Act.put, List.setIfInBounds_toArray, List.set_cons_zero, List.set_cons_succ]
            refine wpAnyH_take (i := 1) (v := ?_) rfl (by kernel_rfl) (by kernel_rfl) (by kernel_rfl) (fun _ _ _ h => h) (Or.inl ⟨by rfl, ?_⟩) (by assumption) ?_
            rotate_left
            · (intro W hSw; (try dsimp only at hSw); obtain ⟨s1, s2⟩ := hSw; go_simp; try with_reducible rfl)
            try simp only [List.getElem_toArray, List.getElem_cons_succ, List.getElem_cons_zero, Act.put, List.setIfInBounds_toArray, List.set_cons_zero, List.set_cons_succ]
            refine wpAnyH_take (i := 2) (v := ?_) rfl (by kernel_rfl) (by kernel_rfl) (by kernel_rfl) (fun _ _ _ h => h) (Or.inl ⟨by rfl, ?_⟩) (by assumption) ?_
            rotate_left
            · (intro W hSw; (try dsimp only at hSw); obtain ⟨s1, s2⟩ := hSw; go_simp; try with_reducible rfl)
            try simp only [List.getElem_toArray, List.getElem_cons_succ, List.getElem_cons_zero, Act.put, List.setIfInBounds_toArray, List.set_cons_zero, List.set_cons_succ]
            refine wpAnyH_take (i := 3) (v := ?_) rfl (by kernel_rfl) (by kernel_rfl) (by kernel_rfl) (fun _ _ _ h => h) (Or.inl ⟨by rfl, ?_⟩) (by assumption) ?_
            rotate_left
            · (intro W hSw; (try dsimp only at hSw); obtain ⟨s1, s2⟩ := hSw; go_simp; try with_reducible rfl)
            try simp only [List.getElem_toArray, List.getElem_cons_succ, List.getElem_cons_zero, Act.put, List.setIfInBounds_toArray, List.set_cons_zero, List.set_cons_succ]
            refine wpAnyH_take (i := 4) (v := ?_) rfl (by kernel_rfl) (by kernel_rfl) (by kernel_rfl) (fun _ _ _ h => h) (Or.inl ⟨by rfl, ?_⟩) (by assumption) ?_
            rotate_left
            · (intro W hSw; (try dsimp only at hSw); obtain ⟨s1, s2⟩ := hSw; go_simp; try with_reducible rfl)
            try simp only [List.getElem_toArray, List.getElem_cons_succ, List.getElem_cons_zero, Act.put, List.setIfInBounds_toArray, List.set_cons_zero, List.set_cons_succ]
            refine wpAnyH_take (i := 5) (v := ?_) rfl (by kernel_rfl) (by kernel_rfl) (by kernel_rfl) (fun _ _ _ h => h) (Or.inl ⟨by rfl, ?_⟩) (by assumption) ?_
            rotate_left
            · (intro W hSw; (try dsimp only at hSw); obtain ⟨s1, s2⟩ := hSw; go_simp; try with_reducible rfl)
            try simp only [List.getElem_toArray, List.getElem_cons_succ, List.getElem_cons_zero, Act.put, List.setIfInBounds_toArray, List.set_cons_zero, List.set_cons_succ]
            refine wpAnyH_take (i := 6) (v := ?_) rfl (by kernel_rfl) (by kernel_rfl) (by kernel_rfl) (fun _ _ _ h => h) (Or.inl ⟨by rfl, ?_⟩) (by assumption) ?_
            rotate_left
            · (intro W hSw; (try dsimp only at hSw); obtain ⟨s1, s2⟩ := hSw; go_simp; try with_reducible rfl)
            try simp only [List.getElem_toArray, List.getElem_cons_succ, List.getElem_cons_zero, Act.put, List.setIfInBounds_toArray, List.set_cons_zero, List.set_cons_succ]
            refine wpAnyH_take (i := 7) (v := ?_) rfl (by kernel_rfl) (by kernel_rfl) (by kernel_rfl) (fun _ _ _ h => h) (Or.inl ⟨by rfl, ?_⟩) (by assumption) ?_
            rotate_left
            · (intro W hSw; (try dsimp only at hSw); obtain ⟨s1, s2⟩ := hSw; go_simp; try with_reducible rfl)
            try simp only [List.getElem_toArray, List.getElem_cons_succ, List.getElem_cons_zero, Act.put, List.setIfInBounds_toArray, List.set_cons_zero, List.set_cons_succ]
            refine wpAnyH_ready (rs := [8]) (by kernel_rfl) (by simp) (AllReadyH.cons rfl (fun K hK => ?_) AllReadyH.nil)
            rw [if_pos (by rfl)]
            go_simp
            refine (HSb.out wr.drew (Below.refl _ _).drew).mono ?_
            clear HSb
            rintro e w15 ⟨rfl, hb15⟩
            simp only [decide_true]
            have hb15' := below_undrew hb15
            have HB15 := hid (hB.out.trans (hb15'.mono hB.out.size))
            have v0 := (hb15'.cell (p := ⟨g13, j, none⟩) (World.block_lt_of_cell? wr _ tA)).trans tA
            have v1 := (hb15'.cell (p := ⟨g14, j, none⟩) (World.block_lt_of_cell? wr _ tB)).trans tB
            go_wp2_with fail
            refine hK.out _ _ ⟨v0, v1⟩ (fun hHeld => ?_)
            clear hK K hb15 hb15'
            try simp only [List.getElem_toArray, List.getElem_cons_succ, List.getElem_cons_zero, Act.put, List.setIfInBounds_toArray, List.set_cons_zero, List.set_cons_succ]
            refine wpAnyH_take (i := 9) (v := ?_) rfl (by kernel_rfl) (by kernel_rfl) (by kernel_rfl) (fun _ _ _ h => h) (Or.inl ⟨by rfl, ?_⟩) (by assumption) ?_
            rotate_left
            · (intro W hSw; (try dsimp only at hSw); obtain ⟨s1, s2⟩ := hSw; go_simp; try with_reducible rfl)
            try simp only [List.getElem_toArray, List.getElem_cons_succ, List.getElem_cons_zero, Act.put, List.setIfInBounds_toArray, List.set_cons_zero, List.set_cons_succ]
            refine wpAnyH_done (by kernel_rfl) ?_ _
            refine NoPanic.normal ?_
            clear tA tB v0 v1
            go_wp2
            exact ⟨⟨j + 1, t, by omega, ht, by go_num, rfl, fun m hm => by have := HNx.out m hm; push_cast; exact this, HB15⟩, by simp [intOf]; omega⟩
        · obtain rfl : j = 5 := by omega
          have HBr := hid (HB14.out.trans (hB.out.mono HB14.out.size))
          have HFl := hid (flush_disk d S wr (HD14.out.below hB.out) HOps.out)
          clear HD14 HI114 HI314 HB14 HR1314 HR14 hInv hB HSm2
          go_wp2_with fail
          refine HFl.out.mono ?_
          clear HFl
          rintro e w15 ⟨rfl, dF, hDF, e1, e2, hfF, hK⟩
          have HB15 : Hid (Below w.heap.size w w15) := HBr.out.trans (hK.below HBr.out.size (fun i hi => HF.out i hi))
          have hOF : S.flushed.ops.length ≤ opsMax := by have := HOps.out; simp [DiskS.flushed]; omega
          have hwt := waiting_disk dF S.flushed w15 hDF hOF
          rw [e1] at hwt
          have hkn : waitKeys S.flushed.waits S.flushed.safe.length = [] := keys_none _
          have hcn : waitCounts S.flushed.waits S.flushed.safe.length = [] := by rw [waitCounts, hkn]; rfl
          rw [hkn, hcn] at hwt
          have HWt := hid hwt
          have HDF := hid hDF
          have HE1 := hid e1
          have HFS : Hid (S.flushed.safe.length = 5) := (length_imgS S).trans HSL.out
          have HFI := hid (imgS_flushed S)
          have HFSa : Hid (S.flushed.safe = imgS S) := rfl
          clear hwt hkn hcn hDF e1 e2 hfF hK hOF HBr
          generalize S.flushed = SF at *
          go_wp2_with fail
          refine HWt.out.mono ?_
          clear HWt
          rintro e w16 ⟨v1, v2, rfl, hr1, hr2, hb16⟩
          obtain ⟨q1, c1', rfl, -⟩ := ints_of_row (xs := []) hr1
          obtain ⟨q2, c2', rfl, -⟩ := ints_of_row (xs := []) hr2
          have HDF16 := hid (HDF.out.below hb16)
          have HB16 := hid (HB15.out.trans (hb16.mono HB15.out.size))
          have hsa := safe_disk dF SF w16 HDF16.out
          rw [HE1.out, HFS.out, HFSa.out] at hsa
          have HSa := hid hsa
          clear hr1 hr2 hb16 hsa HDF HB15
          go_wp2_with fail
          refine HSa.out.mono ?_
          clear HSa
          rintro e w17 ⟨g17, rfl, hr17, hg17, hb17⟩
          have HDF17 := hid (HDF16.out.below hb17)
          have HB17 := hid (HB16.out.trans (hb17.mono HB16.out.size))
          have HR17 := hid hr17.at
          have him := image_disk dF SF w17 HDF17.out
          rw [HE1.out, HFS.out, HFI.out] at him
          have HIm := hid him
          clear hr17 hb17 him HDF16 HB16
          go_wp2_with fail
          refine HIm.out.mono ?_
          clear HIm
          rintro e w18 ⟨g18, rfl, hr18, hg18, hb18⟩
          have HB18 := hid (HB17.out.trans (hb18.mono HB17.out.size))
          have HA18 := hid (HAllI.out (some ⟨g17, 0, none⟩) (some ⟨g18, 0, none⟩) 5 5 w18 (HR17.out.below hb18) hr18.at)
          clear hr18 hb18 HB17 HR17
          go_wp2_with fail
          refine HA18.out.mono ?_
          clear HA18
          rintro e w19 ⟨rfl, hb19⟩
          have HB19 := hid (HB18.out.trans (hb19.mono HB18.out.size))
          clear hb19
          go_wp2
          go_ret
          exact ⟨rfl, HB19.out⟩
end Go.Proofs.Ytpdpmcibeliocaa
