/- The top's crashed: a Fork as it stood behind some ops, and crashed. -/
import Derived.Test.YtjgclmlclkfgpaaGreatCutA
import Derived.Test.YtjgclmlclkfgpaaGreatWCrashed
namespace Go.Proofs.YtjgclmlclkfgpaaGreat
open Go.RowKit
set_option maxRecDepth 100000 in
set_option maxHeartbeats 4000000 in
theorem tcrashed_any (d : DL) (S : DiskS) (q : Nat) (ch : List UInt8) (ca : Option Addr) (cc : Nat) (w : World) (h : CutIn w d S) (hq : q ≤ S.ops.length) (hB : S.ops.length ≤ 1000000) (hok : ∀ o ∈ S.ops, okOp S.first.length o) (hch : ch.length ≤ 9223372036854775807) (hcb : bytesIn w ca ch) :
    Calls Tryz.prog 39 #[.pointer (some ⟨d.p, 0, none⟩), .int .i64 q, .slice ca ch.length cc] w fun e w' => Below w.heap.size w w' ∧ ∃ d', e = .returned (.pointer (some ⟨d'.p, 0, none⟩)) ∧ DiskIn w' d' (crashedS S q ch) := by
  have HCut := hid (cut_cut d S q w h hq hB hok)
  have HCB := hid hcb
  have hlm : (cutS S q).safe.length ≤ 4096 := by rw [(cutS_facts S q).2.1, h.flen]; exact h.rd.plates.most
  have hops : (cutS S q).ops.length ≤ 1000000 := by rw [(cutS_facts S q).2.2, List.length_take]; omega
  have HOps := hid hops
  clear h hcb hok hops
  unfold crashedS
  generalize cutS S q = C at *
  go_enter Tryz.func39, Tryz.ntmps39
  go_wp2_with fail
  refine HCut.out.mono ?_
  clear HCut
  rintro e w1 ⟨hb1, d1, rfl, hC, -, -, -⟩
  have HC := hid hC
  have HB1 := hid hb1
  have HOm : Hid (C.ops.length ≤ opsMax) := Nat.le_trans HOps.out (by decide)
  have HWt := hid (waiting_disk_rd d1 C w1 hC.rd HOm.out)
  clear hC hb1
  go_wp2_with fail
  refine HWt.out.mono ?_
  clear HWt
  rintro e w3 ⟨v1, v2, rfl, hr1, hr2, hb3⟩
  obtain ⟨p1, c1, rfl, hi1⟩ := ints_of_row hr1
  have hlc : (waitKeys C.waits C.safe.length).length = (waitCounts C.waits C.safe.length).length := by simp [waitCounts]
  rw [hlc] at hr2
  obtain ⟨p2, c2, rfl, hi2⟩ := ints_of_row hr2
  rw [← hlc]
  have HI2 := hid hi2
  have HR3 := hid (HC.out.rd.below hb3)
  have HB3 := hid (HB1.out.trans (hb3.mono HB1.out.size))
  have HCB3 := hid (HCB.out.below (HB3.out))
  have hkl := length_waitKeys C.waits C.safe.length
  have hkl5 : (waitKeys C.waits C.safe.length).length ≤ 4096 := by omega
  have HCnt : Hid (∀ j (h : j < (waitKeys C.waits C.safe.length).length) (h' : j < (waitCounts C.waits C.safe.length).length), 0 ≤ (waitCounts C.waits C.safe.length)[j] ∧ (waitCounts C.waits C.safe.length)[j] ≤ 1000000000) := fun j h h' => by
    have h1 := HR3.out.plates.len (waitKeys C.waits C.safe.length)[j]
    have h2 := HOps.out
    have e : (waitCounts C.waits C.safe.length)[j] = ((C.waits (waitKeys C.waits C.safe.length)[j]).length : Int) := by simp [waitCounts]
    rw [e]; omega
  have HGk := hid (good_keepL ch C.waits C.safe.length)
  have HCr := hid (fun keep a c w h h2 h3 => crash_any_rd d1 C keep a c w h HOm.out h2 h3)
  have HLc := hid hlc
  obtain ⟨i0, hi, hz0, hz1, hz2⟩ := info_parts infoInt
  have HI := hid hi
  clear hr1 hr2 hb3 hi1 hi2 hkl hlc hi HCB HC HB1
  generalize hks : waitKeys C.waits C.safe.length = ks at *
  generalize hcs : waitCounts C.waits C.safe.length = cs at *
  have HKs := hid hks
  have HCs := hid hcs
  clear hks hcs
  go_wp2
  go_loopw [11, 12] (fun v i wr => ∃ k : Nat, k ≤ ks.length ∧ i = .int .i64 k ∧ Hid (wr.ownsRow w3.heap.size 3 1 v k (((keepL ch cs).take k).map encZ)) ∧ Hid (Below w3.heap.size w3 wr)) (fun _ i _ => ks.length - (intOf i).toNat)
  case atStart => exact ⟨0, by omega, rfl, World.ownsRow_nil _ _ _ _, Below.refl _ _⟩
  case round =>
    obtain ⟨k, hk, rfl, hF, hBr⟩ := hrel
    by_cases hlt : k < ks.length
    · have hk0 : (0 : Int) ≤ (k : Int) := by omega
      have hk2 : (k : Int) < (ks.length : Int) := by omega
      have hltc : k < cs.length := by rw [← HLc.out]; exact hlt
      have HS := hid (keepL_step ch cs k hltc)
      by_cases hc : k < ch.length
      · have hc2 : (k : Int) < (ch.length : Int) := by omega
        obtain ⟨b2, o2, rfl, hc2'⟩ := HI2.out k hltc
        obtain ⟨b3, o3, rfl, hc3⟩ := HCB3.out k hc
        obtain ⟨n0, n1⟩ := HCnt.out k hlt hltc
        have t2 : wr.cell? ⟨b2, o2 + k, none⟩ = some (.int .i64 cs[k]) := (hBr.out.cell (p := ⟨b2, o2 + k, none⟩) (World.block_lt_of_cell? w3 _ (hc2' k hltc))).trans (hc2' k hltc)
        have t3 : wr.cell? ⟨b3, o3 + k, none⟩ = some (.int .u8 (ch[k].toNat : Int)) := (hBr.out.cell (p := ⟨b3, o3 + k, none⟩) (World.block_lt_of_cell? w3 _ (hc3 k hc))).trans (hc3 k hc)
        have x1 : ((ch[k].toNat : Nat) : Int) ≤ 255 := by have := ch[k].toNat_lt; omega
        have x0 : (0 : Int) ≤ ((ch[k].toNat : Nat) : Int) := by omega
        have hkA : keepAt ch cs k = ((ch[k].toNat : Nat) : Int) % (cs[k] + 1) := by simp [keepAt, hc, hltc]
        rw [hkA] at HS
        have HFd : Hid (wr.drew.ownsRow w3.heap.size 3 1 u11 k (((keepL ch cs).take k).map encZ)) := hF.out
        have HBd := hid hBr.out.drew
        generalize cs[k] = cnt at *
        generalize ((ch[k].toNat : Nat) : Int) = X at *
        clear hc2' hc3 hkA hF
        go_wp2
        refine wp_region_noPanic ?_
        refine wp_region_held_drew (S := fun W => W.cell? ⟨b2, o2 + k, none⟩ = some (.int .i64 cnt) ∧ W.cell? ⟨b3, o3 + k, none⟩ = some (.int .u8 X)) (by kernel_rfl) ⟨t2, t3⟩ (fun hHeld => ?_)
        refine wpAnyH_take (i := 0) (v := ?_) rfl (by kernel_rfl) (by kernel_rfl) (by kernel_rfl) (fun _ _ _ h => h) (Or.inl ⟨by rfl, ?_⟩) (by assumption) ?_
        rotate_left
        · (intro W hSw; (try dsimp only at hSw); obtain ⟨s1, s2⟩ := hSw; go_simp; try with_reducible rfl)
        try simp only [List.getElem_toArray, List.getElem_cons_zero, Act.put, List.setIfInBounds_toArray, List.set_cons_zero, List.set_cons_succ]
        refine wpAnyH_take (i := 1) (v := ?_) rfl (by kernel_rfl) (by kernel_rfl) (by kernel_rfl) (fun _ _ _ h => h) (Or.inl ⟨by rfl, ?_⟩) (by assumption) ?_
        rotate_left
        · (intro W hSw; (try dsimp only at hSw); obtain ⟨s1, s2⟩ := hSw; go_simp; try with_reducible rfl)
        try simp only [List.getElem_toArray, List.getElem_cons_succ, List.getElem_cons_zero, Act.put, List.setIfInBounds_toArray, List.set_cons_zero, List.set_cons_succ]
        refine wpAnyH_take (i := 2) (v := ?_) rfl (by kernel_rfl) (by kernel_rfl) (by kernel_rfl) (fun _ _ _ h => h) (Or.inl ⟨by rfl, ?_⟩) (by assumption) ?_
        rotate_left
        · (intro W hSw; (try dsimp only at hSw); obtain ⟨s1, s2⟩ := hSw; go_simp; try with_reducible rfl)
        try simp only [List.getElem_toArray, List.getElem_cons_succ, List.getElem_cons_zero, Act.put, List.setIfInBounds_toArray, List.set_cons_zero, List.set_cons_succ]
        refine wpAnyH_take (i := 3) (v := ?_) rfl (by kernel_rfl) (by kernel_rfl) (by kernel_rfl) (fun _ _ _ h => h) (Or.inl ⟨by rfl, ?_⟩) (by assumption) ?_
        rotate_left
        · (intro W hSw; (try dsimp only at hSw); obtain ⟨s1, s2⟩ := hSw; go_simp; try with_reducible rfl)
        try simp only [List.getElem_toArray, List.getElem_cons_succ, List.getElem_cons_zero, Act.put, List.setIfInBounds_toArray, List.set_cons_zero, List.set_cons_succ]
        refine wpAnyH_take (i := 4) (v := ?_) rfl (by kernel_rfl) (by kernel_rfl) (by kernel_rfl) (fun _ _ _ h => h) (Or.inl ⟨by rfl, ?_⟩) (by assumption) ?_
        rotate_left
        · (intro W hSw; (try dsimp only at hSw); obtain ⟨s1, s2⟩ := hSw; go_simp; try with_reducible rfl)
        try simp only [List.getElem_toArray, List.getElem_cons_succ, List.getElem_cons_zero, Act.put, List.setIfInBounds_toArray, List.set_cons_zero, List.set_cons_succ]
        refine wpAnyH_take (i := 5) (v := ?_) rfl (by kernel_rfl) (by kernel_rfl) (by kernel_rfl) (fun _ _ _ h => h) (Or.inl ⟨by rfl, ?_⟩) (by assumption) ?_
        rotate_left
        · (intro W hSw; (try dsimp only at hSw); obtain ⟨s1, s2⟩ := hSw; go_simp; try with_reducible rfl)
        try simp only [List.getElem_toArray, List.getElem_cons_succ, List.getElem_cons_zero, Act.put, List.setIfInBounds_toArray, List.set_cons_zero, List.set_cons_succ]
        refine wpAnyH_take (i := 6) (v := ?_) rfl (by kernel_rfl) (by kernel_rfl) (by kernel_rfl) (fun _ _ _ h => h) (Or.inl ⟨by rfl, ?_⟩) (by assumption) ?_
        rotate_left
        · (intro W hSw; (try dsimp only at hSw); obtain ⟨s1, s2⟩ := hSw; go_simp; try with_reducible rfl)
        try simp only [List.getElem_toArray, List.getElem_cons_succ, List.getElem_cons_zero, Act.put, List.setIfInBounds_toArray, List.set_cons_zero, List.set_cons_succ]
        refine wpAnyH_take (i := 7) (v := ?_) rfl (by kernel_rfl) (by kernel_rfl) (by kernel_rfl) (fun _ _ _ h => h) (Or.inl ⟨by rfl, ?_⟩) (by assumption) ?_
        rotate_left
        · (intro W hSw; (try dsimp only at hSw); obtain ⟨s1, s2⟩ := hSw; go_simp; try with_reducible rfl)
        try simp only [List.getElem_toArray, List.getElem_cons_succ, List.getElem_cons_zero, Act.put, List.setIfInBounds_toArray, List.set_cons_zero, List.set_cons_succ]
        refine wpAnyH_take (i := 8) (v := ?_) rfl (by kernel_rfl) (by kernel_rfl) (by kernel_rfl) (fun _ _ _ h => h) (Or.inl ⟨by rfl, ?_⟩) (by assumption) ?_
        rotate_left
        · (intro W hSw; (try dsimp only at hSw); obtain ⟨s1, s2⟩ := hSw; go_simp; try with_reducible rfl)
        try simp only [List.getElem_toArray, List.getElem_cons_succ, List.getElem_cons_zero, Act.put, List.setIfInBounds_toArray, List.set_cons_zero, List.set_cons_succ]
        refine wpAnyH_take (i := 9) (v := ?_) rfl (by kernel_rfl) (by kernel_rfl) (by kernel_rfl) (fun _ _ _ h => h) (Or.inl ⟨by rfl, ?_⟩) (by assumption) ?_
        rotate_left
        · (intro W hSw; (try dsimp only at hSw); obtain ⟨s1, s2⟩ := hSw; go_simp; try with_reducible rfl)
        try simp only [List.getElem_toArray, List.getElem_cons_succ, List.getElem_cons_zero, Act.put, List.setIfInBounds_toArray, List.set_cons_zero, List.set_cons_succ]
        refine wpAnyH_take (i := 10) (v := .int .i64 (X % (cnt + 1))) rfl (by kernel_rfl) (by kernel_rfl) (by kernel_rfl) (fun _ _ _ h => h) (Or.inl ⟨by rfl, ?_⟩) (by assumption) ?_
        · intro W hSw
          go_simp
          rw [IntWalk.i64_in (cnt + 1) (by omega), IntWalk.i64_in X (by omega), if_neg (show ¬ (cnt + 1 = 0) by omega), Int.tmod_eq_emod_of_nonneg x0]
        try simp only [List.getElem_toArray, List.getElem_cons_succ, List.getElem_cons_zero, Act.put, List.setIfInBounds_toArray, List.set_cons_zero, List.set_cons_succ]
        refine wpAnyH_take (i := 11) (v := ?_) rfl (by kernel_rfl) (by kernel_rfl) (by kernel_rfl) (fun _ _ _ h => h) (Or.inl ⟨by rfl, ?_⟩) (by assumption) ?_
        rotate_left
        · (intro W hSw; (try dsimp only at hSw); obtain ⟨s1, s2⟩ := hSw; go_simp; try with_reducible rfl)
        try simp only [List.getElem_toArray, List.getElem_cons_succ, List.getElem_cons_zero, Act.put, List.setIfInBounds_toArray, List.set_cons_zero, List.set_cons_succ]
        refine wpAnyH_done (by kernel_rfl) ?_ _
        refine NoPanic.normal ?_
        clear t2 t3
        generalize wr.drew = wd at *
        go_wp2_with (refine wpList_append_lies _ rfl (.tmp 48) (.tmp 50) 32 rfl w3.heap.size 3 i0 (.int .i64 0) 1 8 Tryz.underlying32 HI.out hz0 hz1 hz2 rfl (by omega) u11 k _ rfl (HFd.out.alloc _) ⟨wd.heap.size, 0, none⟩ 1 1 [.int .i64 (X % (cnt + 1))] rfl rfl (World.news_of_block (cs := #[.int .i64 (X % (cnt + 1))]) (block_new wd _)) (by intro u hu; rw [List.mem_singleton.1 hu]; rfl) (by omega) (by unfold maxLen; omega) (by omega) (by have := HBd.out.size; simp; omega) (wd.heap.size + 1) (by simp) ?_; intro g2 cap2 w5 hown hgr hat hlt2; have HO := hid hown; have HG := hid hgr; clear hown hgr hat hlt2)
        have hba := HBd.out.alloc HBd.out.size (.cells #[.int .i64 (X % (cnt + 1))] 3)
        refine ⟨⟨k + 1, by omega, by go_num, ?_, hba.trans (below_of_row HG.out hba.size (fun i e => (HFd.out.lt i e).1))⟩, by simp [intOf]; omega⟩
        have := HO.out
        rwa [HS.out] at this
      · have hc2 : ¬ ((k : Int) < (ch.length : Int)) := by omega
        have hkA : keepAt ch cs k = 0 := by simp [keepAt, hc]
        rw [hkA] at HS
        have HFd := hF
        have HBd := hBr
        go_wp2_with (refine wpList_append_lies _ rfl (.tmp 48) (.tmp 50) 32 rfl w3.heap.size 3 i0 (.int .i64 0) 1 8 Tryz.underlying32 HI.out hz0 hz1 hz2 rfl (by omega) u11 k _ rfl (HFd.out.alloc _) ⟨wr.heap.size, 0, none⟩ 1 1 [.int .i64 0] rfl rfl (World.news_of_block (cs := #[.int .i64 0]) (block_new wr _)) (by intro u hu; rw [List.mem_singleton.1 hu]; rfl) (by omega) (by unfold maxLen; omega) (by omega) (by have := HBd.out.size; simp; omega) (wr.heap.size + 1) (by simp) ?_; intro g2 cap2 w5 hown hgr hat hlt2; have HO := hid hown; have HG := hid hgr; clear hown hgr hat hlt2)
        have hba := HBd.out.alloc HBd.out.size (.cells #[.int .i64 0] 3)
        refine ⟨⟨k + 1, by omega, by go_num, ?_, hba.trans (below_of_row HG.out hba.size (fun i e => (HFd.out.lt i e).1))⟩, by simp [intOf]; omega⟩
        have := HO.out
        rwa [HS.out] at this
    · obtain rfl : k = ks.length := by omega
      have hge : ¬ ((ks.length : Int) < (ks.length : Int)) := by omega
      have hkl : (keepL ch cs).length = ks.length := by rw [length_keepL, HLc.out]
      have hrow := hF.out
      rw [List.take_of_length_le (Nat.le_of_eq hkl), ← hkl] at hrow
      obtain ⟨p3, c3, rfl, hi3⟩ := ints_of_row hrow
      rw [hkl]
      have HBw := hid (HB3.out.trans (hBr.out.mono HB3.out.size))
      have hn := HCr.out (keepL ch cs) p3 c3 wr (HR3.out.below hBr.out) (by rw [hkl]; omega) hi3
      rw [hkl] at hn
      have HN := hid hn
      clear hrow hi3 hkl hF HI2 HR3 HB3 hBr HCB3 HCnt HCr hn
      generalize hKL : keepL ch cs = KL at *
      have HKL := hid hKL
      clear hKL
      go_wp2_with fail
      refine HN.out.mono ?_
      clear HN
      rintro e w6 ⟨hb6, h6⟩
      rcases h6 with ⟨hbad, -⟩ | ⟨-, dC, rfl, hDC, -, -⟩
      · exact absurd HGk.out hbad
      have HDC := hid hDC
      have HB6 := hid (HBw.out.trans (hb6.mono HBw.out.size))
      clear hDC hb6
      go_wp2
      go_ret
      refine ⟨HB6.out, dC, rfl, ?_⟩
      rw [HKs.out, HCs.out, HKL.out]
      exact HDC.out
end Go.Proofs.YtjgclmlclkfgpaaGreat
