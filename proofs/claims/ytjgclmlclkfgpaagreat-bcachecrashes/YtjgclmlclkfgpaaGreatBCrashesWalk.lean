/- The walk of BcacheCrashes. -/
import Derived.Test.YtjgclmlclkfgpaaGreatBCrashP
import Derived.Test.YtjgclmlclkfgpaaGreatWCrashed
import Derived.Test.YtjgclmlclkfgpaaGreatWOpensWalk
namespace Go.Proofs.YtjgclmlclkfgpaaGreat
open Go.RowKit
set_option maxRecDepth 100000 in
set_option maxHeartbeats 4000000 in
theorem bcacheCrashes_walk (ds : List BDeed) (a : Option Addr) (cc : Nat) (kx : Int) (hx0 : 0 ≤ kx) (hx1 : kx ≤ 65535) (ch : List UInt8) (ca : Option Addr) (hcc : Nat) (w : World) (hds : bdeedsAt w a ds) (hcb : bytesIn w ca ch) (hch : ch.length ≤ 9223372036854775807) :
    Calls Tryz.prog 5 #[.slice a ds.length cc, .int .u16 kx, .slice ca ch.length hcc] w fun e w' => e = .returned (.bool true) ∧ Below w.heap.size w w' := by
  have hD := hid hds
  have HCB0 := hid hcb
  clear hds hcb
  go_enter Tryz.func5, Tryz.ntmps5
  go_wp2_with fail
  refine (b4open_ok 9 4 (by omega) (by omega) (by omega) (by omega) w).mono ?_
  rintro e w1 ⟨hb1, c, L1, q, m, r, fv, Rd, rfl, hc, hdv, hft, hC1, -, -, -, -⟩
  have hlen : (freshN (9 + 12)).safe.length = 21 := freshN_len _
  have hM : Made (freshN (9 + 12)) := made_fresh _ (by simp) (fun s hs => by rw [List.eq_of_mem_replicate hs]; exact blank_size)
  have hH : headOk (freshN (9 + 12)) := headOk_fresh _ (by omega)
  have hpg : pagesS (freshN (9 + 12)) 9 = 11 := by unfold pagesS; rw [hlen]
  rw [hpg] at hC1
  have HA1 : Hid (CrAt w w1 c 9 11 0) := ⟨hb1, L1, _, hC1, rfl, rfl, hM, rfl, hH, Nat.le_refl _, by rw [CS.dirtyKeys_none rfl]; simp, hft⟩
  have HLv := hid (b4live_any w1)
  clear hb1 hft hC1 hlen hM hpg hdv hc hH
  go_wp2_with fail
  refine HLv.out.mono ?_
  clear HLv
  rintro e w2 ⟨rfl, hb2⟩
  have HA2 := hid (HA1.out.below hb2)
  clear hb2 HA1
  go_wp2
  go_loopw [10] (fun i wr => ∃ (k : Nat), k ≤ ds.length ∧ k ≤ 40 ∧ i = .int .i64 k ∧ Hid (CrAt w wr c 9 11 (24 * k))) (fun i _ => 40 - (intOf i).toNat)
  case atStart => exact ⟨0, by omega, by omega, rfl, HA2⟩
  case round =>
    obtain ⟨k, hk1, hk2, rfl, hA⟩ := hrel
    clear HA2
    by_cases hlt : k < ds.length ∧ k < 40
    · obtain ⟨hka, hkb⟩ := hlt
      have hk0 : (0 : Int) ≤ (k : Int) := by omega
      have hka' : (k : Int) < (ds.length : Int) := by omega
      have hkb' : (k : Int) < 40 := by omega
      obtain ⟨ab, ao, rfl, hdk⟩ := hD.out k hka
      have hDk := hid ((hdk k hka).below hA.out.1)
      have HDa := hid (hdk k hka)
      obtain ⟨D, hDe⟩ : ∃ D, D = ds[k] := ⟨_, rfl⟩
      rw [← hDe] at hDk HDa
      clear hdk hDe
      obtain ⟨dk, dn, dx, dsh⟩ := D
      obtain ⟨q0, q1, q2, q3, -, -⟩ := hDk.out
      dsimp only at q0 q1 q2 q3
      by_cases hk1' : dk = 1
      · subst hk1'
        have HBy := hid (b4bytes_any dsh (1 : Int) dn dx wr.drew)
        have HDc : Hid (∀ W, Below wr.heap.size wr W → W.cell? ⟨ab, ao + k * 4, none⟩ = some (.int .i64 1) ∧ W.cell? ⟨ab, ao + k * 4 + 1, none⟩ = some (.int .i64 dn) ∧ W.cell? ⟨ab, ao + k * 4 + 2, none⟩ = some (.int .u8 (dx.toNat : Int)) ∧ W.cell? ⟨ab, ao + k * 4 + 3, none⟩ = some (.bool dsh)) := fun W hW => by
          obtain ⟨z0, z1, z2, z3, -⟩ := hDk.out.below hW
          exact ⟨z0, z1, z2, z3⟩
        go_wp2
        refine wp_region_noPanic ?_
        refine wp_region_held_drew (S := fun W => W.cell? ⟨ab, ao + k * 4, none⟩ = some (.int .i64 1) ∧ W.cell? ⟨ab, ao + k * 4 + 1, none⟩ = some (.int .i64 dn) ∧ W.cell? ⟨ab, ao + k * 4 + 2, none⟩ = some (.int .u8 (dx.toNat : Int)) ∧ W.cell? ⟨ab, ao + k * 4 + 3, none⟩ = some (.bool dsh)) (by kernel_rfl) ⟨q0, q1, q2, q3⟩ (fun hHeld => ?_)
        refine wpAnyH_take (i := 0) (v := ?_) rfl (by kernel_rfl) (by kernel_rfl) (by kernel_rfl) (fun _ _ _ h => h) (Or.inl ⟨by rfl, ?_⟩) (by assumption) ?_
        rotate_left
        · (intro W hSw; (try dsimp only at hSw); obtain ⟨s0, s1, s2, s3⟩ := hSw; go_simp; try with_reducible rfl)
        try simp only [List.getElem_toArray, List.getElem_cons_zero, Act.put, List.setIfInBounds_toArray, List.set_cons_zero, List.set_cons_succ]
        refine wpAnyH_take (i := 1) (v := ?_) rfl (by kernel_rfl) (by kernel_rfl) (by kernel_rfl) (fun _ _ _ h => h) (Or.inl ⟨by rfl, ?_⟩) (by assumption) ?_
        rotate_left
        · (intro W hSw; (try dsimp only at hSw); obtain ⟨s0, s1, s2, s3⟩ := hSw; go_simp; try with_reducible rfl)
        try simp only [List.getElem_toArray, List.getElem_cons_succ, List.getElem_cons_zero, Act.put, List.setIfInBounds_toArray, List.set_cons_zero, List.set_cons_succ]
        refine wpAnyH_take (i := 2) (v := ?_) rfl (by kernel_rfl) (by kernel_rfl) (by kernel_rfl) (fun _ _ _ h => h) (Or.inl ⟨by rfl, ?_⟩) (by assumption) ?_
        rotate_left
        · (intro W hSw; (try dsimp only at hSw); obtain ⟨s0, s1, s2, s3⟩ := hSw; go_simp; try with_reducible rfl)
        try simp only [List.getElem_toArray, List.getElem_cons_succ, List.getElem_cons_zero, Act.put, List.setIfInBounds_toArray, List.set_cons_zero, List.set_cons_succ]
        refine wpAnyH_take (i := 3) (v := ?_) rfl (by kernel_rfl) (by kernel_rfl) (by kernel_rfl) (fun _ _ _ h => h) (Or.inl ⟨by rfl, ?_⟩) (by assumption) ?_
        rotate_left
        · (intro W hSw; (try dsimp only at hSw); obtain ⟨s0, s1, s2, s3⟩ := hSw; go_simp; try with_reducible rfl)
        try simp only [List.getElem_toArray, List.getElem_cons_succ, List.getElem_cons_zero, Act.put, List.setIfInBounds_toArray, List.set_cons_zero, List.set_cons_succ]
        refine wpAnyH_take (i := 4) (v := ?_) rfl (by kernel_rfl) (by kernel_rfl) (by kernel_rfl) (fun _ _ _ h => h) (Or.inl ⟨by rfl, ?_⟩) (by assumption) ?_
        rotate_left
        · (intro W hSw; (try dsimp only at hSw); obtain ⟨s0, s1, s2, s3⟩ := hSw; go_simp; try with_reducible rfl)
        try simp only [List.getElem_toArray, List.getElem_cons_succ, List.getElem_cons_zero, Act.put, List.setIfInBounds_toArray, List.set_cons_zero, List.set_cons_succ]
        refine wpAnyH_take (i := 5) (v := ?_) rfl (by kernel_rfl) (by kernel_rfl) (by kernel_rfl) (fun _ _ _ h => h) (Or.inl ⟨by rfl, ?_⟩) (by assumption) ?_
        rotate_left
        · (intro W hSw; (try dsimp only at hSw); obtain ⟨s0, s1, s2, s3⟩ := hSw; go_simp; try with_reducible rfl)
        try simp only [List.getElem_toArray, List.getElem_cons_succ, List.getElem_cons_zero, Act.put, List.setIfInBounds_toArray, List.set_cons_zero, List.set_cons_succ]
        refine wpAnyH_take (i := 6) (v := ?_) rfl (by kernel_rfl) (by kernel_rfl) (by kernel_rfl) (fun _ _ _ h => h) (Or.inl ⟨by rfl, ?_⟩) (by assumption) ?_
        rotate_left
        · (intro W hSw; (try dsimp only at hSw); obtain ⟨s0, s1, s2, s3⟩ := hSw; go_simp; try with_reducible rfl)
        try simp only [List.getElem_toArray, List.getElem_cons_succ, List.getElem_cons_zero, Act.put, List.setIfInBounds_toArray, List.set_cons_zero, List.set_cons_succ]
        refine wpAnyH_take (i := 7) (v := ?_) rfl (by kernel_rfl) (by kernel_rfl) (by kernel_rfl) (fun _ _ _ h => h) (Or.inl ⟨by rfl, ?_⟩) (by assumption) ?_
        rotate_left
        · (intro W hSw; (try dsimp only at hSw); obtain ⟨s0, s1, s2, s3⟩ := hSw; go_simp; try with_reducible rfl)
        try simp only [List.getElem_toArray, List.getElem_cons_succ, List.getElem_cons_zero, Act.put, List.setIfInBounds_toArray, List.set_cons_zero, List.set_cons_succ]
        refine wpAnyH_take (i := 8) (v := ?_) rfl (by kernel_rfl) (by kernel_rfl) (by kernel_rfl) (fun _ _ _ h => h) (Or.inl ⟨by rfl, ?_⟩) (by assumption) ?_
        rotate_left
        · (intro W hSw; (try dsimp only at hSw); obtain ⟨s0, s1, s2, s3⟩ := hSw; go_simp; try with_reducible rfl)
        try simp only [List.getElem_toArray, List.getElem_cons_succ, List.getElem_cons_zero, Act.put, List.setIfInBounds_toArray, List.set_cons_zero, List.set_cons_succ]
        refine wpAnyH_take (i := 9) (v := ?_) rfl (by kernel_rfl) (by kernel_rfl) (by kernel_rfl) (fun _ _ _ h => h) (Or.inl ⟨by rfl, ?_⟩) (by assumption) ?_
        rotate_left
        · (intro W hSw; (try dsimp only at hSw); obtain ⟨s0, s1, s2, s3⟩ := hSw; go_simp; try with_reducible rfl)
        try simp only [List.getElem_toArray, List.getElem_cons_succ, List.getElem_cons_zero, Act.put, List.setIfInBounds_toArray, List.set_cons_zero, List.set_cons_succ]
        refine wpAnyH_ready (rs := [10]) (by kernel_rfl) (by simp) (AllReadyH.cons rfl (fun K hK => ?_) AllReadyH.nil)
        rw [if_pos (by rfl)]
        go_simp
        refine HBy.out.mono ?_
        clear HBy
        rintro e w4 ⟨hb4, rfl, hby4⟩
        have hbr : Below wr.heap.size wr w4 := (Below.refl _ wr).drew.trans (hb4.mono (Nat.le_refl _))
        have HA4 := hid (hA.out.below hbr)
        have HBr := hid hbr
        obtain ⟨b4, hb4e⟩ : ∃ b4, b4 = wr.drew.heap.size + 1 := ⟨_, rfl⟩
        rw [← hb4e] at hby4 ⊢
        have HW := hid (HA4.out.write dn dsh (dbytes dsh dx) ⟨b4, 0, none⟩ (dlen dsh) (length_dbytes _ _) hby4.at)
        have hz := HDc.out w4 hbr
        clear hb4 hby4 hbr hb4e hA q0 q1 q2 q3 HA4
        go_wp2_with fail
        refine hK.out _ _ hz (fun hHeld => ?_)
        clear hK K
        try simp only [List.getElem_toArray, List.getElem_cons_succ, List.getElem_cons_zero, Act.put, List.setIfInBounds_toArray, List.set_cons_zero, List.set_cons_succ]
        refine wpAnyH_ready (rs := [11]) (by kernel_rfl) (by simp) (AllReadyH.cons rfl (fun K hK => ?_) AllReadyH.nil)
        rw [if_pos (by rfl)]
        go_simp
        refine HW.out.mono ?_
        clear HW
        rintro e w5 ⟨v5, rfl, hA5⟩
        have HA5 := hid (hA5.more (show 24 * k ≤ 24 * (k + 1) by omega))
        obtain ⟨z0, z1, z2, z3, -, -⟩ := HDa.out.below hA5.1
        clear hA5 hz
        go_wp2_with fail
        refine hK.out _ _ ⟨z0, z1, z2, z3⟩ (fun hHeld => ?_)
        clear hK K
        try simp only [List.getElem_toArray, List.getElem_cons_succ, List.getElem_cons_zero, Act.put, List.setIfInBounds_toArray, List.set_cons_zero, List.set_cons_succ]
        refine wpAnyH_done (by kernel_rfl) ?_ _
        refine NoPanic.normal ?_
        clear hHeld z0 z1 z2 z3
        go_wp2
        exact ⟨⟨k + 1, by omega, by omega, by go_num, HA5⟩, by simp [intOf]; omega⟩
      · have hk1b : (dk == 1) = false := beq_eq_false_iff_ne.2 hk1'
        by_cases hk2' : dk = 2
        · have hk2b : (dk == 2) = true := by rw [hk2']; rfl
          have HC := hid (hA.out.commit (by omega))
          clear hA
          go_wp2_with fail
          refine HC.out.mono ?_
          clear HC
          rintro e w4 ⟨rfl, hA4⟩
          have HA4 := hid (hA4.more (show 24 * k + (2 * 9 + 6) ≤ 24 * (k + 1) by omega))
          clear hA4
          go_wp2
          exact ⟨⟨k + 1, by omega, by omega, by go_num, HA4⟩, by simp [intOf]; omega⟩
        · have hk2b : (dk == 2) = false := beq_eq_false_iff_ne.2 hk2'
          have HA5 := hid (hA.out.more (show 24 * k ≤ 24 * (k + 1) by omega))
          clear hA
          go_wp2
          exact ⟨⟨k + 1, by omega, by omega, by go_num, HA5⟩, by simp [intOf]; omega⟩
    · obtain ⟨hbw, L, C, hC, hsz, hN, hM, hwt, hhd, hop, hdk, hft⟩ := hA.out
      have hS21 : C.S.safe.length = 21 := by have h1 := hC.pages; have h2 := hC.fits; unfold pagesS at h1; omega
      have hr : C.dirtyKeys.length ≤ min C.size 100 := by rw [hsz]; exact hdk
      have HBw := hid hbw
      have HLg := hid (blog_any wr hC)
      have HAl := hid (b4all_any wr hC.log hC.fits (fun n hn => hM.sec n hn))
      have HC := hid hC
      have HM := hid hM
      have HWt := hid hwt
      have HHd := hid hhd
      have HSz := hid hsz
      have HS21 := hid hS21
      have HR := hid hr
      have HFt := hid hft
      have HOp : Hid (C.S.ops.length ≤ 24 * 40) := Nat.le_trans hop (by omega)
      have HFl := hid (fun i hi => hC.footLt i hi)
      have HLen := hid (length_allL C.S C.size)
      have HLens := hid (allL_lens hM C.size (by rw [hsz, hS21]; omega))
      obtain ⟨LA, hLA⟩ : ∃ LA, LA = allL C.S C.size := ⟨_, rfl⟩
      rw [← hLA] at HAl HLen HLens
      have HLA := hid hLA
      clear hA hC hM hwt hhd hsz hS21 hr hft hop hdk hN hbw hLA
      by_cases hg : k < ds.length
      · have hge : ((k : Int) < (ds.length : Int)) := by omega
        have hge2 : ¬ ((k : Int) < 40) := by omega
        clear hlt hg
        go_wp2_with fail
        refine HLg.out.mono ?_
        clear HLg
        rintro e w9 ⟨rfl, h9⟩
        obtain rfl := h9.symm
        clear h9
        go_wp2_with fail
        refine HAl.out.mono ?_
        clear HAl
        rintro e w3 ⟨hb3, a3, c3, rfl, hr3⟩
        have HC3 := hid (HC.out.below hb3)
        have HBw3 := hid (HBw.out.trans (hb3.mono HBw.out.size))
        have HR3 := hid hr3
        have HFl3 := HFl
        have HLg3 := hid (blog_any w3 HC3.out)
        clear hb3 hr3 HC HBw
        have HD3 := hid (log_disk w3 HC3.out.log (by have := HOp.out; omega))
        go_wp2_with fail
        refine HLg3.out.mono ?_
        clear HLg3
        rintro e w9 ⟨rfl, h9⟩
        obtain rfl := h9.symm
        clear h9
        go_wp2_with fail
        refine HD3.out.mono ?_
        clear HD3
        rintro e w4 ⟨hb4, d4, rfl, hC4, -⟩
        have HO4 := hid (ops_disk_rd d4 C.S w4 hC4.rd)
        have HC4 := hid (HC3.out.below hb4)
        have HBw4 := hid (HBw3.out.trans (hb4.mono HBw3.out.size))
        have HR4 := hid (HR3.out.below hb4)
        have HCm := hid (bcommit_any w4 HC4.out HR.out (by have := HOp.out; omega))
        clear hb4 hC4 HC3 HR3 HBw3
        go_wp2_with fail
        refine HO4.out.mono ?_
        clear HO4
        rintro e w9 ⟨rfl, h9⟩
        obtain rfl := h9.symm
        clear h9
        go_wp2_with fail
        refine HCm.out.mono ?_
        clear HCm
        rintro e w5 ⟨rfl, d5, F5, hF1, hF2, hC5, hK5⟩
        have HR5 := hid (HR4.out.keep hK5 (fun i hi => HFl3.out i (hi.elim .inl (fun e => .inr (.inr (.inl e))))))
        have HBw5 := hid (HBw4.out.trans (hK5.below HBw4.out.size (fun i hi => HFt.out i (hi.elim .inl (fun e => .inr (.inr (.inl e)))))))
        have HTM := hid (HC4.out.comMade HM.out HR.out)
        have HTo := hid (HC4.out.comOps HR.out)
        have hTl := HC4.out.comLen HR.out
        rw [HS21.out] at hTl
        have HTl := hid hTl
        have HTe := hid (HC4.out.com HR.out).2
        obtain ⟨T, hT⟩ : ∃ T, T = C.com := ⟨_, rfl⟩
        rw [← hT] at hC5 HTM HTo HTl HTe
        have HC5 := hid hC5
        have HLg5 := hid (blog_any w5 hC5)
        have HAl5 := hid (b4all_any w5 hC5.log hC5.fits (fun n hn => HTM.out.sec n hn))
        have HLenB := hid (length_allL T C.size)
        have HLensB := hid (allL_lens HTM.out C.size (by rw [HSz.out, HTl.out]; omega))
        clear hF1 hF2 hC5 hK5 HC4 HR4 HBw4 hTl hT
        dsimp only at HAl5 HLg5
        obtain ⟨LB, hLB⟩ : ∃ LB, LB = allL T C.size := ⟨_, rfl⟩
        rw [← hLB] at HAl5 HLenB HLensB
        have HLB := hid hLB
        clear hLB
        go_wp2_with fail
        refine HLg5.out.mono ?_
        clear HLg5
        rintro e w9 ⟨rfl, h9⟩
        obtain rfl := h9.symm
        clear h9
        go_wp2_with fail
        refine HAl5.out.mono ?_
        clear HAl5
        rintro e w6 ⟨hb6, a6, c6, rfl, hr6⟩
        have HC6 := hid (HC5.out.below hb6)
        have HBw6 := hid (HBw5.out.trans (hb6.mono HBw5.out.size))
        have HRB6 := hid hr6.at
        have HRA6 := hid (HR5.out.below hb6).at
        have HLg6 := hid (blog_any w6 HC6.out)
        have HD6 := hid (log_disk w6 HC6.out.log (by have h1 := HOp.out; have h2 := HTo.out; have h3 := HSz.out; show T.ops.length ≤ 4096; omega))
        clear hb6 hr6 HC5 HR5 HBw5 HC6
        dsimp only at HLg6 HD6
        go_wp2_with fail
        refine HLg6.out.mono ?_
        clear HLg6
        rintro e w9 ⟨rfl, h9⟩
        obtain rfl := h9.symm
        clear h9
        go_wp2_with fail
        refine HD6.out.mono ?_
        clear HD6
        rintro e w7 ⟨hb7, d7, rfl, hC7, -⟩
        have HC7 := hid hC7
        have HO7 := hid (ops_disk_rd d7 T w7 hC7.rd)
        have HBw7 := hid (HBw6.out.trans (hb7.mono HBw6.out.size))
        have HRB7 := hid (HRB6.out.below hb7)
        have HRA7 := hid (HRA6.out.below hb7)
        have HCB := hid (HCB0.out.below HBw7.out)
        clear hb7 hC7 HRB6 HRA6 HBw6
        go_wp2_with fail
        refine HO7.out.mono ?_
        clear HO7
        rintro e w9 ⟨rfl, h9⟩
        obtain rfl := h9.symm
        clear h9
        have hoS : C.S.ops.length ≤ 3000 := by have := HOp.out; omega
        have hoT : T.ops.length ≤ 3000 := by have h0 := HOp.out; have h1 := HTo.out.1; have h2 := HSz.out; omega
        have hoST : C.S.ops.length ≤ T.ops.length := HTo.out.2
        have hopens := fun r hr => crash_opens HM.out HWt.out HHd.out C.size (L.ps C.dirtyKeys) (fun j => (C.dirty (C.dirtyKeys.getD j 0)).getD []) (by rw [HSz.out, HS21.out]; omega) (by rw [HS21.out]; omega) r hr ch
        rw [HTe.out, ← HLA.out, ← HLB.out] at hopens
        have HOpens := hid hopens
        clear hopens
        obtain ⟨oS, hoSe⟩ : ∃ oS, oS = C.S.ops.length := ⟨_, rfl⟩
        obtain ⟨oT, hoTe⟩ : ∃ oT, oT = T.ops.length := ⟨_, rfl⟩
        rw [← hoSe] at hoS hoST HOpens ⊢
        rw [← hoTe] at hoT hoST HOpens ⊢
        have HoT := hid hoTe
        clear hoSe hoTe HTo
        have hmz : (oT : Int) - (oS : Int) + 1 ≠ 0 := by omega
        have hm0 : 0 ≤ kx % ((oT : Int) - (oS : Int) + 1) := Int.emod_nonneg kx hmz
        have hm1 : kx % ((oT : Int) - (oS : Int) + 1) < (oT : Int) - (oS : Int) + 1 := Int.emod_lt_of_pos kx (by omega)
        obtain ⟨r, hr⟩ : ∃ r : Nat, (r : Int) = kx % ((oT : Int) - (oS : Int) + 1) := ⟨(kx % ((oT : Int) - (oS : Int) + 1)).toNat, by omega⟩
        have HRr := hid hr
        have hm2 : kx % ((oT : Int) - (oS : Int) + 1) ≤ 65535 := by omega
        clear hr hm1
        go_wp2_with fail
        have hrT : oS + r ≤ oT := by
          have h1 := HRr.out
          have h2 := Int.emod_lt_of_pos kx (show 0 < (oT : Int) - (oS : Int) + 1 by omega)
          omega
        rw [← HRr.out, show (oS : Int) + (r : Int) = ((oS + r : Nat) : Int) by omega]
        obtain ⟨A, hAe⟩ : ∃ A, A = oS + r := ⟨_, rfl⟩
        rw [← hAe] at hrT ⊢
        obtain ⟨P, hOp, -, -, hPor⟩ := HOpens.out r (by rw [← hAe]; exact hrT)
        rw [← hAe] at hOp
        have HPs := hid hPor
        have HOpn := hid hOp
        have HCut := hid (cut_cut d7 T A w7 HC7.out (by rw [← HoT.out]; exact hrT) (by rw [← HoT.out]; omega) HTM.out.ok)
        have hops : (cutS T A).ops.length ≤ 1000000 := by rw [(cutS_facts T A).2.2, List.length_take, ← HoT.out]; omega
        have HOps := hid hops
        have HXm := hid (crashed_made HTM.out A ch)
        have hXl := crashed_len HTM.out A ch
        rw [HTl.out] at hXl
        have HXl := hid hXl
        clear hm0 hm2 hmz HRr hAe hOp hPor HOpens HC7 hops hXl HoT
        unfold crashedS at HXm HXl HOpn
        generalize cutS T A = K at *
        have HOm : Hid (K.ops.length ≤ opsMax) := Nat.le_trans HOps.out (by decide)
        have HGk := hid (good_keepL ch K.waits K.safe.length)
        refine HCut.out.mono ?_
        clear HCut
        rintro e w8 ⟨hb8, d8, rfl, hC8, -, -, -⟩
        have HB8 := hid hb8
        have HWtg := hid (waiting_disk_rd d8 K w8 hC8.rd HOm.out)
        have HK8 := hid hC8.rd
        have hlm := hC8.rd.plates.most
        clear hb8 hC8
        go_wp2_with fail
        refine HWtg.out.mono ?_
        clear HWtg
        rintro e w10 ⟨v1, v2, rfl, hr1, hr2, hb10⟩
        obtain ⟨p1, c1, rfl, hi1⟩ := ints_of_row hr1
        have hlc : (waitKeys K.waits K.safe.length).length = (waitCounts K.waits K.safe.length).length := by simp [waitCounts]
        rw [hlc] at hr2
        obtain ⟨p2, c2, rfl, hi2⟩ := ints_of_row hr2
        rw [← hlc]
        have HI2 := hid hi2
        have HK10 := hid (HK8.out.below hb10)
        have HB10 := hid (HB8.out.trans (hb10.mono HB8.out.size))
        have HCB3 := hid (HCB.out.below HB10.out)
        have hkl := length_waitKeys K.waits K.safe.length
        have hkl5 : (waitKeys K.waits K.safe.length).length ≤ 4096 := by omega
        have HCnt : Hid (∀ j (h : j < (waitKeys K.waits K.safe.length).length) (h' : j < (waitCounts K.waits K.safe.length).length), 0 ≤ (waitCounts K.waits K.safe.length)[j] ∧ (waitCounts K.waits K.safe.length)[j] ≤ 1000000000) := fun j h h' => by
          have h1 := HK10.out.plates.len (waitKeys K.waits K.safe.length)[j]
          have h2 := HOps.out
          have e : (waitCounts K.waits K.safe.length)[j] = ((K.waits (waitKeys K.waits K.safe.length)[j]).length : Int) := by simp [waitCounts]
          rw [e]; omega
        have HLc := hid hlc
        obtain ⟨i0, hi, hz0, hz1, hz2⟩ := info_parts infoInt
        have HI := hid hi
        clear hr1 hr2 hb10 hi1 hi2 hkl hlc hi HCB HK8 HB8
        obtain ⟨ks, hks⟩ : ∃ ks, ks = waitKeys K.waits K.safe.length := ⟨_, rfl⟩
        obtain ⟨cs, hcs⟩ : ∃ cs, cs = waitCounts K.waits K.safe.length := ⟨_, rfl⟩
        rw [← hcs, ← hks] at HCnt HLc
        rw [← hcs] at HI2 HXm HXl HOpn HGk
        rw [← hks] at hkl5 HXm HXl HOpn ⊢
        have HKs := hid hks
        have HCs := hid hcs
        clear hks hcs
        go_wp2
        go_loopw [20, 21] (fun v i wr => ∃ k : Nat, k ≤ ks.length ∧ i = .int .i64 k ∧ Hid (wr.ownsRow w10.heap.size 3 1 v k (((keepL ch cs).take k).map encZ)) ∧ Hid (Below w10.heap.size w10 wr)) (fun _ i _ => ks.length - (intOf i).toNat)
        case atStart => exact ⟨0, by omega, rfl, World.ownsRow_nil _ _ _ _, Below.refl _ _⟩
        case round =>
          obtain ⟨k, hk, rfl, hF, hBr⟩ := hrel
          by_cases hlt : k < ks.length
          · have hk0 : (0 : Int) ≤ (k : Int) := by omega
            have hk2 : (k : Int) < (ks.length : Int) := by omega
            have hltc : k < cs.length := by rw [← HLc.out]; exact hlt
            have HS := hid (keepL_step ch cs k hltc)
            by_cases hc : k < ch.length
            · have hc2 : (k : Int) < (ch.length : Int) := by omega
              obtain ⟨b2, o2, rfl, hc2'⟩ := HI2.out k hltc
              obtain ⟨b3, o3, rfl, hc3⟩ := HCB3.out k hc
              obtain ⟨n0, n1⟩ := HCnt.out k hlt hltc
              have t2 : wr.cell? ⟨b2, o2 + k, none⟩ = some (.int .i64 cs[k]) := (hBr.out.cell (p := ⟨b2, o2 + k, none⟩) (World.block_lt_of_cell? w10 _ (hc2' k hltc))).trans (hc2' k hltc)
              have t3 : wr.cell? ⟨b3, o3 + k, none⟩ = some (.int .u8 (ch[k].toNat : Int)) := (hBr.out.cell (p := ⟨b3, o3 + k, none⟩) (World.block_lt_of_cell? w10 _ (hc3 k hc))).trans (hc3 k hc)
              have x1 : ((ch[k].toNat : Nat) : Int) ≤ 255 := by have := ch[k].toNat_lt; omega
              have x0 : (0 : Int) ≤ ((ch[k].toNat : Nat) : Int) := by omega
              have hkA : keepAt ch cs k = ((ch[k].toNat : Nat) : Int) % (cs[k] + 1) := by simp [keepAt, hc, hltc]
              rw [hkA] at HS
              have HFd : Hid (wr.drew.ownsRow w10.heap.size 3 1 u20 k (((keepL ch cs).take k).map encZ)) := hF.out
              have HBd := hid hBr.out.drew
              generalize cs[k] = cnt at *
              generalize ((ch[k].toNat : Nat) : Int) = X at *
              clear hc2' hc3 hkA hF
              go_wp2
              refine wp_region_noPanic ?_
              refine wp_region_held_drew (S := fun W => W.cell? ⟨b2, o2 + k, none⟩ = some (.int .i64 cnt) ∧ W.cell? ⟨b3, o3 + k, none⟩ = some (.int .u8 X)) (by kernel_rfl) ⟨t2, t3⟩ (fun hHeld => ?_)
              refine wpAnyH_take (i := 0) (v := ?_) rfl (by kernel_rfl) (by kernel_rfl) (by kernel_rfl) (fun _ _ _ h => h) (Or.inl ⟨by rfl, ?_⟩) (by assumption) ?_
              rotate_left
              · (intro W hSw; (try dsimp only at hSw); obtain ⟨s1, s2⟩ := hSw; go_simp; try with_reducible rfl)
              try simp only [List.getElem_toArray, List.getElem_cons_zero, Act.put, List.setIfInBounds_toArray, List.set_cons_zero, List.set_cons_succ]
              refine wpAnyH_take (i := 1) (v := ?_) rfl (by kernel_rfl) (by kernel_rfl) (by kernel_rfl) (fun _ _ _ h => h) (Or.inl ⟨by rfl, ?_⟩) (by assumption) ?_
              rotate_left
              · (intro W hSw; (try dsimp only at hSw); obtain ⟨s1, s2⟩ := hSw; go_simp; try with_reducible rfl)
              try simp only [List.getElem_toArray, List.getElem_cons_succ, List.getElem_cons_zero, Act.put, List.setIfInBounds_toArray, List.set_cons_zero, List.set_cons_succ]
              refine wpAnyH_take (i := 2) (v := ?_) rfl (by kernel_rfl) (by kernel_rfl) (by kernel_rfl) (fun _ _ _ h => h) (Or.inl ⟨by rfl, ?_⟩) (by assumption) ?_
              rotate_left
              · (intro W hSw; (try dsimp only at hSw); obtain ⟨s1, s2⟩ := hSw; go_simp; try with_reducible rfl)
              try simp only [List.getElem_toArray, List.getElem_cons_succ, List.getElem_cons_zero, Act.put, List.setIfInBounds_toArray, List.set_cons_zero, List.set_cons_succ]
              refine wpAnyH_take (i := 3) (v := ?_) rfl (by kernel_rfl) (by kernel_rfl) (by kernel_rfl) (fun _ _ _ h => h) (Or.inl ⟨by rfl, ?_⟩) (by assumption) ?_
              rotate_left
              · (intro W hSw; (try dsimp only at hSw); obtain ⟨s1, s2⟩ := hSw; go_simp; try with_reducible rfl)
              try simp only [List.getElem_toArray, List.getElem_cons_succ, List.getElem_cons_zero, Act.put, List.setIfInBounds_toArray, List.set_cons_zero, List.set_cons_succ]
              refine wpAnyH_take (i := 4) (v := ?_) rfl (by kernel_rfl) (by kernel_rfl) (by kernel_rfl) (fun _ _ _ h => h) (Or.inl ⟨by rfl, ?_⟩) (by assumption) ?_
              rotate_left
              · (intro W hSw; (try dsimp only at hSw); obtain ⟨s1, s2⟩ := hSw; go_simp; try with_reducible rfl)
              try simp only [List.getElem_toArray, List.getElem_cons_succ, List.getElem_cons_zero, Act.put, List.setIfInBounds_toArray, List.set_cons_zero, List.set_cons_succ]
              refine wpAnyH_take (i := 5) (v := ?_) rfl (by kernel_rfl) (by kernel_rfl) (by kernel_rfl) (fun _ _ _ h => h) (Or.inl ⟨by rfl, ?_⟩) (by assumption) ?_
              rotate_left
              · (intro W hSw; (try dsimp only at hSw); obtain ⟨s1, s2⟩ := hSw; go_simp; try with_reducible rfl)
              try simp only [List.getElem_toArray, List.getElem_cons_succ, List.getElem_cons_zero, Act.put, List.setIfInBounds_toArray, List.set_cons_zero, List.set_cons_succ]
              refine wpAnyH_take (i := 6) (v := ?_) rfl (by kernel_rfl) (by kernel_rfl) (by kernel_rfl) (fun _ _ _ h => h) (Or.inl ⟨by rfl, ?_⟩) (by assumption) ?_
              rotate_left
              · (intro W hSw; (try dsimp only at hSw); obtain ⟨s1, s2⟩ := hSw; go_simp; try with_reducible rfl)
              try simp only [List.getElem_toArray, List.getElem_cons_succ, List.getElem_cons_zero, Act.put, List.setIfInBounds_toArray, List.set_cons_zero, List.set_cons_succ]
              refine wpAnyH_take (i := 7) (v := ?_) rfl (by kernel_rfl) (by kernel_rfl) (by kernel_rfl) (fun _ _ _ h => h) (Or.inl ⟨by rfl, ?_⟩) (by assumption) ?_
              rotate_left
              · (intro W hSw; (try dsimp only at hSw); obtain ⟨s1, s2⟩ := hSw; go_simp; try with_reducible rfl)
              try simp only [List.getElem_toArray, List.getElem_cons_succ, List.getElem_cons_zero, Act.put, List.setIfInBounds_toArray, List.set_cons_zero, List.set_cons_succ]
              refine wpAnyH_take (i := 8) (v := ?_) rfl (by kernel_rfl) (by kernel_rfl) (by kernel_rfl) (fun _ _ _ h => h) (Or.inl ⟨by rfl, ?_⟩) (by assumption) ?_
              rotate_left
              · (intro W hSw; (try dsimp only at hSw); obtain ⟨s1, s2⟩ := hSw; go_simp; try with_reducible rfl)
              try simp only [List.getElem_toArray, List.getElem_cons_succ, List.getElem_cons_zero, Act.put, List.setIfInBounds_toArray, List.set_cons_zero, List.set_cons_succ]
              refine wpAnyH_take (i := 9) (v := ?_) rfl (by kernel_rfl) (by kernel_rfl) (by kernel_rfl) (fun _ _ _ h => h) (Or.inl ⟨by rfl, ?_⟩) (by assumption) ?_
              rotate_left
              · (intro W hSw; (try dsimp only at hSw); obtain ⟨s1, s2⟩ := hSw; go_simp; try with_reducible rfl)
              try simp only [List.getElem_toArray, List.getElem_cons_succ, List.getElem_cons_zero, Act.put, List.setIfInBounds_toArray, List.set_cons_zero, List.set_cons_succ]
              refine wpAnyH_take (i := 10) (v := .int .i64 (X % (cnt + 1))) rfl (by kernel_rfl) (by kernel_rfl) (by kernel_rfl) (fun _ _ _ h => h) (Or.inl ⟨by rfl, ?_⟩) (by assumption) ?_
              · intro W hSw
                go_simp
                rw [IntWalk.i64_in (cnt + 1) (by omega), IntWalk.i64_in X (by omega), if_neg (show ¬ (cnt + 1 = 0) by omega), Int.tmod_eq_emod_of_nonneg x0]
              try simp only [List.getElem_toArray, List.getElem_cons_succ, List.getElem_cons_zero, Act.put, List.setIfInBounds_toArray, List.set_cons_zero, List.set_cons_succ]
              refine wpAnyH_take (i := 11) (v := ?_) rfl (by kernel_rfl) (by kernel_rfl) (by kernel_rfl) (fun _ _ _ h => h) (Or.inl ⟨by rfl, ?_⟩) (by assumption) ?_
              rotate_left
              · (intro W hSw; (try dsimp only at hSw); obtain ⟨s1, s2⟩ := hSw; go_simp; try with_reducible rfl)
              try simp only [List.getElem_toArray, List.getElem_cons_succ, List.getElem_cons_zero, Act.put, List.setIfInBounds_toArray, List.set_cons_zero, List.set_cons_succ]
              refine wpAnyH_done (by kernel_rfl) ?_ _
              refine NoPanic.normal ?_
              clear t2 t3
              generalize wr.drew = wd at *
              go_wp2_with (refine wpList_append_lies _ rfl (.tmp 128) (.tmp 130) 32 rfl w10.heap.size 3 i0 (.int .i64 0) 1 8 Tryz.underlying32 HI.out hz0 hz1 hz2 rfl (by omega) u20 k _ rfl (HFd.out.alloc _) ⟨wd.heap.size, 0, none⟩ 1 1 [.int .i64 (X % (cnt + 1))] rfl rfl (World.news_of_block (cs := #[.int .i64 (X % (cnt + 1))]) (block_new wd _)) (by intro u hu; rw [List.mem_singleton.1 hu]; rfl) (by omega) (by unfold maxLen; omega) (by omega) (by have := HBd.out.size; simp; omega) (wd.heap.size + 1) (by simp) ?_; intro g2 cap2 w5 hown hgr hat hlt2; have HO := hid hown; have HG := hid hgr; clear hown hgr hat hlt2)
              have hba := HBd.out.alloc HBd.out.size (.cells #[.int .i64 (X % (cnt + 1))] 3)
              refine ⟨⟨k + 1, by omega, by go_num, ?_, hba.trans (below_of_row HG.out hba.size (fun i e => (HFd.out.lt i e).1))⟩, by simp [intOf]; omega⟩
              have := HO.out
              rwa [HS.out] at this
            · have hc2 : ¬ ((k : Int) < (ch.length : Int)) := by omega
              have hkA : keepAt ch cs k = 0 := by simp [keepAt, hc]
              rw [hkA] at HS
              have HFd := hF
              have HBd := hBr
              go_wp2_with (refine wpList_append_lies _ rfl (.tmp 128) (.tmp 130) 32 rfl w10.heap.size 3 i0 (.int .i64 0) 1 8 Tryz.underlying32 HI.out hz0 hz1 hz2 rfl (by omega) u20 k _ rfl (HFd.out.alloc _) ⟨wr.heap.size, 0, none⟩ 1 1 [.int .i64 0] rfl rfl (World.news_of_block (cs := #[.int .i64 0]) (block_new wr _)) (by intro u hu; rw [List.mem_singleton.1 hu]; rfl) (by omega) (by unfold maxLen; omega) (by omega) (by have := HBd.out.size; simp; omega) (wr.heap.size + 1) (by simp) ?_; intro g2 cap2 w5 hown hgr hat hlt2; have HO := hid hown; have HG := hid hgr; clear hown hgr hat hlt2)
              have hba := HBd.out.alloc HBd.out.size (.cells #[.int .i64 0] 3)
              refine ⟨⟨k + 1, by omega, by go_num, ?_, hba.trans (below_of_row HG.out hba.size (fun i e => (HFd.out.lt i e).1))⟩, by simp [intOf]; omega⟩
              have := HO.out
              rwa [HS.out] at this
          · obtain rfl : k = ks.length := by omega
            have hge' : ¬ ((ks.length : Int) < (ks.length : Int)) := by omega
            have hkl : (keepL ch cs).length = ks.length := by rw [length_keepL, HLc.out]
            have hrow := hF.out
            rw [List.take_of_length_le (Nat.le_of_eq hkl), ← hkl] at hrow
            obtain ⟨p3, c3', rfl, hi3⟩ := ints_of_row hrow
            have HB11 := hid (HB10.out.trans (hBr.out.mono HB10.out.size))
            have hi3' := hi3
            have HCr := hid (crash_any_rd d8 K (keepL ch cs) p3 c3' wr (HK10.out.below hBr.out) HOm.out (by omega) hi3)
            rw [hkl] at HCr
            clear hrow hi3 hi3' hF HI2 HK10 HB10 hBr HCB3 HCnt
            go_wp2_with fail
            refine HCr.out.mono ?_
            clear HCr
            rintro e w12 ⟨hb12, h12⟩
            rcases h12 with ⟨hbad, -⟩ | ⟨-, dC, rfl, hDC, -, -⟩
            · exact absurd HGk.out hbad
            have HB12 := hid (HB11.out.trans (hb12.mono HB11.out.size))
            rw [← HKs.out] at hDC
            have hXo : (freshS (crashL K.waits K.safe (ks.zip (keepL ch cs)))).ops.length ≤ 4096 := Nat.zero_le _
            generalize freshS (crashL K.waits K.safe (ks.zip (keepL ch cs))) = X at *
            have HOn := hid (open_any dC X (fun i => dC.foot X.waits i) 9 w12 (.inr ⟨hDC, fun _ h => h⟩) hXo (by omega) (by rw [HXl.out]; omega) (fun n hn => HXm.out.sec n hn))
            clear hb12 hDC hkl HB11 hXo
            go_wp2_with fail
            refine HOn.out.mono ?_
            clear HOn
            rintro e w13 ⟨hb13, ho13⟩
            obtain ⟨ns, hns, hPe⟩ := HOpn.out
            rw [HSz.out] at hns hPe
            rcases ho13 with ⟨hno, -⟩ | ⟨ns2, p13, d13, hso, rfl, hp13, hL13⟩
            · rw [hns] at hno; cases hno
            obtain rfl : ns = ns2 := Option.some.inj (hns.symm.trans hso)
            obtain ⟨hf1, hf2, hf3⟩ := headNums_facts hns
            have hOm := HXm.out.opened 9 ns (by omega) hf2 hf3 (by rw [HXl.out]; omega)
            have hOl : (openS X 9 ns).safe.length = 21 := by rw [openS_len, HXl.out]
            have hA13 := b4all_any w13 hL13 (by rw [hOl]; omega) (fun n hn => hOm.sec n hn)
            have hPl := allL_lens hOm 9 (by rw [hOl]; omega)
            have hPn := length_allL (openS X 9 ns) 9
            rw [hPe] at hA13 hPl hPn
            have hPn2 : P.length ≤ 100 := by omega
            have HPl := hid hPl
            have HA13 := hid hA13
            have HB13 := hid (HB12.out.trans (hb13.mono HB12.out.size))
            clear hb13 hns hPe hso hL13 hp13 hf1 hf2 hf3 hOm hOl hA13 hPl hPn HB12 HXm HXl HOpn
            go_wp2_with fail
            refine HA13.out.mono ?_
            clear HA13
            rintro e w14 ⟨hb14, a14, c14, rfl, hr14⟩
            have HB14 := hid (HB13.out.trans (hb14.mono HB13.out.size))
            have HRP := hid hr14.at
            have HRB := hid (HRB7.out.below HB14.out)
            have HRA := hid (HRA7.out.below HB14.out)
            have HSB := hid (fun W (hW : Below w14.heap.size w14 W) => same_all P LB a14 a6 c14 c6 W (HRP.out.below hW) (HRB.out.below hW) (by omega) (fun l hl => by rw [HPl.out l hl]; decide))
            have HSA := hid (same_all P LA a14 a3 c14 c3 w14 HRP.out HRA.out (by omega) (fun l hl => by rw [HPl.out l hl]; decide))
            have HBe := hid (HBw7.out.trans (HB14.out.mono HBw7.out.size))
            clear hb14 hr14 HB13 HRP HRB HRA
            by_cases hPA : P = LA
            · have hsa := HSA.out
              rw [decide_eq_true hPA] at hsa
              have HSa := hid hsa
              clear hsa HPs HSA HSB hPA
              go_wp2_with fail
              refine HSa.out.mono ?_
              clear HSa
              rintro e w15 ⟨rfl, hb15⟩
              have HB15 := hid (HBe.out.trans (hb15.mono HBe.out.size))
              clear hb15
              go_wp2
              go_ret
              exact ⟨rfl, HB15.out⟩
            · have hPB : P = LB := HPs.out.resolve_left hPA
              have hsa := HSA.out
              rw [decide_eq_false hPA] at hsa
              have HSa := hid hsa
              have HPB := hid hPB
              clear hsa HPs HSA hPA hPB
              go_wp2_with fail
              refine HSa.out.mono ?_
              clear HSa
              rintro e w15 ⟨rfl, hb15⟩
              have hsb := HSB.out w15 hb15
              rw [decide_eq_true HPB.out] at hsb
              have HSb := hid hsb
              have HB15 := hid (HBe.out.trans (hb15.mono HBe.out.size))
              clear hb15 hsb HSB
              go_wp2_with fail
              refine HSb.out.mono ?_
              clear HSb
              rintro e w16 ⟨rfl, hb16⟩
              have HB16 := hid (HB15.out.trans (hb16.mono HB15.out.size))
              clear hb16
              go_wp2
              go_ret
              exact ⟨rfl, HB16.out⟩
      · have hge : ¬ ((k : Int) < (ds.length : Int)) := by omega
        clear hlt hg
        go_wp2_with fail
        refine HLg.out.mono ?_
        clear HLg
        rintro e w9 ⟨rfl, h9⟩
        obtain rfl := h9.symm
        clear h9
        go_wp2_with fail
        refine HAl.out.mono ?_
        clear HAl
        rintro e w3 ⟨hb3, a3, c3, rfl, hr3⟩
        have HC3 := hid (HC.out.below hb3)
        have HBw3 := hid (HBw.out.trans (hb3.mono HBw.out.size))
        have HR3 := hid hr3
        have HFl3 := HFl
        have HLg3 := hid (blog_any w3 HC3.out)
        clear hb3 hr3 HC HBw
        have HD3 := hid (log_disk w3 HC3.out.log (by have := HOp.out; omega))
        go_wp2_with fail
        refine HLg3.out.mono ?_
        clear HLg3
        rintro e w9 ⟨rfl, h9⟩
        obtain rfl := h9.symm
        clear h9
        go_wp2_with fail
        refine HD3.out.mono ?_
        clear HD3
        rintro e w4 ⟨hb4, d4, rfl, hC4, -⟩
        have HO4 := hid (ops_disk_rd d4 C.S w4 hC4.rd)
        have HC4 := hid (HC3.out.below hb4)
        have HBw4 := hid (HBw3.out.trans (hb4.mono HBw3.out.size))
        have HR4 := hid (HR3.out.below hb4)
        have HCm := hid (bcommit_any w4 HC4.out HR.out (by have := HOp.out; omega))
        clear hb4 hC4 HC3 HR3 HBw3
        go_wp2_with fail
        refine HO4.out.mono ?_
        clear HO4
        rintro e w9 ⟨rfl, h9⟩
        obtain rfl := h9.symm
        clear h9
        go_wp2_with fail
        refine HCm.out.mono ?_
        clear HCm
        rintro e w5 ⟨rfl, d5, F5, hF1, hF2, hC5, hK5⟩
        have HR5 := hid (HR4.out.keep hK5 (fun i hi => HFl3.out i (hi.elim .inl (fun e => .inr (.inr (.inl e))))))
        have HBw5 := hid (HBw4.out.trans (hK5.below HBw4.out.size (fun i hi => HFt.out i (hi.elim .inl (fun e => .inr (.inr (.inl e)))))))
        have HTM := hid (HC4.out.comMade HM.out HR.out)
        have HTo := hid (HC4.out.comOps HR.out)
        have hTl := HC4.out.comLen HR.out
        rw [HS21.out] at hTl
        have HTl := hid hTl
        have HTe := hid (HC4.out.com HR.out).2
        obtain ⟨T, hT⟩ : ∃ T, T = C.com := ⟨_, rfl⟩
        rw [← hT] at hC5 HTM HTo HTl HTe
        have HC5 := hid hC5
        have HLg5 := hid (blog_any w5 hC5)
        have HAl5 := hid (b4all_any w5 hC5.log hC5.fits (fun n hn => HTM.out.sec n hn))
        have HLenB := hid (length_allL T C.size)
        have HLensB := hid (allL_lens HTM.out C.size (by rw [HSz.out, HTl.out]; omega))
        clear hF1 hF2 hC5 hK5 HC4 HR4 HBw4 hTl hT
        dsimp only at HAl5 HLg5
        obtain ⟨LB, hLB⟩ : ∃ LB, LB = allL T C.size := ⟨_, rfl⟩
        rw [← hLB] at HAl5 HLenB HLensB
        have HLB := hid hLB
        clear hLB
        go_wp2_with fail
        refine HLg5.out.mono ?_
        clear HLg5
        rintro e w9 ⟨rfl, h9⟩
        obtain rfl := h9.symm
        clear h9
        go_wp2_with fail
        refine HAl5.out.mono ?_
        clear HAl5
        rintro e w6 ⟨hb6, a6, c6, rfl, hr6⟩
        have HC6 := hid (HC5.out.below hb6)
        have HBw6 := hid (HBw5.out.trans (hb6.mono HBw5.out.size))
        have HRB6 := hid hr6.at
        have HRA6 := hid (HR5.out.below hb6).at
        have HLg6 := hid (blog_any w6 HC6.out)
        have HD6 := hid (log_disk w6 HC6.out.log (by have h1 := HOp.out; have h2 := HTo.out; have h3 := HSz.out; show T.ops.length ≤ 4096; omega))
        clear hb6 hr6 HC5 HR5 HBw5 HC6
        dsimp only at HLg6 HD6
        go_wp2_with fail
        refine HLg6.out.mono ?_
        clear HLg6
        rintro e w9 ⟨rfl, h9⟩
        obtain rfl := h9.symm
        clear h9
        go_wp2_with fail
        refine HD6.out.mono ?_
        clear HD6
        rintro e w7 ⟨hb7, d7, rfl, hC7, -⟩
        have HC7 := hid hC7
        have HO7 := hid (ops_disk_rd d7 T w7 hC7.rd)
        have HBw7 := hid (HBw6.out.trans (hb7.mono HBw6.out.size))
        have HRB7 := hid (HRB6.out.below hb7)
        have HRA7 := hid (HRA6.out.below hb7)
        have HCB := hid (HCB0.out.below HBw7.out)
        clear hb7 hC7 HRB6 HRA6 HBw6
        go_wp2_with fail
        refine HO7.out.mono ?_
        clear HO7
        rintro e w9 ⟨rfl, h9⟩
        obtain rfl := h9.symm
        clear h9
        have hoS : C.S.ops.length ≤ 3000 := by have := HOp.out; omega
        have hoT : T.ops.length ≤ 3000 := by have h0 := HOp.out; have h1 := HTo.out.1; have h2 := HSz.out; omega
        have hoST : C.S.ops.length ≤ T.ops.length := HTo.out.2
        have hopens := fun r hr => crash_opens HM.out HWt.out HHd.out C.size (L.ps C.dirtyKeys) (fun j => (C.dirty (C.dirtyKeys.getD j 0)).getD []) (by rw [HSz.out, HS21.out]; omega) (by rw [HS21.out]; omega) r hr ch
        rw [HTe.out, ← HLA.out, ← HLB.out] at hopens
        have HOpens := hid hopens
        clear hopens
        obtain ⟨oS, hoSe⟩ : ∃ oS, oS = C.S.ops.length := ⟨_, rfl⟩
        obtain ⟨oT, hoTe⟩ : ∃ oT, oT = T.ops.length := ⟨_, rfl⟩
        rw [← hoSe] at hoS hoST HOpens ⊢
        rw [← hoTe] at hoT hoST HOpens ⊢
        have HoT := hid hoTe
        clear hoSe hoTe HTo
        have hmz : (oT : Int) - (oS : Int) + 1 ≠ 0 := by omega
        have hm0 : 0 ≤ kx % ((oT : Int) - (oS : Int) + 1) := Int.emod_nonneg kx hmz
        have hm1 : kx % ((oT : Int) - (oS : Int) + 1) < (oT : Int) - (oS : Int) + 1 := Int.emod_lt_of_pos kx (by omega)
        obtain ⟨r, hr⟩ : ∃ r : Nat, (r : Int) = kx % ((oT : Int) - (oS : Int) + 1) := ⟨(kx % ((oT : Int) - (oS : Int) + 1)).toNat, by omega⟩
        have HRr := hid hr
        have hm2 : kx % ((oT : Int) - (oS : Int) + 1) ≤ 65535 := by omega
        clear hr hm1
        go_wp2_with fail
        have hrT : oS + r ≤ oT := by
          have h1 := HRr.out
          have h2 := Int.emod_lt_of_pos kx (show 0 < (oT : Int) - (oS : Int) + 1 by omega)
          omega
        rw [← HRr.out, show (oS : Int) + (r : Int) = ((oS + r : Nat) : Int) by omega]
        obtain ⟨A, hAe⟩ : ∃ A, A = oS + r := ⟨_, rfl⟩
        rw [← hAe] at hrT ⊢
        obtain ⟨P, hOp, -, -, hPor⟩ := HOpens.out r (by rw [← hAe]; exact hrT)
        rw [← hAe] at hOp
        have HPs := hid hPor
        have HOpn := hid hOp
        have HCut := hid (cut_cut d7 T A w7 HC7.out (by rw [← HoT.out]; exact hrT) (by rw [← HoT.out]; omega) HTM.out.ok)
        have hops : (cutS T A).ops.length ≤ 1000000 := by rw [(cutS_facts T A).2.2, List.length_take, ← HoT.out]; omega
        have HOps := hid hops
        have HXm := hid (crashed_made HTM.out A ch)
        have hXl := crashed_len HTM.out A ch
        rw [HTl.out] at hXl
        have HXl := hid hXl
        clear hm0 hm2 hmz HRr hAe hOp hPor HOpens HC7 hops hXl HoT
        unfold crashedS at HXm HXl HOpn
        generalize cutS T A = K at *
        have HOm : Hid (K.ops.length ≤ opsMax) := Nat.le_trans HOps.out (by decide)
        have HGk := hid (good_keepL ch K.waits K.safe.length)
        refine HCut.out.mono ?_
        clear HCut
        rintro e w8 ⟨hb8, d8, rfl, hC8, -, -, -⟩
        have HB8 := hid hb8
        have HWtg := hid (waiting_disk_rd d8 K w8 hC8.rd HOm.out)
        have HK8 := hid hC8.rd
        have hlm := hC8.rd.plates.most
        clear hb8 hC8
        go_wp2_with fail
        refine HWtg.out.mono ?_
        clear HWtg
        rintro e w10 ⟨v1, v2, rfl, hr1, hr2, hb10⟩
        obtain ⟨p1, c1, rfl, hi1⟩ := ints_of_row hr1
        have hlc : (waitKeys K.waits K.safe.length).length = (waitCounts K.waits K.safe.length).length := by simp [waitCounts]
        rw [hlc] at hr2
        obtain ⟨p2, c2, rfl, hi2⟩ := ints_of_row hr2
        rw [← hlc]
        have HI2 := hid hi2
        have HK10 := hid (HK8.out.below hb10)
        have HB10 := hid (HB8.out.trans (hb10.mono HB8.out.size))
        have HCB3 := hid (HCB.out.below HB10.out)
        have hkl := length_waitKeys K.waits K.safe.length
        have hkl5 : (waitKeys K.waits K.safe.length).length ≤ 4096 := by omega
        have HCnt : Hid (∀ j (h : j < (waitKeys K.waits K.safe.length).length) (h' : j < (waitCounts K.waits K.safe.length).length), 0 ≤ (waitCounts K.waits K.safe.length)[j] ∧ (waitCounts K.waits K.safe.length)[j] ≤ 1000000000) := fun j h h' => by
          have h1 := HK10.out.plates.len (waitKeys K.waits K.safe.length)[j]
          have h2 := HOps.out
          have e : (waitCounts K.waits K.safe.length)[j] = ((K.waits (waitKeys K.waits K.safe.length)[j]).length : Int) := by simp [waitCounts]
          rw [e]; omega
        have HLc := hid hlc
        obtain ⟨i0, hi, hz0, hz1, hz2⟩ := info_parts infoInt
        have HI := hid hi
        clear hr1 hr2 hb10 hi1 hi2 hkl hlc hi HCB HK8 HB8
        obtain ⟨ks, hks⟩ : ∃ ks, ks = waitKeys K.waits K.safe.length := ⟨_, rfl⟩
        obtain ⟨cs, hcs⟩ : ∃ cs, cs = waitCounts K.waits K.safe.length := ⟨_, rfl⟩
        rw [← hcs, ← hks] at HCnt HLc
        rw [← hcs] at HI2 HXm HXl HOpn HGk
        rw [← hks] at hkl5 HXm HXl HOpn ⊢
        have HKs := hid hks
        have HCs := hid hcs
        clear hks hcs
        go_wp2
        go_loopw [20, 21] (fun v i wr => ∃ k : Nat, k ≤ ks.length ∧ i = .int .i64 k ∧ Hid (wr.ownsRow w10.heap.size 3 1 v k (((keepL ch cs).take k).map encZ)) ∧ Hid (Below w10.heap.size w10 wr)) (fun _ i _ => ks.length - (intOf i).toNat)
        case atStart => exact ⟨0, by omega, rfl, World.ownsRow_nil _ _ _ _, Below.refl _ _⟩
        case round =>
          obtain ⟨k, hk, rfl, hF, hBr⟩ := hrel
          by_cases hlt : k < ks.length
          · have hk0 : (0 : Int) ≤ (k : Int) := by omega
            have hk2 : (k : Int) < (ks.length : Int) := by omega
            have hltc : k < cs.length := by rw [← HLc.out]; exact hlt
            have HS := hid (keepL_step ch cs k hltc)
            by_cases hc : k < ch.length
            · have hc2 : (k : Int) < (ch.length : Int) := by omega
              obtain ⟨b2, o2, rfl, hc2'⟩ := HI2.out k hltc
              obtain ⟨b3, o3, rfl, hc3⟩ := HCB3.out k hc
              obtain ⟨n0, n1⟩ := HCnt.out k hlt hltc
              have t2 : wr.cell? ⟨b2, o2 + k, none⟩ = some (.int .i64 cs[k]) := (hBr.out.cell (p := ⟨b2, o2 + k, none⟩) (World.block_lt_of_cell? w10 _ (hc2' k hltc))).trans (hc2' k hltc)
              have t3 : wr.cell? ⟨b3, o3 + k, none⟩ = some (.int .u8 (ch[k].toNat : Int)) := (hBr.out.cell (p := ⟨b3, o3 + k, none⟩) (World.block_lt_of_cell? w10 _ (hc3 k hc))).trans (hc3 k hc)
              have x1 : ((ch[k].toNat : Nat) : Int) ≤ 255 := by have := ch[k].toNat_lt; omega
              have x0 : (0 : Int) ≤ ((ch[k].toNat : Nat) : Int) := by omega
              have hkA : keepAt ch cs k = ((ch[k].toNat : Nat) : Int) % (cs[k] + 1) := by simp [keepAt, hc, hltc]
              rw [hkA] at HS
              have HFd : Hid (wr.drew.ownsRow w10.heap.size 3 1 u20 k (((keepL ch cs).take k).map encZ)) := hF.out
              have HBd := hid hBr.out.drew
              generalize cs[k] = cnt at *
              generalize ((ch[k].toNat : Nat) : Int) = X at *
              clear hc2' hc3 hkA hF
              go_wp2
              refine wp_region_noPanic ?_
              refine wp_region_held_drew (S := fun W => W.cell? ⟨b2, o2 + k, none⟩ = some (.int .i64 cnt) ∧ W.cell? ⟨b3, o3 + k, none⟩ = some (.int .u8 X)) (by kernel_rfl) ⟨t2, t3⟩ (fun hHeld => ?_)
              refine wpAnyH_take (i := 0) (v := ?_) rfl (by kernel_rfl) (by kernel_rfl) (by kernel_rfl) (fun _ _ _ h => h) (Or.inl ⟨by rfl, ?_⟩) (by assumption) ?_
              rotate_left
              · (intro W hSw; (try dsimp only at hSw); obtain ⟨s1, s2⟩ := hSw; go_simp; try with_reducible rfl)
              try simp only [List.getElem_toArray, List.getElem_cons_zero, Act.put, List.setIfInBounds_toArray, List.set_cons_zero, List.set_cons_succ]
              refine wpAnyH_take (i := 1) (v := ?_) rfl (by kernel_rfl) (by kernel_rfl) (by kernel_rfl) (fun _ _ _ h => h) (Or.inl ⟨by rfl, ?_⟩) (by assumption) ?_
              rotate_left
              · (intro W hSw; (try dsimp only at hSw); obtain ⟨s1, s2⟩ := hSw; go_simp; try with_reducible rfl)
              try simp only [List.getElem_toArray, List.getElem_cons_succ, List.getElem_cons_zero, Act.put, List.setIfInBounds_toArray, List.set_cons_zero, List.set_cons_succ]
              refine wpAnyH_take (i := 2) (v := ?_) rfl (by kernel_rfl) (by kernel_rfl) (by kernel_rfl) (fun _ _ _ h => h) (Or.inl ⟨by rfl, ?_⟩) (by assumption) ?_
              rotate_left
              · (intro W hSw; (try dsimp only at hSw); obtain ⟨s1, s2⟩ := hSw; go_simp; try with_reducible rfl)
              try simp only [List.getElem_toArray, List.getElem_cons_succ, List.getElem_cons_zero, Act.put, List.setIfInBounds_toArray, List.set_cons_zero, List.set_cons_succ]
              refine wpAnyH_take (i := 3) (v := ?_) rfl (by kernel_rfl) (by kernel_rfl) (by kernel_rfl) (fun _ _ _ h => h) (Or.inl ⟨by rfl, ?_⟩) (by assumption) ?_
              rotate_left
              · (intro W hSw; (try dsimp only at hSw); obtain ⟨s1, s2⟩ := hSw; go_simp; try with_reducible rfl)
              try simp only [List.getElem_toArray, List.getElem_cons_succ, List.getElem_cons_zero, Act.put, List.setIfInBounds_toArray, List.set_cons_zero, List.set_cons_succ]
              refine wpAnyH_take (i := 4) (v := ?_) rfl (by kernel_rfl) (by kernel_rfl) (by kernel_rfl) (fun _ _ _ h => h) (Or.inl ⟨by rfl, ?_⟩) (by assumption) ?_
              rotate_left
              · (intro W hSw; (try dsimp only at hSw); obtain ⟨s1, s2⟩ := hSw; go_simp; try with_reducible rfl)
              try simp only [List.getElem_toArray, List.getElem_cons_succ, List.getElem_cons_zero, Act.put, List.setIfInBounds_toArray, List.set_cons_zero, List.set_cons_succ]
              refine wpAnyH_take (i := 5) (v := ?_) rfl (by kernel_rfl) (by kernel_rfl) (by kernel_rfl) (fun _ _ _ h => h) (Or.inl ⟨by rfl, ?_⟩) (by assumption) ?_
              rotate_left
              · (intro W hSw; (try dsimp only at hSw); obtain ⟨s1, s2⟩ := hSw; go_simp; try with_reducible rfl)
              try simp only [List.getElem_toArray, List.getElem_cons_succ, List.getElem_cons_zero, Act.put, List.setIfInBounds_toArray, List.set_cons_zero, List.set_cons_succ]
              refine wpAnyH_take (i := 6) (v := ?_) rfl (by kernel_rfl) (by kernel_rfl) (by kernel_rfl) (fun _ _ _ h => h) (Or.inl ⟨by rfl, ?_⟩) (by assumption) ?_
              rotate_left
              · (intro W hSw; (try dsimp only at hSw); obtain ⟨s1, s2⟩ := hSw; go_simp; try with_reducible rfl)
              try simp only [List.getElem_toArray, List.getElem_cons_succ, List.getElem_cons_zero, Act.put, List.setIfInBounds_toArray, List.set_cons_zero, List.set_cons_succ]
              refine wpAnyH_take (i := 7) (v := ?_) rfl (by kernel_rfl) (by kernel_rfl) (by kernel_rfl) (fun _ _ _ h => h) (Or.inl ⟨by rfl, ?_⟩) (by assumption) ?_
              rotate_left
              · (intro W hSw; (try dsimp only at hSw); obtain ⟨s1, s2⟩ := hSw; go_simp; try with_reducible rfl)
              try simp only [List.getElem_toArray, List.getElem_cons_succ, List.getElem_cons_zero, Act.put, List.setIfInBounds_toArray, List.set_cons_zero, List.set_cons_succ]
              refine wpAnyH_take (i := 8) (v := ?_) rfl (by kernel_rfl) (by kernel_rfl) (by kernel_rfl) (fun _ _ _ h => h) (Or.inl ⟨by rfl, ?_⟩) (by assumption) ?_
              rotate_left
              · (intro W hSw; (try dsimp only at hSw); obtain ⟨s1, s2⟩ := hSw; go_simp; try with_reducible rfl)
              try simp only [List.getElem_toArray, List.getElem_cons_succ, List.getElem_cons_zero, Act.put, List.setIfInBounds_toArray, List.set_cons_zero, List.set_cons_succ]
              refine wpAnyH_take (i := 9) (v := ?_) rfl (by kernel_rfl) (by kernel_rfl) (by kernel_rfl) (fun _ _ _ h => h) (Or.inl ⟨by rfl, ?_⟩) (by assumption) ?_
              rotate_left
              · (intro W hSw; (try dsimp only at hSw); obtain ⟨s1, s2⟩ := hSw; go_simp; try with_reducible rfl)
              try simp only [List.getElem_toArray, List.getElem_cons_succ, List.getElem_cons_zero, Act.put, List.setIfInBounds_toArray, List.set_cons_zero, List.set_cons_succ]
              refine wpAnyH_take (i := 10) (v := .int .i64 (X % (cnt + 1))) rfl (by kernel_rfl) (by kernel_rfl) (by kernel_rfl) (fun _ _ _ h => h) (Or.inl ⟨by rfl, ?_⟩) (by assumption) ?_
              · intro W hSw
                go_simp
                rw [IntWalk.i64_in (cnt + 1) (by omega), IntWalk.i64_in X (by omega), if_neg (show ¬ (cnt + 1 = 0) by omega), Int.tmod_eq_emod_of_nonneg x0]
              try simp only [List.getElem_toArray, List.getElem_cons_succ, List.getElem_cons_zero, Act.put, List.setIfInBounds_toArray, List.set_cons_zero, List.set_cons_succ]
              refine wpAnyH_take (i := 11) (v := ?_) rfl (by kernel_rfl) (by kernel_rfl) (by kernel_rfl) (fun _ _ _ h => h) (Or.inl ⟨by rfl, ?_⟩) (by assumption) ?_
              rotate_left
              · (intro W hSw; (try dsimp only at hSw); obtain ⟨s1, s2⟩ := hSw; go_simp; try with_reducible rfl)
              try simp only [List.getElem_toArray, List.getElem_cons_succ, List.getElem_cons_zero, Act.put, List.setIfInBounds_toArray, List.set_cons_zero, List.set_cons_succ]
              refine wpAnyH_done (by kernel_rfl) ?_ _
              refine NoPanic.normal ?_
              clear t2 t3
              generalize wr.drew = wd at *
              go_wp2_with (refine wpList_append_lies _ rfl (.tmp 128) (.tmp 130) 32 rfl w10.heap.size 3 i0 (.int .i64 0) 1 8 Tryz.underlying32 HI.out hz0 hz1 hz2 rfl (by omega) u20 k _ rfl (HFd.out.alloc _) ⟨wd.heap.size, 0, none⟩ 1 1 [.int .i64 (X % (cnt + 1))] rfl rfl (World.news_of_block (cs := #[.int .i64 (X % (cnt + 1))]) (block_new wd _)) (by intro u hu; rw [List.mem_singleton.1 hu]; rfl) (by omega) (by unfold maxLen; omega) (by omega) (by have := HBd.out.size; simp; omega) (wd.heap.size + 1) (by simp) ?_; intro g2 cap2 w5 hown hgr hat hlt2; have HO := hid hown; have HG := hid hgr; clear hown hgr hat hlt2)
              have hba := HBd.out.alloc HBd.out.size (.cells #[.int .i64 (X % (cnt + 1))] 3)
              refine ⟨⟨k + 1, by omega, by go_num, ?_, hba.trans (below_of_row HG.out hba.size (fun i e => (HFd.out.lt i e).1))⟩, by simp [intOf]; omega⟩
              have := HO.out
              rwa [HS.out] at this
            · have hc2 : ¬ ((k : Int) < (ch.length : Int)) := by omega
              have hkA : keepAt ch cs k = 0 := by simp [keepAt, hc]
              rw [hkA] at HS
              have HFd := hF
              have HBd := hBr
              go_wp2_with (refine wpList_append_lies _ rfl (.tmp 128) (.tmp 130) 32 rfl w10.heap.size 3 i0 (.int .i64 0) 1 8 Tryz.underlying32 HI.out hz0 hz1 hz2 rfl (by omega) u20 k _ rfl (HFd.out.alloc _) ⟨wr.heap.size, 0, none⟩ 1 1 [.int .i64 0] rfl rfl (World.news_of_block (cs := #[.int .i64 0]) (block_new wr _)) (by intro u hu; rw [List.mem_singleton.1 hu]; rfl) (by omega) (by unfold maxLen; omega) (by omega) (by have := HBd.out.size; simp; omega) (wr.heap.size + 1) (by simp) ?_; intro g2 cap2 w5 hown hgr hat hlt2; have HO := hid hown; have HG := hid hgr; clear hown hgr hat hlt2)
              have hba := HBd.out.alloc HBd.out.size (.cells #[.int .i64 0] 3)
              refine ⟨⟨k + 1, by omega, by go_num, ?_, hba.trans (below_of_row HG.out hba.size (fun i e => (HFd.out.lt i e).1))⟩, by simp [intOf]; omega⟩
              have := HO.out
              rwa [HS.out] at this
          · obtain rfl : k = ks.length := by omega
            have hge' : ¬ ((ks.length : Int) < (ks.length : Int)) := by omega
            have hkl : (keepL ch cs).length = ks.length := by rw [length_keepL, HLc.out]
            have hrow := hF.out
            rw [List.take_of_length_le (Nat.le_of_eq hkl), ← hkl] at hrow
            obtain ⟨p3, c3', rfl, hi3⟩ := ints_of_row hrow
            have HB11 := hid (HB10.out.trans (hBr.out.mono HB10.out.size))
            have hi3' := hi3
            have HCr := hid (crash_any_rd d8 K (keepL ch cs) p3 c3' wr (HK10.out.below hBr.out) HOm.out (by omega) hi3)
            rw [hkl] at HCr
            clear hrow hi3 hi3' hF HI2 HK10 HB10 hBr HCB3 HCnt
            go_wp2_with fail
            refine HCr.out.mono ?_
            clear HCr
            rintro e w12 ⟨hb12, h12⟩
            rcases h12 with ⟨hbad, -⟩ | ⟨-, dC, rfl, hDC, -, -⟩
            · exact absurd HGk.out hbad
            have HB12 := hid (HB11.out.trans (hb12.mono HB11.out.size))
            rw [← HKs.out] at hDC
            have hXo : (freshS (crashL K.waits K.safe (ks.zip (keepL ch cs)))).ops.length ≤ 4096 := Nat.zero_le _
            generalize freshS (crashL K.waits K.safe (ks.zip (keepL ch cs))) = X at *
            have HOn := hid (open_any dC X (fun i => dC.foot X.waits i) 9 w12 (.inr ⟨hDC, fun _ h => h⟩) hXo (by omega) (by rw [HXl.out]; omega) (fun n hn => HXm.out.sec n hn))
            clear hb12 hDC hkl HB11 hXo
            go_wp2_with fail
            refine HOn.out.mono ?_
            clear HOn
            rintro e w13 ⟨hb13, ho13⟩
            obtain ⟨ns, hns, hPe⟩ := HOpn.out
            rw [HSz.out] at hns hPe
            rcases ho13 with ⟨hno, -⟩ | ⟨ns2, p13, d13, hso, rfl, hp13, hL13⟩
            · rw [hns] at hno; cases hno
            obtain rfl : ns = ns2 := Option.some.inj (hns.symm.trans hso)
            obtain ⟨hf1, hf2, hf3⟩ := headNums_facts hns
            have hOm := HXm.out.opened 9 ns (by omega) hf2 hf3 (by rw [HXl.out]; omega)
            have hOl : (openS X 9 ns).safe.length = 21 := by rw [openS_len, HXl.out]
            have hA13 := b4all_any w13 hL13 (by rw [hOl]; omega) (fun n hn => hOm.sec n hn)
            have hPl := allL_lens hOm 9 (by rw [hOl]; omega)
            have hPn := length_allL (openS X 9 ns) 9
            rw [hPe] at hA13 hPl hPn
            have hPn2 : P.length ≤ 100 := by omega
            have HPl := hid hPl
            have HA13 := hid hA13
            have HB13 := hid (HB12.out.trans (hb13.mono HB12.out.size))
            clear hb13 hns hPe hso hL13 hp13 hf1 hf2 hf3 hOm hOl hA13 hPl hPn HB12 HXm HXl HOpn
            go_wp2_with fail
            refine HA13.out.mono ?_
            clear HA13
            rintro e w14 ⟨hb14, a14, c14, rfl, hr14⟩
            have HB14 := hid (HB13.out.trans (hb14.mono HB13.out.size))
            have HRP := hid hr14.at
            have HRB := hid (HRB7.out.below HB14.out)
            have HRA := hid (HRA7.out.below HB14.out)
            have HSB := hid (fun W (hW : Below w14.heap.size w14 W) => same_all P LB a14 a6 c14 c6 W (HRP.out.below hW) (HRB.out.below hW) (by omega) (fun l hl => by rw [HPl.out l hl]; decide))
            have HSA := hid (same_all P LA a14 a3 c14 c3 w14 HRP.out HRA.out (by omega) (fun l hl => by rw [HPl.out l hl]; decide))
            have HBe := hid (HBw7.out.trans (HB14.out.mono HBw7.out.size))
            clear hb14 hr14 HB13 HRP HRB HRA
            by_cases hPA : P = LA
            · have hsa := HSA.out
              rw [decide_eq_true hPA] at hsa
              have HSa := hid hsa
              clear hsa HPs HSA HSB hPA
              go_wp2_with fail
              refine HSa.out.mono ?_
              clear HSa
              rintro e w15 ⟨rfl, hb15⟩
              have HB15 := hid (HBe.out.trans (hb15.mono HBe.out.size))
              clear hb15
              go_wp2
              go_ret
              exact ⟨rfl, HB15.out⟩
            · have hPB : P = LB := HPs.out.resolve_left hPA
              have hsa := HSA.out
              rw [decide_eq_false hPA] at hsa
              have HSa := hid hsa
              have HPB := hid hPB
              clear hsa HPs HSA hPA hPB
              go_wp2_with fail
              refine HSa.out.mono ?_
              clear HSa
              rintro e w15 ⟨rfl, hb15⟩
              have hsb := HSB.out w15 hb15
              rw [decide_eq_true HPB.out] at hsb
              have HSb := hid hsb
              have HB15 := hid (HBe.out.trans (hb15.mono HBe.out.size))
              clear hb15 hsb HSB
              go_wp2_with fail
              refine HSb.out.mono ?_
              clear HSb
              rintro e w16 ⟨rfl, hb16⟩
              have HB16 := hid (HB15.out.trans (hb16.mono HB15.out.size))
              clear hb16
              go_wp2
              go_ret
              exact ⟨rfl, HB16.out⟩
end Go.Proofs.YtjgclmlclkfgpaaGreat
