/- The walk of BcacheAborts. -/
import Derived.Test.YtegnjbpmmddpaaaGreatBAbortP
namespace Go.Proofs.YtegnjbpmmddpaaaGreat
open Go.RowKit
set_option maxRecDepth 100000 in
set_option maxHeartbeats 4000000 in
theorem bcacheAborts_walk (ds : List BDeed) (a : Option Addr) (cc : Nat) (w : World) (hds : bdeedsAt w a ds) :
    Calls Tryz.prog 6 #[.slice a ds.length cc] w fun e w' => e = .returned (.bool true) ∧ Below w.heap.size w w' := by
  have hD := hid hds
  clear hds
  go_enter Tryz.func6, Tryz.ntmps6
  go_wp2_with fail
  refine (b4open_ok 10 4 (by omega) (by omega) (by omega) (by omega) w).mono ?_
  rintro e w1 ⟨hb1, c, L1, q, m, r, fv, Rd, rfl, hc, hdv, hft, hC1, -, -, -, -⟩
  have hlen : (freshN (10 + 12)).safe.length = 22 := freshN_len _
  have hM : Made (freshN (10 + 12)) := made_fresh _ (by simp) (fun s hs => by rw [List.eq_of_mem_replicate hs]; exact blank_size)
  have hops : (freshN (10 + 12)).ops.length = 0 := rfl
  have hpg : pagesS (freshN (10 + 12)) 10 = 11 := by unfold pagesS; rw [hlen]
  rw [hpg] at hC1
  generalize freshN (10 + 12) = S0 at *
  have HM := hid hM
  have HOp := hid hops
  have HPg := hid hpg
  have H1 := hid hC1
  have HB1 := hid hb1
  have HFt := hid hft
  have HLv := hid (b4live_any w1)
  clear hb1 hft hC1 hlen hM hops hpg hdv hc
  go_wp2_with fail
  refine HLv.out.mono ?_
  clear HLv
  rintro e w2 ⟨rfl, hb2⟩
  have H2 := hid (H1.out.below hb2)
  have HB2 := hid (HB1.out.trans (hb2.mono HB1.out.size))
  have HLg := hid (blog_any w2 H2.out)
  have HAl := hid (b4all_any w2 H2.out.log H2.out.fits (fun n hn => HM.out.sec n hn))
  have hs12 := hb2.size
  have HL1 := hid (fun i (hi : L1.foot c i) => (show i < w2.heap.size from by
    obtain ⟨es, k, hm⟩ := H2.out.dmap
    obtain ⟨es', k', hm'⟩ := H2.out.umap
    rcases hi with hi | hi | hi | hi
    · exact H2.out.lt i hi
    · rw [hi]; exact lt_of_heap H2.out.heap
    · rw [hi]; exact lt_of_heap hm
    · rw [hi]; exact lt_of_heap hm'))
  clear hb2 H1 HB1
  go_wp2_with fail
  refine HLg.out.mono ?_
  clear HLg
  rintro e w9 ⟨rfl, h9⟩
  obtain rfl := h9.symm
  clear h9
  go_wp2_with fail
  refine HAl.out.mono ?_
  clear HAl
  rintro e w3 ⟨hb3, a3, c3, rfl, hrows⟩
  have hal : (allL S0 10).length = 11 := by rw [length_allL, HPg.out]; rfl
  have hal' : (allL (⟨S0, 10, 11, fun _ => none, 4, 0, fun _ => none⟩ : CS).S (⟨S0, 10, 11, fun _ => none, 4, 0, fun _ => none⟩ : CS).size).length = 11 := hal
  have HA3 : Hid (AbAt w w3 c 0 a3) := ⟨HB2.out.trans (hb3.mono HB2.out.size), _, _, w2.heap.size, H2.out.below hb3, rfl, rfl, HM.out, by show S0.ops.length ≤ 300 * 0; rw [HOp.out]; omega, by rw [CS.dirtyKeys_none rfl]; simp, rfl, fun i hi => ⟨HFt.out i hi, HL1.out i hi⟩, hb3.size, hrows⟩
  rw [hal']
  clear hb3 hrows hal hal' H2 HB2 HL1 HFt HM HOp HPg
  go_wp2
  go_loopw [6, 7] (fun v i wr => ∃ (k : Nat) (av : Option Addr) (ac : Nat), k ≤ ds.length ∧ k ≤ 50 ∧ v = .slice av 11 ac ∧ i = .int .i64 k ∧ Hid (AbAt w wr c k av)) (fun _ i _ => 50 - (intOf i).toNat)
  case atStart => exact ⟨0, a3, c3, by omega, by omega, rfl, rfl, HA3⟩
  case round =>
    obtain ⟨k, av, ac, hk1, hk2, rfl, rfl, hA⟩ := hrel
    clear HA3
    by_cases hlt : k < ds.length ∧ k < 50
    · obtain ⟨hka, hkb⟩ := hlt
      have hk0 : (0 : Int) ≤ (k : Int) := by omega
      have hka' : (k : Int) < (ds.length : Int) := by omega
      have hkb' : (k : Int) < 50 := by omega
      obtain ⟨ab, ao, rfl, hdk⟩ := hD.out k hka
      have hDk := hid ((hdk k hka).below hA.out.1)
      have HDa := hid (hdk k hka)
      obtain ⟨D, hDe⟩ : ∃ D, D = ds[k] := ⟨_, rfl⟩
      rw [← hDe] at hDk HDa
      clear hdk hDe
      obtain ⟨dk, dn, dx, dsh⟩ := D
      obtain ⟨q0, q1, q2, q3, -, -⟩ := hDk.out
      dsimp only at q0 q1 q2 q3
      by_cases hk1' : dk = 1
      · subst hk1'
        have HBy := hid (b4bytes_any dsh (1 : Int) dn dx wr.drew)
        have HDc : Hid (∀ W, Below wr.heap.size wr W → W.cell? ⟨ab, ao + k * 4, none⟩ = some (.int .i64 1) ∧ W.cell? ⟨ab, ao + k * 4 + 1, none⟩ = some (.int .i64 dn) ∧ W.cell? ⟨ab, ao + k * 4 + 2, none⟩ = some (.int .u8 (dx.toNat : Int)) ∧ W.cell? ⟨ab, ao + k * 4 + 3, none⟩ = some (.bool dsh)) := fun W hW => by
          obtain ⟨z0, z1, z2, z3, -⟩ := hDk.out.below hW
          exact ⟨z0, z1, z2, z3⟩
        go_wp2
        refine wp_region_noPanic ?_
        refine wp_region_held_drew (S := fun W => W.cell? ⟨ab, ao + k * 4, none⟩ = some (.int .i64 1) ∧ W.cell? ⟨ab, ao + k * 4 + 1, none⟩ = some (.int .i64 dn) ∧ W.cell? ⟨ab, ao + k * 4 + 2, none⟩ = some (.int .u8 (dx.toNat : Int)) ∧ W.cell? ⟨ab, ao + k * 4 + 3, none⟩ = some (.bool dsh)) (by kernel_rfl) ⟨q0, q1, q2, q3⟩ (fun hHeld => ?_)
        refine wpAnyH_take (i := 0) (v := ?_) rfl (by kernel_rfl) (by kernel_rfl) (by kernel_rfl) (fun _ _ _ h => h) (Or.inl ⟨by rfl, ?_⟩) (by assumption) ?_
        rotate_left
        · (intro W hSw; (try dsimp only at hSw); obtain ⟨s0, s1, s2, s3⟩ := hSw; go_simp; try with_reducible rfl)
        try simp only [List.getElem_toArray, List.getElem_cons_zero, Act.put, List.setIfInBounds_toArray, List.set_cons_zero, List.set_cons_succ]
        refine wpAnyH_take (i := 1) (v := ?_) rfl (by kernel_rfl) (by kernel_rfl) (by kernel_rfl) (fun _ _ _ h => h) (Or.inl ⟨by rfl, ?_⟩) (by assumption) ?_
        rotate_left
        · (intro W hSw; (try dsimp only at hSw); obtain ⟨s0, s1, s2, s3⟩ := hSw; go_simp; try with_reducible rfl)
        try simp only [List.getElem_toArray, List.getElem_cons_succ, List.getElem_cons_zero, Act.put, List.setIfInBounds_toArray, List.set_cons_zero, List.set_cons_succ]
        refine wpAnyH_take (i := 2) (v := ?_) rfl (by kernel_rfl) (by kernel_rfl) (by kernel_rfl) (fun _ _ _ h => h) (Or.inl ⟨by rfl, ?_⟩) (by assumption) ?_
        rotate_left
        · (intro W hSw; (try dsimp only at hSw); obtain ⟨s0, s1, s2, s3⟩ := hSw; go_simp; try with_reducible rfl)
        try simp only [List.getElem_toArray, List.getElem_cons_succ, List.getElem_cons_zero, Act.put, List.setIfInBounds_toArray, List.set_cons_zero, List.set_cons_succ]
        refine wpAnyH_take (i := 3) (v := ?_) rfl (by kernel_rfl) (by kernel_rfl) (by kernel_rfl) (fun _ _ _ h => h) (Or.inl ⟨by rfl, ?_⟩) (by assumption) ?_
        rotate_left
        · (intro W hSw; (try dsimp only at hSw); obtain ⟨s0, s1, s2, s3⟩ := hSw; go_simp; try with_reducible rfl)
        try simp only [List.getElem_toArray, List.getElem_cons_succ, List.getElem_cons_zero, Act.put, List.setIfInBounds_toArray, List.set_cons_zero, List.set_cons_succ]
        refine wpAnyH_take (i := 4) (v := ?_) rfl (by kernel_rfl) (by kernel_rfl) (by kernel_rfl) (fun _ _ _ h => h) (Or.inl ⟨by rfl, ?_⟩) (by assumption) ?_
        rotate_left
        · (intro W hSw; (try dsimp only at hSw); obtain ⟨s0, s1, s2, s3⟩ := hSw; go_simp; try with_reducible rfl)
        try simp only [List.getElem_toArray, List.getElem_cons_succ, List.getElem_cons_zero, Act.put, List.setIfInBounds_toArray, List.set_cons_zero, List.set_cons_succ]
        refine wpAnyH_take (i := 5) (v := ?_) rfl (by kernel_rfl) (by kernel_rfl) (by kernel_rfl) (fun _ _ _ h => h) (Or.inl ⟨by rfl, ?_⟩) (by assumption) ?_
        rotate_left
        · (intro W hSw; (try dsimp only at hSw); obtain ⟨s0, s1, s2, s3⟩ := hSw; go_simp; try with_reducible rfl)
        try simp only [List.getElem_toArray, List.getElem_cons_succ, List.getElem_cons_zero, Act.put, List.setIfInBounds_toArray, List.set_cons_zero, List.set_cons_succ]
        refine wpAnyH_take (i := 6) (v := ?_) rfl (by kernel_rfl) (by kernel_rfl) (by kernel_rfl) (fun _ _ _ h => h) (Or.inl ⟨by rfl, ?_⟩) (by assumption) ?_
        rotate_left
        · (intro W hSw; (try dsimp only at hSw); obtain ⟨s0, s1, s2, s3⟩ := hSw; go_simp; try with_reducible rfl)
        try simp only [List.getElem_toArray, List.getElem_cons_succ, List.getElem_cons_zero, Act.put, List.setIfInBounds_toArray, List.set_cons_zero, List.set_cons_succ]
        refine wpAnyH_take (i := 7) (v := ?_) rfl (by kernel_rfl) (by kernel_rfl) (by kernel_rfl) (fun _ _ _ h => h) (Or.inl ⟨by rfl, ?_⟩) (by assumption) ?_
        rotate_left
        · (intro W hSw; (try dsimp only at hSw); obtain ⟨s0, s1, s2, s3⟩ := hSw; go_simp; try with_reducible rfl)
        try simp only [List.getElem_toArray, List.getElem_cons_succ, List.getElem_cons_zero, Act.put, List.setIfInBounds_toArray, List.set_cons_zero, List.set_cons_succ]
        refine wpAnyH_take (i := 8) (v := ?_) rfl (by kernel_rfl) (by kernel_rfl) (by kernel_rfl) (fun _ _ _ h => h) (Or.inl ⟨by rfl, ?_⟩) (by assumption) ?_
        rotate_left
        · (intro W hSw; (try dsimp only at hSw); obtain ⟨s0, s1, s2, s3⟩ := hSw; go_simp; try with_reducible rfl)
        try simp only [List.getElem_toArray, List.getElem_cons_succ, List.getElem_cons_zero, Act.put, List.setIfInBounds_toArray, List.set_cons_zero, List.set_cons_succ]
        refine wpAnyH_take (i := 9) (v := ?_) rfl (by kernel_rfl) (by kernel_rfl) (by kernel_rfl) (fun _ _ _ h => h) (Or.inl ⟨by rfl, ?_⟩) (by assumption) ?_
        rotate_left
        · (intro W hSw; (try dsimp only at hSw); obtain ⟨s0, s1, s2, s3⟩ := hSw; go_simp; try with_reducible rfl)
        try simp only [List.getElem_toArray, List.getElem_cons_succ, List.getElem_cons_zero, Act.put, List.setIfInBounds_toArray, List.set_cons_zero, List.set_cons_succ]
        refine wpAnyH_ready (rs := [10]) (by kernel_rfl) (by simp) (AllReadyH.cons rfl (fun K hK => ?_) AllReadyH.nil)
        rw [if_pos (by rfl)]
        go_simp
        refine HBy.out.mono ?_
        clear HBy
        rintro e w4 ⟨hb4, rfl, hby4⟩
        have hbr : Below wr.heap.size wr w4 := (Below.refl _ wr).drew.trans (hb4.mono (Nat.le_refl _))
        have HA4 := hid (hA.out.below hbr)
        have HBr := hid hbr
        obtain ⟨b4, hb4e⟩ : ∃ b4, b4 = wr.drew.heap.size + 1 := ⟨_, rfl⟩
        rw [← hb4e] at hby4 ⊢
        have HW := hid (HA4.out.write dn dsh (dbytes dsh dx) ⟨b4, 0, none⟩ (dlen dsh) (length_dbytes _ _) hby4.at)
        have hz := HDc.out w4 hbr
        clear hb4 hby4 hbr hb4e hA q0 q1 q2 q3 HA4
        go_wp2_with fail
        refine hK.out _ _ hz (fun hHeld => ?_)
        clear hK K
        try simp only [List.getElem_toArray, List.getElem_cons_succ, List.getElem_cons_zero, Act.put, List.setIfInBounds_toArray, List.set_cons_zero, List.set_cons_succ]
        refine wpAnyH_ready (rs := [11]) (by kernel_rfl) (by simp) (AllReadyH.cons rfl (fun K hK => ?_) AllReadyH.nil)
        rw [if_pos (by rfl)]
        go_simp
        refine HW.out.mono ?_
        clear HW
        rintro e w5 ⟨v5, rfl, hA5⟩
        have HA5 := hid hA5.more
        obtain ⟨z0, z1, z2, z3, -, -⟩ := HDa.out.below hA5.1
        clear hA5 hz
        go_wp2_with fail
        refine hK.out _ _ ⟨z0, z1, z2, z3⟩ (fun hHeld => ?_)
        clear hK K
        try simp only [List.getElem_toArray, List.getElem_cons_succ, List.getElem_cons_zero, Act.put, List.setIfInBounds_toArray, List.set_cons_zero, List.set_cons_succ]
        refine wpAnyH_done (by kernel_rfl) ?_ _
        refine NoPanic.normal ?_
        clear hHeld z0 z1 z2 z3
        go_wp2
        exact ⟨⟨k + 1, av, ac, by omega, by omega, rfl, by go_num, HA5⟩, by simp [intOf]; omega⟩
      · have hk1b : (dk == 1) = false := beq_eq_false_iff_ne.2 hk1'
        by_cases hk2' : dk = 2
        · have hk2b : (dk == 2) = true := by rw [hk2']; rfl
          have HC := hid (hA.out.commit (by omega))
          clear hA
          go_wp2_with fail
          refine HC.out.mono ?_
          clear HC
          rintro e w4 ⟨rfl, p, hLg, hAll⟩
          have HLg := hid hLg
          have HAl := hid hAll
          clear hLg hAll
          go_wp2_with fail
          refine HLg.out.mono ?_
          clear HLg
          rintro e w9 ⟨rfl, h9⟩
          obtain rfl := h9.symm
          go_wp2_with fail
          refine HAl.out.mono ?_
          clear HAl
          rintro e w5 ⟨a2, ac2, rfl, hA5⟩
          have HA5 := hid hA5
          clear hA5
          go_wp2
          exact ⟨⟨k + 1, a2, ac2, by omega, by omega, rfl, by go_num, HA5⟩, by simp [intOf]; omega⟩
        · have hk2b : (dk == 2) = false := beq_eq_false_iff_ne.2 hk2'
          go_wp2
          exact ⟨⟨k + 1, av, ac, by omega, by omega, rfl, by go_num, hA.out.more⟩, by simp [intOf]; omega⟩
    · obtain ⟨n, hn, S, hdi⟩ := hA.out.ends
      have HDi := hid hdi
      clear hA hdi
      by_cases hg : k < ds.length
      · have hge : ((k : Int) < (ds.length : Int)) := by omega
        have hge2 : ¬ ((k : Int) < 50) := by omega
        clear hlt
        go_wp2_with fail
        refine HDi.out.mono ?_
        clear HDi
        rintro e w4 ⟨va, vc, rfl, hAb⟩
        have HAb := hid hAb
        clear hAb
        go_wp2_with fail
        refine HAb.out.mono ?_
        clear HAb
        rintro e w5 ⟨rfl, hE5⟩
        have HD5 := hid hE5.dirty
        clear hE5
        go_wp2_with fail
        refine HD5.out.mono ?_
        clear HD5
        rintro e w6 ⟨rfl, hE6⟩
        have HR6 := hid hE6.room
        clear hE6
        go_wp2_with fail
        refine HR6.out.mono ?_
        clear HR6
        rintro e w7 ⟨rfl, hE7⟩
        have HE7 := hid hE7
        clear hE7
        go_wp2
        go_loopw [9] (fun i wr => ∃ j : Nat, j ≤ 11 ∧ i = .int .i64 j ∧ Hid (EndAt w wr c av S j)) (fun i _ => 11 - (intOf i).toNat)
        case atStart => exact ⟨0, by omega, rfl, HE7⟩
        case round =>
          obtain ⟨j, hj, rfl, hE⟩ := hrel
          clear HE7
          by_cases hj1 : j < 11
          · have hj0 : (0 : Int) ≤ (j : Int) := by omega
            have hj2 : (j : Int) < 11 := by omega
            have HRd := hid (hE.out.read (by omega) j hj1)
            clear hE
            go_wp2_with fail
            refine HRd.out.mono ?_
            clear HRd
            rintro e w8 ⟨g, cap, b, o, a', c', rfl, hE8, rfl, hcell, hSm⟩
            have HE8 := hid hE8
            have HSm := hid hSm
            clear hE8 hSm
            go_wp2_with fail
            refine HSm.out.mono ?_
            clear HSm
            rintro e w9 ⟨rfl, hb9⟩
            have HE9 := hid (HE8.out.below hb9)
            clear hb9 HE8 hcell
            go_wp2
            exact ⟨⟨j + 1, by omega, by go_num, HE9⟩, by simp [intOf]; omega⟩
          · have hge3 : ¬ ((j : Int) < 11) := by omega
            have HAb := hid hE.out.abort
            clear hE
            go_wp2_with fail
            refine HAb.out.mono ?_
            clear HAb
            rintro e w8 ⟨rfl, hb8⟩
            have HB8 := hid hb8
            clear hb8
            go_wp2
            go_ret
            exact ⟨rfl, HB8.out⟩
      · have hge : ¬ ((k : Int) < (ds.length : Int)) := by omega
        clear hlt
        go_wp2_with fail
        refine HDi.out.mono ?_
        clear HDi
        rintro e w4 ⟨va, vc, rfl, hAb⟩
        have HAb := hid hAb
        clear hAb
        go_wp2_with fail
        refine HAb.out.mono ?_
        clear HAb
        rintro e w5 ⟨rfl, hE5⟩
        have HD5 := hid hE5.dirty
        clear hE5
        go_wp2_with fail
        refine HD5.out.mono ?_
        clear HD5
        rintro e w6 ⟨rfl, hE6⟩
        have HR6 := hid hE6.room
        clear hE6
        go_wp2_with fail
        refine HR6.out.mono ?_
        clear HR6
        rintro e w7 ⟨rfl, hE7⟩
        have HE7 := hid hE7
        clear hE7
        go_wp2
        go_loopw [9] (fun i wr => ∃ j : Nat, j ≤ 11 ∧ i = .int .i64 j ∧ Hid (EndAt w wr c av S j)) (fun i _ => 11 - (intOf i).toNat)
        case atStart => exact ⟨0, by omega, rfl, HE7⟩
        case round =>
          obtain ⟨j, hj, rfl, hE⟩ := hrel
          clear HE7
          by_cases hj1 : j < 11
          · have hj0 : (0 : Int) ≤ (j : Int) := by omega
            have hj2 : (j : Int) < 11 := by omega
            have HRd := hid (hE.out.read (by omega) j hj1)
            clear hE
            go_wp2_with fail
            refine HRd.out.mono ?_
            clear HRd
            rintro e w8 ⟨g, cap, b, o, a', c', rfl, hE8, rfl, hcell, hSm⟩
            have HE8 := hid hE8
            have HSm := hid hSm
            clear hE8 hSm
            go_wp2_with fail
            refine HSm.out.mono ?_
            clear HSm
            rintro e w9 ⟨rfl, hb9⟩
            have HE9 := hid (HE8.out.below hb9)
            clear hb9 HE8 hcell
            go_wp2
            exact ⟨⟨j + 1, by omega, by go_num, HE9⟩, by simp [intOf]; omega⟩
          · have hge3 : ¬ ((j : Int) < 11) := by omega
            have HAb := hid hE.out.abort
            clear hE
            go_wp2_with fail
            refine HAb.out.mono ?_
            clear HAb
            rintro e w8 ⟨rfl, hb8⟩
            have HB8 := hid hb8
            clear hb8
            go_wp2
            go_ret
            exact ⟨rfl, HB8.out⟩
end Go.Proofs.YtegnjbpmmddpaaaGreat
