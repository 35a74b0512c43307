/- The walk of WalTwice. -/
import Derived.Test.YtoeiodiadanhkaaGreatWTwiceP
import Derived.Test.YtoeiodiadanhkaaGreatWMid
import Derived.Test.YtoeiodiadanhkaaGreatWOpensWalk
namespace Go.Proofs.YtoeiodiadanhkaaGreat
open Go.RowKit
set_option maxRecDepth 100000 in
set_option maxHeartbeats 4000000 in
theorem walTwice_walk (ds : List WDeed) (a : Option Addr) (c : Nat) (k0 k1 : Int) (hx0 : 0 ≤ k0) (hx1 : k0 ≤ 65535) (hy0 : 0 ≤ k1) (hy1 : k1 ≤ 65535) (ch : List UInt8) (ca : Option Addr) (cc : Nat) (w : World) (hds : wdeedsAt w a ds) (hcb : bytesIn w ca ch) (hch : ch.length ≤ 9223372036854775807) :
    Calls Tryz.prog 5 #[.slice a ds.length c, .agg #[.int .u16 k0, .int .u16 k1], .slice ca ch.length cc] w fun e w' => e = .returned (.bool true) ∧ Below w.heap.size w w' := by
  have hD := hid hds
  have HCB := hid hcb
  clear hds hcb
  have HBk := hid ((Below.refl w.heap.size w).alloc (Nat.le_refl _) (.cells #[.int .u16 k0, .int .u16 k1] 58))
  have Hbk := hid (block_new w (.cells #[.int .u16 k0, .int .u16 k1] 58))
  go_enter Tryz.func5, Tryz.ntmps5
  go_wp2_with fail
  generalize w.alloc (.cells #[.int .u16 k0, .int .u16 k1] 58) = wA at *
  have hwA := lt_of_heap Hbk.out
  have HKc : Hid (∀ W, Below wA.heap.size wA W → W.cell? ⟨w.heap.size, 0, none⟩ = some (.int .u16 k0) ∧ W.cell? ⟨w.heap.size, 1, none⟩ = some (.int .u16 k1)) := fun W hW => by
    have h := below_block hW Hbk.out hwA
    exact ⟨cell_of_block h 0, cell_of_block h 1⟩
  refine (wopen_ok 20 8 (by omega) (by omega) (by omega) wA).mono ?_
  rintro e w1 ⟨hb1, p, d1, q, r, fv, Rd, rfl, hp1, hL1, -, -⟩
  have HM1 := hid (Mid.start (by omega) (by omega) hL1 hb1)
  clear hb1 hL1 hp1
  go_wp2_with fail
  refine (wlive_any w1).mono ?_
  rintro e w2 ⟨rfl, hb2⟩
  have HM2 := hid (HM1.out.next hb2)
  clear hb2 HM1
  go_wp2
  go_loopw [10] (fun i wr => ∃ (k : Nat) (d : DL) (S : DiskS) (F : Nat → Prop), k ≤ ds.length ∧ k ≤ 4 ∧ i = .int .i64 k ∧ Hid (Mid wA wr p d S 8 20 k F) ∧ Hid (Hist S 20 8)) (fun i _ => 4 - (intOf i).toNat)
  case atStart => exact ⟨0, _, _, _, by omega, by omega, rfl, HM2, hist_fresh 20 8⟩
  case round =>
    obtain ⟨k, d, S, F, hk1, hk2, rfl, hM, hH⟩ := hrel
    clear HM2
    by_cases hlt : k < ds.length ∧ k < 4
    · obtain ⟨hka, hkb⟩ := hlt
      have hk0 : (0 : Int) ≤ (k : Int) := by omega
      have hka' : (k : Int) < (ds.length : Int) := by omega
      have hkb' : (k : Int) < 4 := by omega
      obtain ⟨ab, ao, rfl, hdk⟩ := hD.out k hka
      have hDk := hid (hdk k hka)
      obtain ⟨D, hDe⟩ : ∃ D, D = ds[k] := ⟨_, rfl⟩
      rw [← hDe] at hDk
      clear hdk hDe
      obtain ⟨q0, q1, q2, hin, -⟩ := (hDk.out.below HBk.out).below hM.out.below
      have HDp := hid (deed_any D.s D.ns D.na D.nc D.x wr hin)
      clear hin
      go_wp2_with fail
      refine HDp.out.mono ?_
      clear HDp
      rintro e w4 ⟨hb4, hd4⟩
      obtain ⟨pa, pc, bs, rfl, hps, hbs, -⟩ := deedAny_pages hd4
      obtain ⟨m, hm⟩ : ∃ m, m = min D.ns.length 102 := ⟨_, rfl⟩
      rw [← hm] at hps hbs ⊢
      have hM4 := hM.out.next hb4
      have HCm := hid (commit_deed D.s D.ns m D.x bs pa pc w4 wr.heap.size hM4.log hM.out.lt hb4.size (by rw [hM4.len]; omega) hps hbs (by have := hM4.ops; omega))
      have HM4 := hid hM4
      clear hb4 hd4 hps hbs hm hM4 hM q0 q1 q2
      go_wp2_with fail
      refine HCm.out.mono ?_
      clear HCm
      rintro e w5 ⟨rfl, d5, hL5, hK5⟩
      have HM5 := hid (HM4.out.com (by omega) _ _ (length_rowX D.x) hL5 hK5)
      have HH5 := hid (hist_com hH.out HM4.out.len (by omega) (by omega) (deedPs D.s D.ns bs m) (rowX D.x))
      clear hL5 hK5 HM4
      go_wp2
      exact ⟨⟨k + 1, _, _, _, by omega, by omega, by go_num, HM5, HH5⟩, by simp [intOf]; omega⟩
    · have HDk := hid (log_disk wr hM.out.log (by have := hM.out.ops; omega))
      by_cases hg : k < ds.length
      · have hge : ((k : Int) < (ds.length : Int)) := by omega
        have hge2 : ¬ ((k : Int) < 4) := by omega
        clear hlt hg
        go_wp2_with fail
        refine HDk.out.mono ?_
        clear HDk
        rintro e w3 ⟨hb3, d3, rfl, hC3, -⟩
        have HM3 := hid (hM.out.next hb3)
        have hoT : S.ops.length ≤ 3000 := by have := hM.out.ops; omega
        have HO3 := hid (fun W (hW : Below w3.heap.size w3 W) => ops_disk_rd d3 S W (hC3.rd.below hW))
        have HCr := hid (fun q hq W (hW : Below w3.heap.size w3 W) => wcrashed_any d3 S q ch ca cc W (hC3.below hW) hq (by omega) HM3.out.made.ok hch ((HCB.out.below HBk.out).below (HM3.out.below.trans (hW.mono HM3.out.below.size))))
        have HGd := hid (fun q => hist_crash hH.out (by omega) q ch)
        obtain ⟨hkc0, hkc1⟩ := HKc.out w3 HM3.out.below
        obtain ⟨oT, hoTe⟩ : ∃ oT, oT = S.ops.length := ⟨_, rfl⟩
        rw [← hoTe] at hoT HO3 HCr
        clear hoTe hb3 hC3 hM
        go_wp2_with fail
        refine wp_region_noPanic ?_
        refine wp_region_held_drew (S := fun W => W.cell? ⟨w.heap.size, 0, none⟩ = some (.int .u16 k0) ∧ W.cell? ⟨w.heap.size, 1, none⟩ = some (.int .u16 k1)) (by kernel_rfl) ⟨hkc0, hkc1⟩ (fun hHeld => ?_)
        refine wpAnyH_take (i := 0) (v := ?_) rfl (by kernel_rfl) (by kernel_rfl) (by kernel_rfl) (fun _ _ _ h => h) (Or.inl ⟨by rfl, ?_⟩) (by assumption) ?_
        rotate_left
        · (intro W hSw; (try dsimp only at hSw); obtain ⟨s0, s1⟩ := hSw; go_simp; try with_reducible rfl)
        try simp only [List.getElem_toArray, List.getElem_cons_zero, Act.put, List.setIfInBounds_toArray, List.set_cons_zero, List.set_cons_succ]
        refine wpAnyH_take (i := 1) (v := ?_) rfl (by kernel_rfl) (by kernel_rfl) (by kernel_rfl) (fun _ _ _ h => h) (Or.inl ⟨by rfl, ?_⟩) (by assumption) ?_
        rotate_left
        · (intro W hSw; (try dsimp only at hSw); obtain ⟨s0, s1⟩ := hSw; go_simp; try with_reducible rfl)
        try simp only [List.getElem_toArray, List.getElem_cons_succ, List.getElem_cons_zero, Act.put, List.setIfInBounds_toArray, List.set_cons_zero, List.set_cons_succ]
        refine wpAnyH_take (i := 2) (v := ?_) rfl (by kernel_rfl) (by kernel_rfl) (by kernel_rfl) (fun _ _ _ h => h) (Or.inl ⟨by rfl, ?_⟩) (by assumption) ?_
        rotate_left
        · (intro W hSw; (try dsimp only at hSw); obtain ⟨s0, s1⟩ := hSw; go_simp; try with_reducible rfl)
        try simp only [List.getElem_toArray, List.getElem_cons_succ, List.getElem_cons_zero, Act.put, List.setIfInBounds_toArray, List.set_cons_zero, List.set_cons_succ]
        refine wpAnyH_take (i := 3) (v := ?_) rfl (by kernel_rfl) (by kernel_rfl) (by kernel_rfl) (fun _ _ _ h => h) (Or.inl ⟨by rfl, ?_⟩) (by assumption) ?_
        rotate_left
        · (intro W hSw; (try dsimp only at hSw); obtain ⟨s0, s1⟩ := hSw; go_simp; try with_reducible rfl)
        try simp only [List.getElem_toArray, List.getElem_cons_succ, List.getElem_cons_zero, Act.put, List.setIfInBounds_toArray, List.set_cons_zero, List.set_cons_succ]
        refine wpAnyH_take (i := 4) (v := ?_) rfl (by kernel_rfl) (by kernel_rfl) (by kernel_rfl) (fun _ _ _ h => h) (Or.inl ⟨by rfl, ?_⟩) (by assumption) ?_
        rotate_left
        · (intro W hSw; (try dsimp only at hSw); obtain ⟨s0, s1⟩ := hSw; go_simp; try with_reducible rfl)
        try simp only [List.getElem_toArray, List.getElem_cons_succ, List.getElem_cons_zero, Act.put, List.setIfInBounds_toArray, List.set_cons_zero, List.set_cons_succ]
        refine wpAnyH_take (i := 8) (v := ?_) rfl (by kernel_rfl) (by kernel_rfl) (by kernel_rfl) (fun _ _ _ h => h) (Or.inl ⟨by rfl, ?_⟩) (by assumption) ?_
        rotate_left
        · (intro W hSw; (try dsimp only at hSw); obtain ⟨s0, s1⟩ := hSw; go_simp; try with_reducible rfl)
        try simp only [List.getElem_toArray, List.getElem_cons_succ, List.getElem_cons_zero, Act.put, List.setIfInBounds_toArray, List.set_cons_zero, List.set_cons_succ]
        refine wpAnyH_ready (rs := [5]) (by kernel_rfl) (by simp) (AllReadyH.cons rfl (fun K hKK => ?_) AllReadyH.nil)
        rw [if_pos (by rfl)]
        go_simp
        refine (HO3.out w3.drew (Below.refl _ _).drew).mono ?_
        clear HO3
        rintro e w9 ⟨rfl, h9⟩
        obtain rfl := h9.symm
        go_wp2_with fail
        refine hKK.out _ _ ⟨hkc0, hkc1⟩ (fun hHeld => ?_)
        clear hKK K
        try simp only [List.getElem_toArray, List.getElem_cons_succ, List.getElem_cons_zero, Act.put, List.setIfInBounds_toArray, List.set_cons_zero, List.set_cons_succ]
        refine wpAnyH_take (i := 6) (v := ?_) rfl (by kernel_rfl) (by kernel_rfl) (by kernel_rfl) (fun _ _ _ h => h) (Or.inl ⟨by rfl, ?_⟩) (by assumption) ?_
        rotate_left
        · (intro W hSw; (try dsimp only at hSw); obtain ⟨s0, s1⟩ := hSw; go_simp; try with_reducible rfl)
        try simp only [List.getElem_toArray, List.getElem_cons_succ, List.getElem_cons_zero, Act.put, List.setIfInBounds_toArray, List.set_cons_zero, List.set_cons_succ]
        refine wpAnyH_take (i := 7) (v := .int .i64 (k0 % ((oT : Int) + 1))) rfl (by kernel_rfl) (by kernel_rfl) (by kernel_rfl) (fun _ _ _ h => h) (Or.inl ⟨by rfl, ?_⟩) (by assumption) ?_
        · intro W hSw
          go_simp
          rw [IntWalk.i64_in ((oT : Int) + 1) (by omega), IntWalk.i64_in k0 (by omega), if_neg (show ¬ ((oT : Int) + 1 = 0) by omega), Int.tmod_eq_emod_of_nonneg hx0]
        try simp only [List.getElem_toArray, List.getElem_cons_succ, List.getElem_cons_zero, Act.put, List.setIfInBounds_toArray, List.set_cons_zero, List.set_cons_succ]
        obtain ⟨r1, hr1⟩ : ∃ r1 : Nat, (r1 : Int) = k0 % ((oT : Int) + 1) := ⟨(k0 % ((oT : Int) + 1)).toNat, by have := Int.emod_nonneg k0 (show (oT : Int) + 1 ≠ 0 by omega); omega⟩
        have hr1T : r1 ≤ oT := by have := Int.emod_lt_of_pos k0 (show 0 < (oT : Int) + 1 by omega); omega
        rw [← hr1]
        clear hr1
        refine wpAnyH_ready (rs := [9]) (by kernel_rfl) (by simp) (AllReadyH.cons rfl (fun K hKK => ?_) AllReadyH.nil)
        rw [if_pos (by rfl)]
        go_simp
        refine (HCr.out r1 hr1T w3.drew (Below.refl _ _).drew).mono ?_
        clear HCr
        rintro e w4 ⟨hb4, d4, rfl, hD4⟩
        have hb4' := below_undrew hb4
        have HM4 := hid (HM3.out.next hb4')
        obtain ⟨hkd0, hkd1⟩ := HKc.out w4 HM4.out.below
        have hXl := crashed_len HM3.out.made r1 ch
        have HXm := hid (crashed_made HM3.out.made r1 ch)
        rw [HM3.out.len] at hXl
        have HXl := hid hXl
        have hGd := HGd.out r1
        obtain ⟨X, hX⟩ : ∃ X, X = crashedS S r1 ch := ⟨_, rfl⟩
        rw [← hX] at hD4 HXl HXm hGd
        have hXo : X.ops = [] := by rw [hX]; rfl
        have hXw : X.waits = fun _ => [] := by rw [hX]; rfl
        have HTw := hid (open_twice (size := 8) HXm.out hXw hXo (by rw [HXl.out]; omega) (by rw [HXl.out]; exact hGd))
        have HOn := hid (open_any d4 X (fun i => d4.foot X.waits i) 8 w4 (.inr ⟨hD4, fun _ h => h⟩) (by rw [hXo]; decide) (by omega) (by rw [HXl.out]; omega) (fun n hn => HXm.out.sec n hn))
        have HXo := hid hXo
        clear hb4 hb4' hD4 hX hXo hXw hXl hGd HGd HM3 hkc0 hkc1
        go_wp2_with fail
        refine hKK.out _ _ ⟨hkd0, hkd1⟩ (fun hHeld => ?_)
        clear hKK K
        try simp only [List.getElem_toArray, List.getElem_cons_succ, List.getElem_cons_zero, Act.put, List.setIfInBounds_toArray, List.set_cons_zero, List.set_cons_succ]
        refine wpAnyH_take (i := 10) (v := ?_) rfl (by kernel_rfl) (by kernel_rfl) (by kernel_rfl) (fun _ _ _ h => h) (Or.inl ⟨by rfl, ?_⟩) (by assumption) ?_
        rotate_left
        · (intro W hSw; (try dsimp only at hSw); obtain ⟨s0, s1⟩ := hSw; go_simp; try with_reducible rfl)
        try simp only [List.getElem_toArray, List.getElem_cons_succ, List.getElem_cons_zero, Act.put, List.setIfInBounds_toArray, List.set_cons_zero, List.set_cons_succ]
        refine wpAnyH_done (by kernel_rfl) ?_ _
        refine NoPanic.normal ?_
        clear hHeld
        go_wp2_with fail
        refine HOn.out.mono ?_
        clear HOn
        rintro e w5 ⟨hb5, ho5⟩
        obtain ⟨ns, hns, hTw⟩ := HTw.out
        rcases ho5 with ⟨hno, -⟩ | ⟨ns2, p5, d5, hso, rfl, hp5, hL5⟩
        · rw [hns] at hno; cases hno
        obtain rfl : ns = ns2 := Option.some.inj (hns.symm.trans hso)
        obtain ⟨hf1, hf2, hf3⟩ := headNums_facts hns
        have HOm := hid (HXm.out.opened 8 ns (by omega) hf2 hf3 (by rw [HXl.out]; omega))
        have HOl : Hid ((openS X 8 ns).safe.length = 20) := by unfold Hid; rw [openS_len, HXl.out]
        have hOo : (openS X 8 ns).ops.length ≤ 200 := by
          unfold openS
          split
          · rw [HXo.out]; decide
          · rw [homeS_ops, HXo.out]; simp; omega
        have HB5 := hid (HM4.out.below.trans (hb5.mono HM4.out.below.size))
        have HL5 := hid hL5
        have HTw2 := hid hTw
        obtain ⟨O, hO⟩ : ∃ O, O = openS X 8 ns := ⟨_, rfl⟩
        rw [← hO] at HOm HOl hOo HL5 HTw2
        obtain ⟨hke0, hke1⟩ := HKc.out w5 HB5.out
        clear hO hb5 hns hso hTw hL5 hf1 hf2 hf3 hp5 HTw HXm HXl HXo HM4 hkd0 hkd1
        go_wp2_with fail
        refine wp_region_noPanic ?_
        refine wp_region_held_drew (S := fun W => W.cell? ⟨w.heap.size, 0, none⟩ = some (.int .u16 k0) ∧ W.cell? ⟨w.heap.size, 1, none⟩ = some (.int .u16 k1)) (by kernel_rfl) ⟨hke0, hke1⟩ (fun hHeld => ?_)
        refine wpAnyH_take (i := 0) (v := ?_) rfl (by kernel_rfl) (by kernel_rfl) (by kernel_rfl) (fun _ _ _ h => h) (Or.inl ⟨by rfl, ?_⟩) (by assumption) ?_
        rotate_left
        · (intro W hSw; (try dsimp only at hSw); obtain ⟨s0, s1⟩ := hSw; go_simp; try with_reducible rfl)
        try simp only [List.getElem_toArray, List.getElem_cons_zero, Act.put, List.setIfInBounds_toArray, List.set_cons_zero, List.set_cons_succ]
        refine wpAnyH_take (i := 2) (v := ?_) rfl (by kernel_rfl) (by kernel_rfl) (by kernel_rfl) (fun _ _ _ h => h) (Or.inl ⟨by rfl, ?_⟩) (by assumption) ?_
        rotate_left
        · (intro W hSw; (try dsimp only at hSw); obtain ⟨s0, s1⟩ := hSw; go_simp; try with_reducible rfl)
        try simp only [List.getElem_toArray, List.getElem_cons_succ, List.getElem_cons_zero, Act.put, List.setIfInBounds_toArray, List.set_cons_zero, List.set_cons_succ]
        refine wpAnyH_take (i := 3) (v := ?_) rfl (by kernel_rfl) (by kernel_rfl) (by kernel_rfl) (fun _ _ _ h => h) (Or.inl ⟨by rfl, ?_⟩) (by assumption) ?_
        rotate_left
        · (intro W hSw; (try dsimp only at hSw); obtain ⟨s0, s1⟩ := hSw; go_simp; try with_reducible rfl)
        try simp only [List.getElem_toArray, List.getElem_cons_succ, List.getElem_cons_zero, Act.put, List.setIfInBounds_toArray, List.set_cons_zero, List.set_cons_succ]
        refine wpAnyH_take (i := 4) (v := ?_) rfl (by kernel_rfl) (by kernel_rfl) (by kernel_rfl) (fun _ _ _ h => h) (Or.inl ⟨by rfl, ?_⟩) (by assumption) ?_
        rotate_left
        · (intro W hSw; (try dsimp only at hSw); obtain ⟨s0, s1⟩ := hSw; go_simp; try with_reducible rfl)
        try simp only [List.getElem_toArray, List.getElem_cons_succ, List.getElem_cons_zero, Act.put, List.setIfInBounds_toArray, List.set_cons_zero, List.set_cons_succ]
        refine wpAnyH_take (i := 5) (v := ?_) rfl (by kernel_rfl) (by kernel_rfl) (by kernel_rfl) (fun _ _ _ h => h) (Or.inl ⟨by rfl, ?_⟩) (by assumption) ?_
        rotate_left
        · (intro W hSw; (try dsimp only at hSw); obtain ⟨s0, s1⟩ := hSw; go_simp; try with_reducible rfl)
        try simp only [List.getElem_toArray, List.getElem_cons_succ, List.getElem_cons_zero, Act.put, List.setIfInBounds_toArray, List.set_cons_zero, List.set_cons_succ]
        refine wpAnyH_take (i := 10) (v := ?_) rfl (by kernel_rfl) (by kernel_rfl) (by kernel_rfl) (fun _ _ _ h => h) (Or.inl ⟨by rfl, ?_⟩) (by assumption) ?_
        rotate_left
        · (intro W hSw; (try dsimp only at hSw); obtain ⟨s0, s1⟩ := hSw; go_simp; try with_reducible rfl)
        try simp only [List.getElem_toArray, List.getElem_cons_succ, List.getElem_cons_zero, Act.put, List.setIfInBounds_toArray, List.set_cons_zero, List.set_cons_succ]
        refine wpAnyH_ready (rs := [1]) (by kernel_rfl) (by simp) (AllReadyH.cons rfl (fun K hKK => ?_) AllReadyH.nil)
        rw [if_pos (by rfl)]
        go_simp
        refine (log_disk w5.drew (HL5.out.below (Below.refl _ _).drew) (by omega)).mono ?_
        rintro e w6 ⟨hb6, d6, rfl, hC6, -⟩
        have hb6' := below_undrew hb6
        have HB6 := hid (HB5.out.trans (hb6'.mono HB5.out.size))
        have HL6 := hid (HL5.out.below hb6')
        have HC6 := hid hC6
        obtain ⟨hkf0, hkf1⟩ := HKc.out w6 HB6.out
        clear hb6 hb6' hC6 HL5 HB5 hke0 hke1
        go_wp2_with fail
        refine hKK.out _ _ ⟨hkf0, hkf1⟩ (fun hHeld => ?_)
        clear hKK K
        try simp only [List.getElem_toArray, List.getElem_cons_succ, List.getElem_cons_zero, Act.put, List.setIfInBounds_toArray, List.set_cons_zero, List.set_cons_succ]
        refine wpAnyH_ready (rs := [6]) (by kernel_rfl) (by simp) (AllReadyH.cons rfl (fun K hKK => ?_) AllReadyH.nil)
        rw [if_pos (by rfl)]
        go_simp
        refine (log_disk w6 HL6.out (by omega)).mono ?_
        rintro e w7 ⟨hb7, d7, rfl, hC7, -⟩
        have HB7 := hid (HB6.out.trans (hb7.mono HB6.out.size))
        have HL7 := hid (HL6.out.below hb7)
        have HC67 := hid (HC6.out.below hb7)
        have HO7 := hid (ops_disk_rd d7 O w7 hC7.rd)
        obtain ⟨hkg0, hkg1⟩ := HKc.out w7 HB7.out
        have HCr := hid (fun q hq => wcrashed_any d6 O q ch ca cc w7 HC67.out hq (by omega) HOm.out.ok hch ((HCB.out.below HBk.out).below HB7.out))
        obtain ⟨oO, hoOe⟩ : ∃ oO, oO = O.ops.length := ⟨_, rfl⟩
        rw [← hoOe] at hOo HO7 HCr
        clear hb7 hC7 HL6 HB6 HC6 HC67 hkf0 hkf1 hoOe
        go_wp2_with fail
        refine hKK.out _ _ ⟨hkg0, hkg1⟩ (fun hHeld => ?_)
        clear hKK K
        try simp only [List.getElem_toArray, List.getElem_cons_succ, List.getElem_cons_zero, Act.put, List.setIfInBounds_toArray, List.set_cons_zero, List.set_cons_succ]
        refine wpAnyH_ready (rs := [7]) (by kernel_rfl) (by simp) (AllReadyH.cons rfl (fun K hKK => ?_) AllReadyH.nil)
        rw [if_pos (by rfl)]
        go_simp
        refine HO7.out.mono ?_
        clear HO7
        rintro e w9 ⟨rfl, h9⟩
        obtain rfl := h9.symm
        go_wp2_with fail
        refine hKK.out _ _ ⟨hkg0, hkg1⟩ (fun hHeld => ?_)
        clear hKK K
        try simp only [List.getElem_toArray, List.getElem_cons_succ, List.getElem_cons_zero, Act.put, List.setIfInBounds_toArray, List.set_cons_zero, List.set_cons_succ]
        refine wpAnyH_take (i := 8) (v := ?_) rfl (by kernel_rfl) (by kernel_rfl) (by kernel_rfl) (fun _ _ _ h => h) (Or.inl ⟨by rfl, ?_⟩) (by assumption) ?_
        rotate_left
        · (intro W hSw; (try dsimp only at hSw); obtain ⟨s0, s1⟩ := hSw; go_simp; try with_reducible rfl)
        try simp only [List.getElem_toArray, List.getElem_cons_succ, List.getElem_cons_zero, Act.put, List.setIfInBounds_toArray, List.set_cons_zero, List.set_cons_succ]
        refine wpAnyH_take (i := 9) (v := .int .i64 (k1 % ((oO : Int) + 1))) rfl (by kernel_rfl) (by kernel_rfl) (by kernel_rfl) (fun _ _ _ h => h) (Or.inl ⟨by rfl, ?_⟩) (by assumption) ?_
        · intro W hSw
          go_simp
          rw [IntWalk.i64_in ((oO : Int) + 1) (by omega), IntWalk.i64_in k1 (by omega), if_neg (show ¬ ((oO : Int) + 1 = 0) by omega), Int.tmod_eq_emod_of_nonneg hy0]
        try simp only [List.getElem_toArray, List.getElem_cons_succ, List.getElem_cons_zero, Act.put, List.setIfInBounds_toArray, List.set_cons_zero, List.set_cons_succ]
        obtain ⟨r2, hr2⟩ : ∃ r2 : Nat, (r2 : Int) = k1 % ((oO : Int) + 1) := ⟨(k1 % ((oO : Int) + 1)).toNat, by have := Int.emod_nonneg k1 (show (oO : Int) + 1 ≠ 0 by omega); omega⟩
        have hr2T : r2 ≤ oO := by have := Int.emod_lt_of_pos k1 (show 0 < (oO : Int) + 1 by omega); omega
        rw [← hr2]
        clear hr2
        refine wpAnyH_ready (rs := [11]) (by kernel_rfl) (by simp) (AllReadyH.cons rfl (fun K hKK => ?_) AllReadyH.nil)
        rw [if_pos (by rfl)]
        go_simp
        refine (HCr.out r2 hr2T).mono ?_
        clear HCr
        rintro e w8 ⟨hb8, d8, rfl, hD8⟩
        have HB8 := hid (HB7.out.trans (hb8.mono HB7.out.size))
        have HL8 := hid (HL7.out.below hb8)
        obtain ⟨hkh0, hkh1⟩ := HKc.out w8 HB8.out
        have hYl := crashed_len HOm.out r2 ch
        have HYm := hid (crashed_made HOm.out r2 ch)
        rw [HOl.out] at hYl
        have HYl := hid hYl
        have hOpn := HTw2.out r2 ch
        obtain ⟨Y, hY⟩ : ∃ Y, Y = crashedS O r2 ch := ⟨_, rfl⟩
        rw [← hY] at hD8 HYl HYm hOpn
        have hYo : Y.ops = [] := by rw [hY]; rfl
        have HOpn := hid hOpn
        have HOn := hid (open_any d8 Y (fun i => d8.foot Y.waits i) 8 w8 (.inr ⟨hD8, fun _ h => h⟩) (by rw [hYo]; decide) (by omega) (by rw [HYl.out]; omega) (fun n hn => HYm.out.sec n hn))
        clear hb8 hD8 hY hYo hYl hOpn HTw2 HL7 HB7 hkg0 hkg1
        go_wp2_with fail
        refine hKK.out _ _ ⟨hkh0, hkh1⟩ (fun hHeld => ?_)
        clear hKK K
        try simp only [List.getElem_toArray, List.getElem_cons_succ, List.getElem_cons_zero, Act.put, List.setIfInBounds_toArray, List.set_cons_zero, List.set_cons_succ]
        refine wpAnyH_take (i := 12) (v := ?_) rfl (by kernel_rfl) (by kernel_rfl) (by kernel_rfl) (fun _ _ _ h => h) (Or.inl ⟨by rfl, ?_⟩) (by assumption) ?_
        rotate_left
        · (intro W hSw; (try dsimp only at hSw); obtain ⟨s0, s1⟩ := hSw; go_simp; try with_reducible rfl)
        try simp only [List.getElem_toArray, List.getElem_cons_succ, List.getElem_cons_zero, Act.put, List.setIfInBounds_toArray, List.set_cons_zero, List.set_cons_succ]
        refine wpAnyH_done (by kernel_rfl) ?_ _
        refine NoPanic.normal ?_
        clear hHeld
        go_wp2_with fail
        refine HOn.out.mono ?_
        clear HOn
        rintro e w10 ⟨hb10, ho10⟩
        obtain ⟨ns3, hns3, hPe⟩ := HOpn.out
        rcases ho10 with ⟨hno, -⟩ | ⟨ns4, p10, d10, hso, rfl, hp10, hL10⟩
        · rw [hns3] at hno; cases hno
        obtain rfl : ns3 = ns4 := Option.some.inj (hns3.symm.trans hso)
        obtain ⟨hg1, hg2, hg3⟩ := headNums_facts hns3
        have hQm := HYm.out.opened 8 ns3 (by omega) hg2 hg3 (by rw [HYl.out]; omega)
        have hQl : (openS Y 8 ns3).safe.length = 20 := by rw [openS_len, HYl.out]
        have hA2 := fun W (hW : Below w10.heap.size w10 W) => all_any W (hL10.below hW) (by rw [hQl]; omega) (fun n hn => hQm.sec n hn)
        rw [hPe] at hA2
        have HA2 := hid hA2
        have HA1 := hid (all_any w10 (HL8.out.below hb10) (by rw [HOl.out]; omega) (fun n hn => HOm.out.sec n hn))
        have HPl := hid (allL_lens HOm.out 8 (by rw [HOl.out]; omega))
        have hPn := length_allL O 8
        have HB10 := hid (HB8.out.trans (hb10.mono HB8.out.size))
        obtain ⟨P, hP⟩ : ∃ P, P = allL O 8 := ⟨_, rfl⟩
        rw [← hP] at HA1 HA2 HPl hPn
        have hPn2 : P.length ≤ 100 := by omega
        clear hP hb10 hns3 hso hL10 hPe hg1 hg2 hg3 hp10 hQm hQl hA2 hPn HYm HYl HOpn HL8 HB8 hkh0 hkh1
        go_wp2_with fail
        refine HA1.out.mono ?_
        clear HA1
        rintro e w11 ⟨hb11, a11, c11, rfl, hr11⟩
        have HB11 := hid hb11
        have HR11 := hid hr11.at
        clear hb11 hr11
        go_wp2_with fail
        refine (HA2.out w11 HB11.out).mono ?_
        clear HA2
        rintro e w12 ⟨hb12, a12, c12, rfl, hr12⟩
        have hsa := same_all P P a11 a12 c11 c12 w12 (HR11.out.below hb12) hr12.at (by omega) (fun l hl => by rw [HPl.out l hl]; decide)
        rw [decide_eq_true rfl] at hsa
        have HSa := hid hsa
        have HB12 := hid ((HB10.out.trans (HB11.out.mono HB10.out.size)).trans (hb12.mono (Nat.le_trans HB10.out.size HB11.out.size)))
        clear hb12 hr12 hsa HR11 HB11 HB10
        go_wp2_with fail
        refine HSa.out.mono ?_
        clear HSa
        rintro e w13 ⟨rfl, hb13⟩
        have HB13 := hid (HBk.out.trans ((HB12.out.trans (hb13.mono HB12.out.size)).mono HBk.out.size))
        clear hb13
        go_wp2
        go_ret
        exact ⟨rfl, HB13.out⟩
      · have hge : ¬ ((k : Int) < (ds.length : Int)) := by omega
        clear hlt hg
        go_wp2_with fail
        refine HDk.out.mono ?_
        clear HDk
        rintro e w3 ⟨hb3, d3, rfl, hC3, -⟩
        have HM3 := hid (hM.out.next hb3)
        have hoT : S.ops.length ≤ 3000 := by have := hM.out.ops; omega
        have HO3 := hid (fun W (hW : Below w3.heap.size w3 W) => ops_disk_rd d3 S W (hC3.rd.below hW))
        have HCr := hid (fun q hq W (hW : Below w3.heap.size w3 W) => wcrashed_any d3 S q ch ca cc W (hC3.below hW) hq (by omega) HM3.out.made.ok hch ((HCB.out.below HBk.out).below (HM3.out.below.trans (hW.mono HM3.out.below.size))))
        have HGd := hid (fun q => hist_crash hH.out (by omega) q ch)
        obtain ⟨hkc0, hkc1⟩ := HKc.out w3 HM3.out.below
        obtain ⟨oT, hoTe⟩ : ∃ oT, oT = S.ops.length := ⟨_, rfl⟩
        rw [← hoTe] at hoT HO3 HCr
        clear hoTe hb3 hC3 hM
        go_wp2_with fail
        refine wp_region_noPanic ?_
        refine wp_region_held_drew (S := fun W => W.cell? ⟨w.heap.size, 0, none⟩ = some (.int .u16 k0) ∧ W.cell? ⟨w.heap.size, 1, none⟩ = some (.int .u16 k1)) (by kernel_rfl) ⟨hkc0, hkc1⟩ (fun hHeld => ?_)
        refine wpAnyH_take (i := 0) (v := ?_) rfl (by kernel_rfl) (by kernel_rfl) (by kernel_rfl) (fun _ _ _ h => h) (Or.inl ⟨by rfl, ?_⟩) (by assumption) ?_
        rotate_left
        · (intro W hSw; (try dsimp only at hSw); obtain ⟨s0, s1⟩ := hSw; go_simp; try with_reducible rfl)
        try simp only [List.getElem_toArray, List.getElem_cons_zero, Act.put, List.setIfInBounds_toArray, List.set_cons_zero, List.set_cons_succ]
        refine wpAnyH_take (i := 1) (v := ?_) rfl (by kernel_rfl) (by kernel_rfl) (by kernel_rfl) (fun _ _ _ h => h) (Or.inl ⟨by rfl, ?_⟩) (by assumption) ?_
        rotate_left
        · (intro W hSw; (try dsimp only at hSw); obtain ⟨s0, s1⟩ := hSw; go_simp; try with_reducible rfl)
        try simp only [List.getElem_toArray, List.getElem_cons_succ, List.getElem_cons_zero, Act.put, List.setIfInBounds_toArray, List.set_cons_zero, List.set_cons_succ]
        refine wpAnyH_take (i := 2) (v := ?_) rfl (by kernel_rfl) (by kernel_rfl) (by kernel_rfl) (fun _ _ _ h => h) (Or.inl ⟨by rfl, ?_⟩) (by assumption) ?_
        rotate_left
        · (intro W hSw; (try dsimp only at hSw); obtain ⟨s0, s1⟩ := hSw; go_simp; try with_reducible rfl)
        try simp only [List.getElem_toArray, List.getElem_cons_succ, List.getElem_cons_zero, Act.put, List.setIfInBounds_toArray, List.set_cons_zero, List.set_cons_succ]
        refine wpAnyH_take (i := 3) (v := ?_) rfl (by kernel_rfl) (by kernel_rfl) (by kernel_rfl) (fun _ _ _ h => h) (Or.inl ⟨by rfl, ?_⟩) (by assumption) ?_
        rotate_left
        · (intro W hSw; (try dsimp only at hSw); obtain ⟨s0, s1⟩ := hSw; go_simp; try with_reducible rfl)
        try simp only [List.getElem_toArray, List.getElem_cons_succ, List.getElem_cons_zero, Act.put, List.setIfInBounds_toArray, List.set_cons_zero, List.set_cons_succ]
        refine wpAnyH_take (i := 4) (v := ?_) rfl (by kernel_rfl) (by kernel_rfl) (by kernel_rfl) (fun _ _ _ h => h) (Or.inl ⟨by rfl, ?_⟩) (by assumption) ?_
        rotate_left
        · (intro W hSw; (try dsimp only at hSw); obtain ⟨s0, s1⟩ := hSw; go_simp; try with_reducible rfl)
        try simp only [List.getElem_toArray, List.getElem_cons_succ, List.getElem_cons_zero, Act.put, List.setIfInBounds_toArray, List.set_cons_zero, List.set_cons_succ]
        refine wpAnyH_take (i := 8) (v := ?_) rfl (by kernel_rfl) (by kernel_rfl) (by kernel_rfl) (fun _ _ _ h => h) (Or.inl ⟨by rfl, ?_⟩) (by assumption) ?_
        rotate_left
        · (intro W hSw; (try dsimp only at hSw); obtain ⟨s0, s1⟩ := hSw; go_simp; try with_reducible rfl)
        try simp only [List.getElem_toArray, List.getElem_cons_succ, List.getElem_cons_zero, Act.put, List.setIfInBounds_toArray, List.set_cons_zero, List.set_cons_succ]
        refine wpAnyH_ready (rs := [5]) (by kernel_rfl) (by simp) (AllReadyH.cons rfl (fun K hKK => ?_) AllReadyH.nil)
        rw [if_pos (by rfl)]
        go_simp
        refine (HO3.out w3.drew (Below.refl _ _).drew).mono ?_
        clear HO3
        rintro e w9 ⟨rfl, h9⟩
        obtain rfl := h9.symm
        go_wp2_with fail
        refine hKK.out _ _ ⟨hkc0, hkc1⟩ (fun hHeld => ?_)
        clear hKK K
        try simp only [List.getElem_toArray, List.getElem_cons_succ, List.getElem_cons_zero, Act.put, List.setIfInBounds_toArray, List.set_cons_zero, List.set_cons_succ]
        refine wpAnyH_take (i := 6) (v := ?_) rfl (by kernel_rfl) (by kernel_rfl) (by kernel_rfl) (fun _ _ _ h => h) (Or.inl ⟨by rfl, ?_⟩) (by assumption) ?_
        rotate_left
        · (intro W hSw; (try dsimp only at hSw); obtain ⟨s0, s1⟩ := hSw; go_simp; try with_reducible rfl)
        try simp only [List.getElem_toArray, List.getElem_cons_succ, List.getElem_cons_zero, Act.put, List.setIfInBounds_toArray, List.set_cons_zero, List.set_cons_succ]
        refine wpAnyH_take (i := 7) (v := .int .i64 (k0 % ((oT : Int) + 1))) rfl (by kernel_rfl) (by kernel_rfl) (by kernel_rfl) (fun _ _ _ h => h) (Or.inl ⟨by rfl, ?_⟩) (by assumption) ?_
        · intro W hSw
          go_simp
          rw [IntWalk.i64_in ((oT : Int) + 1) (by omega), IntWalk.i64_in k0 (by omega), if_neg (show ¬ ((oT : Int) + 1 = 0) by omega), Int.tmod_eq_emod_of_nonneg hx0]
        try simp only [List.getElem_toArray, List.getElem_cons_succ, List.getElem_cons_zero, Act.put, List.setIfInBounds_toArray, List.set_cons_zero, List.set_cons_succ]
        obtain ⟨r1, hr1⟩ : ∃ r1 : Nat, (r1 : Int) = k0 % ((oT : Int) + 1) := ⟨(k0 % ((oT : Int) + 1)).toNat, by have := Int.emod_nonneg k0 (show (oT : Int) + 1 ≠ 0 by omega); omega⟩
        have hr1T : r1 ≤ oT := by have := Int.emod_lt_of_pos k0 (show 0 < (oT : Int) + 1 by omega); omega
        rw [← hr1]
        clear hr1
        refine wpAnyH_ready (rs := [9]) (by kernel_rfl) (by simp) (AllReadyH.cons rfl (fun K hKK => ?_) AllReadyH.nil)
        rw [if_pos (by rfl)]
        go_simp
        refine (HCr.out r1 hr1T w3.drew (Below.refl _ _).drew).mono ?_
        clear HCr
        rintro e w4 ⟨hb4, d4, rfl, hD4⟩
        have hb4' := below_undrew hb4
        have HM4 := hid (HM3.out.next hb4')
        obtain ⟨hkd0, hkd1⟩ := HKc.out w4 HM4.out.below
        have hXl := crashed_len HM3.out.made r1 ch
        have HXm := hid (crashed_made HM3.out.made r1 ch)
        rw [HM3.out.len] at hXl
        have HXl := hid hXl
        have hGd := HGd.out r1
        obtain ⟨X, hX⟩ : ∃ X, X = crashedS S r1 ch := ⟨_, rfl⟩
        rw [← hX] at hD4 HXl HXm hGd
        have hXo : X.ops = [] := by rw [hX]; rfl
        have hXw : X.waits = fun _ => [] := by rw [hX]; rfl
        have HTw := hid (open_twice (size := 8) HXm.out hXw hXo (by rw [HXl.out]; omega) (by rw [HXl.out]; exact hGd))
        have HOn := hid (open_any d4 X (fun i => d4.foot X.waits i) 8 w4 (.inr ⟨hD4, fun _ h => h⟩) (by rw [hXo]; decide) (by omega) (by rw [HXl.out]; omega) (fun n hn => HXm.out.sec n hn))
        have HXo := hid hXo
        clear hb4 hb4' hD4 hX hXo hXw hXl hGd HGd HM3 hkc0 hkc1
        go_wp2_with fail
        refine hKK.out _ _ ⟨hkd0, hkd1⟩ (fun hHeld => ?_)
        clear hKK K
        try simp only [List.getElem_toArray, List.getElem_cons_succ, List.getElem_cons_zero, Act.put, List.setIfInBounds_toArray, List.set_cons_zero, List.set_cons_succ]
        refine wpAnyH_take (i := 10) (v := ?_) rfl (by kernel_rfl) (by kernel_rfl) (by kernel_rfl) (fun _ _ _ h => h) (Or.inl ⟨by rfl, ?_⟩) (by assumption) ?_
        rotate_left
        · (intro W hSw; (try dsimp only at hSw); obtain ⟨s0, s1⟩ := hSw; go_simp; try with_reducible rfl)
        try simp only [List.getElem_toArray, List.getElem_cons_succ, List.getElem_cons_zero, Act.put, List.setIfInBounds_toArray, List.set_cons_zero, List.set_cons_succ]
        refine wpAnyH_done (by kernel_rfl) ?_ _
        refine NoPanic.normal ?_
        clear hHeld
        go_wp2_with fail
        refine HOn.out.mono ?_
        clear HOn
        rintro e w5 ⟨hb5, ho5⟩
        obtain ⟨ns, hns, hTw⟩ := HTw.out
        rcases ho5 with ⟨hno, -⟩ | ⟨ns2, p5, d5, hso, rfl, hp5, hL5⟩
        · rw [hns] at hno; cases hno
        obtain rfl : ns = ns2 := Option.some.inj (hns.symm.trans hso)
        obtain ⟨hf1, hf2, hf3⟩ := headNums_facts hns
        have HOm := hid (HXm.out.opened 8 ns (by omega) hf2 hf3 (by rw [HXl.out]; omega))
        have HOl : Hid ((openS X 8 ns).safe.length = 20) := by unfold Hid; rw [openS_len, HXl.out]
        have hOo : (openS X 8 ns).ops.length ≤ 200 := by
          unfold openS
          split
          · rw [HXo.out]; decide
          · rw [homeS_ops, HXo.out]; simp; omega
        have HB5 := hid (HM4.out.below.trans (hb5.mono HM4.out.below.size))
        have HL5 := hid hL5
        have HTw2 := hid hTw
        obtain ⟨O, hO⟩ : ∃ O, O = openS X 8 ns := ⟨_, rfl⟩
        rw [← hO] at HOm HOl hOo HL5 HTw2
        obtain ⟨hke0, hke1⟩ := HKc.out w5 HB5.out
        clear hO hb5 hns hso hTw hL5 hf1 hf2 hf3 hp5 HTw HXm HXl HXo HM4 hkd0 hkd1
        go_wp2_with fail
        refine wp_region_noPanic ?_
        refine wp_region_held_drew (S := fun W => W.cell? ⟨w.heap.size, 0, none⟩ = some (.int .u16 k0) ∧ W.cell? ⟨w.heap.size, 1, none⟩ = some (.int .u16 k1)) (by kernel_rfl) ⟨hke0, hke1⟩ (fun hHeld => ?_)
        refine wpAnyH_take (i := 0) (v := ?_) rfl (by kernel_rfl) (by kernel_rfl) (by kernel_rfl) (fun _ _ _ h => h) (Or.inl ⟨by rfl, ?_⟩) (by assumption) ?_
        rotate_left
        · (intro W hSw; (try dsimp only at hSw); obtain ⟨s0, s1⟩ := hSw; go_simp; try with_reducible rfl)
        try simp only [List.getElem_toArray, List.getElem_cons_zero, Act.put, List.setIfInBounds_toArray, List.set_cons_zero, List.set_cons_succ]
        refine wpAnyH_take (i := 2) (v := ?_) rfl (by kernel_rfl) (by kernel_rfl) (by kernel_rfl) (fun _ _ _ h => h) (Or.inl ⟨by rfl, ?_⟩) (by assumption) ?_
        rotate_left
        · (intro W hSw; (try dsimp only at hSw); obtain ⟨s0, s1⟩ := hSw; go_simp; try with_reducible rfl)
        try simp only [List.getElem_toArray, List.getElem_cons_succ, List.getElem_cons_zero, Act.put, List.setIfInBounds_toArray, List.set_cons_zero, List.set_cons_succ]
        refine wpAnyH_take (i := 3) (v := ?_) rfl (by kernel_rfl) (by kernel_rfl) (by kernel_rfl) (fun _ _ _ h => h) (Or.inl ⟨by rfl, ?_⟩) (by assumption) ?_
        rotate_left
        · (intro W hSw; (try dsimp only at hSw); obtain ⟨s0, s1⟩ := hSw; go_simp; try with_reducible rfl)
        try simp only [List.getElem_toArray, List.getElem_cons_succ, List.getElem_cons_zero, Act.put, List.setIfInBounds_toArray, List.set_cons_zero, List.set_cons_succ]
        refine wpAnyH_take (i := 4) (v := ?_) rfl (by kernel_rfl) (by kernel_rfl) (by kernel_rfl) (fun _ _ _ h => h) (Or.inl ⟨by rfl, ?_⟩) (by assumption) ?_
        rotate_left
        · (intro W hSw; (try dsimp only at hSw); obtain ⟨s0, s1⟩ := hSw; go_simp; try with_reducible rfl)
        try simp only [List.getElem_toArray, List.getElem_cons_succ, List.getElem_cons_zero, Act.put, List.setIfInBounds_toArray, List.set_cons_zero, List.set_cons_succ]
        refine wpAnyH_take (i := 5) (v := ?_) rfl (by kernel_rfl) (by kernel_rfl) (by kernel_rfl) (fun _ _ _ h => h) (Or.inl ⟨by rfl, ?_⟩) (by assumption) ?_
        rotate_left
        · (intro W hSw; (try dsimp only at hSw); obtain ⟨s0, s1⟩ := hSw; go_simp; try with_reducible rfl)
        try simp only [List.getElem_toArray, List.getElem_cons_succ, List.getElem_cons_zero, Act.put, List.setIfInBounds_toArray, List.set_cons_zero, List.set_cons_succ]
        refine wpAnyH_take (i := 10) (v := ?_) rfl (by kernel_rfl) (by kernel_rfl) (by kernel_rfl) (fun _ _ _ h => h) (Or.inl ⟨by rfl, ?_⟩) (by assumption) ?_
        rotate_left
        · (intro W hSw; (try dsimp only at hSw); obtain ⟨s0, s1⟩ := hSw; go_simp; try with_reducible rfl)
        try simp only [List.getElem_toArray, List.getElem_cons_succ, List.getElem_cons_zero, Act.put, List.setIfInBounds_toArray, List.set_cons_zero, List.set_cons_succ]
        refine wpAnyH_ready (rs := [1]) (by kernel_rfl) (by simp) (AllReadyH.cons rfl (fun K hKK => ?_) AllReadyH.nil)
        rw [if_pos (by rfl)]
        go_simp
        refine (log_disk w5.drew (HL5.out.below (Below.refl _ _).drew) (by omega)).mono ?_
        rintro e w6 ⟨hb6, d6, rfl, hC6, -⟩
        have hb6' := below_undrew hb6
        have HB6 := hid (HB5.out.trans (hb6'.mono HB5.out.size))
        have HL6 := hid (HL5.out.below hb6')
        have HC6 := hid hC6
        obtain ⟨hkf0, hkf1⟩ := HKc.out w6 HB6.out
        clear hb6 hb6' hC6 HL5 HB5 hke0 hke1
        go_wp2_with fail
        refine hKK.out _ _ ⟨hkf0, hkf1⟩ (fun hHeld => ?_)
        clear hKK K
        try simp only [List.getElem_toArray, List.getElem_cons_succ, List.getElem_cons_zero, Act.put, List.setIfInBounds_toArray, List.set_cons_zero, List.set_cons_succ]
        refine wpAnyH_ready (rs := [6]) (by kernel_rfl) (by simp) (AllReadyH.cons rfl (fun K hKK => ?_) AllReadyH.nil)
        rw [if_pos (by rfl)]
        go_simp
        refine (log_disk w6 HL6.out (by omega)).mono ?_
        rintro e w7 ⟨hb7, d7, rfl, hC7, -⟩
        have HB7 := hid (HB6.out.trans (hb7.mono HB6.out.size))
        have HL7 := hid (HL6.out.below hb7)
        have HC67 := hid (HC6.out.below hb7)
        have HO7 := hid (ops_disk_rd d7 O w7 hC7.rd)
        obtain ⟨hkg0, hkg1⟩ := HKc.out w7 HB7.out
        have HCr := hid (fun q hq => wcrashed_any d6 O q ch ca cc w7 HC67.out hq (by omega) HOm.out.ok hch ((HCB.out.below HBk.out).below HB7.out))
        obtain ⟨oO, hoOe⟩ : ∃ oO, oO = O.ops.length := ⟨_, rfl⟩
        rw [← hoOe] at hOo HO7 HCr
        clear hb7 hC7 HL6 HB6 HC6 HC67 hkf0 hkf1 hoOe
        go_wp2_with fail
        refine hKK.out _ _ ⟨hkg0, hkg1⟩ (fun hHeld => ?_)
        clear hKK K
        try simp only [List.getElem_toArray, List.getElem_cons_succ, List.getElem_cons_zero, Act.put, List.setIfInBounds_toArray, List.set_cons_zero, List.set_cons_succ]
        refine wpAnyH_ready (rs := [7]) (by kernel_rfl) (by simp) (AllReadyH.cons rfl (fun K hKK => ?_) AllReadyH.nil)
        rw [if_pos (by rfl)]
        go_simp
        refine HO7.out.mono ?_
        clear HO7
        rintro e w9 ⟨rfl, h9⟩
        obtain rfl := h9.symm
        go_wp2_with fail
        refine hKK.out _ _ ⟨hkg0, hkg1⟩ (fun hHeld => ?_)
        clear hKK K
        try simp only [List.getElem_toArray, List.getElem_cons_succ, List.getElem_cons_zero, Act.put, List.setIfInBounds_toArray, List.set_cons_zero, List.set_cons_succ]
        refine wpAnyH_take (i := 8) (v := ?_) rfl (by kernel_rfl) (by kernel_rfl) (by kernel_rfl) (fun _ _ _ h => h) (Or.inl ⟨by rfl, ?_⟩) (by assumption) ?_
        rotate_left
        · (intro W hSw; (try dsimp only at hSw); obtain ⟨s0, s1⟩ := hSw; go_simp; try with_reducible rfl)
        try simp only [List.getElem_toArray, List.getElem_cons_succ, List.getElem_cons_zero, Act.put, List.setIfInBounds_toArray, List.set_cons_zero, List.set_cons_succ]
        refine wpAnyH_take (i := 9) (v := .int .i64 (k1 % ((oO : Int) + 1))) rfl (by kernel_rfl) (by kernel_rfl) (by kernel_rfl) (fun _ _ _ h => h) (Or.inl ⟨by rfl, ?_⟩) (by assumption) ?_
        · intro W hSw
          go_simp
          rw [IntWalk.i64_in ((oO : Int) + 1) (by omega), IntWalk.i64_in k1 (by omega), if_neg (show ¬ ((oO : Int) + 1 = 0) by omega), Int.tmod_eq_emod_of_nonneg hy0]
        try simp only [List.getElem_toArray, List.getElem_cons_succ, List.getElem_cons_zero, Act.put, List.setIfInBounds_toArray, List.set_cons_zero, List.set_cons_succ]
        obtain ⟨r2, hr2⟩ : ∃ r2 : Nat, (r2 : Int) = k1 % ((oO : Int) + 1) := ⟨(k1 % ((oO : Int) + 1)).toNat, by have := Int.emod_nonneg k1 (show (oO : Int) + 1 ≠ 0 by omega); omega⟩
        have hr2T : r2 ≤ oO := by have := Int.emod_lt_of_pos k1 (show 0 < (oO : Int) + 1 by omega); omega
        rw [← hr2]
        clear hr2
        refine wpAnyH_ready (rs := [11]) (by kernel_rfl) (by simp) (AllReadyH.cons rfl (fun K hKK => ?_) AllReadyH.nil)
        rw [if_pos (by rfl)]
        go_simp
        refine (HCr.out r2 hr2T).mono ?_
        clear HCr
        rintro e w8 ⟨hb8, d8, rfl, hD8⟩
        have HB8 := hid (HB7.out.trans (hb8.mono HB7.out.size))
        have HL8 := hid (HL7.out.below hb8)
        obtain ⟨hkh0, hkh1⟩ := HKc.out w8 HB8.out
        have hYl := crashed_len HOm.out r2 ch
        have HYm := hid (crashed_made HOm.out r2 ch)
        rw [HOl.out] at hYl
        have HYl := hid hYl
        have hOpn := HTw2.out r2 ch
        obtain ⟨Y, hY⟩ : ∃ Y, Y = crashedS O r2 ch := ⟨_, rfl⟩
        rw [← hY] at hD8 HYl HYm hOpn
        have hYo : Y.ops = [] := by rw [hY]; rfl
        have HOpn := hid hOpn
        have HOn := hid (open_any d8 Y (fun i => d8.foot Y.waits i) 8 w8 (.inr ⟨hD8, fun _ h => h⟩) (by rw [hYo]; decide) (by omega) (by rw [HYl.out]; omega) (fun n hn => HYm.out.sec n hn))
        clear hb8 hD8 hY hYo hYl hOpn HTw2 HL7 HB7 hkg0 hkg1
        go_wp2_with fail
        refine hKK.out _ _ ⟨hkh0, hkh1⟩ (fun hHeld => ?_)
        clear hKK K
        try simp only [List.getElem_toArray, List.getElem_cons_succ, List.getElem_cons_zero, Act.put, List.setIfInBounds_toArray, List.set_cons_zero, List.set_cons_succ]
        refine wpAnyH_take (i := 12) (v := ?_) rfl (by kernel_rfl) (by kernel_rfl) (by kernel_rfl) (fun _ _ _ h => h) (Or.inl ⟨by rfl, ?_⟩) (by assumption) ?_
        rotate_left
        · (intro W hSw; (try dsimp only at hSw); obtain ⟨s0, s1⟩ := hSw; go_simp; try with_reducible rfl)
        try simp only [List.getElem_toArray, List.getElem_cons_succ, List.getElem_cons_zero, Act.put, List.setIfInBounds_toArray, List.set_cons_zero, List.set_cons_succ]
        refine wpAnyH_done (by kernel_rfl) ?_ _
        refine NoPanic.normal ?_
        clear hHeld
        go_wp2_with fail
        refine HOn.out.mono ?_
        clear HOn
        rintro e w10 ⟨hb10, ho10⟩
        obtain ⟨ns3, hns3, hPe⟩ := HOpn.out
        rcases ho10 with ⟨hno, -⟩ | ⟨ns4, p10, d10, hso, rfl, hp10, hL10⟩
        · rw [hns3] at hno; cases hno
        obtain rfl : ns3 = ns4 := Option.some.inj (hns3.symm.trans hso)
        obtain ⟨hg1, hg2, hg3⟩ := headNums_facts hns3
        have hQm := HYm.out.opened 8 ns3 (by omega) hg2 hg3 (by rw [HYl.out]; omega)
        have hQl : (openS Y 8 ns3).safe.length = 20 := by rw [openS_len, HYl.out]
        have hA2 := fun W (hW : Below w10.heap.size w10 W) => all_any W (hL10.below hW) (by rw [hQl]; omega) (fun n hn => hQm.sec n hn)
        rw [hPe] at hA2
        have HA2 := hid hA2
        have HA1 := hid (all_any w10 (HL8.out.below hb10) (by rw [HOl.out]; omega) (fun n hn => HOm.out.sec n hn))
        have HPl := hid (allL_lens HOm.out 8 (by rw [HOl.out]; omega))
        have hPn := length_allL O 8
        have HB10 := hid (HB8.out.trans (hb10.mono HB8.out.size))
        obtain ⟨P, hP⟩ : ∃ P, P = allL O 8 := ⟨_, rfl⟩
        rw [← hP] at HA1 HA2 HPl hPn
        have hPn2 : P.length ≤ 100 := by omega
        clear hP hb10 hns3 hso hL10 hPe hg1 hg2 hg3 hp10 hQm hQl hA2 hPn HYm HYl HOpn HL8 HB8 hkh0 hkh1
        go_wp2_with fail
        refine HA1.out.mono ?_
        clear HA1
        rintro e w11 ⟨hb11, a11, c11, rfl, hr11⟩
        have HB11 := hid hb11
        have HR11 := hid hr11.at
        clear hb11 hr11
        go_wp2_with fail
        refine (HA2.out w11 HB11.out).mono ?_
        clear HA2
        rintro e w12 ⟨hb12, a12, c12, rfl, hr12⟩
        have hsa := same_all P P a11 a12 c11 c12 w12 (HR11.out.below hb12) hr12.at (by omega) (fun l hl => by rw [HPl.out l hl]; decide)
        rw [decide_eq_true rfl] at hsa
        have HSa := hid hsa
        have HB12 := hid ((HB10.out.trans (HB11.out.mono HB10.out.size)).trans (hb12.mono (Nat.le_trans HB10.out.size HB11.out.size)))
        clear hb12 hr12 hsa HR11 HB11 HB10
        go_wp2_with fail
        refine HSa.out.mono ?_
        clear HSa
        rintro e w13 ⟨rfl, hb13⟩
        have HB13 := hid (HBk.out.trans ((HB12.out.trans (hb13.mono HB12.out.size)).mono HBk.out.size))
        clear hb13
        go_wp2
        go_ret
        exact ⟨rfl, HB13.out⟩
end Go.Proofs.YtoeiodiadanhkaaGreat
