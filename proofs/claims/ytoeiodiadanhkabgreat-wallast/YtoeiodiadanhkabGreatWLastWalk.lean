/- The walk of WalLast. -/
import Derived.Test.YtoeiodiadanhkabGreatWLastP
import Derived.Test.YtoeiodiadanhkabGreatWMid
import Derived.Test.YtoeiodiadanhkabGreatKeepB
import Derived.Test.YtoeiodiadanhkabGreatBaseD
namespace Go.Proofs.YtoeiodiadanhkabGreat
open Go.RowKit
theorem Mid.keepB {w0 w w' : World} {p : Nat} {d : DL} {S : DiskS} {size n k : Nat} {F : Nat → Prop} {b : Nat} {L : List UInt8} (h : Mid w0 w p d S size n k F) (hb : ownB w b L) (hF : ¬ F b) (hb0 : w0.heap.size ≤ b) (hk : Keeps (fun i => i = b) w w') : Mid w0 w' p d S size n k F :=
  ⟨h.log.keepB hb hF hk, fun i hi => Nat.lt_of_lt_of_le (h.lt i hi) hk.size, h.new, h.len, h.waits, h.ops, h.made, h.fits, h.head, h.below.trans (hk.below h.below.size (fun i hi => by rw [hi]; exact hb0))⟩
set_option maxRecDepth 100000 in
set_option maxHeartbeats 4000000 in
theorem walLast_walk (ds : List WDeed) (a : Option Addr) (c : Nat) (w : World) (hds : wdeedsAt w a ds) :
    Calls Tryz.prog 4 #[.slice a ds.length c] w fun e w' => e = .returned (.bool true) ∧ Below w.heap.size w w' := by
  have hD := hid hds
  clear hds
  go_enter Tryz.func4, Tryz.ntmps4
  go_wp2_with fail
  refine (wopen_ok 24 9 (by omega) (by omega) (by omega) w).mono ?_
  rintro e w1 ⟨hb1, p, d1, q, r, fv, Rd, rfl, hp1, hL1, -, -⟩
  have HM1 := hid (Mid.start (by omega) (by omega) hL1 hb1)
  clear hb1 hL1
  go_wp2_with fail
  refine (wlive_any w1).mono ?_
  rintro e w2 ⟨rfl, hb2⟩
  have HM2 := hid (HM1.out.next hb2)
  have hpw := lt_of_heap HM2.out.log.heap
  clear hb2 HM1
  go_wp2_with (refine wpList_make_u8 rfl (.const (.int .i64 14)) (.const (.int .i64 14)) rfl 14 14 rfl rfl rfl (by omega) ?_; intro w3 hb3 hr3 hz3; have HM3 := hid (HM2.out.next hb3); have HW3 : Hid (ownB w3 w2.heap.size (zN 14)) := (by unfold Hid ownB; rw [hr3, rep_U8]); clear hb3 hr3 hz3)
  obtain ⟨WB, hWB⟩ : ∃ WB, WB = w2.heap.size := ⟨_, rfl⟩
  rw [← hWB] at HW3 hpw ⊢
  have hWw : w.heap.size ≤ WB := by rw [hWB]; exact HM2.out.below.size
  clear hWB HM2
  have HWa : Hid (wanted (freshN 24) 9 (zN 14)) := wanted_fresh 24 9 14 rfl
  go_loopw [7] (fun i wr => ∃ (k : Nat) (d : DL) (S : DiskS) (F : Nat → Prop) (wl : List UInt8), k ≤ ds.length ∧ k ≤ 10 ∧ i = .int .i64 k ∧ Hid (Mid w wr p d S 9 24 k F) ∧ Hid (¬ F WB) ∧ Hid (ownB wr WB wl) ∧ Hid (wl.length = 14) ∧ Hid (wanted S 9 wl)) (fun i _ => 10 - (intOf i).toNat)
  case atStart => exact ⟨0, _, _, _, _, by omega, by omega, rfl, HM3, fun h => by omega, HW3, length_zN 14, HWa⟩
  case round =>
    obtain ⟨k, d, S, F, wl, hk1, hk2, rfl, hM, hnF, hW, hWl, hWd⟩ := hrel
    clear HM3 HW3 HWa
    by_cases hlt : k < ds.length ∧ k < 10
    · obtain ⟨hka, hkb⟩ := hlt
      have hk0 : (0 : Int) ≤ (k : Int) := by omega
      have hka' : (k : Int) < (ds.length : Int) := by omega
      have hkb' : (k : Int) < 10 := by omega
      obtain ⟨ab, ao, rfl, hdk⟩ := hD.out k hka
      have hDk := hid (hdk k hka)
      obtain ⟨D, hDe⟩ : ∃ D, D = ds[k] := ⟨_, rfl⟩
      rw [← hDe] at hDk
      clear hdk hDe
      obtain ⟨q0, q1, q2, hin, -⟩ := hDk.out.below hM.out.below
      have HDp := hid (deed_any D.s D.ns D.na D.nc D.x wr hin)
      clear hin
      go_wp2_with fail
      refine HDp.out.mono ?_
      clear HDp
      rintro e w4 ⟨hb4, hd4⟩
      obtain ⟨pa, pc, bs, rfl, hps, hbs, hpab⟩ := deedAny_pages hd4
      obtain ⟨m, hm⟩ : ∃ m, m = min D.ns.length 102 := ⟨_, rfl⟩
      rw [← hm] at hps hbs ⊢
      have hm2 : m ≤ 102 := by omega
      have hM4 := hM.out.next hb4
      have HCm := hid (commit_deed D.s D.ns m D.x bs pa pc w4 wr.heap.size hM4.log hM.out.lt hb4.size (by rw [hM4.len]; omega) hps hbs (by have := hM4.ops; omega))
      have HM4 := hid hM4
      have HW4 := hid (hW.out.below hb4)
      have HPs := hid hps
      have HBs := hid hbs
      have HPb := hid hpab
      have HFl := hid hM.out.lt
      have hWB4 := hW.out.lt
      obtain ⟨w3h, hw3h⟩ : ∃ w3h, w3h = wr.heap.size := ⟨_, rfl⟩
      rw [← hw3h] at hWB4 HFl HPb HBs
      have hs4 := hb4.size
      rw [← hw3h] at hs4
      clear hw3h
      clear hb4 hd4 hps hbs hm hM4 hM q0 q1 q2 hpab hW
      obtain ⟨E, hE⟩ : ∃ E, E = comErr (pagesS S 9) 9 (deedPs D.s D.ns bs m) := ⟨_, rfl⟩
      rw [← hE] at HCm
      have HE := hid hE
      clear hE
      go_wp2_with fail
      refine HCm.out.mono ?_
      clear HCm
      rintro e w5 ⟨rfl, d5, hL5, hK5⟩
      have HM5 := hid (HM4.out.com (by omega) _ _ (length_rowX D.x) hL5 hK5)
      have HW5 := hid (HW4.out.keep hK5 hnF.out)
      obtain ⟨F5, hF5⟩ : ∃ F5 : Nat → Prop, F5 = (fun i => F i ∨ (w4.heap.size ≤ i ∧ i < w5.heap.size)) := ⟨_, rfl⟩
      rw [← hF5] at HM5
      have HF5 : Hid (¬ F5 WB) := by
        unfold Hid
        rw [hF5]
        exact fun h => (show F WB ∨ (w4.heap.size ≤ WB ∧ WB < w5.heap.size) from h).elim hnF.out (fun h => by omega)
      clear hF5
      have HK5 := hid hK5
      have hs5 := hK5.size
      clear hL5 hK5
      by_cases hE0 : E = 0
      · have HWd5 := hid (wanted_com hWd.out (by rw [hWl.out, HM4.out.len]) D.s D.ns bs m D.x (by rw [← HE.out]; exact hE0))
        have hnum : ∀ j, j < m → 0 ≤ D.ns.getD j 0 ∧ D.ns.getD j 0 < 14 := fun j hj => by
          have hc : comErr (pagesS S 9) 9 (deedPs D.s D.ns bs m) = 0 ∧ (deedPs D.s D.ns bs m).length ≠ 0 := ⟨by rw [← HE.out]; exact hE0, by rw [length_deedPs]; omega⟩
          have h1 := inPages_iff.1 (comErr_ok hc).2.1 j (by rw [length_deedPs]; exact hj)
          rw [deedPs_at] at h1
          have h2 : pagesS S 9 = 14 := by unfold pagesS; rw [HM4.out.len]
          rw [h2] at h1
          exact h1
        have HNum := hid hnum
        have hlen0 : ∀ j, j < m → plen D.s j = 512 := fun j hj => by
          have hc : comErr (pagesS S 9) 9 (deedPs D.s D.ns bs m) = 0 ∧ (deedPs D.s D.ns bs m).length ≠ 0 := ⟨by rw [← HE.out]; exact hE0, by rw [length_deedPs]; omega⟩
          have h1 := grpErr_len (deedPs D.s D.ns bs m).length (Nat.le_refl _) (comErr_ok hc).2.2 j (by rw [length_deedPs]; exact hj) (by rw [length_deedPs]; exact hj)
          rw [deedPs_at] at h1
          exact h1
        have HLen0 := hid hlen0
        subst hE0
        clear hnum hlen0 HM4 HW4 hWd HE
        go_wp2
        generalize comS S 9 (deedPs D.s D.ns bs m) (rowX D.x) = S5 at *
        have HW5c := HW5
        go_loopw [9] (fun i wi => ∃ j : Nat, j ≤ m ∧ i = .int .i64 j ∧ Hid (ownB wi WB (wantTo wl D.ns D.x j)) ∧ Hid (Keeps (fun i => i = WB) w5 wi)) (fun i _ => m - (intOf i).toNat)
        case atStart => exact ⟨0, by omega, rfl, HW5, Keeps.refl _ _⟩
        case round =>
          obtain ⟨j, hj, rfl, hOw, hKi⟩ := hrel
          clear HW5
          by_cases hjm : j < m
          · have hj0 : (0 : Int) ≤ (j : Int) := by omega
            have hj1 : (j : Int) < (m : Int) := by omega
            obtain ⟨b, o, rfl, hpc⟩ := HPs.out j (by rw [length_deedPs]; exact hjm)
            have hbw := HPb.out _ rfl
            have hbw2 : w3h < b := hbw
            obtain ⟨p0, p1⟩ := hpc j (by rw [length_deedPs]; exact hjm)
            rw [deedPs_at] at p0 p1
            obtain ⟨hb1, hb2⟩ := HBs.out j hjm
            have hnF2 : ∀ i, w3h ≤ i → ¬ F i := fun i hi hf => by have := HFl.out i hf; omega
            have t0 := hKi.out.cell (HK5.out.cell p0 (hnF2 b (by omega))) (show ¬ (b = WB) by omega)
            have t1 := hKi.out.cell (HK5.out.cell p1 (hnF2 b (by omega))) (show ¬ (b = WB) by omega)
            have p2 := hb2.cell 0 (by rw [length_rowX]; decide)
            have t2 := hKi.out.cell (HK5.out.cell p2 (hnF2 (bs j) (by omega))) (show ¬ (bs j = WB) by omega)
            obtain ⟨n0, n1⟩ := HNum.out j hjm
            obtain ⟨nN, hnN⟩ : ∃ nN : Nat, (nN : Int) = D.ns.getD j 0 := ⟨(D.ns.getD j 0).toNat, by omega⟩
            have t0' : wr.cell? ⟨b, o + j * 2, none⟩ = some (.int .i64 (nN : Int)) := by rw [hnN]; exact t0
            have t1' : wr.cell? ⟨b, o + j * 2 + 1, none⟩ = some (.slice (some ⟨bs j, 0, none⟩) 512 512) := by
              have h9 := t1
              rw [PageS.val, HLen0.out j hjm] at h9
              exact h9
            have ex : (rowX D.x j)[0]'(by rw [length_rowX]; decide) = D.x + UInt8.ofNat j := by unfold rowX; rw [List.getElem_replicate]
            rw [ex] at t2
            have hnl : nN < (wantTo wl D.ns D.x j).length := by rw [length_wantTo, hWl.out]; omega
            obtain ⟨old, cl⟩ : ∃ v, wr.cell? ⟨WB, nN, none⟩ = some v := ⟨_, hOw.out.cell nN hnl⟩
            have fl := hOw.out.frozen nN
            have hst := hOw.out.set nN (D.x + UInt8.ofNat j)
            rw [show (wantTo wl D.ns D.x j).set nN (D.x + UInt8.ofNat j) = wantTo wl D.ns D.x (j + 1) by rw [wantTo, show (D.ns.getD j 0).toNat = nN by omega]] at hst
            have HSt := hid hst
            have hKe : Keeps (fun i => i = WB) wr (wr.setCell ⟨WB, nN, none⟩ (.int .u8 ((D.x + UInt8.ofNat j).toNat : Int))) := (Keeps.refl _ _).grown (grown_setCell (grown_refl _ _) _ _) (fun i e => .inl (Option.some.inj e).symm)
            have HKe := hid hKe
            have hBne : bs j ≠ WB := by omega
            have hbne : b ≠ WB := by omega
            have hn14 : (nN : Int) < 14 := by omega
            have hn00 : (0 : Int) ≤ (nN : Int) := by omega
            clear hpc p0 p1 p2 t0 t1 hb1 hb2 hnF2 n0 n1 hnN ex hnl hst hKe hbw hOw
            generalize ((D.x + UInt8.ofNat j).toNat : Int) = xv at *
            generalize bs j = B2 at *
            go_wp2
            refine wp_region_noPanic ?_
            refine wp_region_held_drew (S := fun W => W.cell? ⟨b, o + j * 2, none⟩ = some (.int .i64 (nN : Int)) ∧ W.cell? ⟨b, o + j * 2 + 1, none⟩ = some (.slice (some ⟨B2, 0, none⟩) 512 512) ∧ W.cell? ⟨B2, 0, none⟩ = some (.int .u8 xv)) (by kernel_rfl) ⟨t0', t1', t2⟩ (fun hHeld => ?_)
            refine wpAnyH_take (i := 0) (v := ?_) rfl (by kernel_rfl) (by kernel_rfl) (by kernel_rfl) (fun _ _ _ h => h) (Or.inl ⟨by rfl, ?_⟩) (by assumption) ?_
            rotate_left
            · (intro W hSw; (try dsimp only at hSw); obtain ⟨s0, s1, s2⟩ := hSw; go_simp; try with_reducible rfl)
            try simp only [List.getElem_toArray, List.getElem_cons_zero, Act.put, List.setIfInBounds_toArray, List.set_cons_zero, List.set_cons_succ]
            refine wpAnyH_take (i := 1) (v := ?_) rfl (by kernel_rfl) (by kernel_rfl) (by kernel_rfl) (fun _ _ _ h => h) (Or.inl ⟨by rfl, ?_⟩) (by assumption) ?_
            rotate_left
            · (intro W hSw; (try dsimp only at hSw); obtain ⟨s0, s1, s2⟩ := hSw; go_simp; try with_reducible rfl)
            try simp only [List.getElem_toArray, List.getElem_cons_succ, List.getElem_cons_zero, Act.put, List.setIfInBounds_toArray, List.set_cons_zero, List.set_cons_succ]
            refine wpAnyH_take (i := 2) (v := ?_) rfl (by kernel_rfl) (by kernel_rfl) (by kernel_rfl) (fun _ _ _ h => h) (Or.inl ⟨by rfl, ?_⟩) (by assumption) ?_
            rotate_left
            · (intro W hSw; (try dsimp only at hSw); obtain ⟨s0, s1, s2⟩ := hSw; go_simp; try with_reducible rfl)
            try simp only [List.getElem_toArray, List.getElem_cons_succ, List.getElem_cons_zero, Act.put, List.setIfInBounds_toArray, List.set_cons_zero, List.set_cons_succ]
            refine wpAnyH_take (i := 3) (v := ?_) rfl (by kernel_rfl) (by kernel_rfl) (by kernel_rfl) (fun _ _ _ h => h) (Or.inl ⟨by rfl, ?_⟩) (by assumption) ?_
            rotate_left
            · (intro W hSw; (try dsimp only at hSw); obtain ⟨s0, s1, s2⟩ := hSw; go_simp; try with_reducible rfl)
            try simp only [List.getElem_toArray, List.getElem_cons_succ, List.getElem_cons_zero, Act.put, List.setIfInBounds_toArray, List.set_cons_zero, List.set_cons_succ]
            refine wpAnyH_take (i := 4) (v := ?_) rfl (by kernel_rfl) (by kernel_rfl) (by kernel_rfl) (fun _ _ _ h => h) (Or.inl ⟨by rfl, ?_⟩) (by assumption) ?_
            rotate_left
            · (intro W hSw; (try dsimp only at hSw); obtain ⟨s0, s1, s2⟩ := hSw; go_simp; try with_reducible rfl)
            try simp only [List.getElem_toArray, List.getElem_cons_succ, List.getElem_cons_zero, Act.put, List.setIfInBounds_toArray, List.set_cons_zero, List.set_cons_succ]
            refine wpAnyH_take (i := 5) (v := ?_) rfl (by kernel_rfl) (by kernel_rfl) (by kernel_rfl) (fun _ _ _ h => h) (Or.inl ⟨by rfl, ?_⟩) (by assumption) ?_
            rotate_left
            · (intro W hSw; (try dsimp only at hSw); obtain ⟨s0, s1, s2⟩ := hSw; go_simp; try with_reducible rfl)
            try simp only [List.getElem_toArray, List.getElem_cons_succ, List.getElem_cons_zero, Act.put, List.setIfInBounds_toArray, List.set_cons_zero, List.set_cons_succ]
            refine wpAnyH_take (i := 6) (v := ?_) rfl (by kernel_rfl) (by kernel_rfl) (by kernel_rfl) (fun _ _ _ h => h) (Or.inl ⟨by rfl, ?_⟩) (by assumption) ?_
            rotate_left
            · (intro W hSw; (try dsimp only at hSw); obtain ⟨s0, s1, s2⟩ := hSw; go_simp; try with_reducible rfl)
            try simp only [List.getElem_toArray, List.getElem_cons_succ, List.getElem_cons_zero, Act.put, List.setIfInBounds_toArray, List.set_cons_zero, List.set_cons_succ]
            refine wpAnyH_take (i := 7) (v := ?_) rfl (by kernel_rfl) (by kernel_rfl) (by kernel_rfl) (fun _ _ _ h => h) (Or.inl ⟨by rfl, ?_⟩) (by assumption) ?_
            rotate_left
            · (intro W hSw; (try dsimp only at hSw); obtain ⟨s0, s1, s2⟩ := hSw; go_simp; try with_reducible rfl)
            try simp only [List.getElem_toArray, List.getElem_cons_succ, List.getElem_cons_zero, Act.put, List.setIfInBounds_toArray, List.set_cons_zero, List.set_cons_succ]
            refine wpAnyH_take (i := 8) (v := ?_) rfl (by kernel_rfl) (by kernel_rfl) (by kernel_rfl) (fun _ _ _ h => h) (Or.inl ⟨by rfl, ?_⟩) (by assumption) ?_
            rotate_left
            · (intro W hSw; (try dsimp only at hSw); obtain ⟨s0, s1, s2⟩ := hSw; go_simp; try with_reducible rfl)
            try simp only [List.getElem_toArray, List.getElem_cons_succ, List.getElem_cons_zero, Act.put, List.setIfInBounds_toArray, List.set_cons_zero, List.set_cons_succ]
            refine wpAnyH_take (i := 9) (v := ?_) rfl (by kernel_rfl) (by kernel_rfl) (by kernel_rfl) (fun _ _ _ h => h) (Or.inl ⟨by rfl, ?_⟩) (by assumption) ?_
            rotate_left
            · (intro W hSw; (try dsimp only at hSw); obtain ⟨s0, s1, s2⟩ := hSw; go_simp; try with_reducible rfl)
            try simp only [List.getElem_toArray, List.getElem_cons_succ, List.getElem_cons_zero, Act.put, List.setIfInBounds_toArray, List.set_cons_zero, List.set_cons_succ]
            refine wpAnyH_take (i := 10) (v := ?_) rfl (by kernel_rfl) (by kernel_rfl) (by kernel_rfl) (fun _ _ _ h => h) (Or.inl ⟨by rfl, ?_⟩) (by assumption) ?_
            rotate_left
            · (intro W hSw; (try dsimp only at hSw); obtain ⟨s0, s1, s2⟩ := hSw; go_simp; try with_reducible rfl)
            try simp only [List.getElem_toArray, List.getElem_cons_succ, List.getElem_cons_zero, Act.put, List.setIfInBounds_toArray, List.set_cons_zero, List.set_cons_succ]
            refine wpAnyH_take (i := 11) (v := ?_) rfl (by kernel_rfl) (by kernel_rfl) (by kernel_rfl) (fun _ _ _ h => h) (Or.inl ⟨by rfl, ?_⟩) (by assumption) ?_
            rotate_left
            · (intro W hSw; (try dsimp only at hSw); obtain ⟨s0, s1, s2⟩ := hSw; go_simp; try with_reducible rfl)
            try simp only [List.getElem_toArray, List.getElem_cons_succ, List.getElem_cons_zero, Act.put, List.setIfInBounds_toArray, List.set_cons_zero, List.set_cons_succ]
            refine wpAnyH_take (i := 12) (v := ?_) rfl (by kernel_rfl) (by kernel_rfl) (by kernel_rfl) (fun _ _ _ h => h) (Or.inl ⟨by rfl, ?_⟩) (by assumption) ?_
            rotate_left
            · (intro W hSw; (try dsimp only at hSw); obtain ⟨s0, s1, s2⟩ := hSw; go_simp; try with_reducible rfl)
            try simp only [List.getElem_toArray, List.getElem_cons_succ, List.getElem_cons_zero, Act.put, List.setIfInBounds_toArray, List.set_cons_zero, List.set_cons_succ]
            refine wpAnyH_take (i := 13) (v := ?_) rfl (by kernel_rfl) (by kernel_rfl) (by kernel_rfl) (fun _ _ _ h => h) (Or.inl ⟨by rfl, ?_⟩) (by assumption) ?_
            rotate_left
            · (intro W hSw; (try dsimp only at hSw); obtain ⟨s0, s1, s2⟩ := hSw; go_simp; try with_reducible rfl)
            try simp only [List.getElem_toArray, List.getElem_cons_succ, List.getElem_cons_zero, Act.put, List.setIfInBounds_toArray, List.set_cons_zero, List.set_cons_succ]
            refine wpAnyH_ready (rs := [14]) (by kernel_rfl) (by simp) (AllReadyH.cons rfl (fun K hKK => ?_) AllReadyH.nil)
            rw [if_pos (by rfl)]
            unfold Oper.wp
            have cl' : wr.drew.cell? ⟨WB, nN, none⟩ = some old := cl
            have fl' : wr.drew.frozen? ⟨WB, nN, none⟩ = false := fl
            go_simp
            refine hKK.out _ _ ⟨HKe.out.cell t0' hbne, HKe.out.cell t1' hbne, HKe.out.cell t2 hBne⟩ (fun hHeld => ?_)
            clear hKK K
            try simp only [List.getElem_toArray, List.getElem_cons_succ, List.getElem_cons_zero, Act.put, List.setIfInBounds_toArray, List.set_cons_zero, List.set_cons_succ]
            refine wpAnyH_done (by kernel_rfl) ?_ _
            refine NoPanic.normal ?_
            have HKd : Hid (Keeps (fun i => i = WB) w5 (wr.setCell ⟨WB, nN, none⟩ (.int .u8 xv)).drew) := (hKi.out.trans HKe.out (fun i hi => .inl hi)).drew
            have HSd : Hid (ownB (wr.setCell ⟨WB, nN, none⟩ (.int .u8 xv)).drew WB (wantTo wl D.ns D.x (j + 1))) := HSt.out
            clear hHeld cl fl cl' fl' t0' t1' t2 HSt HKe hKi
            generalize (wr.setCell ⟨WB, nN, none⟩ (.int .u8 xv)).drew = wd at *
            go_wp2
            exact ⟨⟨j + 1, by omega, by go_num, HSd, HKd⟩, by simp [intOf]; omega⟩
          · obtain rfl : j = m := by omega
            have hge : ¬ ((j : Int) < (j : Int)) := by omega
            have HM6 := hid (HM5.out.keepB HW5c.out HF5.out hWw hKi.out)
            have HWl6 : Hid ((wantTo wl D.ns D.x j).length = 14) := by unfold Hid; rw [length_wantTo, hWl.out]
            go_wp2
            exact ⟨⟨k + 1, _, S5, F5, wantTo wl D.ns D.x j, by omega, by omega, by go_num, HM6, HF5, hOw, HWl6, HWd5⟩, by simp [intOf]; omega⟩
      · have hE1 : ((E : Int) == 0) = false := by rw [beq_eq_false_iff_ne]; exact hE0
        have HS : Hid (comS S 9 (deedPs D.s D.ns bs m) (rowX D.x) = S) := by unfold Hid comS; rw [if_neg (fun h => hE0 (by rw [HE.out]; exact h.1))]
        rw [HS.out] at HM5
        clear hE0 HE HS
        go_wp2
        exact ⟨⟨k + 1, _, S, _, wl, by omega, by omega, by go_num, HM5, HF5, HW5, hWl, hWd⟩, by simp [intOf]; omega⟩
    · by_cases hg : k < ds.length
      · have hge : ((k : Int) < (ds.length : Int)) := by omega
        have hge2 : ¬ ((k : Int) < 10) := by omega
        clear hlt hg
        go_wp2
        go_loopw [10] (fun i wi => ∃ n : Nat, n ≤ 14 ∧ i = .int .i64 n ∧ Hid (Below wr.heap.size wr wi)) (fun i _ => 14 - (intOf i).toNat)
        case atStart => exact ⟨0, by omega, rfl, Below.refl _ _⟩
        case round =>
          obtain ⟨n, hn, rfl, hBi⟩ := hrel
          by_cases hn14 : n < 14
          · have hn0 : (0 : Int) ≤ (n : Int) := by omega
            have hn1 : (n : Int) < 14 := by omega
            have hMi := hM.out.next hBi.out
            have hrd := log_read n wr hMi.log (by rw [hMi.len]; omega) (by unfold pagesS; rw [hMi.len]; omega)
            have hseen : seenS S.safe S.waits (1 + ((9 : Nat) : Int) + (n : Int)) = ⟨(List.replicate 512 (wl.getD n 0)).toArray⟩ := by
              have h9 := hWd.out n (by rw [hWl.out]; exact hn14)
              unfold seenAt at h9
              rw [show (1 + ((9 : Nat) : Int) + (n : Int)) = ((1 + 9 + n : Nat) : Int) by omega]
              exact h9
            rw [hseen, show ByteArray.size ⟨(List.replicate 512 (wl.getD n 0)).toArray⟩ = 512 from (by show (List.replicate 512 (wl.getD n 0)).toArray.size = 512; simp)] at hrd
            have HRd := hid hrd
            have hwc := (hW.out.below hBi.out).cell n (by rw [hWl.out]; exact hn14)
            have hgd : wl.getD n 0 = wl[n]'(by rw [hWl.out]; exact hn14) := by rw [List.getD_eq_getElem?_getD, List.getElem?_eq_getElem (by rw [hWl.out]; exact hn14), Option.getD_some]
            rw [← hgd] at hwc
            have HWc := hid hwc
            have hWBl := (hW.out.below hBi.out).lt
            clear hrd hseen hMi hwc hgd
            generalize wl.getD n 0 = v at *
            go_wp2_with fail
            refine HRd.out.mono ?_
            clear HRd
            rintro e w6 ⟨rb, rc, rfl, hrb, hat, hb6⟩
            have cget : ∀ z, z < 512 → w6.cell? ⟨rb, z, none⟩ = some (.int .u8 (v.toNat : Int)) := fun z hz => by
              have h0 := hat z (by show z < (List.replicate 512 v).length; rw [List.length_replicate]; exact hz)
              rw [Addr.add_mid, Nat.zero_add] at h0
              rw [h0]
              show some (Value.int .u8 ((((List.replicate 512 v)[z]'(by rw [List.length_replicate]; exact hz)).toNat : Nat) : Int)) = _
              rw [List.getElem_replicate]
            have c0 := cget 0 (by decide)
            have c5 := cget 511 (by decide)
            have cw : w6.cell? ⟨WB, n, none⟩ = some (.int .u8 (v.toNat : Int)) := (hb6.cell (p := ⟨WB, n, none⟩) hWBl).trans HWc.out
            have HB6 := hid (hBi.out.trans (hb6.mono hBi.out.size))
            clear hat hb6 cget HWc
            generalize (v.toNat : Int) = xv at *
            go_wp2
            go_quiet (fail)
            go_wp2
            exact ⟨⟨n + 1, by omega, by go_num, ⟨HB6.out.os, HB6.out.tape, HB6.out.output, HB6.out.size, HB6.out.block⟩⟩, by simp [intOf]; omega⟩
          · obtain rfl : n = 14 := by omega
            have hge3 : ¬ (((14 : Nat) : Int) < 14) := by omega
            go_wp2
            go_ret
            exact ⟨rfl, hM.out.below.trans (hBi.out.mono hM.out.below.size)⟩
      · have hge : ¬ ((k : Int) < (ds.length : Int)) := by omega
        clear hlt hg
        go_wp2
        go_loopw [10] (fun i wi => ∃ n : Nat, n ≤ 14 ∧ i = .int .i64 n ∧ Hid (Below wr.heap.size wr wi)) (fun i _ => 14 - (intOf i).toNat)
        case atStart => exact ⟨0, by omega, rfl, Below.refl _ _⟩
        case round =>
          obtain ⟨n, hn, rfl, hBi⟩ := hrel
          by_cases hn14 : n < 14
          · have hn0 : (0 : Int) ≤ (n : Int) := by omega
            have hn1 : (n : Int) < 14 := by omega
            have hMi := hM.out.next hBi.out
            have hrd := log_read n wr hMi.log (by rw [hMi.len]; omega) (by unfold pagesS; rw [hMi.len]; omega)
            have hseen : seenS S.safe S.waits (1 + ((9 : Nat) : Int) + (n : Int)) = ⟨(List.replicate 512 (wl.getD n 0)).toArray⟩ := by
              have h9 := hWd.out n (by rw [hWl.out]; exact hn14)
              unfold seenAt at h9
              rw [show (1 + ((9 : Nat) : Int) + (n : Int)) = ((1 + 9 + n : Nat) : Int) by omega]
              exact h9
            rw [hseen, show ByteArray.size ⟨(List.replicate 512 (wl.getD n 0)).toArray⟩ = 512 from (by show (List.replicate 512 (wl.getD n 0)).toArray.size = 512; simp)] at hrd
            have HRd := hid hrd
            have hwc := (hW.out.below hBi.out).cell n (by rw [hWl.out]; exact hn14)
            have hgd : wl.getD n 0 = wl[n]'(by rw [hWl.out]; exact hn14) := by rw [List.getD_eq_getElem?_getD, List.getElem?_eq_getElem (by rw [hWl.out]; exact hn14), Option.getD_some]
            rw [← hgd] at hwc
            have HWc := hid hwc
            have hWBl := (hW.out.below hBi.out).lt
            clear hrd hseen hMi hwc hgd
            generalize wl.getD n 0 = v at *
            go_wp2_with fail
            refine HRd.out.mono ?_
            clear HRd
            rintro e w6 ⟨rb, rc, rfl, hrb, hat, hb6⟩
            have cget : ∀ z, z < 512 → w6.cell? ⟨rb, z, none⟩ = some (.int .u8 (v.toNat : Int)) := fun z hz => by
              have h0 := hat z (by show z < (List.replicate 512 v).length; rw [List.length_replicate]; exact hz)
              rw [Addr.add_mid, Nat.zero_add] at h0
              rw [h0]
              show some (Value.int .u8 ((((List.replicate 512 v)[z]'(by rw [List.length_replicate]; exact hz)).toNat : Nat) : Int)) = _
              rw [List.getElem_replicate]
            have c0 := cget 0 (by decide)
            have c5 := cget 511 (by decide)
            have cw : w6.cell? ⟨WB, n, none⟩ = some (.int .u8 (v.toNat : Int)) := (hb6.cell (p := ⟨WB, n, none⟩) hWBl).trans HWc.out
            have HB6 := hid (hBi.out.trans (hb6.mono hBi.out.size))
            clear hat hb6 cget HWc
            generalize (v.toNat : Int) = xv at *
            go_wp2
            go_quiet (fail)
            go_wp2
            exact ⟨⟨n + 1, by omega, by go_num, ⟨HB6.out.os, HB6.out.tape, HB6.out.output, HB6.out.size, HB6.out.block⟩⟩, by simp [intOf]; omega⟩
          · obtain rfl : n = 14 := by omega
            have hge3 : ¬ (((14 : Nat) : Int) < 14) := by omega
            go_wp2
            go_ret
            exact ⟨rfl, hM.out.below.trans (hBi.out.mono hM.out.below.size)⟩
end Go.Proofs.YtoeiodiadanhkabGreat
