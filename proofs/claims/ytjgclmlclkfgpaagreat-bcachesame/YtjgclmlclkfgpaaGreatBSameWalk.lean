/- The walk of BcacheSame. -/
import Derived.Test.YtjgclmlclkfgpaaGreatBSameS
namespace Go.Proofs.YtjgclmlclkfgpaaGreat
open Go.RowKit
set_option maxRecDepth 100000 in
set_option maxHeartbeats 4000000 in
theorem bcacheSame_walk (xa xb : Int) (ha0 : 0 ≤ xa) (ha1 : xa ≤ 255) (hb0 : 0 ≤ xb) (hb1 : xb ≤ 255) (ds : List BDeed) (a : Option Addr) (cc : Nat) (w : World) (hds : bdeedsAt w a ds) :
    Calls Tryz.prog 4 #[.int .u8 xa, .int .u8 xb, .slice a ds.length cc] w fun e w' => e = .returned (.bool true) ∧ Below w.heap.size w w' := by
  have hD := hid hds
  clear hds
  obtain ⟨ma, hma⟩ : ∃ ma : Nat, (ma : Int) = xa % 64 + 1 := ⟨(xa % 64 + 1).toNat, by omega⟩
  obtain ⟨mb, hmb⟩ : ∃ mb : Nat, (mb : Int) = xb % 64 + 1 := ⟨(xb % 64 + 1).toNat, by omega⟩
  have hma1 : 1 ≤ ma := by omega
  have hma2 : ma ≤ 64 := by omega
  have hmb1 : 1 ≤ mb := by omega
  have hmb2 : mb ≤ 64 := by omega
  have ra : xa % 64 = (ma : Int) - 1 := by omega
  have rb : xb % 64 = (mb : Int) - 1 := by omega
  clear hma hmb
  go_enter Tryz.func4, Tryz.ntmps4
  go_wp2_with fail
  refine (b4open_two 6 ma (by omega) (by omega) hma1 hma2 w).mono ?_
  rintro e w1 ⟨hw1, c, L, q1, rfl, hdv, hft, hp, hfv, ht, hC⟩
  have hlen : (freshN (6 + 12)).safe.length = 18 := freshN_len _
  have hM : Made (freshN (6 + 12)) := made_fresh _ (by simp) (fun s hs => by rw [List.eq_of_mem_replicate hs]; exact blank_size)
  have hpg : pagesS (freshN (6 + 12)) 6 = 11 := by unfold pagesS; rw [hlen]
  have hop : (freshN (6 + 12)).ops.length ≤ 0 := Nat.le_refl _
  rw [hpg] at hC
  have hcnt : usedCount (fun _ => none) 11 ≤ ma := by
    have : usedCount (fun _ => none) 11 = 0 := by decide
    omega
  have hcntb : usedCount (fun _ => none) 11 ≤ mb := by
    have : usedCount (fun _ => none) 11 = 0 := by decide
    omega
  have HCb := hid hcntb
  have HM := hid hM
  have HPg := hid hpg
  have HOp := hid hop
  have HX : Hid (Side w w1 c L ⟨freshN (6 + 12), 6, 11, fun _ => none, ma, 0, fun _ => none⟩ ma 0 0) := ⟨hC, ht, rfl, rfl, hM, hop, by rw [CS.dirtyKeys_none rfl]; simp, Nat.le_refl _, hcnt, rfl, hft, fun i hi => (hfv i hi).2⟩
  have HDv := hid hdv
  have HW1 := hid hw1
  clear hlen hM hpg hop hC hcnt hcntb hdv hft hp hfv ht hw1
  go_wp2_with fail
  refine (b4open_two 6 mb (by omega) (by omega) hmb1 hmb2 w1).mono ?_
  rintro e w2 ⟨hw2, d, M, q2, rfl, hdv2, hft2, hp2, hfv2, ht2, hC2⟩
  rw [HPg.out] at hC2
  have HS : Hid (SmAt w w2 c d ma mb 0 0) := by
    have hx2 := HX.out.below hw2
    have hs1 := HW1.out.size
    have hy : Side w w2 d M ⟨freshN (6 + 12), 6, 11, fun _ => none, mb, 0, fun _ => none⟩ mb 0 0 := ⟨hC2, ht2, rfl, rfl, HM.out, HOp.out, by rw [CS.dirtyKeys_none rfl]; simp, Nat.le_refl _, HCb.out, rfl, fun i hi => Nat.le_trans hs1 (hft2 i hi), fun i hi => (hfv2 i hi).2⟩
    refine ⟨HW1.out.trans (hw2.mono HW1.out.size), L, _, M, _, hx2, hy, ⟨fun i hi hg => ?_, fun hg => ?_, fun i hi hg => ?_, fun n g cap hn => ?_⟩, ⟨fun i hi hg => ?_, fun hg => ?_, fun i hi hg => ?_, fun n g cap hn => ?_⟩, rfl, rfl⟩
    · have h1 := HX.out.at_.footLt i hi
      have h2 := hft2 i hg
      omega
    · have h1 := lt_of_heap HX.out.at_.log.heap
      have h2 := hft2 _ hg
      omega
    · have h1 := HX.out.fv i hi
      have h2 := hft2 i hg
      omega
    · rw [HDv.out] at hn; cases hn
    · have h1 := HX.out.at_.footLt i hg
      have h2 := hft2 i hi
      omega
    · have h1 := HX.out.at_.footLt _ hg
      omega
    · have h1 := HX.out.at_.footLt i hg
      have h2 := (hfv2 i hi).1
      omega
    · rw [hdv2] at hn; cases hn
  have HLv := hid (b4live_any w2)
  clear hw2 hdv2 hft2 hp2 hfv2 ht2 hC2 HX HDv HW1 HM HPg HOp HCb
  go_wp2_with fail
  refine HLv.out.mono ?_
  clear HLv
  rintro e w3 ⟨rfl, hb3⟩
  have HS3 := hid (HS.out.below hb3)
  clear hb3 HS
  go_wp2
  go_loopw [13] (fun i wr => ∃ (k : Nat), k ≤ ds.length ∧ k ≤ 50 ∧ i = .int .i64 k ∧ Hid (SmAt w wr c d ma mb (18 * k) k)) (fun i _ => 50 - (intOf i).toNat)
  case atStart => exact ⟨0, by omega, by omega, rfl, HS3⟩
  case round =>
    obtain ⟨k, hk1, hk2, rfl, hS⟩ := hrel
    clear HS3
    by_cases hlt : k < ds.length ∧ k < 50
    · obtain ⟨hka, hkb⟩ := hlt
      have hk0 : (0 : Int) ≤ (k : Int) := by omega
      have hka' : (k : Int) < (ds.length : Int) := by omega
      have hkb' : (k : Int) < 50 := by omega
      obtain ⟨ab, ao, rfl, hdk⟩ := hD.out k hka
      have hDk := hid ((hdk k hka).below hS.out.1)
      have HDa := hid (hdk k hka)
      obtain ⟨D, hDe⟩ : ∃ D, D = ds[k] := ⟨_, rfl⟩
      rw [← hDe] at hDk HDa
      clear hdk hDe
      obtain ⟨dk, dn, dx, dsh⟩ := D
      obtain ⟨q0, q1', q2', q3, n0, n1⟩ := hDk.out
      dsimp only at q0 q1' q2' q3 n0 n1
      have HDc : Hid (∀ W, Below w.heap.size w W → W.cell? ⟨ab, ao + k * 4, none⟩ = some (.int .i64 dk) ∧ W.cell? ⟨ab, ao + k * 4 + 1, none⟩ = some (.int .i64 dn) ∧ W.cell? ⟨ab, ao + k * 4 + 2, none⟩ = some (.int .u8 (dx.toNat : Int)) ∧ W.cell? ⟨ab, ao + k * 4 + 3, none⟩ = some (.bool dsh)) := fun W hW => by
        obtain ⟨z0, z1, z2, z3, -⟩ := HDa.out.below hW
        exact ⟨z0, z1, z2, z3⟩
      by_cases hk0' : dk = 0
      · subst hk0'
        have HRd := hid (hS.out.read dn n0 (by omega) (by omega))
        clear hS
        go_wp2_with fail
        refine HRd.out.mono ?_
        clear HRd
        rintro e w4 ⟨pa, pl, pc, er, rfl, hb4, hrd2⟩
        have HRd2 := hid hrd2
        obtain ⟨z0, z1, z2, z3⟩ := HDc.out w4 hb4
        clear hrd2 q0 q1' q2' q3 hb4
        go_wp2_with fail
        refine HRd2.out.mono ?_
        clear HRd2
        rintro e w5 ⟨qa, qc, rfl, hS5, hsm⟩
        have HS5 := hid (hS5.more (show 18 * k ≤ 18 * (k + 1) by omega) (Nat.le_refl (k + 1)))
        have HSm := hid hsm
        have hee : (er == er) = true := beq_self_eq_true _
        clear z0 z1 z2 z3 hS5 hsm
        go_wp2_with fail
        refine HSm.out.mono ?_
        clear HSm
        rintro e w6 ⟨rfl, hb6⟩
        have HS6 := hid (HS5.out.below hb6)
        clear hb6 HS5
        have HCa := hid HS6.out.cached
        clear HS6
        go_wp2_with fail
        refine HCa.out.mono ?_
        clear HCa
        rintro e w7 ⟨a7, k7, c7, rfl, hk7, -, hca2⟩
        have HCa2 := hid hca2
        have hle7 : ¬ ((ma : Int) < (k7 : Int)) := by omega
        clear hca2
        go_wp2_with fail
        refine HCa2.out.mono ?_
        clear HCa2
        rintro e w8 ⟨a8, k8, c8, rfl, hk8, hS8⟩
        have HS8 := hid hS8
        have hle8 : ¬ ((mb : Int) < (k8 : Int)) := by omega
        clear hS8
        go_wp2
        exact ⟨⟨k + 1, by omega, by omega, by go_num, HS8⟩, by simp [intOf]; omega⟩
      · have hk0b : (dk == 0) = false := beq_eq_false_iff_ne.2 hk0'
        by_cases hk1' : dk = 1
        · subst hk1'
          have HBy := hid (fun W => b4bytes_any dsh (1 : Int) dn dx W)
          go_wp2
          refine wp_region_noPanic ?_
          refine wp_region_held_drew (S := fun W => W.cell? ⟨ab, ao + k * 4, none⟩ = some (.int .i64 1) ∧ W.cell? ⟨ab, ao + k * 4 + 1, none⟩ = some (.int .i64 dn) ∧ W.cell? ⟨ab, ao + k * 4 + 2, none⟩ = some (.int .u8 (dx.toNat : Int)) ∧ W.cell? ⟨ab, ao + k * 4 + 3, none⟩ = some (.bool dsh)) (by kernel_rfl) ⟨q0, q1', q2', q3⟩ (fun hHeld => ?_)
          refine wpAnyH_take (i := 0) (v := ?_) rfl (by kernel_rfl) (by kernel_rfl) (by kernel_rfl) (fun _ _ _ h => h) (Or.inl ⟨by rfl, ?_⟩) (by assumption) ?_
          rotate_left
          · (intro W hSw; (try dsimp only at hSw); obtain ⟨s0, s1, s2, s3⟩ := hSw; go_simp; try with_reducible rfl)
          try simp only [List.getElem_toArray, List.getElem_cons_zero, Act.put, List.setIfInBounds_toArray, List.set_cons_zero, List.set_cons_succ]
          refine wpAnyH_take (i := 1) (v := ?_) rfl (by kernel_rfl) (by kernel_rfl) (by kernel_rfl) (fun _ _ _ h => h) (Or.inl ⟨by rfl, ?_⟩) (by assumption) ?_
          rotate_left
          · (intro W hSw; (try dsimp only at hSw); obtain ⟨s0, s1, s2, s3⟩ := hSw; go_simp; try with_reducible rfl)
          try simp only [List.getElem_toArray, List.getElem_cons_succ, List.getElem_cons_zero, Act.put, List.setIfInBounds_toArray, List.set_cons_zero, List.set_cons_succ]
          refine wpAnyH_take (i := 2) (v := ?_) rfl (by kernel_rfl) (by kernel_rfl) (by kernel_rfl) (fun _ _ _ h => h) (Or.inl ⟨by rfl, ?_⟩) (by assumption) ?_
          rotate_left
          · (intro W hSw; (try dsimp only at hSw); obtain ⟨s0, s1, s2, s3⟩ := hSw; go_simp; try with_reducible rfl)
          try simp only [List.getElem_toArray, List.getElem_cons_succ, List.getElem_cons_zero, Act.put, List.setIfInBounds_toArray, List.set_cons_zero, List.set_cons_succ]
          refine wpAnyH_take (i := 3) (v := ?_) rfl (by kernel_rfl) (by kernel_rfl) (by kernel_rfl) (fun _ _ _ h => h) (Or.inl ⟨by rfl, ?_⟩) (by assumption) ?_
          rotate_left
          · (intro W hSw; (try dsimp only at hSw); obtain ⟨s0, s1, s2, s3⟩ := hSw; go_simp; try with_reducible rfl)
          try simp only [List.getElem_toArray, List.getElem_cons_succ, List.getElem_cons_zero, Act.put, List.setIfInBounds_toArray, List.set_cons_zero, List.set_cons_succ]
          refine wpAnyH_take (i := 4) (v := ?_) rfl (by kernel_rfl) (by kernel_rfl) (by kernel_rfl) (fun _ _ _ h => h) (Or.inl ⟨by rfl, ?_⟩) (by assumption) ?_
          rotate_left
          · (intro W hSw; (try dsimp only at hSw); obtain ⟨s0, s1, s2, s3⟩ := hSw; go_simp; try with_reducible rfl)
          try simp only [List.getElem_toArray, List.getElem_cons_succ, List.getElem_cons_zero, Act.put, List.setIfInBounds_toArray, List.set_cons_zero, List.set_cons_succ]
          refine wpAnyH_take (i := 5) (v := ?_) rfl (by kernel_rfl) (by kernel_rfl) (by kernel_rfl) (fun _ _ _ h => h) (Or.inl ⟨by rfl, ?_⟩) (by assumption) ?_
          rotate_left
          · (intro W hSw; (try dsimp only at hSw); obtain ⟨s0, s1, s2, s3⟩ := hSw; go_simp; try with_reducible rfl)
          try simp only [List.getElem_toArray, List.getElem_cons_succ, List.getElem_cons_zero, Act.put, List.setIfInBounds_toArray, List.set_cons_zero, List.set_cons_succ]
          refine wpAnyH_take (i := 6) (v := ?_) rfl (by kernel_rfl) (by kernel_rfl) (by kernel_rfl) (fun _ _ _ h => h) (Or.inl ⟨by rfl, ?_⟩) (by assumption) ?_
          rotate_left
          · (intro W hSw; (try dsimp only at hSw); obtain ⟨s0, s1, s2, s3⟩ := hSw; go_simp; try with_reducible rfl)
          try simp only [List.getElem_toArray, List.getElem_cons_succ, List.getElem_cons_zero, Act.put, List.setIfInBounds_toArray, List.set_cons_zero, List.set_cons_succ]
          refine wpAnyH_take (i := 7) (v := ?_) rfl (by kernel_rfl) (by kernel_rfl) (by kernel_rfl) (fun _ _ _ h => h) (Or.inl ⟨by rfl, ?_⟩) (by assumption) ?_
          rotate_left
          · (intro W hSw; (try dsimp only at hSw); obtain ⟨s0, s1, s2, s3⟩ := hSw; go_simp; try with_reducible rfl)
          try simp only [List.getElem_toArray, List.getElem_cons_succ, List.getElem_cons_zero, Act.put, List.setIfInBounds_toArray, List.set_cons_zero, List.set_cons_succ]
          refine wpAnyH_take (i := 8) (v := ?_) rfl (by kernel_rfl) (by kernel_rfl) (by kernel_rfl) (fun _ _ _ h => h) (Or.inl ⟨by rfl, ?_⟩) (by assumption) ?_
          rotate_left
          · (intro W hSw; (try dsimp only at hSw); obtain ⟨s0, s1, s2, s3⟩ := hSw; go_simp; try with_reducible rfl)
          try simp only [List.getElem_toArray, List.getElem_cons_succ, List.getElem_cons_zero, Act.put, List.setIfInBounds_toArray, List.set_cons_zero, List.set_cons_succ]
          refine wpAnyH_take (i := 9) (v := ?_) rfl (by kernel_rfl) (by kernel_rfl) (by kernel_rfl) (fun _ _ _ h => h) (Or.inl ⟨by rfl, ?_⟩) (by assumption) ?_
          rotate_left
          · (intro W hSw; (try dsimp only at hSw); obtain ⟨s0, s1, s2, s3⟩ := hSw; go_simp; try with_reducible rfl)
          try simp only [List.getElem_toArray, List.getElem_cons_succ, List.getElem_cons_zero, Act.put, List.setIfInBounds_toArray, List.set_cons_zero, List.set_cons_succ]
          refine wpAnyH_take (i := 12) (v := ?_) rfl (by kernel_rfl) (by kernel_rfl) (by kernel_rfl) (fun _ _ _ h => h) (Or.inl ⟨by rfl, ?_⟩) (by assumption) ?_
          rotate_left
          · (intro W hSw; (try dsimp only at hSw); obtain ⟨s0, s1, s2, s3⟩ := hSw; go_simp; try with_reducible rfl)
          try simp only [List.getElem_toArray, List.getElem_cons_succ, List.getElem_cons_zero, Act.put, List.setIfInBounds_toArray, List.set_cons_zero, List.set_cons_succ]
          refine wpAnyH_take (i := 13) (v := ?_) rfl (by kernel_rfl) (by kernel_rfl) (by kernel_rfl) (fun _ _ _ h => h) (Or.inl ⟨by rfl, ?_⟩) (by assumption) ?_
          rotate_left
          · (intro W hSw; (try dsimp only at hSw); obtain ⟨s0, s1, s2, s3⟩ := hSw; go_simp; try with_reducible rfl)
          try simp only [List.getElem_toArray, List.getElem_cons_succ, List.getElem_cons_zero, Act.put, List.setIfInBounds_toArray, List.set_cons_zero, List.set_cons_succ]
          refine wpAnyH_take (i := 14) (v := ?_) rfl (by kernel_rfl) (by kernel_rfl) (by kernel_rfl) (fun _ _ _ h => h) (Or.inl ⟨by rfl, ?_⟩) (by assumption) ?_
          rotate_left
          · (intro W hSw; (try dsimp only at hSw); obtain ⟨s0, s1, s2, s3⟩ := hSw; go_simp; try with_reducible rfl)
          try simp only [List.getElem_toArray, List.getElem_cons_succ, List.getElem_cons_zero, Act.put, List.setIfInBounds_toArray, List.set_cons_zero, List.set_cons_succ]
          refine wpAnyH_take (i := 15) (v := ?_) rfl (by kernel_rfl) (by kernel_rfl) (by kernel_rfl) (fun _ _ _ h => h) (Or.inl ⟨by rfl, ?_⟩) (by assumption) ?_
          rotate_left
          · (intro W hSw; (try dsimp only at hSw); obtain ⟨s0, s1, s2, s3⟩ := hSw; go_simp; try with_reducible rfl)
          try simp only [List.getElem_toArray, List.getElem_cons_succ, List.getElem_cons_zero, Act.put, List.setIfInBounds_toArray, List.set_cons_zero, List.set_cons_succ]
          refine wpAnyH_take (i := 16) (v := ?_) rfl (by kernel_rfl) (by kernel_rfl) (by kernel_rfl) (fun _ _ _ h => h) (Or.inl ⟨by rfl, ?_⟩) (by assumption) ?_
          rotate_left
          · (intro W hSw; (try dsimp only at hSw); obtain ⟨s0, s1, s2, s3⟩ := hSw; go_simp; try with_reducible rfl)
          try simp only [List.getElem_toArray, List.getElem_cons_succ, List.getElem_cons_zero, Act.put, List.setIfInBounds_toArray, List.set_cons_zero, List.set_cons_succ]
          refine wpAnyH_take (i := 17) (v := ?_) rfl (by kernel_rfl) (by kernel_rfl) (by kernel_rfl) (fun _ _ _ h => h) (Or.inl ⟨by rfl, ?_⟩) (by assumption) ?_
          rotate_left
          · (intro W hSw; (try dsimp only at hSw); obtain ⟨s0, s1, s2, s3⟩ := hSw; go_simp; try with_reducible rfl)
          try simp only [List.getElem_toArray, List.getElem_cons_succ, List.getElem_cons_zero, Act.put, List.setIfInBounds_toArray, List.set_cons_zero, List.set_cons_succ]
          refine wpAnyH_take (i := 18) (v := ?_) rfl (by kernel_rfl) (by kernel_rfl) (by kernel_rfl) (fun _ _ _ h => h) (Or.inl ⟨by rfl, ?_⟩) (by assumption) ?_
          rotate_left
          · (intro W hSw; (try dsimp only at hSw); obtain ⟨s0, s1, s2, s3⟩ := hSw; go_simp; try with_reducible rfl)
          try simp only [List.getElem_toArray, List.getElem_cons_succ, List.getElem_cons_zero, Act.put, List.setIfInBounds_toArray, List.set_cons_zero, List.set_cons_succ]
          refine wpAnyH_take (i := 19) (v := ?_) rfl (by kernel_rfl) (by kernel_rfl) (by kernel_rfl) (fun _ _ _ h => h) (Or.inl ⟨by rfl, ?_⟩) (by assumption) ?_
          rotate_left
          · (intro W hSw; (try dsimp only at hSw); obtain ⟨s0, s1, s2, s3⟩ := hSw; go_simp; try with_reducible rfl)
          try simp only [List.getElem_toArray, List.getElem_cons_succ, List.getElem_cons_zero, Act.put, List.setIfInBounds_toArray, List.set_cons_zero, List.set_cons_succ]
          refine wpAnyH_take (i := 20) (v := ?_) rfl (by kernel_rfl) (by kernel_rfl) (by kernel_rfl) (fun _ _ _ h => h) (Or.inl ⟨by rfl, ?_⟩) (by assumption) ?_
          rotate_left
          · (intro W hSw; (try dsimp only at hSw); obtain ⟨s0, s1, s2, s3⟩ := hSw; go_simp; try with_reducible rfl)
          try simp only [List.getElem_toArray, List.getElem_cons_succ, List.getElem_cons_zero, Act.put, List.setIfInBounds_toArray, List.set_cons_zero, List.set_cons_succ]
          refine wpAnyH_take (i := 21) (v := ?_) rfl (by kernel_rfl) (by kernel_rfl) (by kernel_rfl) (fun _ _ _ h => h) (Or.inl ⟨by rfl, ?_⟩) (by assumption) ?_
          rotate_left
          · (intro W hSw; (try dsimp only at hSw); obtain ⟨s0, s1, s2, s3⟩ := hSw; go_simp; try with_reducible rfl)
          try simp only [List.getElem_toArray, List.getElem_cons_succ, List.getElem_cons_zero, Act.put, List.setIfInBounds_toArray, List.set_cons_zero, List.set_cons_succ]
          refine wpAnyH_ready (rs := [10]) (by kernel_rfl) (by simp) (AllReadyH.cons rfl (fun K hK => ?_) AllReadyH.nil)
          rw [if_pos (by rfl)]
          go_simp
          refine (HBy.out wr.drew).mono ?_
          rintro e w4 ⟨hb4, rfl, hby4⟩
          have hbr : Below wr.heap.size wr w4 := (Below.refl _ wr).drew.trans (hb4.mono (Nat.le_refl _))
          have HS4 := hid (hS.out.below hbr)
          obtain ⟨b4, hb4e⟩ : ∃ b4, b4 = wr.drew.heap.size + 1 := ⟨_, rfl⟩
          rw [← hb4e] at hby4 ⊢
          have HW := hid (HS4.out.write dn dsh (dbytes dsh dx) ⟨b4, 0, none⟩ (dlen dsh) (length_dbytes _ _) hby4.at)
          have hz := HDc.out w4 HS4.out.1
          clear hb4 hby4 hbr hb4e hS q0 q1' q2' q3 HS4
          go_wp2_with fail
          refine hK.out _ _ hz (fun hHeld => ?_)
          clear hK K
          try simp only [List.getElem_toArray, List.getElem_cons_succ, List.getElem_cons_zero, Act.put, List.setIfInBounds_toArray, List.set_cons_zero, List.set_cons_succ]
          refine wpAnyH_ready (rs := [11]) (by kernel_rfl) (by simp) (AllReadyH.cons rfl (fun K hK => ?_) AllReadyH.nil)
          rw [if_pos (by rfl)]
          go_simp
          refine HW.out.mono ?_
          clear HW
          rintro e w5 ⟨er, rfl, hb5, hwr2⟩
          have HW2 := hid hwr2
          have HB5 := hid hb5
          have hz5 := HDc.out w5 hb5
          clear hb5 hwr2 hz
          go_wp2_with fail
          refine hK.out _ _ hz5 (fun hHeld => ?_)
          clear hK K
          try simp only [List.getElem_toArray, List.getElem_cons_succ, List.getElem_cons_zero, Act.put, List.setIfInBounds_toArray, List.set_cons_zero, List.set_cons_succ]
          refine wpAnyH_ready (rs := [22]) (by kernel_rfl) (by simp) (AllReadyH.cons rfl (fun K hK => ?_) AllReadyH.nil)
          rw [if_pos (by rfl)]
          go_simp
          refine (HBy.out w5).mono ?_
          clear HBy
          rintro e w9 ⟨hb9, rfl, hby9⟩
          have HW3 := hid (HW2.out w9 hb9 ⟨w5.heap.size + 1, 0, none⟩ (dlen dsh) hby9.at)
          have hz9 := HDc.out w9 (HB5.out.trans (hb9.mono HB5.out.size))
          obtain ⟨b9, hb9e⟩ : ∃ b9, b9 = w5.heap.size + 1 := ⟨_, rfl⟩
          rw [← hb9e] at HW3 ⊢
          clear hb9 hby9 hb9e HW2 HB5 hz5
          go_wp2_with fail
          refine hK.out _ _ hz9 (fun hHeld => ?_)
          clear hK K
          try simp only [List.getElem_toArray, List.getElem_cons_succ, List.getElem_cons_zero, Act.put, List.setIfInBounds_toArray, List.set_cons_zero, List.set_cons_succ]
          refine wpAnyH_ready (rs := [23]) (by kernel_rfl) (by simp) (AllReadyH.cons rfl (fun K hK => ?_) AllReadyH.nil)
          rw [if_pos (by rfl)]
          go_simp
          refine HW3.out.mono ?_
          clear HW3
          rintro e w6 ⟨rfl, hS6⟩
          have hz6 := HDc.out w6 hS6.1
          have HS6 := hid (hS6.more (show 18 * k ≤ 18 * (k + 1) by omega) (Nat.le_succ k))
          have hee : (er == er) = true := beq_self_eq_true _
          have hne : (er != er) = false := by simp
          clear hS6 hz9
          go_wp2_with fail
          refine hK.out _ _ hz6 (fun hHeld => ?_)
          clear hK K
          try simp only [List.getElem_toArray, List.getElem_cons_succ, List.getElem_cons_zero, Act.put, List.setIfInBounds_toArray, List.set_cons_zero, List.set_cons_succ]
          refine wpAnyH_take (i := 24) (v := ?_) rfl (by kernel_rfl) (by kernel_rfl) (by kernel_rfl) (fun _ _ _ h => h) (Or.inl ⟨by rfl, ?_⟩) (by assumption) ?_
          rotate_left
          · (intro W hSw; (try dsimp only at hSw); obtain ⟨s0, s1, s2, s3⟩ := hSw; go_simp; try with_reducible rfl)
          try simp only [List.getElem_toArray, List.getElem_cons_succ, List.getElem_cons_zero, Act.put, List.setIfInBounds_toArray, List.set_cons_zero, List.set_cons_succ]
          refine wpAnyH_done (by kernel_rfl) ?_ _
          refine NoPanic.normal ?_
          clear hHeld hz6
          have HCa := hid HS6.out.cached
          clear HS6
          go_wp2_with fail
          refine HCa.out.mono ?_
          clear HCa
          rintro e w7 ⟨a7, k7, c7, rfl, hk7, -, hca2⟩
          have HCa2 := hid hca2
          have hle7 : ¬ ((ma : Int) < (k7 : Int)) := by omega
          clear hca2
          go_wp2_with fail
          refine HCa2.out.mono ?_
          clear HCa2
          rintro e w8 ⟨a8, k8, c8, rfl, hk8, hS8⟩
          have HS8 := hid hS8
          have hle8 : ¬ ((mb : Int) < (k8 : Int)) := by omega
          clear hS8
          go_wp2
          exact ⟨⟨k + 1, by omega, by omega, by go_num, HS8⟩, by simp [intOf]; omega⟩
        · have hk1b : (dk == 1) = false := beq_eq_false_iff_ne.2 hk1'
          by_cases hk2' : dk = 2
          · subst hk2'
            have HCm := hid (hS.out.commit (by omega))
            clear hS
            go_wp2_with fail
            refine HCm.out.mono ?_
            clear HCm
            rintro e w4 ⟨rfl, hcm2⟩
            have HCm2 := hid hcm2
            clear hcm2
            go_wp2_with fail
            refine HCm2.out.mono ?_
            clear HCm2
            rintro e w6 ⟨rfl, hS6⟩
            have HS6 := hid (hS6.more (show 18 * k + 18 ≤ 18 * (k + 1) by omega) (Nat.le_succ k))
            clear hS6 q0 q1' q2' q3
            have HCa := hid HS6.out.cached
            clear HS6
            go_wp2_with fail
            refine HCa.out.mono ?_
            clear HCa
            rintro e w7 ⟨a7, k7, c7, rfl, hk7, -, hca2⟩
            have HCa2 := hid hca2
            have hle7 : ¬ ((ma : Int) < (k7 : Int)) := by omega
            clear hca2
            go_wp2_with fail
            refine HCa2.out.mono ?_
            clear HCa2
            rintro e w8 ⟨a8, k8, c8, rfl, hk8, hS8⟩
            have HS8 := hid hS8
            have hle8 : ¬ ((mb : Int) < (k8 : Int)) := by omega
            clear hS8
            go_wp2
            exact ⟨⟨k + 1, by omega, by omega, by go_num, HS8⟩, by simp [intOf]; omega⟩
          · have hk2b : (dk == 2) = false := beq_eq_false_iff_ne.2 hk2'
            by_cases hk3' : dk = 3
            · subst hk3'
              have HAb := hid hS.out.abort
              clear hS
              go_wp2_with fail
              refine HAb.out.mono ?_
              clear HAb
              rintro e w4 ⟨v4, rfl, hab2⟩
              have HAb2 := hid hab2
              clear hab2
              go_wp2_with fail
              refine HAb2.out.mono ?_
              clear HAb2
              rintro e w6 ⟨v6, rfl, hS6⟩
              have HS6 := hid (hS6.more (show 18 * k ≤ 18 * (k + 1) by omega) (Nat.le_succ k))
              clear hS6 q0 q1' q2' q3
              have HCa := hid HS6.out.cached
              clear HS6
              go_wp2_with fail
              refine HCa.out.mono ?_
              clear HCa
              rintro e w7 ⟨a7, k7, c7, rfl, hk7, -, hca2⟩
              have HCa2 := hid hca2
              have hle7 : ¬ ((ma : Int) < (k7 : Int)) := by omega
              clear hca2
              go_wp2_with fail
              refine HCa2.out.mono ?_
              clear HCa2
              rintro e w8 ⟨a8, k8, c8, rfl, hk8, hS8⟩
              have HS8 := hid hS8
              have hle8 : ¬ ((mb : Int) < (k8 : Int)) := by omega
              clear hS8
              go_wp2
              exact ⟨⟨k + 1, by omega, by omega, by go_num, HS8⟩, by simp [intOf]; omega⟩
            · have hk3b : (dk == 3) = false := beq_eq_false_iff_ne.2 hk3'
              have HS6 := hid (hS.out.more (show 18 * k ≤ 18 * (k + 1) by omega) (Nat.le_succ k))
              clear hS
              have HCa := hid HS6.out.cached
              clear HS6
              go_wp2_with fail
              refine HCa.out.mono ?_
              clear HCa
              rintro e w7 ⟨a7, k7, c7, rfl, hk7, -, hca2⟩
              have HCa2 := hid hca2
              have hle7 : ¬ ((ma : Int) < (k7 : Int)) := by omega
              clear hca2
              go_wp2_with fail
              refine HCa2.out.mono ?_
              clear HCa2
              rintro e w8 ⟨a8, k8, c8, rfl, hk8, hS8⟩
              have HS8 := hid hS8
              have hle8 : ¬ ((mb : Int) < (k8 : Int)) := by omega
              clear hS8
              go_wp2
              exact ⟨⟨k + 1, by omega, by omega, by go_num, HS8⟩, by simp [intOf]; omega⟩
    · obtain ⟨p, hlg, hdk⟩ := hS.out.ends (by omega)
      have HLg := hid hlg
      have HDk := hid hdk
      clear hlg hdk hS
      by_cases hg : k < ds.length
      · have hge : ((k : Int) < (ds.length : Int)) := by omega
        have hge2 : ¬ ((k : Int) < 50) := by omega
        clear hlt hg
        go_wp2_with fail
        refine HLg.out.mono ?_
        clear HLg
        rintro e w9 ⟨rfl, h9⟩
        obtain rfl := h9.symm
        clear h9
        go_wp2_with fail
        refine HDk.out.mono ?_
        clear HDk
        rintro e w4 ⟨r4, q4, rfl, hlg2, hdk2⟩
        have HLg2 := hid hlg2
        have HDk2 := hid hdk2
        clear hlg2 hdk2
        go_wp2_with fail
        refine HLg2.out.mono ?_
        clear HLg2
        rintro e w9 ⟨rfl, h9⟩
        obtain rfl := h9.symm
        clear h9
        go_wp2_with fail
        refine HDk2.out.mono ?_
        clear HDk2
        rintro e w5 ⟨s5, rfl, hsm⟩
        have HSm := hid hsm
        clear hsm
        go_wp2_with fail
        refine HSm.out.mono ?_
        clear HSm
        rintro e w6 ⟨rfl, hb6⟩
        have HB6 := hid hb6
        clear hb6
        go_wp2
        go_ret
        exact ⟨rfl, HB6.out⟩
      · have hge : ¬ ((k : Int) < (ds.length : Int)) := by omega
        clear hlt hg
        go_wp2_with fail
        refine HLg.out.mono ?_
        clear HLg
        rintro e w9 ⟨rfl, h9⟩
        obtain rfl := h9.symm
        clear h9
        go_wp2_with fail
        refine HDk.out.mono ?_
        clear HDk
        rintro e w4 ⟨r4, q4, rfl, hlg2, hdk2⟩
        have HLg2 := hid hlg2
        have HDk2 := hid hdk2
        clear hlg2 hdk2
        go_wp2_with fail
        refine HLg2.out.mono ?_
        clear HLg2
        rintro e w9 ⟨rfl, h9⟩
        obtain rfl := h9.symm
        clear h9
        go_wp2_with fail
        refine HDk2.out.mono ?_
        clear HDk2
        rintro e w5 ⟨s5, rfl, hsm⟩
        have HSm := hid hsm
        clear hsm
        go_wp2_with fail
        refine HSm.out.mono ?_
        clear HSm
        rintro e w6 ⟨rfl, hb6⟩
        have HB6 := hid hb6
        clear hb6
        go_wp2
        go_ret
        exact ⟨rfl, HB6.out⟩
end Go.Proofs.YtjgclmlclkfgpaaGreat
