/- The walk of WalPlays. -/
import Derived.Test.YtmnepbdbbdcllaaGreatWPlayM
import Derived.Test.YtmnepbdbbdcllaaGreatSameW
import Derived.Test.YtmnepbdbbdcllaaGreatBaseD
namespace Go.Proofs.YtmnepbdbbdcllaaGreat
open Go.RowKit
def smallI (n : Int) : Int := if 30 < n ∧ n ≤ 4096 then n % 30 + 1 else n
set_option maxRecDepth 100000 in
theorem small_any (n : Int) (w : World) : Calls Tryz.prog 6 #[.int .i64 n] w fun e w' => e = .returned (.int .i64 (smallI n)) ∧ w' = w := by
  by_cases h : 30 < n ∧ n ≤ 4096
  · obtain ⟨h1, h2⟩ := h
    have e : smallI n = n % 30 + 1 := by rw [smallI, if_pos ⟨h1, h2⟩]
    rw [e]
    go_enter Tryz.func6, Tryz.ntmps6
    go_wp2
    go_ret
    exact ⟨rfl, rfl⟩
  · have e : smallI n = n := by rw [smallI, if_neg h]
    rw [e]
    by_cases h1 : 30 < n
    · have h2 : ¬ (n ≤ 4096) := fun h2 => h ⟨h1, h2⟩
      clear h e
      go_enter Tryz.func6, Tryz.ntmps6
      go_wp2
      go_ret
      exact ⟨rfl, rfl⟩
    · clear h e
      go_enter Tryz.func6, Tryz.ntmps6
      go_wp2
      go_ret
      exact ⟨rfl, rfl⟩
set_option maxRecDepth 100000 in
set_option maxHeartbeats 2000000 in
theorem walPlays_no (n size : Int) (hno : ¬ (1 ≤ smallI n ∧ smallI n ≤ 4096 ∧ 1 ≤ size ∧ size + 2 ≤ smallI n)) (ds : List WDeed) (a : Option Addr) (c : Nat) (w : World) (hds : wdeedsAt w a ds) :
    Calls Tryz.prog 3 #[.int .i64 n, .int .i64 size, .slice a ds.length c] w fun e w' => e = .returned (.bool true) ∧ Below w.heap.size w w' := by
  have hD := hid hds
  have HOp := hid (wopen_no (smallI n) size hno w)
  have HSm := hid (small_any n w)
  clear hds hno
  go_enter Tryz.func3, Tryz.ntmps3
  go_wp2_with fail
  refine HSm.out.mono ?_
  clear HSm
  rintro e w0 ⟨rfl, h0⟩
  obtain rfl := h0.symm
  generalize smallI n = nn at *
  go_wp2_with fail
  refine HOp.out.mono ?_
  clear HOp
  rintro e w1 ⟨hb1, rfl⟩
  have HB1 := hid hb1
  clear hb1
  go_wp2_with fail
  refine (wlive_any w1).mono ?_
  rintro e w2 ⟨rfl, hb2⟩
  have HB2 := hid (HB1.out.trans (hb2.mono HB1.out.size))
  clear hb2 HB1
  go_wp2
  go_loopw [10] (fun i wr => ∃ k : Nat, k ≤ ds.length ∧ k ≤ 12 ∧ i = .int .i64 k ∧ Hid (Below w.heap.size w wr)) (fun i _ => 12 - (intOf i).toNat)
  case atStart => exact ⟨0, by omega, by omega, rfl, HB2⟩
  case round =>
    obtain ⟨k, hk1, hk2, rfl, hB⟩ := hrel
    clear HB2
    by_cases hlt : k < ds.length ∧ k < 12
    · obtain ⟨hka, hkb⟩ := hlt
      have hk0 : (0 : Int) ≤ (k : Int) := by omega
      have hka' : (k : Int) < (ds.length : Int) := by omega
      have hkb' : (k : Int) < 12 := by omega
      obtain ⟨ab, ao, rfl, hdk⟩ := hD.out k hka
      have hDk := hid (hdk k hka)
      obtain ⟨D, hDe⟩ : ∃ D, D = ds[k] := ⟨_, rfl⟩
      rw [← hDe] at hDk
      clear hdk hDe
      obtain ⟨q0, q1, q2, hin, -⟩ := hDk.out.below hB.out
      have HDp := hid (deed_any D.s D.ns D.na D.nc D.x wr hin)
      clear hin
      go_wp2_with fail
      refine HDp.out.mono ?_
      clear HDp
      rintro e w4 ⟨hb4, hd4⟩
      obtain ⟨pa, pc, bs, rfl, hps, hbs, -⟩ := deedAny_pages hd4
      obtain ⟨m, hm⟩ : ∃ m, m = min D.ns.length 102 := ⟨_, rfl⟩
      rw [← hm] at hps hbs ⊢
      have hm2 : m ≤ 102 := by omega
      have HB4 := hid (hB.out.trans (hb4.mono hB.out.size))
      obtain ⟨r0, r1, r2, hin4, -⟩ := hDk.out.below HB4.out
      have HDp := hid (deed_any D.s D.ns D.na D.nc D.x w4.drew (hin4.below (Below.refl _ _).drew))
      rw [← hm] at HDp
      have HPs := hid hps
      have HBs := hid hbs
      have hsr := hB.out.size
      clear hb4 hd4 hps hbs hm q0 q1 q2 hin4 hB
      go_wp2
      refine wp_region_noPanic ?_
      refine wp_region_held_drew (S := fun W => W.cell? ⟨ab, ao + k * 3, none⟩ = some (.bool D.s) ∧ W.cell? ⟨ab, ao + k * 3 + 1, none⟩ = some (.slice D.na D.ns.length D.nc) ∧ W.cell? ⟨ab, ao + k * 3 + 2, none⟩ = some (.int .u8 (D.x.toNat : Int))) (by kernel_rfl) ⟨r0, r1, r2⟩ (fun hHeld => ?_)
      refine wpAnyH_take (i := 0) (v := ?_) rfl (by kernel_rfl) (by kernel_rfl) (by kernel_rfl) (fun _ _ _ h => h) (Or.inl ⟨by rfl, ?_⟩) (by assumption) ?_
      rotate_left
      · (intro W hSw; (try dsimp only at hSw); obtain ⟨s1, s2, s3⟩ := hSw; go_simp; try with_reducible rfl)
      try simp only [List.getElem_toArray, List.getElem_cons_zero, Act.put, List.setIfInBounds_toArray, List.set_cons_zero, List.set_cons_succ]
      refine wpAnyH_take (i := 1) (v := ?_) rfl (by kernel_rfl) (by kernel_rfl) (by kernel_rfl) (fun _ _ _ h => h) (Or.inl ⟨by rfl, ?_⟩) (by assumption) ?_
      rotate_left
      · (intro W hSw; (try dsimp only at hSw); obtain ⟨s1, s2, s3⟩ := hSw; go_simp; try with_reducible rfl)
      try simp only [List.getElem_toArray, List.getElem_cons_succ, List.getElem_cons_zero, Act.put, List.setIfInBounds_toArray, List.set_cons_zero, List.set_cons_succ]
      refine wpAnyH_take (i := 3) (v := ?_) rfl (by kernel_rfl) (by kernel_rfl) (by kernel_rfl) (fun _ _ _ h => h) (Or.inl ⟨by rfl, ?_⟩) (by assumption) ?_
      rotate_left
      · (intro W hSw; (try dsimp only at hSw); obtain ⟨s1, s2, s3⟩ := hSw; go_simp; try with_reducible rfl)
      try simp only [List.getElem_toArray, List.getElem_cons_succ, List.getElem_cons_zero, Act.put, List.setIfInBounds_toArray, List.set_cons_zero, List.set_cons_succ]
      refine wpAnyH_take (i := 4) (v := ?_) rfl (by kernel_rfl) (by kernel_rfl) (by kernel_rfl) (fun _ _ _ h => h) (Or.inl ⟨by rfl, ?_⟩) (by assumption) ?_
      rotate_left
      · (intro W hSw; (try dsimp only at hSw); obtain ⟨s1, s2, s3⟩ := hSw; go_simp; try with_reducible rfl)
      try simp only [List.getElem_toArray, List.getElem_cons_succ, List.getElem_cons_zero, Act.put, List.setIfInBounds_toArray, List.set_cons_zero, List.set_cons_succ]
      refine wpAnyH_take (i := 5) (v := ?_) rfl (by kernel_rfl) (by kernel_rfl) (by kernel_rfl) (fun _ _ _ h => h) (Or.inl ⟨by rfl, ?_⟩) (by assumption) ?_
      rotate_left
      · (intro W hSw; (try dsimp only at hSw); obtain ⟨s1, s2, s3⟩ := hSw; go_simp; try with_reducible rfl)
      try simp only [List.getElem_toArray, List.getElem_cons_succ, List.getElem_cons_zero, Act.put, List.setIfInBounds_toArray, List.set_cons_zero, List.set_cons_succ]
      refine wpAnyH_take (i := 6) (v := ?_) rfl (by kernel_rfl) (by kernel_rfl) (by kernel_rfl) (fun _ _ _ h => h) (Or.inl ⟨by rfl, ?_⟩) (by assumption) ?_
      rotate_left
      · (intro W hSw; (try dsimp only at hSw); obtain ⟨s1, s2, s3⟩ := hSw; go_simp; try with_reducible rfl)
      try simp only [List.getElem_toArray, List.getElem_cons_succ, List.getElem_cons_zero, Act.put, List.setIfInBounds_toArray, List.set_cons_zero, List.set_cons_succ]
      refine wpAnyH_take (i := 7) (v := ?_) rfl (by kernel_rfl) (by kernel_rfl) (by kernel_rfl) (fun _ _ _ h => h) (Or.inl ⟨by rfl, ?_⟩) (by assumption) ?_
      rotate_left
      · (intro W hSw; (try dsimp only at hSw); obtain ⟨s1, s2, s3⟩ := hSw; go_simp; try with_reducible rfl)
      try simp only [List.getElem_toArray, List.getElem_cons_succ, List.getElem_cons_zero, Act.put, List.setIfInBounds_toArray, List.set_cons_zero, List.set_cons_succ]
      refine wpAnyH_ready (rs := [2]) (by kernel_rfl) (by simp) (AllReadyH.cons rfl (fun K hKK => ?_) AllReadyH.nil)
      rw [if_pos (by rfl)]
      go_simp
      refine (commit_nil _ _).mono ?_
      rintro e w5 ⟨rfl, h5⟩
      obtain rfl := h5.symm
      go_wp2_with fail
      refine hKK.out _ _ ⟨r0, r1, r2⟩ (fun hHeld => ?_)
      clear hKK K
      try simp only [List.getElem_toArray, List.getElem_cons_succ, List.getElem_cons_zero, Act.put, List.setIfInBounds_toArray, List.set_cons_zero, List.set_cons_succ]
      refine wpAnyH_ready (rs := [8]) (by kernel_rfl) (by simp) (AllReadyH.cons rfl (fun K hKK => ?_) AllReadyH.nil)
      rw [if_pos (by rfl)]
      go_simp
      refine HDp.out.mono ?_
      clear HDp
      rintro e w6 ⟨hb6, hd6⟩
      obtain ⟨pa6, pc6, cs, rfl, -, -, -⟩ := deedAny_pages hd6
      have hb46 : Below w4.heap.size w4 w6 := (Below.refl _ w4).drew.trans (hb6.mono (Nat.le_refl _))
      have HB46 := hid hb46
      have HB6 := hid (HB4.out.trans (hb46.mono HB4.out.size))
      obtain ⟨t0, t1, t2, -, -⟩ := hDk.out.below HB6.out
      clear hb6 hd6 hb46 r0 r1 r2
      go_wp2_with fail
      refine hKK.out _ _ ⟨t0, t1, t2⟩ (fun hHeld => ?_)
      clear hKK K
      try simp only [List.getElem_toArray, List.getElem_cons_succ, List.getElem_cons_zero, Act.put, List.setIfInBounds_toArray, List.set_cons_zero, List.set_cons_succ]
      refine wpAnyH_ready (rs := [9]) (by kernel_rfl) (by simp) (AllReadyH.cons rfl (fun K hKK => ?_) AllReadyH.nil)
      rw [if_pos (by rfl)]
      go_simp
      refine (rcommit_nil _ _ _ _).mono ?_
      rintro e w7 ⟨rfl, h7⟩
      obtain rfl := h7.symm
      go_wp2_with fail
      refine hKK.out _ _ ⟨t0, t1, t2⟩ (fun hHeld => ?_)
      clear hKK K
      try simp only [List.getElem_toArray, List.getElem_cons_succ, List.getElem_cons_zero, Act.put, List.setIfInBounds_toArray, List.set_cons_zero, List.set_cons_succ]
      refine wpAnyH_take (i := 10) (v := .bool false) rfl (by kernel_rfl) (by kernel_rfl) (by kernel_rfl) (fun _ _ _ h => h) (Or.inl ⟨by rfl, ?_⟩) (by assumption) ?_
      · (intro W hSw; (try dsimp only at hSw); obtain ⟨s1, s2, s3⟩ := hSw; go_simp; try first | with_reducible rfl | go_num | (rw [if_pos (by assumption)]; simp only [*]) | simp only [*])
      try simp only [List.getElem_toArray, List.getElem_cons_succ, List.getElem_cons_zero, Act.put, List.setIfInBounds_toArray, List.set_cons_zero, List.set_cons_succ]
      refine wpAnyH_done (by kernel_rfl) ?_ _
      refine NoPanic.normal ?_
      clear hHeld t0 t1 t2
      have HAll : Hid (ownAll w6 bs m) := fun j hj => ⟨_, length_rowX D.x j, (HBs.out j hj).2.below HB46.out⟩
      have HPs7 := hid (HPs.out.below HB46.out)
      have HKeep : Hid (∀ W, Keeps (fun i => ∃ j, j < m ∧ i = bs j) w6 W → Below w.heap.size w W) := fun W hW => HB6.out.trans (hW.below HB6.out.size (fun i ⟨j, hj, e⟩ => by have := (HBs.out j hj).1; omega))
      clear HBs HPs HB46 HB4
      go_wp2
      go_loopw [12] (fun i wi => ∃ c : Nat, c ≤ m ∧ i = .int .i64 c ∧ Hid (Keeps (fun i => ∃ j, j < m ∧ i = bs j) w6 wi) ∧ Hid (ownAll wi bs m)) (fun i _ => m - (intOf i).toNat)
      case atStart => exact ⟨0, by omega, rfl, Keeps.refl _ _, HAll⟩
      case round =>
        obtain ⟨c, hc, rfl, hKc, hAc⟩ := hrel
        by_cases hcm : c < m
        · have hc0 : (0 : Int) ≤ (c : Int) := by omega
          have hc1 : (c : Int) < (m : Int) := by omega
          obtain ⟨b, o, rfl, hpc⟩ := HPs7.out c (by rw [length_deedPs]; exact hcm)
          obtain ⟨-, p1⟩ := hpc c (by rw [length_deedPs]; exact hcm)
          rw [deedPs_at] at p1
          have hbG : ¬ (∃ j, j < m ∧ b = bs j) := fun ⟨j, hj, e⟩ => by
            obtain ⟨L, -, hL⟩ := HAll.out j hj
            exact hL.not p1 (fun n => by simp [PageS.val]) e
          have HPc : Hid (∀ W, Keeps (fun i => ∃ j, j < m ∧ i = bs j) w6 W → W.cell? ⟨b, o + c * 2 + 1, none⟩ = some (.slice (some ⟨bs c, 0, none⟩) (plen D.s c) 512)) := fun W hW => hW.cell (ad := ⟨b, o + c * 2 + 1, none⟩) p1 hbG
          have hpl : plen D.s c ≤ 512 := by unfold plen; split <;> omega
          clear hpc p1 hbG
          generalize plen D.s c = pl at *
          go_wp2
          go_loopw [13] (fun i wi => ∃ t : Nat, t ≤ pl ∧ i = .int .i64 t ∧ Hid (Keeps (fun i => ∃ j, j < m ∧ i = bs j) w6 wi) ∧ Hid (ownAll wi bs m)) (fun i _ => pl - (intOf i).toNat)
          case atStart => exact ⟨0, by omega, rfl, hKc, hAc⟩
          case round =>
            obtain ⟨t, ht, rfl, hKt, hAt⟩ := hrel
            have c1 := HPc.out wr hKt.out
            by_cases htl : t < pl
            · have ht0 : (0 : Int) ≤ (t : Int) := by omega
              have ht1 : (t : Int) < (pl : Int) := by omega
              have ht2 : (t : Int) < 512 := by omega
              obtain ⟨L, hl, hL⟩ := hAt.out c hcm
              have g0 := hL.frozen t
              obtain ⟨z, k0⟩ : ∃ z, wr.cell? ⟨bs c, t, none⟩ = some (.int .u8 z) := ⟨_, hL.cell t (by omega)⟩
              have HSt := hid (hAt.out.set (bs c) t)
              have HKs : Hid (Keeps (fun i => ∃ j, j < m ∧ i = bs j) w6 (wr.setCell ⟨bs c, t, none⟩ (.int .u8 99))) := hKt.out.grown (grown_setCell (grown_refl _ _) _ _) (fun i e => .inl ⟨c, hcm, (Option.some.inj e).symm⟩)
              clear hL hl
              go_wp2
              exact ⟨⟨t + 1, by omega, by go_num, HKs, HSt⟩, by simp [intOf]; omega⟩
            · obtain rfl : t = pl := by omega
              have hge3 : ¬ ((t : Int) < (t : Int)) := by omega
              go_wp2
              exact ⟨⟨c + 1, by omega, by go_num, hKt, hAt⟩, by simp [intOf]; omega⟩
        · obtain rfl : c = m := by omega
          have hge2 : ¬ ((c : Int) < (c : Int)) := by omega
          have HEnd := hid (HKeep.out _ hKc.out)
          go_wp2
          exact ⟨⟨k + 1, by omega, by omega, by go_num, HEnd⟩, by simp [intOf]; omega⟩
    · by_cases hg : k < ds.length
      · have hge : ((k : Int) < (ds.length : Int)) := by omega
        have hge2 : ¬ ((k : Int) < 12) := by omega
        clear hlt hg
        go_wp2
        go_loopw [14] (fun i wi => ∃ c : Nat, c ≤ 2 ∧ i = .int .i64 ((c : Int) - 1) ∧ Hid (Below w.heap.size w wi)) (fun i _ => (2 - (intOf i + 1)).toNat)
        case atStart => exact ⟨0, by omega, rfl, hB⟩
        case round =>
          obtain ⟨c, hc, rfl, hBc⟩ := hrel
          have hSB := hid (same_bytes [] [] none none 0 0 wr (fun j hj => by simp at hj) (fun j hj => by simp at hj) (by decide))
          by_cases hc2 : c < 2
          · obtain ⟨x, hx⟩ : ∃ x : Int, x = (c : Int) - 1 := ⟨_, rfl⟩
            rw [← hx]
            have HX := hid hx
            have hx0 : x ≤ 0 := by omega
            have hx1 : x < 40 := by omega
            have hx2 : -1 ≤ x := by omega
            clear hx
            go_wp2_with fail
            refine (rlpages_nil _).mono ?_
            rintro e w9 ⟨rfl, h9⟩
            obtain rfl := h9.symm
            go_wp2_with fail
            refine (lread_nil _ _).mono ?_
            rintro e w9 ⟨rfl, h9⟩
            obtain rfl := h9.symm
            go_wp2_with fail
            refine (rlread_nil _ _).mono ?_
            rintro e w9 ⟨rfl, h9⟩
            obtain rfl := h9.symm
            go_wp2_with fail
            refine hSB.out.mono ?_
            rintro e w9 ⟨rfl, hb9⟩
            have HB9 := hid (hBc.out.trans (hb9.mono hBc.out.size))
            clear hb9
            go_wp2
            exact ⟨⟨c + 1, by omega, by rw [HX.out]; go_num, HB9⟩, by rw [HX.out]; simp [intOf]; omega⟩
          · obtain rfl : c = 2 := by omega
            go_wp2_with fail
            refine (rlpages_nil _).mono ?_
            rintro e w9 ⟨rfl, h9⟩
            obtain rfl := h9.symm
            go_wp2_with fail
            refine (pages_nil _).mono ?_
            rintro e w9 ⟨rfl, h9⟩
            obtain rfl := h9.symm
            go_wp2_with fail
            refine (rlpages_nil _).mono ?_
            rintro e w9 ⟨rfl, h9⟩
            obtain rfl := h9.symm
            go_wp2_with fail
            refine (capacity_nil _).mono ?_
            rintro e w9 ⟨rfl, h9⟩
            obtain rfl := h9.symm
            go_wp2_with fail
            refine (rlcap_nil _).mono ?_
            rintro e w9 ⟨rfl, h9⟩
            obtain rfl := h9.symm
            go_wp2_with fail
            refine (recovered_nil _).mono ?_
            rintro e w9 ⟨rfl, h9⟩
            obtain rfl := h9.symm
            go_wp2_with fail
            refine (rlrec_nil _).mono ?_
            rintro e w9 ⟨rfl, h9⟩
            obtain rfl := h9.symm
            go_wp2
            go_ret
            exact ⟨rfl, hBc.out⟩
      · have hge : ¬ ((k : Int) < (ds.length : Int)) := by omega
        clear hlt hg
        go_wp2
        go_loopw [14] (fun i wi => ∃ c : Nat, c ≤ 2 ∧ i = .int .i64 ((c : Int) - 1) ∧ Hid (Below w.heap.size w wi)) (fun i _ => (2 - (intOf i + 1)).toNat)
        case atStart => exact ⟨0, by omega, rfl, hB⟩
        case round =>
          obtain ⟨c, hc, rfl, hBc⟩ := hrel
          have hSB := hid (same_bytes [] [] none none 0 0 wr (fun j hj => by simp at hj) (fun j hj => by simp at hj) (by decide))
          by_cases hc2 : c < 2
          · obtain ⟨x, hx⟩ : ∃ x : Int, x = (c : Int) - 1 := ⟨_, rfl⟩
            rw [← hx]
            have HX := hid hx
            have hx0 : x ≤ 0 := by omega
            have hx1 : x < 40 := by omega
            have hx2 : -1 ≤ x := by omega
            clear hx
            go_wp2_with fail
            refine (rlpages_nil _).mono ?_
            rintro e w9 ⟨rfl, h9⟩
            obtain rfl := h9.symm
            go_wp2_with fail
            refine (lread_nil _ _).mono ?_
            rintro e w9 ⟨rfl, h9⟩
            obtain rfl := h9.symm
            go_wp2_with fail
            refine (rlread_nil _ _).mono ?_
            rintro e w9 ⟨rfl, h9⟩
            obtain rfl := h9.symm
            go_wp2_with fail
            refine hSB.out.mono ?_
            rintro e w9 ⟨rfl, hb9⟩
            have HB9 := hid (hBc.out.trans (hb9.mono hBc.out.size))
            clear hb9
            go_wp2
            exact ⟨⟨c + 1, by omega, by rw [HX.out]; go_num, HB9⟩, by rw [HX.out]; simp [intOf]; omega⟩
          · obtain rfl : c = 2 := by omega
            go_wp2_with fail
            refine (rlpages_nil _).mono ?_
            rintro e w9 ⟨rfl, h9⟩
            obtain rfl := h9.symm
            go_wp2_with fail
            refine (pages_nil _).mono ?_
            rintro e w9 ⟨rfl, h9⟩
            obtain rfl := h9.symm
            go_wp2_with fail
            refine (rlpages_nil _).mono ?_
            rintro e w9 ⟨rfl, h9⟩
            obtain rfl := h9.symm
            go_wp2_with fail
            refine (capacity_nil _).mono ?_
            rintro e w9 ⟨rfl, h9⟩
            obtain rfl := h9.symm
            go_wp2_with fail
            refine (rlcap_nil _).mono ?_
            rintro e w9 ⟨rfl, h9⟩
            obtain rfl := h9.symm
            go_wp2_with fail
            refine (recovered_nil _).mono ?_
            rintro e w9 ⟨rfl, h9⟩
            obtain rfl := h9.symm
            go_wp2_with fail
            refine (rlrec_nil _).mono ?_
            rintro e w9 ⟨rfl, h9⟩
            obtain rfl := h9.symm
            go_wp2
            go_ret
            exact ⟨rfl, hBc.out⟩
theorem img_at {S : DiskS} (h : Made S) (k : Nat) (hk : k < S.safe.length) : (atL (refOf S) (refOf S).l.length)[k]? = some (seenS S.safe S.waits (k : Int)).data.toList := by
  rw [← h.alike.img, bytesOf, List.getElem?_map, List.getElem?_eq_getElem (by rw [length_imgS]; exact hk), imgS_at]
  rfl
theorem pagesAt.keepF {w w' : World} {pa : Option Addr} {ps : List PageS} {G : Nat → Prop} (h : pagesAt w pa ps) (k : Keeps G w w') (hG : ∀ ad, pa = some ad → ¬ G ad.block) : pagesAt w' pa ps := fun j hj => by
  obtain ⟨b, o, e, hc⟩ := h j hj
  exact ⟨b, o, e, fun i hi => ⟨k.cell (ad := ⟨b, o + i * 2, none⟩) (hc i hi).1 (hG ⟨b, o, none⟩ e), k.cell (ad := ⟨b, o + i * 2 + 1, none⟩) (hc i hi).2 (hG ⟨b, o, none⟩ e)⟩⟩
theorem wlog_rec {p : Nat} {d : DL} {S : DiskS} {size rec : Nat} {F : Nat → Prop} (w : World) (h : LogIn w p d S size rec F) : Calls Tryz.prog 18 #[.pointer (some ⟨p, 0, none⟩)] w fun e w' => e = .returned (.int .i64 rec) ∧ w' = w := by
  have c2 : w.cell? ⟨p, 2, none⟩ = some (.int .i64 rec) := cell_of_block h.heap 2
  clear h
  go_enter Tryz.func18, Tryz.ntmps18
  go_wp2
  go_ret
  exact ⟨rfl, rfl⟩
set_option maxRecDepth 100000 in
set_option maxHeartbeats 4000000 in
theorem walPlays_ok (n : Int) (N size : Nat) (hN : smallI n = (N : Int)) (h1 : 1 ≤ size) (h2 : size + 2 ≤ N) (h3 : N ≤ 30) (ds : List WDeed) (a : Option Addr) (c : Nat) (w : World) (hds : wdeedsAt w a ds) :
    Calls Tryz.prog 3 #[.int .i64 n, .int .i64 size, .slice a ds.length c] w fun e w' => e = .returned (.bool true) ∧ Below w.heap.size w w' := by
  have hD := hid hds
  have HOp := hid (wopen_pl N size h1 h2 (by omega) w)
  have hsm := small_any n w
  rw [hN] at hsm
  have HSm := hid hsm
  clear hds hN hsm
  go_enter Tryz.func3, Tryz.ntmps3
  go_wp2_with fail
  refine HSm.out.mono ?_
  clear HSm
  rintro e w0 ⟨rfl, h0⟩
  obtain rfl := h0.symm
  go_wp2_with fail
  refine HOp.out.mono ?_
  clear HOp
  rintro e w1 ⟨hb1, p, d1, q, r, fv, F1, Rd1, rfl, hp1, hpq, hpr, hL1, hT1, hfv1, hF1, hR1, hRd1, hap1⟩
  have hpl := lt_of_heap hL1.heap
  have HP1 : Hid (Pl w w1 p d1 (freshN N) size N 0 F1 q r fv (.slice none 0 0) [] Rd1) := by
    rw [rfresh_ref] at hR1
    exact ⟨⟨hL1, fun i hi => Nat.lt_trans (hF1 i hi).2 hpl, fun i hi => (hF1 i hi).1, freshN_len N, rfl, Nat.zero_le _, made_fresh _ (by simp; omega) (fun s hs => by rw [List.eq_of_mem_replicate hs]; exact blank_size), by omega, headOk_fresh N (by omega), hb1⟩, hT1, hfv1, hR1, hap1, fun i hi => ⟨by have := hF1 i hi; omega, by have := hF1 i hi; omega⟩, ⟨hpq, hpr⟩, hp1⟩
  clear hb1 hp1 hpq hpr hL1 hT1 hfv1 hF1 hR1 hRd1 hap1 hpl
  go_wp2_with fail
  refine (wlive_any w1).mono ?_
  rintro e w2 ⟨rfl, hb2⟩
  have HP2 := hid (HP1.out.next hb2)
  clear hb2 HP1
  go_wp2
  go_loopw [10] (fun i wr => ∃ (k : Nat) (d : DL) (S : DiskS) (F : Nat → Prop) (lv : Value) (vs : List Value) (Rd : Nat → Prop), k ≤ ds.length ∧ k ≤ 12 ∧ i = .int .i64 k ∧ Hid (Pl w wr p d S size N k F q r fv lv vs Rd)) (fun i _ => 12 - (intOf i).toNat)
  case atStart => exact ⟨0, _, _, _, _, _, _, by omega, by omega, rfl, HP2⟩
  case round =>
    obtain ⟨k, d, S, F, lv, vs, Rd, hk1, hk2, rfl, hM⟩ := hrel
    clear HP2
    by_cases hlt : k < ds.length ∧ k < 12
    · obtain ⟨hka, hkb⟩ := hlt
      have hk0 : (0 : Int) ≤ (k : Int) := by omega
      have hka' : (k : Int) < (ds.length : Int) := by omega
      have hkb' : (k : Int) < 12 := by omega
      obtain ⟨ab, ao, rfl, hdk⟩ := hD.out k hka
      have hDk := hid (hdk k hka)
      obtain ⟨D, hDe⟩ : ∃ D, D = ds[k] := ⟨_, rfl⟩
      rw [← hDe] at hDk
      clear hdk hDe
      obtain ⟨q0, q1, q2, hin, -⟩ := hDk.out.below hM.out.mid.below
      have HDp := hid (deed_any D.s D.ns D.na D.nc D.x wr hin)
      clear hin
      go_wp2_with fail
      refine HDp.out.mono ?_
      clear HDp
      rintro e w4 ⟨hb4, hd4⟩
      obtain ⟨pa, pc, bs, rfl, hps, hbs, hpab⟩ := deedAny_pages hd4
      obtain ⟨m, hm⟩ : ∃ m, m = min D.ns.length 102 := ⟨_, rfl⟩
      rw [← hm] at hps hbs ⊢
      have hm2 : m ≤ 102 := by omega
      have hdr : Below w4.heap.size w4 w4.drew := (Below.refl _ w4).drew
      have hMd := (hM.out.next hb4).next hdr
      have hmade := hM.out.mid.made
      have hlenS := hM.out.mid.len
      have hcm := commit_deed_fv D.s D.ns m D.x bs pa pc w4.drew wr.heap.size hMd.mid.log hM.out.mid.lt hb4.size (by rw [hlenS]; omega) (hps.below hdr) (fun j hj => ⟨(hbs j hj).1, (hbs j hj).2.below hdr⟩) (by have := hM.out.mid.ops; omega)
      obtain ⟨E, hE⟩ : ∃ E, E = comErr (pagesS S size) size (deedPs D.s D.ns bs m) := ⟨_, rfl⟩
      rw [← hE] at hcm
      have HCm := hid hcm
      have HE := hid hE
      have HDp : Hid (∀ W, Below w.heap.size w W → Calls Tryz.prog 8 #[.agg #[.bool D.s, .slice D.na D.ns.length D.nc, .int .u8 (D.x.toNat : Int)]] W fun e w' => Below W.heap.size W w' ∧ DeedAny D.s D.ns m D.x W.heap.size w' e) := fun W hW => by
        obtain ⟨-, -, -, hi, -⟩ := hDk.out.below hW
        rw [hm]
        exact deed_any D.s D.ns D.na D.nc D.x W hi
      have HCe : Hid (∀ W, Below w.heap.size w W → W.cell? ⟨ab, ao + k * 3, none⟩ = some (.bool D.s) ∧ W.cell? ⟨ab, ao + k * 3 + 1, none⟩ = some (.slice D.na D.ns.length D.nc) ∧ W.cell? ⟨ab, ao + k * 3 + 2, none⟩ = some (.int .u8 (D.x.toNat : Int))) := fun W hW => by
        obtain ⟨x0, x1, x2, -, -⟩ := hDk.out.below hW
        exact ⟨x0, x1, x2⟩
      have HMd := hid hMd
      have HLt : Hid (p < wr.heap.size ∧ q < wr.heap.size ∧ r < wr.heap.size ∧ (∀ i, F i → i < wr.heap.size) ∧ (∀ i, Rd i → i < wr.heap.size) ∧ w.heap.size ≤ wr.heap.size) := ⟨lt_of_heap hM.out.mid.log.heap, lt_of_heap hM.out.rlog.heap, lt_of_heap hM.out.rlog.disk.heap, hM.out.mid.lt, hM.out.rlog.rd, hM.out.mid.below.size⟩
      have HBs : Hid (∀ j, j < m → wr.heap.size ≤ bs j ∧ bs j < w4.heap.size ∧ ownB w4.drew (bs j) (rowX D.x j)) := fun j hj => ⟨(hbs j hj).1, (hbs j hj).2.lt, (hbs j hj).2.below hdr⟩
      have HPs := hid (hps.below hdr)
      have HPb := hid hpab
      have HMade := hid hmade
      have HLen := hid hlenS
      have HOps := hid hM.out.mid.ops
      obtain ⟨r0, r1, r2⟩ := HCe.out w4 (hM.out.next hb4).mid.below
      have hsz4 := hb4.size
      clear hb4 hd4 hps hbs hpab hm q0 q1 q2 hMd hcm hE hmade hlenS hM hdr hDk
      go_wp2
      refine wp_region_noPanic ?_
      refine wp_region_held_drew (S := fun W => W.cell? ⟨ab, ao + k * 3, none⟩ = some (.bool D.s) ∧ W.cell? ⟨ab, ao + k * 3 + 1, none⟩ = some (.slice D.na D.ns.length D.nc) ∧ W.cell? ⟨ab, ao + k * 3 + 2, none⟩ = some (.int .u8 (D.x.toNat : Int))) (by kernel_rfl) ⟨r0, r1, r2⟩ (fun hHeld => ?_)
      refine wpAnyH_take (i := 0) (v := ?_) rfl (by kernel_rfl) (by kernel_rfl) (by kernel_rfl) (fun _ _ _ h => h) (Or.inl ⟨by rfl, ?_⟩) (by assumption) ?_
      rotate_left
      · (intro W hSw; (try dsimp only at hSw); obtain ⟨s1, s2, s3⟩ := hSw; go_simp; try with_reducible rfl)
      try simp only [List.getElem_toArray, List.getElem_cons_zero, Act.put, List.setIfInBounds_toArray, List.set_cons_zero, List.set_cons_succ]
      refine wpAnyH_take (i := 1) (v := ?_) rfl (by kernel_rfl) (by kernel_rfl) (by kernel_rfl) (fun _ _ _ h => h) (Or.inl ⟨by rfl, ?_⟩) (by assumption) ?_
      rotate_left
      · (intro W hSw; (try dsimp only at hSw); obtain ⟨s1, s2, s3⟩ := hSw; go_simp; try with_reducible rfl)
      try simp only [List.getElem_toArray, List.getElem_cons_succ, List.getElem_cons_zero, Act.put, List.setIfInBounds_toArray, List.set_cons_zero, List.set_cons_succ]
      refine wpAnyH_take (i := 3) (v := ?_) rfl (by kernel_rfl) (by kernel_rfl) (by kernel_rfl) (fun _ _ _ h => h) (Or.inl ⟨by rfl, ?_⟩) (by assumption) ?_
      rotate_left
      · (intro W hSw; (try dsimp only at hSw); obtain ⟨s1, s2, s3⟩ := hSw; go_simp; try with_reducible rfl)
      try simp only [List.getElem_toArray, List.getElem_cons_succ, List.getElem_cons_zero, Act.put, List.setIfInBounds_toArray, List.set_cons_zero, List.set_cons_succ]
      refine wpAnyH_take (i := 4) (v := ?_) rfl (by kernel_rfl) (by kernel_rfl) (by kernel_rfl) (fun _ _ _ h => h) (Or.inl ⟨by rfl, ?_⟩) (by assumption) ?_
      rotate_left
      · (intro W hSw; (try dsimp only at hSw); obtain ⟨s1, s2, s3⟩ := hSw; go_simp; try with_reducible rfl)
      try simp only [List.getElem_toArray, List.getElem_cons_succ, List.getElem_cons_zero, Act.put, List.setIfInBounds_toArray, List.set_cons_zero, List.set_cons_succ]
      refine wpAnyH_take (i := 5) (v := ?_) rfl (by kernel_rfl) (by kernel_rfl) (by kernel_rfl) (fun _ _ _ h => h) (Or.inl ⟨by rfl, ?_⟩) (by assumption) ?_
      rotate_left
      · (intro W hSw; (try dsimp only at hSw); obtain ⟨s1, s2, s3⟩ := hSw; go_simp; try with_reducible rfl)
      try simp only [List.getElem_toArray, List.getElem_cons_succ, List.getElem_cons_zero, Act.put, List.setIfInBounds_toArray, List.set_cons_zero, List.set_cons_succ]
      refine wpAnyH_take (i := 6) (v := ?_) rfl (by kernel_rfl) (by kernel_rfl) (by kernel_rfl) (fun _ _ _ h => h) (Or.inl ⟨by rfl, ?_⟩) (by assumption) ?_
      rotate_left
      · (intro W hSw; (try dsimp only at hSw); obtain ⟨s1, s2, s3⟩ := hSw; go_simp; try with_reducible rfl)
      try simp only [List.getElem_toArray, List.getElem_cons_succ, List.getElem_cons_zero, Act.put, List.setIfInBounds_toArray, List.set_cons_zero, List.set_cons_succ]
      refine wpAnyH_take (i := 7) (v := ?_) rfl (by kernel_rfl) (by kernel_rfl) (by kernel_rfl) (fun _ _ _ h => h) (Or.inl ⟨by rfl, ?_⟩) (by assumption) ?_
      rotate_left
      · (intro W hSw; (try dsimp only at hSw); obtain ⟨s1, s2, s3⟩ := hSw; go_simp; try with_reducible rfl)
      try simp only [List.getElem_toArray, List.getElem_cons_succ, List.getElem_cons_zero, Act.put, List.setIfInBounds_toArray, List.set_cons_zero, List.set_cons_succ]
      refine wpAnyH_ready (rs := [2]) (by kernel_rfl) (by simp) (AllReadyH.cons rfl (fun K hKK => ?_) AllReadyH.nil)
      rw [if_pos (by rfl)]
      go_simp
      refine HCm.out.mono ?_
      clear HCm
      rintro e w5 ⟨rfl, d5, hd5, hL5, hK5⟩
      have HD5 := hid hd5
      have HL5 := hid hL5
      have HK5 := hid hK5
      have HB5 := hid (HMd.out.mid.below.trans (hK5.below HMd.out.mid.below.size HMd.out.mid.new))
      have HR5 := hid (HMd.out.ref5 hK5)
      have hsz5 : w4.heap.size ≤ w5.heap.size := hK5.size
      obtain ⟨y0, y1, y2⟩ := HCe.out w5 HB5.out
      clear hd5 hL5 hK5 r0 r1 r2
      go_wp2_with fail
      refine hKK.out _ _ ⟨y0, y1, y2⟩ (fun hHeld => ?_)
      clear hKK K
      try simp only [List.getElem_toArray, List.getElem_cons_succ, List.getElem_cons_zero, Act.put, List.setIfInBounds_toArray, List.set_cons_zero, List.set_cons_succ]
      refine wpAnyH_ready (rs := [8]) (by kernel_rfl) (by simp) (AllReadyH.cons rfl (fun K hKK => ?_) AllReadyH.nil)
      rw [if_pos (by rfl)]
      go_simp
      refine (HDp.out w5 HB5.out).mono ?_
      clear HDp
      rintro e w6 ⟨hb6, hd6⟩
      obtain ⟨pa6, pc6, cs, rfl, hps6, hcs, -⟩ := deedAny_pages hd6
      have HB6 := hid hb6
      have HBw6 := hid (HB5.out.trans (hb6.mono HB5.out.size))
      have hrc := rcommit_deed D.s D.ns m D.x cs pa6 pc6 w6 w5.heap.size (HR5.out.below hb6) (by have := HLt.out.2.2.1; omega) HMd.out.okR (by rw [refOf_len]; have := HOps.out; omega) (by rw [HMd.out.flen]; omega) hps6 hcs
      rw [HMade.out.pagesR, ← (likeP_deed D.s D.ns bs cs m).com, ← HE.out] at hrc
      have HRc := hid hrc
      obtain ⟨z0, z1, z2⟩ := HCe.out w6 HBw6.out
      have hsz6 := hb6.size
      clear hb6 hd6 hps6 hcs hrc y0 y1 y2 HR5
      go_wp2_with fail
      refine hKK.out _ _ ⟨z0, z1, z2⟩ (fun hHeld => ?_)
      clear hKK K
      try simp only [List.getElem_toArray, List.getElem_cons_succ, List.getElem_cons_zero, Act.put, List.setIfInBounds_toArray, List.set_cons_zero, List.set_cons_succ]
      refine wpAnyH_ready (rs := [9]) (by kernel_rfl) (by simp) (AllReadyH.cons rfl (fun K hKK => ?_) AllReadyH.nil)
      rw [if_pos (by rfl)]
      go_simp
      refine HRc.out.mono ?_
      clear HRc
      rintro e w7 ⟨rfl, lv7, vs7, hR7, hK7⟩
      have hP7 := HMd.out.round (by omega) (likeP_deed D.s D.ns bs cs m) (rowX D.x) (length_rowX D.x) HD5.out HL5.out HK5.out HB6.out hR7 hK7
      have HP7 := hid hP7
      have HAll : Hid (ownAll w7 bs m) := fun j hj => by
        obtain ⟨e1, e2, e3⟩ := HBs.out j hj
        obtain ⟨f1, f2, f3, f4, f5, f6⟩ := HLt.out
        exact ⟨_, length_rowX D.x j, ((e3.keep HK5.out (fun hf => by have := f4 _ hf; omega)).below HB6.out).keep hK7 (fun e => by omega)⟩
      have HPs7 : Hid (pagesAt w7 pa (deedPs D.s D.ns bs m)) := by
        obtain ⟨f1, f2, f3, f4, f5, f6⟩ := HLt.out
        exact ((HPs.out.keepF HK5.out (fun ad e hf => by have := HPb.out ad e; have := f4 _ hf; omega)).below HB6.out).keepF hK7 (fun ad e hf => by have := HPb.out ad e; omega)
      have HKeep : Hid (∀ W, Keeps (fun i => ∃ j, j < m ∧ i = bs j) w7 W → Pl w W p d5 (comS S size (deedPs D.s D.ns bs m) (rowX D.x)) size N (k + 1) (fun i => F i ∨ (w4.drew.heap.size ≤ i ∧ i < w5.heap.size)) q r fv lv7 vs7 (moreOf Rd w6 w7)) := fun W hW => by
        obtain ⟨f1, f2, f3, f4, f5, f6⟩ := HLt.out
        have hdz : w4.drew.heap.size = w4.heap.size := rfl
        refine HP7.out.keepG hW (fun i hi ⟨j, hj, e⟩ => ?_) (fun i hi ⟨j, hj, e⟩ => ?_) (fun ⟨j, hj, e⟩ => ?_) (fun ⟨j, hj, e⟩ => ?_) (fun ⟨j, hj, e⟩ => ?_) (fun i hi ⟨j, hj, e⟩ => ?_) (fun i ⟨j, hj, e⟩ => ?_)
        · obtain ⟨e1, e2, -⟩ := HBs.out j hj
          rcases hi with hi | hi
          · have := f4 i hi; omega
          · omega
        · obtain ⟨e1, e2, -⟩ := HBs.out j hj
          rcases hi with hi | hi
          · have := f5 i hi; omega
          · omega
        · have := (HBs.out j hj).1; omega
        · have := (HBs.out j hj).1; omega
        · have := (HBs.out j hj).1; omega
        · have := (HBs.out j hj).1; have := HP7.out.fvp i hi; omega
        · have := (HBs.out j hj).1; omega
      have HBw7 := hid hP7.mid.below
      obtain ⟨z3, z4, z5⟩ := HCe.out w7 HBw7.out
      have hEE : (E == E) = true := beq_self_eq_true E
      clear hR7 hK7 hP7 HBs HPs HPb z0 z1 z2 HB6 HB5 HD5 HL5 HK5 HMd HMade HLen
      generalize comS S size (deedPs D.s D.ns bs m) (rowX D.x) = S7 at *
      generalize (fun i => F i ∨ (w4.drew.heap.size ≤ i ∧ i < w5.heap.size)) = F7 at *
      generalize moreOf Rd w6 w7 = Rd7 at *
      go_wp2_with fail
      refine hKK.out _ _ ⟨z3, z4, z5⟩ (fun hHeld => ?_)
      clear hKK K
      try simp only [List.getElem_toArray, List.getElem_cons_succ, List.getElem_cons_zero, Act.put, List.setIfInBounds_toArray, List.set_cons_zero, List.set_cons_succ]
      refine wpAnyH_take (i := 10) (v := .bool false) rfl (by kernel_rfl) (by kernel_rfl) (by kernel_rfl) (fun _ _ _ h => h) (Or.inl ⟨by rfl, ?_⟩) (by assumption) ?_
      · (intro W hSw; (try dsimp only at hSw); obtain ⟨s1, s2, s3⟩ := hSw; go_simp; try first | with_reducible rfl | go_num | (rw [if_pos (by assumption)]; simp only [*]) | simp only [*])
      try simp only [List.getElem_toArray, List.getElem_cons_succ, List.getElem_cons_zero, Act.put, List.setIfInBounds_toArray, List.set_cons_zero, List.set_cons_succ]
      refine wpAnyH_done (by kernel_rfl) ?_ _
      refine NoPanic.normal ?_
      clear hHeld z3 z4 z5 hEE
      go_wp2
      go_loopw [12] (fun i wi => ∃ c : Nat, c ≤ m ∧ i = .int .i64 c ∧ Hid (Keeps (fun i => ∃ j, j < m ∧ i = bs j) w7 wi) ∧ Hid (ownAll wi bs m)) (fun i _ => m - (intOf i).toNat)
      case atStart => exact ⟨0, by omega, rfl, Keeps.refl _ _, HAll⟩
      case round =>
        obtain ⟨c, hc, rfl, hKc, hAc⟩ := hrel
        by_cases hcm : c < m
        · have hc0 : (0 : Int) ≤ (c : Int) := by omega
          have hc1 : (c : Int) < (m : Int) := by omega
          obtain ⟨b, o, rfl, hpc⟩ := HPs7.out c (by rw [length_deedPs]; exact hcm)
          obtain ⟨-, p1⟩ := hpc c (by rw [length_deedPs]; exact hcm)
          rw [deedPs_at] at p1
          have hbG : ¬ (∃ j, j < m ∧ b = bs j) := fun ⟨j, hj, e⟩ => by
            obtain ⟨L, -, hL⟩ := HAll.out j hj
            exact hL.not p1 (fun n => by simp [PageS.val]) e
          have HPc : Hid (∀ W, Keeps (fun i => ∃ j, j < m ∧ i = bs j) w7 W → W.cell? ⟨b, o + c * 2 + 1, none⟩ = some (.slice (some ⟨bs c, 0, none⟩) (plen D.s c) 512)) := fun W hW => hW.cell (ad := ⟨b, o + c * 2 + 1, none⟩) p1 hbG
          have hpl : plen D.s c ≤ 512 := by unfold plen; split <;> omega
          clear hpc p1 hbG
          generalize plen D.s c = pl at *
          go_wp2
          go_loopw [13] (fun i wi => ∃ t : Nat, t ≤ pl ∧ i = .int .i64 t ∧ Hid (Keeps (fun i => ∃ j, j < m ∧ i = bs j) w7 wi) ∧ Hid (ownAll wi bs m)) (fun i _ => pl - (intOf i).toNat)
          case atStart => exact ⟨0, by omega, rfl, hKc, hAc⟩
          case round =>
            obtain ⟨t, ht, rfl, hKt, hAt⟩ := hrel
            have c1 := HPc.out wr hKt.out
            by_cases htl : t < pl
            · have ht0 : (0 : Int) ≤ (t : Int) := by omega
              have ht1 : (t : Int) < (pl : Int) := by omega
              have ht2 : (t : Int) < 512 := by omega
              obtain ⟨L, hl, hL⟩ := hAt.out c hcm
              have g0 := hL.frozen t
              obtain ⟨z, k0⟩ : ∃ z, wr.cell? ⟨bs c, t, none⟩ = some (.int .u8 z) := ⟨_, hL.cell t (by omega)⟩
              have HSt := hid (hAt.out.set (bs c) t)
              have HKs : Hid (Keeps (fun i => ∃ j, j < m ∧ i = bs j) w7 (wr.setCell ⟨bs c, t, none⟩ (.int .u8 99))) := hKt.out.grown (grown_setCell (grown_refl _ _) _ _) (fun i e => .inl ⟨c, hcm, (Option.some.inj e).symm⟩)
              clear hL hl
              go_wp2
              exact ⟨⟨t + 1, by omega, by go_num, HKs, HSt⟩, by simp [intOf]; omega⟩
            · obtain rfl : t = pl := by omega
              have hge3 : ¬ ((t : Int) < (t : Int)) := by omega
              go_wp2
              exact ⟨⟨c + 1, by omega, by go_num, hKt, hAt⟩, by simp [intOf]; omega⟩
        · obtain rfl : c = m := by omega
          have hge2 : ¬ ((c : Int) < (c : Int)) := by omega
          have HEnd := hid (HKeep.out _ hKc.out)
          go_wp2
          exact ⟨⟨k + 1, _, _, _, _, _, _, by omega, by omega, by go_num, HEnd⟩, by simp [intOf]; omega⟩
    · have hMade := hid hM.out.mid.made
      have hLenS := hid hM.out.mid.len
      have hOps := hid hM.out.mid.ops
      obtain ⟨wz, hwz⟩ : ∃ wz, wz = wr := ⟨_, rfl⟩
      rw [← hwz] at hM
      obtain ⟨NP, hNP⟩ : ∃ NP, NP = pagesS S size := ⟨_, rfl⟩
      have hnp : NP ≤ 28 := by rw [hNP]; unfold pagesS; rw [hLenS.out]; omega
      have HNP := hid hNP
      have HLg := hid (fun W (hW : Below wz.heap.size wz W) => (hM.out.next hW).mid.log)
      have HRg := hid (fun W (hW : Below wz.heap.size wz W) => (hM.out.next hW).rlog)
      have HoR := hid hM.out.okR
      have HFl := hid hM.out.flen
      have HFs : Hid (size + 1 ≤ S.safe.length) := by unfold Hid; rw [hLenS.out]; omega
      have HFr : Hid (size + 1 ≤ (refOf S).first.length) := by unfold Hid; rw [HFl.out]; omega
      have HRl : Hid ((refOf S).l.length ≤ 3000) := by unfold Hid; rw [refOf_len]; have := hOps.out; omega
      have hpr := hMade.out.pagesR size
      rw [← HNP.out] at hpr
      have HPr := hid hpr
      have HBw := hid hM.out.mid.below
      have HRp : Hid (∀ W, Below wz.heap.size wz W → Calls Tryz.prog 11 #[.pointer (some ⟨q, 0, none⟩)] W fun e w' => e = .returned (.int .i64 (NP : Nat)) ∧ Below W.heap.size W w') := fun W hW => by
        have := rlpages_any W (HRg.out W hW) HoR.out.1 HFr.out
        rwa [HPr.out] at this
      have HLp : Hid (∀ W, Below wz.heap.size wz W → Calls Tryz.prog 15 #[.pointer (some ⟨p, 0, none⟩)] W fun e w' => e = .returned (.int .i64 (NP : Nat)) ∧ Below W.heap.size W w') := fun W hW => by
        have := log_pages W (HLg.out W hW) HFs.out
        rwa [← HNP.out] at this
      have HLc := hid (fun W (hW : Below wz.heap.size wz W) => log_capacity W (HLg.out W hW) (by omega))
      have HRc := hid (fun W (hW : Below wz.heap.size wz W) => rlcap_any W (HRg.out W hW))
      have HLr := hid (fun W (hW : Below wz.heap.size wz W) => wlog_rec W (HLg.out W hW))
      have HRr := hid (fun W (hW : Below wz.heap.size wz W) => rlrec_any W (HRg.out W hW))
      have HLd := hid (fun W (hW : Below wz.heap.size wz W) => log_disk W (HLg.out W hW) (by have := hOps.out; omega))
      have HRd := hid (fun W (hW : Below wz.heap.size wz W) => rldisk_any W (HRg.out W hW))
      have HRn : Hid (∀ (x : Int) W, Below wz.heap.size wz W → ¬ (0 ≤ x ∧ x < (NP : Int)) → (Calls Tryz.prog 12 #[.pointer (some ⟨p, 0, none⟩), .int .i64 x] W fun e w' => e = .returned (.tuple #[.slice none 0 0, .int .i64 2]) ∧ Below W.heap.size W w') ∧ (Calls Tryz.prog 13 #[.pointer (some ⟨q, 0, none⟩), .int .i64 x] W fun e w' => e = .returned (.tuple #[.slice none 0 0, .int .i64 2]) ∧ Below W.heap.size W w')) := fun x W hW hx =>
        ⟨log_read_no x W (HLg.out W hW) HFs.out (by rw [← HNP.out]; exact hx), rlread_no x W (HRg.out W hW) HoR.out.1 HFr.out (by rw [HPr.out]; exact hx)⟩
      have HRo : Hid (∀ x : Nat, x < NP → ∃ bs : List UInt8, bs.length = 512 ∧ (∀ W, Below wz.heap.size wz W → (Calls Tryz.prog 12 #[.pointer (some ⟨p, 0, none⟩), .int .i64 (x : Int)] W fun e w' => ∃ b c, e = .returned (.tuple #[.slice (some ⟨b, 0, none⟩) 512 c, .int .i64 0]) ∧ bytesIn w' (some ⟨b, 0, none⟩) bs ∧ Below W.heap.size W w') ∧ (Calls Tryz.prog 13 #[.pointer (some ⟨q, 0, none⟩), .int .i64 (x : Int)] W fun e w' => ∃ b c, e = .returned (.tuple #[.slice (some ⟨b, 0, none⟩) 512 c, .int .i64 0]) ∧ bytesIn w' (some ⟨b, 0, none⟩) bs ∧ Below W.heap.size W w'))) := fun x hx => by
        have hx1 : size + 1 + x < S.safe.length := by rw [HNP.out] at hx; unfold pagesS at hx; omega
        have hsz : (seenS S.safe S.waits ((size + 1 + x : Nat) : Int)).size = 512 := hMade.out.seen (size + 1 + x) hx1
        have ei : (1 + (size : Int) + (x : Int)) = ((size + 1 + x : Nat) : Int) := by omega
        have hbl : (seenS S.safe S.waits ((size + 1 + x : Nat) : Int)).data.toList.length = 512 := by rw [Array.length_toList]; exact hsz
        refine ⟨(seenS S.safe S.waits ((size + 1 + x : Nat) : Int)).data.toList, hbl, fun W hW => ⟨?_, ?_⟩⟩
        · refine (log_read x W (HLg.out W hW) HFs.out (by rw [← HNP.out]; exact hx)).mono ?_
          rintro e w' ⟨b, c, rfl, -, h4, h5⟩
          rw [ei] at h4 ⊢
          rw [hsz]
          exact ⟨b, c, rfl, bytesIn_of_at h4, h5⟩
        · refine (rlread_ok x _ W (HRg.out W hW) HoR.out (by have := HRl.out; omega) HFr.out (by rw [HPr.out]; exact hx) (img_at hMade.out (size + 1 + x) hx1) hbl).mono ?_
          rintro e w' ⟨h5, g, cap, rfl, h4⟩
          exact ⟨g, cap, rfl, h4, h5⟩
      have HAl := hid hMade.out.alike
      clear hMade hOps hNP hpr hLenS HoR HFl HFs HFr HPr HNP HLg HRg hM
      generalize min size 100 = cp at *
      by_cases hg : k < ds.length
      · have hge : ((k : Int) < (ds.length : Int)) := by omega
        have hge2 : ¬ ((k : Int) < 12) := by omega
        clear hlt hg
        go_wp2
        go_loopw [14] (fun i wi => ∃ c : Nat, c ≤ NP + 2 ∧ i = .int .i64 ((c : Int) - 1) ∧ Hid (Below wz.heap.size wz wi)) (fun i _ => (40 - (intOf i + 1)).toNat)
        case atStart => exact ⟨0, by omega, rfl, by rw [hwz]; exact Below.refl _ _⟩
        case round =>
          obtain ⟨c, hc, rfl, HBc⟩ := hrel
          by_cases hc2 : c < NP + 2
          · obtain ⟨x, hx⟩ : ∃ x : Int, x = (c : Int) - 1 := ⟨_, rfl⟩
            rw [← hx]
            have HX := hid hx
            have hx0 : x ≤ (NP : Int) := by omega
            have hx1 : x < 40 := by omega
            have hx2 : -1 ≤ x := by omega
            clear hx
            by_cases hr2 : 0 ≤ x ∧ x < (NP : Int)
            · obtain ⟨y, rfl⟩ : ∃ y : Nat, x = (y : Int) := ⟨x.toNat, by omega⟩
              obtain ⟨bs, hbl, hrd⟩ := HRo.out y (by omega)
              have HRd2 := hid hrd
              clear hrd hr2
              go_wp2_with fail
              refine (HRp.out _ HBc.out).mono ?_
              rintro e w3 ⟨rfl, hb⟩
              have HB3 := hid (HBc.out.trans (hb.mono HBc.out.size))
              clear hb
              go_wp2_with fail
              refine (HRd2.out _ HB3.out).1.mono ?_
              rintro e w4 ⟨b4, c4, rfl, hby4, hb4⟩
              have HB4 := hid (HB3.out.trans (hb4.mono HB3.out.size))
              have HY4 := hid hby4
              clear hb4 hby4
              go_wp2_with fail
              refine (HRd2.out _ HB4.out).2.mono ?_
              rintro e w5 ⟨b5, c5, rfl, hby5, hb5⟩
              have HB5 := hid (HB4.out.trans (hb5.mono HB4.out.size))
              have hsb := same_bytes bs bs (some ⟨b4, 0, none⟩) (some ⟨b5, 0, none⟩) c4 c5 w5 (HY4.out.below hb5) hby5 (by rw [hbl]; decide)
              rw [decide_eq_true rfl, hbl] at hsb
              have HSB := hid hsb
              clear hb5 hby5 hsb hbl
              go_wp2_with fail
              refine HSB.out.mono ?_
              clear HSB
              rintro e w6 ⟨rfl, hb6⟩
              have HB6 := hid (HB5.out.trans (hb6.mono HB5.out.size))
              clear hb6
              go_wp2
              have hX := HX.out
              exact ⟨⟨c + 1, by omega, by rw [hX]; go_num, HB6⟩, by simp [intOf]; omega⟩
            · have HRn2 := hid (fun W hW => HRn.out x W hW hr2)
              clear hr2
              go_wp2_with fail
              refine (HRp.out _ HBc.out).mono ?_
              rintro e w3 ⟨rfl, hb⟩
              have HB3 := hid (HBc.out.trans (hb.mono HBc.out.size))
              clear hb
              go_wp2_with fail
              refine (HRn2.out _ HB3.out).1.mono ?_
              rintro e w4 ⟨rfl, hb4⟩
              have HB4 := hid (HB3.out.trans (hb4.mono HB3.out.size))
              clear hb4
              go_wp2_with fail
              refine (HRn2.out _ HB4.out).2.mono ?_
              rintro e w5 ⟨rfl, hb5⟩
              have HB5 := hid (HB4.out.trans (hb5.mono HB4.out.size))
              have HSB := hid (same_bytes [] [] none none 0 0 w5 (fun j hj => by simp at hj) (fun j hj => by simp at hj) (by decide))
              clear hb5
              go_wp2_with fail
              refine HSB.out.mono ?_
              clear HSB
              rintro e w6 ⟨rfl, hb6⟩
              have HB6 := hid (HB5.out.trans (hb6.mono HB5.out.size))
              clear hb6
              go_wp2
              have hX := HX.out
              exact ⟨⟨c + 1, by omega, by rw [hX]; go_num, HB6⟩, by rw [hX]; simp [intOf]; omega⟩
          · obtain rfl : c = NP + 2 := by omega
            have hxx : ¬ (((NP + 2 : Nat) : Int) - 1 ≤ (NP : Int)) := by omega
            go_wp2_with fail
            refine (HRp.out _ HBc.out).mono ?_
            rintro e w3 ⟨rfl, hb⟩
            have HB3 := hid (HBc.out.trans (hb.mono HBc.out.size))
            clear hb
            clear hxx
            go_wp2_with fail
            refine (HLp.out _ HB3.out).mono ?_
            rintro e w4 ⟨rfl, hb⟩
            have HB4 := hid (HB3.out.trans (hb.mono HB3.out.size))
            clear hb
            go_wp2_with fail
            refine (HRp.out _ HB4.out).mono ?_
            rintro e w5 ⟨rfl, hb⟩
            have HB5 := hid (HB4.out.trans (hb.mono HB4.out.size))
            clear hb
            go_wp2_with fail
            refine (HLc.out _ HB5.out).mono ?_
            rintro e w6 ⟨rfl, hb⟩
            have HB6 := hid (HB5.out.trans (hb.mono HB5.out.size))
            clear hb
            go_wp2_with fail
            refine (HRc.out _ HB6.out).mono ?_
            rintro e w9 ⟨rfl, h9⟩
            obtain rfl := h9.symm
            go_wp2_with fail
            refine (HLr.out _ HB6.out).mono ?_
            rintro e w9 ⟨rfl, h9⟩
            obtain rfl := h9.symm
            go_wp2_with fail
            refine (HRr.out _ HB6.out).mono ?_
            rintro e w9 ⟨rfl, h9⟩
            obtain rfl := h9.symm
            go_wp2_with fail
            refine (HLd.out _ HB6.out).mono ?_
            rintro e w7 ⟨hb7, d7, rfl, hC7, -⟩
            have HB7 := hid (HB6.out.trans (hb7.mono HB6.out.size))
            have HC7 := hid hC7
            clear hb7 hC7
            go_wp2_with fail
            refine (HRd.out _ HB7.out).mono ?_
            rintro e w8 ⟨rfl, hb8, hR8⟩
            have HB8 := hid (HB7.out.trans (hb8.mono HB7.out.size))
            have HS8 := hid (wsame_ref d7 S _ fv lv vs _ (refOf S) w8 (HC7.out.below hb8).rd hR8 HAl.out (by have := HRl.out; omega))
            clear hb8 hR8
            go_wp2_with fail
            refine HS8.out.mono ?_
            rintro e w10 ⟨rfl, hb10⟩
            have HB10 := hid (HB8.out.trans (hb10.mono HB8.out.size))
            clear hb10
            go_wp2
            go_ret
            exact ⟨rfl, HBw.out.trans (HB10.out.mono HBw.out.size)⟩
      · have hge : ¬ ((k : Int) < (ds.length : Int)) := by omega
        clear hlt hg
        go_wp2
        go_loopw [14] (fun i wi => ∃ c : Nat, c ≤ NP + 2 ∧ i = .int .i64 ((c : Int) - 1) ∧ Hid (Below wz.heap.size wz wi)) (fun i _ => (40 - (intOf i + 1)).toNat)
        case atStart => exact ⟨0, by omega, rfl, by rw [hwz]; exact Below.refl _ _⟩
        case round =>
          obtain ⟨c, hc, rfl, HBc⟩ := hrel
          by_cases hc2 : c < NP + 2
          · obtain ⟨x, hx⟩ : ∃ x : Int, x = (c : Int) - 1 := ⟨_, rfl⟩
            rw [← hx]
            have HX := hid hx
            have hx0 : x ≤ (NP : Int) := by omega
            have hx1 : x < 40 := by omega
            have hx2 : -1 ≤ x := by omega
            clear hx
            by_cases hr2 : 0 ≤ x ∧ x < (NP : Int)
            · obtain ⟨y, rfl⟩ : ∃ y : Nat, x = (y : Int) := ⟨x.toNat, by omega⟩
              obtain ⟨bs, hbl, hrd⟩ := HRo.out y (by omega)
              have HRd2 := hid hrd
              clear hrd hr2
              go_wp2_with fail
              refine (HRp.out _ HBc.out).mono ?_
              rintro e w3 ⟨rfl, hb⟩
              have HB3 := hid (HBc.out.trans (hb.mono HBc.out.size))
              clear hb
              go_wp2_with fail
              refine (HRd2.out _ HB3.out).1.mono ?_
              rintro e w4 ⟨b4, c4, rfl, hby4, hb4⟩
              have HB4 := hid (HB3.out.trans (hb4.mono HB3.out.size))
              have HY4 := hid hby4
              clear hb4 hby4
              go_wp2_with fail
              refine (HRd2.out _ HB4.out).2.mono ?_
              rintro e w5 ⟨b5, c5, rfl, hby5, hb5⟩
              have HB5 := hid (HB4.out.trans (hb5.mono HB4.out.size))
              have hsb := same_bytes bs bs (some ⟨b4, 0, none⟩) (some ⟨b5, 0, none⟩) c4 c5 w5 (HY4.out.below hb5) hby5 (by rw [hbl]; decide)
              rw [decide_eq_true rfl, hbl] at hsb
              have HSB := hid hsb
              clear hb5 hby5 hsb hbl
              go_wp2_with fail
              refine HSB.out.mono ?_
              clear HSB
              rintro e w6 ⟨rfl, hb6⟩
              have HB6 := hid (HB5.out.trans (hb6.mono HB5.out.size))
              clear hb6
              go_wp2
              have hX := HX.out
              exact ⟨⟨c + 1, by omega, by rw [hX]; go_num, HB6⟩, by simp [intOf]; omega⟩
            · have HRn2 := hid (fun W hW => HRn.out x W hW hr2)
              clear hr2
              go_wp2_with fail
              refine (HRp.out _ HBc.out).mono ?_
              rintro e w3 ⟨rfl, hb⟩
              have HB3 := hid (HBc.out.trans (hb.mono HBc.out.size))
              clear hb
              go_wp2_with fail
              refine (HRn2.out _ HB3.out).1.mono ?_
              rintro e w4 ⟨rfl, hb4⟩
              have HB4 := hid (HB3.out.trans (hb4.mono HB3.out.size))
              clear hb4
              go_wp2_with fail
              refine (HRn2.out _ HB4.out).2.mono ?_
              rintro e w5 ⟨rfl, hb5⟩
              have HB5 := hid (HB4.out.trans (hb5.mono HB4.out.size))
              have HSB := hid (same_bytes [] [] none none 0 0 w5 (fun j hj => by simp at hj) (fun j hj => by simp at hj) (by decide))
              clear hb5
              go_wp2_with fail
              refine HSB.out.mono ?_
              clear HSB
              rintro e w6 ⟨rfl, hb6⟩
              have HB6 := hid (HB5.out.trans (hb6.mono HB5.out.size))
              clear hb6
              go_wp2
              have hX := HX.out
              exact ⟨⟨c + 1, by omega, by rw [hX]; go_num, HB6⟩, by rw [hX]; simp [intOf]; omega⟩
          · obtain rfl : c = NP + 2 := by omega
            have hxx : ¬ (((NP + 2 : Nat) : Int) - 1 ≤ (NP : Int)) := by omega
            go_wp2_with fail
            refine (HRp.out _ HBc.out).mono ?_
            rintro e w3 ⟨rfl, hb⟩
            have HB3 := hid (HBc.out.trans (hb.mono HBc.out.size))
            clear hb
            clear hxx
            go_wp2_with fail
            refine (HLp.out _ HB3.out).mono ?_
            rintro e w4 ⟨rfl, hb⟩
            have HB4 := hid (HB3.out.trans (hb.mono HB3.out.size))
            clear hb
            go_wp2_with fail
            refine (HRp.out _ HB4.out).mono ?_
            rintro e w5 ⟨rfl, hb⟩
            have HB5 := hid (HB4.out.trans (hb.mono HB4.out.size))
            clear hb
            go_wp2_with fail
            refine (HLc.out _ HB5.out).mono ?_
            rintro e w6 ⟨rfl, hb⟩
            have HB6 := hid (HB5.out.trans (hb.mono HB5.out.size))
            clear hb
            go_wp2_with fail
            refine (HRc.out _ HB6.out).mono ?_
            rintro e w9 ⟨rfl, h9⟩
            obtain rfl := h9.symm
            go_wp2_with fail
            refine (HLr.out _ HB6.out).mono ?_
            rintro e w9 ⟨rfl, h9⟩
            obtain rfl := h9.symm
            go_wp2_with fail
            refine (HRr.out _ HB6.out).mono ?_
            rintro e w9 ⟨rfl, h9⟩
            obtain rfl := h9.symm
            go_wp2_with fail
            refine (HLd.out _ HB6.out).mono ?_
            rintro e w7 ⟨hb7, d7, rfl, hC7, -⟩
            have HB7 := hid (HB6.out.trans (hb7.mono HB6.out.size))
            have HC7 := hid hC7
            clear hb7 hC7
            go_wp2_with fail
            refine (HRd.out _ HB7.out).mono ?_
            rintro e w8 ⟨rfl, hb8, hR8⟩
            have HB8 := hid (HB7.out.trans (hb8.mono HB7.out.size))
            have HS8 := hid (wsame_ref d7 S _ fv lv vs _ (refOf S) w8 (HC7.out.below hb8).rd hR8 HAl.out (by have := HRl.out; omega))
            clear hb8 hR8
            go_wp2_with fail
            refine HS8.out.mono ?_
            rintro e w10 ⟨rfl, hb10⟩
            have HB10 := hid (HB8.out.trans (hb10.mono HB8.out.size))
            clear hb10
            go_wp2
            go_ret
            exact ⟨rfl, HBw.out.trans (HB10.out.mono HBw.out.size)⟩
end Go.Proofs.YtmnepbdbbdcllaaGreat
