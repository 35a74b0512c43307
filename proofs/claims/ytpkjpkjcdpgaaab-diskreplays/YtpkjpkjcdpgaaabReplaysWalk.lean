/- The walk of DiskReplays. -/
import Derived.Test.YtpkjpkjcdpgaaabShared
import Derived.Test.YtpkjpkjcdpgaaabSameRef
namespace Go.Proofs.Ytpkjpkjcdpgaaab
open Go.RowKit
/-- A deed that is an op. -/
def effD (D : DeedS) : Prop := D.f = true ∨ (0 ≤ D.n ∧ D.n ≤ 4 ∧ deedLen D.l = 512)
def opOf (D : DeedS) : OpS := if D.f then .flush else .write D.n ⟨D.bytes.toArray⟩
theorem put_eff {S : DiskS} (hS : S.safe.length = 5) {D : DeedS} (h : 0 ≤ D.n ∧ D.n ≤ 4 ∧ deedLen D.l = 512) : errW S D.n D.bytes = 0 ∧ S.put D.n D.bytes = S.wrote D.n ⟨D.bytes.toArray⟩ := by
  have e0 : errW S D.n D.bytes = 0 := by
    have hl : D.bytes.length = 512 := by unfold DeedS.bytes; rw [length_full]; exact h.2.2
    rw [errW, if_neg (not_not_intro ⟨h.1, by omega⟩), if_neg (not_not_intro hl)]
  exact ⟨e0, by rw [DiskS.put, if_pos e0]⟩
theorem step_eff {S : DiskS} (hS : S.safe.length = 5) {D : DeedS} (h : effD D) : stepS S D = doOp S (opOf D) := by
  unfold stepS opOf
  by_cases hf : D.f = true
  · rw [if_pos hf, if_pos hf]; rfl
  · rw [if_neg hf, if_neg hf]
    rcases h with h | h
    · exact absurd h hf
    · exact (put_eff hS h).2
theorem step_not {S : DiskS} (hS : S.safe.length = 5) {D : DeedS} (h : ¬ effD D) : stepS S D = S := by
  have hf : ¬ D.f = true := fun e => h (.inl e)
  unfold stepS
  rw [if_neg hf, DiskS.put, if_neg]
  intro e
  refine h (.inr ?_)
  unfold errW at e
  by_cases h1 : 0 ≤ D.n ∧ D.n < S.safe.length
  · rw [if_neg (not_not_intro h1)] at e
    by_cases h2 : D.bytes.length = 512
    · have : D.bytes.length = deedLen D.l := by unfold DeedS.bytes; rw [length_full]
      exact ⟨h1.1, by omega, by omega⟩
    · rw [if_pos h2] at e; cases e
  · rw [if_pos h1] at e; cases e
theorem step_ops (S : DiskS) (hS : S.safe.length = 5) (D : DeedS) : S.ops <+: (stepS S D).ops := by
  by_cases h : effD D
  · rw [step_eff hS h, doOp_ops]; exact List.prefix_append _ _
  · rw [step_not hS h]; exact List.prefix_refl _
theorem play_prefix (ds : List DeedS) (i : Nat) : ∀ k, i + k ≤ ds.length → (playS 5 ds i).ops <+: (playS 5 ds (i + k)).ops
  | 0, _ => List.prefix_refl _
  | k + 1, h => by
    refine (play_prefix ds i k (by omega)).trans ?_
    rw [← Nat.add_assoc, playS_step 5 ds (i + k) (by omega)]
    exact step_ops _ (play_sizes 5 ds (i + k) (by omega)).1 _
theorem play_first (ds : List DeedS) : ∀ k, k ≤ ds.length → (playS 5 ds k).first = List.replicate 5 blankS
  | 0, _ => rfl
  | k + 1, h => by
    have hs := (play_sizes 5 ds k (by omega)).1
    rw [playS_step 5 ds k (by omega)]
    by_cases he : effD ds[k]
    · rw [step_eff hs he, doOp_first]; exact play_first ds k (by omega)
    · rw [step_not hs he]; exact play_first ds k (by omega)
/-- Behind as many ops as the first i deeds have made it is what they made. -/
theorem cut_play (ds : List DeedS) (i j : Nat) (hij : i ≤ j) (hj : j ≤ ds.length) : cutS (playS 5 ds j) (playS 5 ds i).ops.length = playS 5 ds i := by
  have hp := play_prefix ds i (j - i) (by omega)
  rw [show i + (j - i) = j by omega] at hp
  have ht : (playS 5 ds j).ops.take (playS 5 ds i).ops.length = (playS 5 ds i).ops := (List.prefix_iff_eq_take.1 hp).symm
  unfold cutS
  rw [ht, play_first ds j hj, ← play_first ds i (by omega)]
  exact (told_play 5 (by omega) ds i (by omega)).made.symm
/-- What c is behind the first i deeds. -/
def curS (ds : List DeedS) (M n i : Nat) : DiskS := cutS (playS 5 ds M) (max n (playS 5 ds i).ops.length)
theorem cur_len (ds : List DeedS) (M n i : Nat) (hM : M ≤ ds.length) : (curS ds M n i).safe.length = 5 := by
  rw [curS, (cutS_facts _ _).2.1, play_first ds M hM]; simp
theorem cur_not (ds : List DeedS) (M n i : Nat) (hi : i < M) (hM : M ≤ ds.length) (h : ¬ effD (ds[i]'(by omega))) : curS ds M n (i + 1) = curS ds M n i ∧ (playS 5 ds (i + 1)).ops.length = (playS 5 ds i).ops.length := by
  have e : playS 5 ds (i + 1) = playS 5 ds i := by rw [playS_step 5 ds i (by omega)]; exact step_not (play_sizes 5 ds i (by omega)).1 h
  unfold curS
  rw [e]
  exact ⟨rfl, rfl⟩
theorem cur_ops (ds : List DeedS) (M i : Nat) (hi : i < M) (hM : M ≤ ds.length) (h : effD (ds[i]'(by omega))) : (playS 5 ds (i + 1)).ops = (playS 5 ds i).ops ++ [opOf (ds[i]'(by omega))] := by
  rw [playS_step 5 ds i (by omega), step_eff (play_sizes 5 ds i (by omega)).1 h, doOp_ops]
theorem cur_low (ds : List DeedS) (M n i : Nat) (hi : i < M) (hM : M ≤ ds.length) (h : effD (ds[i]'(by omega))) (hn : (playS 5 ds i).ops.length < n) : curS ds M n (i + 1) = curS ds M n i ∧ (playS 5 ds (i + 1)).ops.length = (playS 5 ds i).ops.length + 1 := by
  have e := congrArg List.length (cur_ops ds M i hi hM h)
  rw [List.length_append, List.length_singleton] at e
  refine ⟨?_, e⟩
  unfold curS
  rw [e, Nat.max_eq_left (by omega), Nat.max_eq_left (by omega)]
theorem cur_high (ds : List DeedS) (M n i : Nat) (hi : i < M) (hM : M ≤ ds.length) (h : effD (ds[i]'(by omega))) (hn : n ≤ (playS 5 ds i).ops.length) : curS ds M n (i + 1) = doOp (curS ds M n i) (opOf (ds[i]'(by omega))) ∧ (playS 5 ds (i + 1)).ops.length = (playS 5 ds i).ops.length + 1 := by
  have e := congrArg List.length (cur_ops ds M i hi hM h)
  rw [List.length_append, List.length_singleton] at e
  refine ⟨?_, e⟩
  unfold curS
  rw [Nat.max_eq_right hn, cut_play ds i M (by omega) hM, Nat.max_eq_right (by omega), cut_play ds (i + 1) M (by omega) hM, playS_step 5 ds i (by omega)]
  exact step_eff (play_sizes 5 ds i (by omega)).1 h
theorem cur_end (ds : List DeedS) (M n : Nat) (hM : M ≤ ds.length) (hn : n ≤ (playS 5 ds M).ops.length) : curS ds M n M = playS 5 ds M := by
  unfold curS
  rw [Nat.max_eq_right hn]
  exact cut_play ds M M (Nat.le_refl _) hM
theorem cur_opsle (ds : List DeedS) (M n i : Nat) (hM : M ≤ ds.length) (hM4 : M ≤ 40) : (curS ds M n i).ops.length ≤ 40 := by
  rw [curS, (cutS_facts _ _).2.2, List.length_take]
  have := (play_sizes 5 ds M hM).2.2.1
  omega
set_option maxRecDepth 100000 in
set_option maxHeartbeats 1000000 in
theorem replays_walk (ds : List DeedS) (a : Option Addr) (c : Nat) (hlen : ds.length ≤ 9223372036854775807) (k : Int) (k0 : 0 ≤ k) (k1 : k ≤ 255) (w : World) (hds : deedsAt w a ds) :
    Calls Try.prog 5 #[.slice a ds.length c, .int .u8 k] w fun e w' => e = .returned (.bool true) ∧ Below w.heap.size w w' := by
  have HPl := hid (play_any 5 (by omega) (by omega) ds a c hlen w hds)
  have HTo := hid (told_play 5 (by omega) ds (min ds.length 40) (by omega))
  have HSz := hid (play_sizes 5 ds (min ds.length 40) (by omega))
  have HDS := hid hds
  obtain ⟨M, hM⟩ : ∃ M, min ds.length 40 = M := ⟨_, rfl⟩
  have hM1 : M ≤ ds.length := by omega
  have hM2 : M ≤ 40 := by omega
  rw [hM] at HPl HTo HSz
  have HM := hid hM
  clear hds hM
  go_enter Try.func5, Try.ntmps5
  go_wp2_with fail
  refine HPl.out.mono ?_
  clear HPl
  rintro e w1 ⟨d, r, rfl, fv, lv, vs, Rd, hP⟩
  have HB1 := hid hP.below
  have HP := hid hP
  clear hP
  go_wp2_with fail
  refine (live_any w1).mono ?_
  rintro e w2 ⟨rfl, hB2⟩
  have HB2 := hid (HB1.out.trans (hB2.mono HB1.out.size))
  have HP2 := hid (HP.out.grow hB2)
  clear hB2 HB1 HP
  have hRm : (playR 5 ds M).l.length ≤ 1000000 := by have := HSz.out.2.2.2; omega
  have hSm : (playS 5 ds M).ops.length ≤ 1000000 := by have := HSz.out.2.2.1; omega
  have hSm4 : (playS 5 ds M).ops.length ≤ 40 := by have := HSz.out.2.2.1; omega
  have HAl := hid HTo.out.alike
  obtain ⟨T, hT⟩ : ∃ T, (playS 5 ds M).ops.length = T := ⟨_, rfl⟩
  have HT := hid hT
  have HOp := hid (ops_disk d (playS 5 ds M) w2 HP2.out.D)
  rw [hT] at HOp hSm4
  clear hT
  obtain ⟨n, hn⟩ : ∃ n : Nat, (n : Int) = k % ((T : Int) + 1) := ⟨(k % ((T : Int) + 1)).toNat, by have := Int.emod_nonneg k (show (T : Int) + 1 ≠ 0 by omega); omega⟩
  have hnT : n ≤ T := by have := Int.emod_lt_of_pos k (show (0 : Int) < (T : Int) + 1 by omega); omega
  have HCt := hid (cut_disk d (playS 5 ds M) n w2 HP2.out.D (by rw [HT.out]; omega) hSm HTo.out.ok)
  go_wp2_with fail
  refine HOp.out.mono ?_
  clear HOp
  rintro e w9 ⟨rfl, h9⟩
  obtain rfl := h9.symm
  go_wp2_with fail
  rw [← hn]
  clear hn
  refine HCt.out.mono ?_
  clear HCt
  rintro e w3 ⟨hB3, dc0, rfl, hDc, hdp, hft, -⟩
  have HBc := hid hB3
  have HAn : Hid (AnyIn w2.heap.size w3 dc0 (curS ds M n 0)) := .inl ⟨by
      have e : curS ds M n 0 = cutS (playS 5 ds M) n := by unfold curS; rw [show (playS 5 ds 0).ops.length = 0 from rfl, Nat.max_eq_left (Nat.zero_le _)]
      rw [e]; exact hDc, fun i hi => by
      have e : curS ds M n 0 = cutS (playS 5 ds M) n := by unfold curS; rw [show (playS 5 ds 0).ops.length = 0 from rfl, Nat.max_eq_left (Nat.zero_le _)]
      rw [e] at hi
      rcases hi with rfl | hi
      · exact hdp
      · exact hft i hi⟩
  clear hB3 hDc hdp hft
  have hw02 := HB2.out.size
  go_wp2
  go_loopw [11, 12] (fun vd vi wr => ∃ (i : Nat) (dc : DL), i ≤ ds.length ∧ i ≤ 40 ∧ vi = .int .i64 i ∧ vd = .int .i64 ((playS 5 ds i).ops.length : Int) ∧ Hid (dc.p = dc0.p) ∧ Hid (AnyIn w2.heap.size wr dc (curS ds M n i)) ∧ Hid (Below w2.heap.size w2 wr)) (fun _ vi _ => 40 - (intOf vi).toNat)
  case atStart => exact ⟨0, dc0, by omega, by omega, rfl, rfl, rfl, HAn, HBc⟩
  case round =>
    obtain ⟨i, dc, hi1, hi2, rfl, rfl, hdc, hAn, hBr⟩ := hrel
    clear HAn HBc
    have HBw := hid (HB2.out.trans (hBr.out.mono hw02))
    by_cases hlt : i < ds.length ∧ i < 40
    · obtain ⟨hlt, h40⟩ := hlt
      have hk0 : (0 : Int) ≤ (i : Int) := by omega
      have hk3 : (i : Int) < (ds.length : Int) := by omega
      have hk4 : (i : Int) < 40 := by omega
      have hiM : i < M := by have := HM.out; omega
      obtain ⟨b, o, rfl, hc⟩ := HDS.out i hlt
      obtain ⟨c0, c1, c2, c3, x0, x1⟩ := hc i hlt
      have hbl : b < w.heap.size := World.block_lt_of_cell? w _ c0
      have q0 : wr.cell? ⟨b, o + i * 4, none⟩ = some (.bool (ds[i]).f) := (HBw.out.cell (p := ⟨b, o + i * 4, none⟩) hbl).trans c0
      have q1 : wr.cell? ⟨b, o + i * 4 + 1, none⟩ = some (.int .i64 (ds[i]).n) := (HBw.out.cell (p := ⟨b, o + i * 4 + 1, none⟩) hbl).trans c1
      have q2 : wr.cell? ⟨b, o + i * 4 + 2, none⟩ = some (.int .i64 (ds[i]).l) := (HBw.out.cell (p := ⟨b, o + i * 4 + 2, none⟩) hbl).trans c2
      have q3 : wr.cell? ⟨b, o + i * 4 + 3, none⟩ = some (.int .u8 (ds[i]).x) := (HBw.out.cell (p := ⟨b, o + i * 4 + 3, none⟩) hbl).trans c3
      have HNot := hid (cur_not ds M n i hiM hM1)
      have HLow := hid (cur_low ds M n i hiM hM1)
      have HHigh := hid (cur_high ds M n i hiM hM1)
      have HEff : Hid (effD ds[i] ↔ ((ds[i]).f = true ∨ (0 ≤ (ds[i]).n ∧ (ds[i]).n ≤ 4 ∧ deedLen (ds[i]).l = 512))) := Iff.rfl
      have HOpf : Hid (opOf ds[i] = if (ds[i]).f then .flush else .write (ds[i]).n ⟨(ds[i]).bytes.toArray⟩) := rfl
      have hT40 : (playS 5 ds i).ops.length ≤ i := (play_sizes 5 ds i (by omega)).2.2.1
      have HCl := hid (cur_len ds M n i hM1)
      have HCo := hid (cur_opsle ds M n i hM1 hM2)
      clear c0 c1 c2 c3 hc
      generalize effD ds[i] = EF at *
      generalize opOf ds[i] = OF at *
      generalize hD : ds[i] = D at *
      clear hD
      generalize hTi : (playS 5 ds i).ops.length = Ti at *
      cases hf : D.f
      · rw [hf] at q0 HEff HOpf
        simp only [Bool.false_eq_true, false_or, if_false] at HEff HOpf
        by_cases hn0 : D.n < 0
        · obtain ⟨e1, e2⟩ := HNot.out (fun h => by have := HEff.out.1 h; omega)
          have E1 := hid e1
          have E2 := hid e2
          clear e1 e2 q2 q3
          go_wp2
          exact ⟨⟨i + 1, dc, by omega, by omega, by go_num, by rw [E2.out], hdc, by rw [E1.out]; exact hAn.out, hBr⟩, by simp [intOf]; omega⟩
        · by_cases hn4 : 4 < D.n
          · obtain ⟨e1, e2⟩ := HNot.out (fun h => by have := HEff.out.1 h; omega)
            have E1 := hid e1
            have E2 := hid e2
            clear e1 e2 q2 q3
            go_wp2
            exact ⟨⟨i + 1, dc, by omega, by omega, by go_num, by rw [E2.out], hdc, by rw [E1.out]; exact hAn.out, hBr⟩, by simp [intOf]; omega⟩
          · have HDf := hid (deed_bytes false D.n D.l D.x wr)
            go_wp2_with fail
            refine HDf.out.mono ?_
            clear HDf
            rintro e w4 ⟨g, rfl, hg, hgb, hB4⟩
            have HBr4 := hid (hBr.out.trans (hB4.mono hBr.out.size))
            have HAn4 := hid (hAn.out.below hB4)
            have hbw : b < wr.heap.size := Nat.lt_of_lt_of_le hbl HBw.out.size
            have r0 : w4.cell? ⟨b, o + i * 4, none⟩ = some (.bool false) := (hB4.cell (p := ⟨b, o + i * 4, none⟩) hbw).trans q0
            have r1 : w4.cell? ⟨b, o + i * 4 + 1, none⟩ = some (.int .i64 D.n) := (hB4.cell (p := ⟨b, o + i * 4 + 1, none⟩) hbw).trans q1
            have r2 : w4.cell? ⟨b, o + i * 4 + 2, none⟩ = some (.int .i64 D.l) := (hB4.cell (p := ⟨b, o + i * 4 + 2, none⟩) hbw).trans q2
            have r3 : w4.cell? ⟨b, o + i * 4 + 3, none⟩ = some (.int .u8 D.x) := (hB4.cell (p := ⟨b, o + i * 4 + 3, none⟩) hbw).trans q3
            have hsz4 := hB4.size
            clear hgb hB4 q0 q1 q2 q3 hAn
            by_cases h512 : deedLen D.l = 512
            · have hef := HEff.out.2 ⟨by omega, by omega, h512⟩
              by_cases hnT : Ti < n
              · obtain ⟨e1, e2⟩ := HLow.out hef hnT
                have E1 := hid e1
                have E2 := hid e2
                have hnT' : (Ti : Int) < (n : Int) := by omega
                rw [h512]
                clear e1 e2
                go_wp2
                exact ⟨⟨i + 1, dc, by omega, by omega, by go_num, by rw [E2.out]; go_num, hdc, by rw [E1.out]; exact HAn4.out, HBr4⟩, by simp [intOf]; omega⟩
              · obtain ⟨e1, e2⟩ := HHigh.out hef (by omega)
                rw [HOpf.out] at e1
                have E1 := hid e1
                have E2 := hid e2
                have hnT' : (n : Int) ≤ (Ti : Int) := by omega
                rw [h512]
                have HDf := hid (fun W => deed_bytes false D.n D.l D.x W)
                clear e1 e2
                go_wp2_with fail
                refine wp_region_noPanic ?_
                refine wp_region_held_drew (S := fun W => W.cell? ⟨b, o + i * 4, none⟩ = some (.bool false) ∧ W.cell? ⟨b, o + i * 4 + 1, none⟩ = some (.int .i64 D.n) ∧ W.cell? ⟨b, o + i * 4 + 2, none⟩ = some (.int .i64 D.l) ∧ W.cell? ⟨b, o + i * 4 + 3, none⟩ = some (.int .u8 D.x)) (by kernel_rfl) ⟨r0, r1, r2, r3⟩ (fun hHeld => ?_)
                refine wpAnyH_take (i := 0) (v := ?_) rfl (by kernel_rfl) (by kernel_rfl) (by kernel_rfl) (fun _ _ _ h => h) (Or.inl ⟨by rfl, ?_⟩) (by assumption) ?_
                rotate_left
                · (intro W hSw; (try dsimp only at hSw); obtain ⟨s0, s1, s2, s3⟩ := hSw; go_simp; try with_reducible rfl)
                try simp only [List.getElem_toArray, List.getElem_cons_zero, Act.put, List.setIfInBounds_toArray, List.set_cons_zero, List.set_cons_succ]
                refine wpAnyH_take (i := 1) (v := ?_) rfl (by kernel_rfl) (by kernel_rfl) (by kernel_rfl) (fun _ _ _ h => h) (Or.inl ⟨by rfl, ?_⟩) (by assumption) ?_
                rotate_left
                · (intro W hSw; (try dsimp only at hSw); obtain ⟨s0, s1, s2, s3⟩ := hSw; go_simp; try with_reducible rfl)
                try simp only [List.getElem_toArray, List.getElem_cons_succ, List.getElem_cons_zero, Act.put, List.setIfInBounds_toArray, List.set_cons_zero, List.set_cons_succ]
                refine wpAnyH_take (i := 2) (v := ?_) rfl (by kernel_rfl) (by kernel_rfl) (by kernel_rfl) (fun _ _ _ h => h) (Or.inl ⟨by rfl, ?_⟩) (by assumption) ?_
                rotate_left
                · (intro W hSw; (try dsimp only at hSw); obtain ⟨s0, s1, s2, s3⟩ := hSw; go_simp; try with_reducible rfl)
                try simp only [List.getElem_toArray, List.getElem_cons_succ, List.getElem_cons_zero, Act.put, List.setIfInBounds_toArray, List.set_cons_zero, List.set_cons_succ]
                refine wpAnyH_take (i := 3) (v := ?_) rfl (by kernel_rfl) (by kernel_rfl) (by kernel_rfl) (fun _ _ _ h => h) (Or.inl ⟨by rfl, ?_⟩) (by assumption) ?_
                rotate_left
                · (intro W hSw; (try dsimp only at hSw); obtain ⟨s0, s1, s2, s3⟩ := hSw; go_simp; try with_reducible rfl)
                try simp only [List.getElem_toArray, List.getElem_cons_succ, List.getElem_cons_zero, Act.put, List.setIfInBounds_toArray, List.set_cons_zero, List.set_cons_succ]
                refine wpAnyH_take (i := 4) (v := ?_) rfl (by kernel_rfl) (by kernel_rfl) (by kernel_rfl) (fun _ _ _ h => h) (Or.inl ⟨by rfl, ?_⟩) (by assumption) ?_
                rotate_left
                · (intro W hSw; (try dsimp only at hSw); obtain ⟨s0, s1, s2, s3⟩ := hSw; go_simp; try with_reducible rfl)
                try simp only [List.getElem_toArray, List.getElem_cons_succ, List.getElem_cons_zero, Act.put, List.setIfInBounds_toArray, List.set_cons_zero, List.set_cons_succ]
                refine wpAnyH_take (i := 5) (v := ?_) rfl (by kernel_rfl) (by kernel_rfl) (by kernel_rfl) (fun _ _ _ h => h) (Or.inl ⟨by rfl, ?_⟩) (by assumption) ?_
                rotate_left
                · (intro W hSw; (try dsimp only at hSw); obtain ⟨s0, s1, s2, s3⟩ := hSw; go_simp; try with_reducible rfl)
                try simp only [List.getElem_toArray, List.getElem_cons_succ, List.getElem_cons_zero, Act.put, List.setIfInBounds_toArray, List.set_cons_zero, List.set_cons_succ]
                refine wpAnyH_take (i := 6) (v := ?_) rfl (by kernel_rfl) (by kernel_rfl) (by kernel_rfl) (fun _ _ _ h => h) (Or.inl ⟨by rfl, ?_⟩) (by assumption) ?_
                rotate_left
                · (intro W hSw; (try dsimp only at hSw); obtain ⟨s0, s1, s2, s3⟩ := hSw; go_simp; try with_reducible rfl)
                try simp only [List.getElem_toArray, List.getElem_cons_succ, List.getElem_cons_zero, Act.put, List.setIfInBounds_toArray, List.set_cons_zero, List.set_cons_succ]
                refine wpAnyH_take (i := 7) (v := ?_) rfl (by kernel_rfl) (by kernel_rfl) (by kernel_rfl) (fun _ _ _ h => h) (Or.inl ⟨by rfl, ?_⟩) (by assumption) ?_
                rotate_left
                · (intro W hSw; (try dsimp only at hSw); obtain ⟨s0, s1, s2, s3⟩ := hSw; go_simp; try with_reducible rfl)
                try simp only [List.getElem_toArray, List.getElem_cons_succ, List.getElem_cons_zero, Act.put, List.setIfInBounds_toArray, List.set_cons_zero, List.set_cons_succ]
                refine wpAnyH_take (i := 8) (v := ?_) rfl (by kernel_rfl) (by kernel_rfl) (by kernel_rfl) (fun _ _ _ h => h) (Or.inl ⟨by rfl, ?_⟩) (by assumption) ?_
                rotate_left
                · (intro W hSw; (try dsimp only at hSw); obtain ⟨s0, s1, s2, s3⟩ := hSw; go_simp; try with_reducible rfl)
                try simp only [List.getElem_toArray, List.getElem_cons_succ, List.getElem_cons_zero, Act.put, List.setIfInBounds_toArray, List.set_cons_zero, List.set_cons_succ]
                refine wpAnyH_take (i := 9) (v := ?_) rfl (by kernel_rfl) (by kernel_rfl) (by kernel_rfl) (fun _ _ _ h => h) (Or.inl ⟨by rfl, ?_⟩) (by assumption) ?_
                rotate_left
                · (intro W hSw; (try dsimp only at hSw); obtain ⟨s0, s1, s2, s3⟩ := hSw; go_simp; try with_reducible rfl)
                try simp only [List.getElem_toArray, List.getElem_cons_succ, List.getElem_cons_zero, Act.put, List.setIfInBounds_toArray, List.set_cons_zero, List.set_cons_succ]
                refine wpAnyH_ready (rs := [10]) (by kernel_rfl) (by simp) (AllReadyH.cons rfl (fun K hK => ?_) AllReadyH.nil)
                rw [if_pos (by rfl)]
                go_simp
                refine (HDf.out w4.drew).mono ?_
                clear HDf
                rintro e w5 ⟨g5, rfl, hg5, hgb5, hB5⟩
                have hB5' := below_undrew hB5
                have hbw4 : b < w4.heap.size := by omega
                have u0 := (hB5'.cell (p := ⟨b, o + i * 4, none⟩) hbw4).trans r0
                have u1 := (hB5'.cell (p := ⟨b, o + i * 4 + 1, none⟩) hbw4).trans r1
                have u2 := (hB5'.cell (p := ⟨b, o + i * 4 + 2, none⟩) hbw4).trans r2
                have u3 := (hB5'.cell (p := ⟨b, o + i * 4 + 3, none⟩) hbw4).trans r3
                have HBr5 := hid (HBr4.out.trans (hB5'.mono HBr4.out.size))
                have HAn5 := hid (HAn4.out.below hB5')
                obtain ⟨pe, ps⟩ := put_eff HCl.out (D := D) ⟨by omega, by omega, h512⟩
                have hw := any_write w2.heap.size dc (curS ds M n i) D.n D.bytes ⟨g5, 0, none⟩ (deedLen D.l) (deedLen D.l) w5 HAn5.out HBr5.out.size (Nat.le_trans HCo.out (by omega)) (length_full _ _) (bytes_full hgb5 x0 x1)
                rw [hdc.out, pe, ps, h512] at hw
                have HWr := hid hw
                clear hw pe ps hgb5 hB5 hB5' HAn4 HBr4 HAn5
                go_wp2_with fail
                refine hK.out _ _ ⟨u0, u1, u2, u3⟩ (fun hHeld => ?_)
                clear hK K r0 r1 r2 r3
                try simp only [List.getElem_toArray, List.getElem_cons_succ, List.getElem_cons_zero, Act.put, List.setIfInBounds_toArray, List.set_cons_zero, List.set_cons_succ]
                refine wpAnyH_ready (rs := [11]) (by kernel_rfl) (by simp) (AllReadyH.cons rfl (fun K hK => ?_) AllReadyH.nil)
                rw [if_pos (by rfl)]
                go_simp
                refine HWr.out.mono ?_
                clear HWr
                rintro e w6 ⟨rfl, dc', hp', hA', hB'⟩
                have HA' := hid hA'
                have HB' := hid (HBr5.out.trans hB')
                have HP' := hid hp'
                have hbw2 : b < w2.heap.size := by omega
                have t0 := (hB'.cell (p := ⟨b, o + i * 4, none⟩) hbw2).trans u0
                have t1 := (hB'.cell (p := ⟨b, o + i * 4 + 1, none⟩) hbw2).trans u1
                have t2 := (hB'.cell (p := ⟨b, o + i * 4 + 2, none⟩) hbw2).trans u2
                have t3 := (hB'.cell (p := ⟨b, o + i * 4 + 3, none⟩) hbw2).trans u3
                clear hA' hB' hp' u0 u1 u2 u3 HBr5
                go_wp2_with fail
                refine hK.out _ _ ⟨t0, t1, t2, t3⟩ (fun hHeld => ?_)
                clear hK K
                try simp only [List.getElem_toArray, List.getElem_cons_succ, List.getElem_cons_zero, Act.put, List.setIfInBounds_toArray, List.set_cons_zero, List.set_cons_succ]
                refine wpAnyH_done (by kernel_rfl) ?_ _
                refine NoPanic.normal ?_
                clear hHeld t0 t1 t2 t3
                go_wp2
                exact ⟨⟨i + 1, dc', by omega, by omega, by go_num, by rw [E2.out]; go_num, HP', by rw [E1.out]; exact HA'.out, HB'⟩, by simp [intOf]; omega⟩
            · obtain ⟨e1, e2⟩ := HNot.out (fun h => by have := HEff.out.1 h; omega)
              have E1 := hid e1
              have E2 := hid e2
              have h512' : ¬ ((deedLen D.l : Int) = 512) := by omega
              clear e1 e2
              go_wp2
              exact ⟨⟨i + 1, dc, by omega, by omega, by go_num, by rw [E2.out], hdc, by rw [E1.out]; exact HAn4.out, HBr4⟩, by simp [intOf]; omega⟩
      · rw [hf] at q0 HEff HOpf
        simp only [true_or, if_true] at HEff HOpf
        have hef := HEff.out.2 trivial
        clear q1 q2 q3
        by_cases hnT : Ti < n
        · obtain ⟨e1, e2⟩ := HLow.out hef hnT
          have E1 := hid e1
          have E2 := hid e2
          have hnT' : (Ti : Int) < (n : Int) := by omega
          clear e1 e2
          go_wp2
          exact ⟨⟨i + 1, dc, by omega, by omega, by go_num, by rw [E2.out]; go_num, hdc, by rw [E1.out]; exact hAn.out, hBr⟩, by simp [intOf]; omega⟩
        · obtain ⟨e1, e2⟩ := HHigh.out hef (by omega)
          rw [HOpf.out] at e1
          have E1 := hid e1
          have E2 := hid e2
          have hnT' : (n : Int) ≤ (Ti : Int) := by omega
          have hfl := any_flush w2.heap.size dc (curS ds M n i) wr hAn.out hBr.out.size (Nat.le_trans HCo.out (by omega))
          rw [hdc.out] at hfl
          have HFl := hid hfl
          clear e1 e2 hfl
          go_wp2_with fail
          refine HFl.out.mono ?_
          clear HFl
          rintro e w5 ⟨rfl, dc', hp', hA', hB'⟩
          have HA' := hid hA'
          have HB' := hid (hBr.out.trans hB')
          have HP' := hid hp'
          clear hA' hB' hp'
          go_wp2
          exact ⟨⟨i + 1, dc', by omega, by omega, by go_num, by rw [E2.out]; go_num, HP', by rw [E1.out]; exact HA'.out, HB'⟩, by simp [intOf]; omega⟩
    · have hcase : ¬ ((i : Int) < (ds.length : Int)) ∨ ((i : Int) < (ds.length : Int) ∧ ¬ ((i : Int) < 40)) := by omega
      obtain rfl : i = M := by have := HM.out; omega
      rw [cur_end ds i n hM1 (by rw [HT.out]; exact hnT)] at hAn
      have hsr := same_ref dc (playS 5 ds i) r fv lv vs Rd (playR 5 ds i) wr hAn.out.rd (HP2.out.Rf.below hBr.out) HAl.out hRm
      rw [hdc.out] at hsr
      have HSr := hid hsr
      have HOp := hid (fun W (hW : Below w2.heap.size w2 W) => ops_disk d (playS 5 ds i) W (HP2.out.D.below hW))
      rw [HT.out] at HOp ⊢
      clear hsr HP2 hAn
      rcases hcase with h | ⟨h, h'⟩
      all_goals
        go_wp2_with fail
        refine HSr.out.mono ?_
        clear HSr
        rintro e w5 ⟨rfl, hB5⟩
        have HB5 := hid (hBr.out.trans (hB5.mono hBr.out.size))
        clear hB5
        go_wp2_with fail
        refine (HOp.out w5 HB5.out).mono ?_
        rintro e w9 ⟨rfl, h9⟩
        obtain rfl := h9.symm
        have HBe := hid (HB2.out.trans (HB5.out.mono hw02))
        clear HB5 HOp
        go_wp2
        go_ret
        exact ⟨rfl, HBe.out⟩
end Go.Proofs.Ytpkjpkjcdpgaaab
