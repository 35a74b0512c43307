/- The reference: Right. -/
import Derived.Test.YtdfnhgkabaikaaaVRefA
namespace Go.Proofs.Ytdfnhgkabaikaaa
open Go.RowKit
theorem nameOk_eq (s : List UInt8) (h1 : 1 ≤ s.length) (h2 : s.length ≤ 255) : nameOk s = (noZ s && decide (0 ≤ partI s)) := by
  unfold nameOk textOk partI
  rw [decide_eq_true h1, decide_eq_true h2]
  cases hp : partP s with
  | none => simp
  | some x => obtain ⟨p, r⟩ := x; simp
theorem partI_cases (s : List UInt8) : partI s = -1 ∨ 0 ≤ partI s := by
  unfold partI
  cases partP s with
  | none => exact .inl rfl
  | some x => exact .inr (by simp)
set_option maxHeartbeats 4000000 in
set_option maxRecDepth 100000 in
/-- Right, from the link on: the name is right. -/
theorem fRight_any (nm lk da : List UInt8) (k m : Int) (ao : Option Addr) (n cap : Nat) (w : World) (hn : da.length = n) (hm : n ≤ 9223372036854775807) :
    Calls Try.prog 12 #[.agg #[str nm, .int .i64 k, .int .i64 m, str lk, .slice ao n cap]] w fun e w' => e = .returned (.int .i64 (rightE ⟨nm, k, m, lk, da⟩)) ∧ Below w.heap.size w w' := by
  have hB := (Below.refl w.heap.size w).alloc (Nat.le_refl _) (.cells #[str nm, .int .i64 k, .int .i64 m, str lk, .slice ao n cap] 31)
  obtain ⟨w1, hw1⟩ : ∃ w1, w1 = w.alloc (.cells #[str nm, .int .i64 k, .int .i64 m, str lk, .slice ao n cap] 31) := ⟨_, rfl⟩
  have hb := block_new w (.cells #[str nm, .int .i64 k, .int .i64 m, str lk, .slice ao n cap] 31)
  rw [← hw1] at hb hB
  have c0 : w1.cell? ⟨w.heap.size, 0, none⟩ = some (str nm) := cell_of_block hb 0
  have c1 : w1.cell? ⟨w.heap.size, 1, none⟩ = some (.int .i64 k) := cell_of_block hb 1
  have c2 : w1.cell? ⟨w.heap.size, 2, none⟩ = some (.int .i64 m) := cell_of_block hb 2
  have c3 : w1.cell? ⟨w.heap.size, 3, none⟩ = some (str lk) := cell_of_block hb 3
  have c4 : w1.cell? ⟨w.heap.size, 4, none⟩ = some (.slice ao n cap) := cell_of_block hb 4
  have HB := hid hB
  have hz1 := size_str nm
  have hz2 := size_str lk
  clear hb hB
  by_cases h1 : k < 1 ∨ k > 4 ∨ m < 0 ∨ m > 4095
  · have HE : Hid (rightE ⟨nm, k, m, lk, da⟩ = 2) := if_pos h1
    have hc : k < 1 ∨ (¬ (k < 1) ∧ k > 4) ∨ (¬ (k < 1) ∧ ¬ (k > 4) ∧ m < 0) ∨ (¬ (k < 1) ∧ ¬ (k > 4) ∧ ¬ (m < 0) ∧ m > 4095) := by omega
    clear h1
    rcases hc with g1 | ⟨g1, g2⟩ | ⟨g1, g2, g3⟩ | ⟨g1, g2, g3, g4⟩
    all_goals
      go_enter Try.func12, Try.ntmps12
      go_wp2_with fail
      rw [← hw1]
      go_wp2
      go_ret
      exact ⟨by rw [HE.out]; rfl, HB.out⟩
  · have g1 : ¬ (k < 1) := by omega
    have g2 : ¬ (k > 4) := by omega
    have g3 : ¬ (m < 0) := by omega
    have g4 : ¬ (m > 4095) := by omega
    have H1 := hid h1
    clear h1
    by_cases h2 : nm.length < 1 ∨ nm.length > 255
    · have HE : Hid (rightE ⟨nm, k, m, lk, da⟩ = 8) := by
        have hnm : nameOk nm = false := by
          unfold nameOk textOk
          rcases h2 with h2 | h2
          · rw [decide_eq_false (by omega)]; rfl
          · rw [decide_eq_false (p := nm.length ≤ 255) (by omega)]; simp
        unfold Hid rightE
        rw [if_neg H1.out, if_pos hnm]
      have hc : (nm.length : Int) < 1 ∨ (¬ ((nm.length : Int) < 1) ∧ (nm.length : Int) > 255) := by omega
      clear h2
      rcases hc with q1 | ⟨q1, q2⟩
      all_goals
        go_enter Try.func12, Try.ntmps12
        go_wp2_with fail
        rw [← hw1]
        go_wp2
        go_ret
        exact ⟨by rw [HE.out]; rfl, HB.out⟩
    · have q1 : ¬ ((nm.length : Int) < 1) := by omega
      have q2 : ¬ ((nm.length : Int) > 255) := by omega
      have HZ := hid (fnoZero_any nm w1 (by omega))
      have HN := hid (nameOk_eq nm (by omega) (by omega))
      have HPt := hid (fpart_any nm w1 (by omega))
      clear h2
      cases hz : noZ nm with
      | false =>
        rw [hz] at HZ HN
        have HE : Hid (rightE ⟨nm, k, m, lk, da⟩ = 8) := by unfold Hid rightE; rw [if_neg H1.out, if_pos (by rw [HN.out]; rfl)]
        clear hz HPt HN
        go_enter Try.func12, Try.ntmps12
        go_wp2_with fail
        rw [← hw1]
        clear hw1
        refine HZ.out.mono ?_
        rintro e w2 ⟨rfl, rfl⟩
        go_wp2
        go_ret
        exact ⟨by rw [HE.out]; rfl, HB.out⟩
      | true =>
        rw [hz] at HZ HN
        clear hz
        rcases partI_cases nm with hp | hp
        · rw [hp] at HPt HN
          have HE : Hid (rightE ⟨nm, k, m, lk, da⟩ = 8) := by unfold Hid rightE; rw [if_neg H1.out, if_pos (by rw [HN.out]; rfl)]
          clear hp HN
          go_enter Try.func12, Try.ntmps12
          go_wp2_with fail
          rw [← hw1]
          clear hw1
          refine HZ.out.mono ?_
          rintro e w2 ⟨rfl, rfl⟩
          go_wp2_with fail
          refine HPt.out.mono ?_
          rintro e w3 ⟨rfl, rfl⟩
          go_wp2
          go_ret
          exact ⟨by rw [HE.out]; rfl, HB.out⟩
        · have q3 : ¬ (partI nm < 0) := by omega
          have HE0 : Hid (rightE ⟨nm, k, m, lk, da⟩ = if linkOk k lk = false ∨ (k ≠ 1 ∧ 0 < da.length) then 3 else if da.length > 70656 then 6 else 0) := by
            unfold Hid rightE; rw [if_neg H1.out, if_neg (by rw [HN.out, decide_eq_true hp]; simp)]
          generalize partI nm = pi at *
          clear hp HN
          go_enter Try.func12, Try.ntmps12
          go_wp2_with fail
          rw [← hw1]
          clear hw1
          refine HZ.out.mono ?_
          rintro e w2 ⟨rfl, rfl⟩
          go_wp2_with fail
          refine HPt.out.mono ?_
          rintro e w3 ⟨rfl, rfl⟩
          clear HZ HPt c0 c2 H1 g3 g4 q1 q2
          by_cases hk : k = 3 ∨ k = 4
          · have HLk : Hid (linkOk k lk = textOk lk 100) := if_pos hk
            have hk1 : k ≠ 1 := by omega
            have e1 : (k != 1) = true := bne_iff_ne.2 hk1
            have hk3 : (k == 3) = true ∨ ((k == 3) = false ∧ (k == 4) = true) := by
              rcases hk with rfl | rfl
              · exact .inl rfl
              · exact .inr ⟨rfl, rfl⟩
            clear hk
            by_cases h2 : lk.length < 1 ∨ lk.length > 100
            · have HE : Hid (rightE ⟨nm, k, m, lk, da⟩ = 3) := by
                have : linkOk k lk = false := by
                  rw [HLk.out]; unfold textOk
                  rcases h2 with h2 | h2
                  · rw [decide_eq_false (by omega)]; rfl
                  · rw [decide_eq_false (p := lk.length ≤ 100) (by omega)]; simp
                unfold Hid; rw [HE0.out, if_pos (.inl this)]
              have hc : (lk.length : Int) < 1 ∨ (¬ ((lk.length : Int) < 1) ∧ (lk.length : Int) > 100) := by omega
              clear h2 HE0
              rcases hk3 with e3 | ⟨e3, e4⟩
              all_goals
                rcases hc with q1 | ⟨q1, q2⟩
                all_goals
                  go_wp2
                  go_ret
                  exact ⟨by rw [HE.out]; rfl, HB.out⟩
            · have q1 : ¬ ((lk.length : Int) < 1) := by omega
              have q2 : ¬ ((lk.length : Int) > 100) := by omega
              have HZ := hid (fnoZero_any lk w3 (by omega))
              have HT : Hid (textOk lk 100 = noZ lk) := by unfold Hid textOk; rw [decide_eq_true (by omega), decide_eq_true (by omega)]; rfl
              clear h2
              cases hz : noZ lk with
              | false =>
                rw [hz] at HZ
                have HE : Hid (rightE ⟨nm, k, m, lk, da⟩ = 3) := by unfold Hid; rw [HE0.out, if_pos (.inl (by rw [HLk.out, HT.out, hz]))]
                clear hz HE0 HT HLk
                rcases hk3 with e3 | ⟨e3, e4⟩
                all_goals
                  go_wp2_with fail
                  refine HZ.out.mono ?_
                  rintro e w2 ⟨rfl, rfl⟩
                  go_wp2
                  go_ret
                  exact ⟨by rw [HE.out]; rfl, HB.out⟩
              | true =>
                rw [hz] at HZ
                by_cases h6 : 0 < n
                · have HE : Hid (rightE ⟨nm, k, m, lk, da⟩ = 3) := by unfold Hid; rw [HE0.out, if_pos (.inr ⟨hk1, by omega⟩)]
                  have q6 : (n : Int) > 0 := by omega
                  clear hz HE0 HT HLk hk1
                  rcases hk3 with e3 | ⟨e3, e4⟩
                  all_goals
                    go_wp2_with fail
                    refine HZ.out.mono ?_
                    rintro e w2 ⟨rfl, rfl⟩
                    go_wp2
                    go_ret
                    exact ⟨by rw [HE.out]; rfl, HB.out⟩
                · have HE : Hid (rightE ⟨nm, k, m, lk, da⟩ = 0) := by unfold Hid; rw [HE0.out, if_neg (by rw [HLk.out, HT.out, hz]; intro h; rcases h with h | h; cases h; omega), if_neg (by omega)]
                  have q6 : ¬ ((n : Int) > 0) := by omega
                  have q7 : ¬ ((n : Int) > 70656) := by omega
                  clear hz HE0 HT HLk hk1 h6
                  rcases hk3 with e3 | ⟨e3, e4⟩
                  all_goals
                    go_wp2_with fail
                    refine HZ.out.mono ?_
                    rintro e w2 ⟨rfl, rfl⟩
                    go_wp2
                    go_ret
                    exact ⟨by rw [HE.out]; rfl, HB.out⟩
          · have HLk : Hid (linkOk k lk = decide (lk = [])) := if_neg hk
            have e3 : (k == 3) = false := beq_eq_false_iff_ne.2 (by omega)
            have e4 : (k == 4) = false := beq_eq_false_iff_ne.2 (by omega)
            by_cases hl0 : lk = []
            · subst hl0
              by_cases hk1 : k = 1
              · subst hk1
                by_cases h7 : n > 70656
                · have HE : Hid (rightE ⟨nm, 1, m, [], da⟩ = 6) := by unfold Hid; rw [HE0.out, if_neg (by rw [HLk.out]; simp), if_pos (by omega)]
                  have q7 : (n : Int) > 70656 := by omega
                  clear HE0 HLk hk
                  go_wp2
                  go_ret
                  exact ⟨by rw [HE.out]; rfl, HB.out⟩
                · have HE : Hid (rightE ⟨nm, 1, m, [], da⟩ = 0) := by unfold Hid; rw [HE0.out, if_neg (by rw [HLk.out]; simp), if_neg (by omega)]
                  have q7 : ¬ ((n : Int) > 70656) := by omega
                  clear HE0 HLk hk
                  go_wp2
                  go_ret
                  exact ⟨by rw [HE.out]; rfl, HB.out⟩
              · have e1 : (k != 1) = true := bne_iff_ne.2 hk1
                by_cases h6 : 0 < n
                · have HE : Hid (rightE ⟨nm, k, m, [], da⟩ = 3) := by unfold Hid; rw [HE0.out, if_pos (.inr ⟨hk1, by omega⟩)]
                  have q6 : (n : Int) > 0 := by omega
                  clear HE0 HLk hk hk1
                  go_wp2
                  go_ret
                  exact ⟨by rw [HE.out]; rfl, HB.out⟩
                · have HE : Hid (rightE ⟨nm, k, m, [], da⟩ = 0) := by unfold Hid; rw [HE0.out, if_neg (by rw [HLk.out]; rintro (h | h); simp at h; omega), if_neg (by omega)]
                  have q6 : ¬ ((n : Int) > 0) := by omega
                  have q7 : ¬ ((n : Int) > 70656) := by omega
                  clear HE0 HLk hk hk1
                  go_wp2
                  go_ret
                  exact ⟨by rw [HE.out]; rfl, HB.out⟩
            · have HE : Hid (rightE ⟨nm, k, m, lk, da⟩ = 3) := by unfold Hid; rw [HE0.out, if_pos (.inl (by rw [HLk.out, decide_eq_false hl0]))]
              obtain ⟨x, lk', rfl⟩ : ∃ x l, lk = x :: l := by
                cases lk with
                | nil => exact absurd rfl hl0
                | cons x l => exact ⟨x, l, rfl⟩
              clear HE0 HLk hk hl0 hz2
              go_wp2
              go_ret
              exact ⟨by rw [HE.out]; rfl, HB.out⟩
end Go.Proofs.Ytdfnhgkabaikaaa
