/- Right. -/
import Derived.Test.YtdfnhgkabaikaaaTPart
namespace Go.Proofs.Ytdfnhgkabaikaaa
open Go.RowKit
/-- An entry as a value. -/
abbrev enV (e : EN) (dv : Value) : Value := .agg #[str e.name, .int .i64 e.kind, .int .i64 e.mode, str e.link, dv]
set_option maxHeartbeats 4000000 in
set_option maxRecDepth 100000 in
theorem right_len (nm lk da : List UInt8) (k m : Int) (ao : Option Addr) (n cap : Nat) (w : World) (hn : da.length = n) (hm : n ≤ 9223372036854775807) :
    Calls Try.prog 11 #[.agg #[str nm, .int .i64 k, .int .i64 m, str lk, .slice ao n cap]] w fun e w' => e = .returned (.int .i64 (rightE ⟨nm, k, m, lk, da⟩)) ∧ Below w.heap.size w w' := by
  have hB := (Below.refl w.heap.size w).alloc (Nat.le_refl _) (.cells #[str nm, .int .i64 k, .int .i64 m, str lk, .slice ao n cap] 31)
  obtain ⟨w1, hw1⟩ : ∃ w1, w1 = w.alloc (.cells #[str nm, .int .i64 k, .int .i64 m, str lk, .slice ao n cap] 31) := ⟨_, rfl⟩
  have hb := block_new w (.cells #[str nm, .int .i64 k, .int .i64 m, str lk, .slice ao n cap] 31)
  rw [← hw1] at hb hB
  have c0 : w1.cell? ⟨w.heap.size, 0, none⟩ = some (str nm) := cell_of_block hb 0
  have c1 : w1.cell? ⟨w.heap.size, 1, none⟩ = some (.int .i64 k) := cell_of_block hb 1
  have c2 : w1.cell? ⟨w.heap.size, 2, none⟩ = some (.int .i64 m) := cell_of_block hb 2
  have c3 : w1.cell? ⟨w.heap.size, 3, none⟩ = some (str lk) := cell_of_block hb 3
  have c4 : w1.cell? ⟨w.heap.size, 4, none⟩ = some (.slice ao n cap) := cell_of_block hb 4
  have HB := hid hB
  have HN := hid (isName_any nm w1)
  clear hb hB
  by_cases h1 : k < 1 ∨ k > 4 ∨ m < 0 ∨ m > 4095
  · have HE : Hid (rightE ⟨nm, k, m, lk, da⟩ = 2) := if_pos h1
    have hc : k < 1 ∨ (¬ (k < 1) ∧ k > 4) ∨ (¬ (k < 1) ∧ ¬ (k > 4) ∧ m < 0) ∨ (¬ (k < 1) ∧ ¬ (k > 4) ∧ ¬ (m < 0) ∧ m > 4095) := by omega
    clear h1
    rcases hc with g1 | ⟨g1, g2⟩ | ⟨g1, g2, g3⟩ | ⟨g1, g2, g3, g4⟩
    all_goals
      go_enter Try.func11, Try.ntmps11
      go_wp2_with fail
      rw [← hw1]
      go_wp2
      go_ret
      exact ⟨by rw [HE.out]; rfl, HB.out⟩
  · have g1 : ¬ (k < 1) := by omega
    have g2 : ¬ (k > 4) := by omega
    have g3 : ¬ (m < 0) := by omega
    have g4 : ¬ (m > 4095) := by omega
    have H1 := hid h1
    clear h1
    go_enter Try.func11, Try.ntmps11
    go_wp2_with fail
    rw [← hw1]
    refine HN.out.mono ?_
    clear HN
    rintro e w2 ⟨rfl, q, rfl⟩
    have d1 : (w1.drewN q).cell? ⟨w.heap.size, 1, none⟩ = some (.int .i64 k) := c1
    have d3 : (w1.drewN q).cell? ⟨w.heap.size, 3, none⟩ = some (str lk) := c3
    have d4 : (w1.drewN q).cell? ⟨w.heap.size, 4, none⟩ = some (.slice ao n cap) := c4
    have HB2 := hid (below_drewN HB.out q)
    clear c0 c1 c2 c3 c4 HB hw1
    generalize w1.drewN q = W at *
    cases hnm : nameOk nm with
    | false =>
      have HE : Hid (rightE ⟨nm, k, m, lk, da⟩ = 8) := by unfold Hid rightE; rw [if_neg H1.out, if_pos hnm]
      clear hnm
      go_wp2
      go_ret
      exact ⟨by rw [HE.out]; rfl, HB2.out⟩
    | true =>
      have HL := hid (isLink_any k lk W)
      have HE0 : Hid (rightE ⟨nm, k, m, lk, da⟩ = if linkOk k lk = false ∨ (k ≠ 1 ∧ 0 < da.length) then 3 else if da.length > 70656 then 6 else 0) := by unfold Hid rightE; rw [if_neg H1.out, if_neg (by rw [hnm]; simp)]
      clear hnm
      cases hlk : linkOk k lk with
      | false =>
        have HE : Hid (rightE ⟨nm, k, m, lk, da⟩ = 3) := by unfold Hid; rw [HE0.out, if_pos (.inl hlk)]
        rw [hlk] at HL
        clear hlk HE0
        go_wp2_with fail
        refine HL.out.mono ?_
        rintro e w3 ⟨rfl, rfl⟩
        go_wp2
        go_ret
        exact ⟨by rw [HE.out]; rfl, HB2.out⟩
      | true =>
        rw [hlk] at HL
        by_cases hk : k = 1
        · subst hk
          by_cases h6 : n > 70656
          · have HE : Hid (rightE ⟨nm, 1, m, lk, da⟩ = 6) := by unfold Hid; rw [HE0.out, if_neg (by rw [hlk]; simp), if_pos (by omega)]
            have q6 : (n : Int) > 70656 := by omega
            clear hlk HE0
            go_wp2_with fail
            refine HL.out.mono ?_
            rintro e w3 ⟨rfl, rfl⟩
            go_wp2
            go_ret
            exact ⟨by rw [HE.out]; rfl, HB2.out⟩
          · have HE : Hid (rightE ⟨nm, 1, m, lk, da⟩ = 0) := by unfold Hid; rw [HE0.out, if_neg (by rw [hlk]; simp), if_neg (by omega)]
            have q6 : ¬ ((n : Int) > 70656) := by omega
            clear hlk HE0
            go_wp2_with fail
            refine HL.out.mono ?_
            rintro e w3 ⟨rfl, rfl⟩
            go_wp2
            go_ret
            exact ⟨by rw [HE.out]; rfl, HB2.out⟩
        · have e1 : (k != 1) = true := bne_iff_ne.2 hk
          by_cases h0 : 0 < n
          · have HE : Hid (rightE ⟨nm, k, m, lk, da⟩ = 3) := by unfold Hid; rw [HE0.out, if_pos (.inr ⟨hk, by omega⟩)]
            have q6 : (n : Int) > 0 := by omega
            clear hlk HE0 hk
            go_wp2_with fail
            refine HL.out.mono ?_
            rintro e w3 ⟨rfl, rfl⟩
            go_wp2
            go_ret
            exact ⟨by rw [HE.out]; rfl, HB2.out⟩
          · have HE : Hid (rightE ⟨nm, k, m, lk, da⟩ = 0) := by unfold Hid; rw [HE0.out, if_neg (by rw [hlk]; intro h; rcases h with h | h; cases h; omega), if_neg (by omega)]
            have q6 : ¬ ((n : Int) > 0) := by omega
            have q7 : ¬ ((n : Int) > 70656) := by omega
            clear hlk HE0 hk
            go_wp2_with fail
            refine HL.out.mono ?_
            rintro e w3 ⟨rfl, rfl⟩
            go_wp2
            go_ret
            exact ⟨by rw [HE.out]; rfl, HB2.out⟩
end Go.Proofs.Ytdfnhgkabaikaaa
