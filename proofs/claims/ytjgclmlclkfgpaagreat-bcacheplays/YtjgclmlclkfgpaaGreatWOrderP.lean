/- The order in which pages are handed in plays no part: plain facts. -/
import Derived.Test.YtjgclmlclkfgpaaGreatWPlain
namespace Go.Proofs.YtjgclmlclkfgpaaGreat
open Go.RowKit
theorem grpVal_isSome (ps : List PageS) (n : Int) : ∀ k, k ≤ ps.length → ((grpVal ps k n).isSome = true ↔ ∃ j, ∃ hj : j < ps.length, j < k ∧ ps[j].n = n)
  | 0, _ => by simp [grpVal]
  | k + 1, hk => by
    have ih := grpVal_isSome ps n k (by omega)
    have hv : grpVal ps (k + 1) = updV (grpVal ps k) ps[k].n ps[k].val := by rw [grpVal, List.getElem?_eq_getElem (by omega)]
    rw [hv]
    unfold updV
    by_cases e : n = ps[k].n
    · rw [if_pos e]
      exact ⟨fun _ => ⟨k, by omega, by omega, e.symm⟩, fun _ => rfl⟩
    · rw [if_neg e, ih]
      constructor
      · rintro ⟨j, hj, h1, h2⟩; exact ⟨j, hj, by omega, h2⟩
      · rintro ⟨j, hj, h1, h2⟩
        refine ⟨j, hj, ?_, h2⟩
        by_cases e2 : j = k
        · subst e2; exact absurd h2.symm e
        · omega
theorem grpErr_two (ps : List PageS) : ∀ k, grpErr ps k = 0 ∨ grpErr ps k = 3
  | 0 => .inl rfl
  | k + 1 => by
    have ih := grpErr_two ps k
    rw [grpErr]
    split
    · split
      · exact .inr rfl
      · exact ih
    · exact ih
/-- No number twice, all of 512 bytes. -/
def rightPs (ps : List PageS) : Prop := (∀ j (hj : j < ps.length), ps[j].len = 512) ∧ ∀ i j (hi : i < ps.length) (hj : j < ps.length), ps[i].n = ps[j].n → i = j
theorem grpErr_right (ps : List PageS) : grpErr ps ps.length = 0 ↔ rightPs ps := by
  constructor
  · intro h
    refine ⟨fun j hj => grpErr_len ps.length (Nat.le_refl _) h j hj hj, ?_⟩
    have key : ∀ k, k ≤ ps.length → grpErr ps k = 0 → ∀ i j (hi : i < ps.length) (hj : j < ps.length), i < j → j < k → ps[i].n ≠ ps[j].n := by
      intro k
      induction k with
      | zero => intro _ _ i j _ _ _ h; omega
      | succ k ih =>
        intro hk he i j hi hj hij hjk e
        obtain ⟨h1, h2, _⟩ := grpErr_step (by omega) he
        by_cases ejk : j = k
        · subst ejk
          have := (grpVal_isSome ps ps[j].n j (by omega)).2 ⟨i, hi, hij, e⟩
          rw [h2] at this
          cases this
        · exact ih (by omega) h1 i j hi hj hij (by omega) e
    intro i j hi hj e
    rcases Nat.lt_trichotomy i j with h1 | h1 | h1
    · exact absurd e (key ps.length (Nat.le_refl _) h i j hi hj h1 hj)
    · exact h1
    · exact absurd e.symm (key ps.length (Nat.le_refl _) h j i hj hi h1 hi)
  · rintro ⟨h1, h2⟩
    have key : ∀ k, k ≤ ps.length → grpErr ps k = 0 := by
      intro k
      induction k with
      | zero => intro _; rfl
      | succ k ih =>
        intro hk
        have hv : (grpVal ps k ps[k].n).isSome = false := by
          cases hq : (grpVal ps k ps[k].n).isSome with
          | false => rfl
          | true =>
            obtain ⟨j, hj, hjk, e⟩ := (grpVal_isSome ps ps[k].n k (by omega)).1 hq
            have := h2 j k hj (by omega) e
            omega
        rw [grpErr, List.getElem?_eq_getElem (by omega)]
        dsimp only
        rw [if_neg (by rw [hv, h1 k (by omega)]; simp), ih (by omega)]
    exact key ps.length (Nat.le_refl _)
theorem rev_at (ps : List PageS) (j : Nat) (hj : j < ps.reverse.length) : ps.reverse[j] = ps[ps.length - 1 - j]'(by rw [List.length_reverse] at hj; omega) := by
  rw [List.getElem_reverse]
theorem right_rev {ps : List PageS} (h : rightPs ps) : rightPs ps.reverse := by
  refine ⟨fun j hj => by rw [rev_at]; exact h.1 _ _, fun i j hi hj e => ?_⟩
  rw [rev_at, rev_at] at e
  have := h.2 _ _ _ _ e
  rw [List.length_reverse] at hi hj
  omega
theorem grpErr_rev (ps : List PageS) : grpErr ps.reverse ps.reverse.length = grpErr ps ps.length := by
  have h1 := grpErr_right ps
  have h2 := grpErr_right ps.reverse
  rcases grpErr_two ps ps.length with a | a <;> rcases grpErr_two ps.reverse ps.reverse.length with b | b
  · rw [a, b]
  · have := h2.2 (right_rev (h1.1 a)); rw [b] at this; cases this
  · have h3 := right_rev (h2.1 b)
    rw [List.reverse_reverse] at h3
    have := h1.2 h3; rw [a] at this; cases this
  · rw [a, b]
theorem comErr_rev (N size : Nat) (ps : List PageS) : comErr N size ps.reverse = comErr N size ps := by
  unfold comErr inPages
  rw [grpErr_rev, List.length_reverse, List.all_reverse]
theorem grpL_one (ps : List PageS) (bl : Nat → List UInt8) (h : rightPs ps) (j : Nat) (hj : j < ps.length) : ∀ k, j < k → k ≤ ps.length → grpL ps bl k ps[j].n = bl j
  | 0, h1, _ => by omega
  | k + 1, h1, hk => by
    rw [grpL, List.getElem?_eq_getElem (by omega)]
    dsimp only [Option.map_some]
    by_cases e : j = k
    · subst e; rw [if_pos rfl]
    · rw [if_neg (fun h9 => e (h.2 j k hj (by omega) (Option.some.inj h9).symm))]
      exact grpL_one ps bl h j hj k (by omega) (by omega)
theorem grpL_out (ps : List PageS) (bl : Nat → List UInt8) (n : Int) (h : ∀ j (hj : j < ps.length), ps[j].n ≠ n) : ∀ k, k ≤ ps.length → grpL ps bl k n = []
  | 0, _ => rfl
  | k + 1, hk => by
    rw [grpL, List.getElem?_eq_getElem (by omega)]
    dsimp only [Option.map_some]
    rw [if_neg (fun h9 => h k (by omega) (Option.some.inj h9))]
    exact grpL_out ps bl n h k (by omega)
theorem comS_rev (S : DiskS) (size : Nat) (ps : List PageS) (bl bl' : Nat → List UInt8) (hb : ∀ j, j < ps.length → bl' j = bl (ps.length - 1 - j)) : comS S size ps.reverse bl' = comS S size ps bl := by
  unfold comS
  rw [comErr_rev, List.length_reverse]
  by_cases hc : comErr (pagesS S size) size ps = 0 ∧ ps.length ≠ 0
  · rw [if_pos hc, if_pos hc]
    have hr := (grpErr_right ps).1 (comErr_ok hc).2.2
    have hk : ∀ n, (grpVal ps.reverse ps.length n).isSome = (grpVal ps ps.length n).isSome := fun n => by
      have h1 := grpVal_isSome ps.reverse n ps.length (by rw [List.length_reverse]; exact Nat.le_refl _)
      have h2 := grpVal_isSome ps n ps.length (Nat.le_refl _)
      rw [Bool.eq_iff_iff, h1, h2]
      constructor
      · rintro ⟨j, hj, h3, h4⟩
        rw [rev_at] at h4
        exact ⟨_, _, by omega, h4⟩
      · rintro ⟨j, hj, h3, h4⟩
        refine ⟨ps.length - 1 - j, by rw [List.length_reverse]; omega, by omega, ?_⟩
        rw [rev_at]
        have e : ps.length - 1 - (ps.length - 1 - j) = j := by omega
        simp only [e]; exact h4
    have hkeys : grpKeys (grpVal ps.reverse ps.length) (pagesS S size) = grpKeys (grpVal ps ps.length) (pagesS S size) := by
      unfold grpKeys
      exact List.filter_congr (fun n _ => hk n)
    have hL : grpL ps.reverse bl' ps.length = grpL ps bl ps.length := funext fun n => by
      by_cases hn : ∃ j, ∃ hj : j < ps.length, ps[j].n = n
      · obtain ⟨j, hj, rfl⟩ := hn
        rw [grpL_one ps bl hr j hj ps.length hj (Nat.le_refl _)]
        have hj2 : ps.length - 1 - j < ps.reverse.length := by rw [List.length_reverse]; omega
        have h3 := grpL_one ps.reverse bl' (right_rev hr) (ps.length - 1 - j) hj2 ps.length (by omega) (by rw [List.length_reverse]; exact Nat.le_refl _)
        rw [rev_at] at h3
        have e : ps.length - 1 - (ps.length - 1 - j) = j := by omega
        simp only [e] at h3
        rw [h3, hb _ (by omega), e]
      · rw [grpL_out ps bl n (fun j hj e => hn ⟨j, hj, e⟩) ps.length (Nat.le_refl _)]
        refine grpL_out ps.reverse bl' n (fun j hj e => ?_) ps.length (by rw [List.length_reverse]; exact Nat.le_refl _)
        rw [rev_at] at e
        exact hn ⟨_, _, e⟩
    rw [hkeys, hL]
  · rw [if_neg hc, if_neg hc]
end Go.Proofs.YtjgclmlclkfgpaaGreat
