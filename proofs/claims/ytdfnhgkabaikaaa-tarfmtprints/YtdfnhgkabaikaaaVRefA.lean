/- The reference: noZero, part. -/
import Derived.Test.YtdfnhgkabaikaaaTLive
namespace Go.Proofs.Ytdfnhgkabaikaaa
open Go.RowKit
theorem noZ_next {s : List UInt8} {k : Nat} (hk : k < s.length) (h : noZ (s.take k) = true) (hx : s.getD k 0 ≠ 0) : noZ (s.take (k + 1)) = true := by
  unfold noZ at *
  rw [List.take_succ_eq_append_getElem hk, List.all_append, h]
  rw [List.getD_eq_getElem?_getD, List.getElem?_eq_getElem hk] at hx
  simpa using hx
theorem noZ_no {s : List UInt8} {k : Nat} (hk : k < s.length) (hx : s.getD k 0 = 0) : noZ s = false := by
  unfold noZ
  rw [List.all_eq_false]
  rw [List.getD_eq_getElem?_getD, List.getElem?_eq_getElem hk] at hx
  have hx' : s[k] = 0 := hx
  exact ⟨s[k], List.getElem_mem hk, by rw [hx']; simp⟩
set_option maxHeartbeats 1000000 in
set_option maxRecDepth 100000 in
theorem fnoZero_any (s : List UInt8) (w : World) (hs : s.length ≤ 255) : Calls Try.prog 25 #[str s] w fun e w' => e = .returned (.bool (noZ s)) ∧ w' = w := by
  have hsz := size_str s
  go_enter Try.func25, Try.ntmps25
  go_wp2
  go_loopw [3] (fun i wr => ∃ k : Nat, k ≤ s.length ∧ i = .int .i64 k ∧ Hid (noZ (s.take k) = true) ∧ wr = w) (fun i _ => s.length - (intOf i).toNat)
  case atStart => exact ⟨0, by omega, rfl, rfl, rfl⟩
  case round =>
    obtain ⟨k, hk, rfl, hZ, rfl⟩ := hrel
    by_cases hlt : k < s.length
    · have q1 : (k : Int) < (s.length : Int) := by omega
      have q0 : (0 : Int) ≤ (k : Int) := by omega
      have hix : ∀ W, (Instr.index 9 (str s) (.int .i64 (k : Int))).run Try.prog W = .ok (B (s.getD k 0)) W := fun W => run_index_str s (k : Int) W (by omega) (by omega)
      by_cases h3 : s.getD k 0 = 0
      · have HN := hid (noZ_no hlt h3)
        rw [h3] at hix
        have hix2 : ∀ W, (Instr.index 9 (str s) (.int .i64 (k : Int))).run Try.prog W = .ok (.int .u8 0) W := hix
        clear hix h3 hZ
        go_wp2
        go_ret
        exact ⟨by rw [HN.out]; rfl, rfl⟩
      · have HN := hid (noZ_next hlt hZ.out h3)
        have hne : (V (s.getD k 0) == 0) = false := beq_eq_false_iff_ne.2 (fun e => h3 (V_inj (by rw [e]; rfl)))
        generalize s.getD k 0 = x at *
        clear h3 hZ
        go_wp2
        exact ⟨⟨k + 1, by omega, by go_num, HN, trivial⟩, by simp [intOf]; omega⟩
    · have q1 : ¬ ((k : Int) < (s.length : Int)) := by omega
      have HN : Hid (noZ s = true) := by
        have := hZ.out
        rwa [List.take_of_length_le (by omega)] at this
      clear hZ
      go_wp2
      go_ret
      exact ⟨by rw [HN.out]; rfl, rfl⟩
/-- Where the reference parts a name. -/
def partI (s : List UInt8) : Int := match partP s with
  | none => -1
  | some (p, _) => p.length
/-- No stroke stands from k on, up to 155. -/
theorem partAt_high {s : List UInt8} : ∀ {m k : Nat}, k ≤ m → (∀ i, k < i → i ≤ m → s.getD i 0 ≠ 47) → (s.length - (k + 1) - 1 ≤ 100 ∨ k = m) → partAt s m = partAt s k ∨ k = m := fun {m} => by
  induction m with
  | zero => intro k hk _ _; exact .inr (by omega)
  | succ m ih =>
    intro k hk hn hl
    by_cases e : k = m + 1
    · exact .inr e
    · left
      have h1 : s.length - (m + 1) - 1 ≤ 100 := by omega
      have h2 : partAt s (m + 1) = partAt s m := by
        conv => lhs; unfold partAt
        rw [if_pos h1, if_neg (hn (m + 1) (by omega) (Nat.le_refl _))]
      rw [h2]
      by_cases e2 : k = m
      · rw [e2]
      · rcases ih (k := k) (by omega) (fun i a b => hn i a (by omega)) (.inl (by omega)) with h | h
        · exact h
        · exact absurd h e2
/-- Below a place with too much behind it nothing is found. -/
theorem partAt_none {s : List UInt8} : ∀ {m k : Nat}, k ≤ m → (∀ i, k < i → i ≤ m → s.getD i 0 ≠ 47) → s.length - k - 1 > 100 → partAt s m = none := fun {m} => by
  induction m with
  | zero => intro k _ _ _; rfl
  | succ m ih =>
    intro k hk hn hl
    by_cases h1 : s.length - (m + 1) - 1 ≤ 100
    · have hk2 : k ≤ m := by
        rcases Nat.lt_or_ge m k with h | h
        · have : k = m + 1 := by omega
          subst this; omega
        · exact h
      unfold partAt
      rw [if_pos h1, if_neg (hn (m + 1) (by omega) (Nat.le_refl _))]
      exact ih hk2 (fun i a b => hn i a (by omega)) hl
    · unfold partAt
      rw [if_neg h1]
/-- A stroke at k, none from there up to m. -/
theorem partAt_found {s : List UInt8} {m k : Nat} (h1 : 1 ≤ k) (hk : k ≤ m) (hn : ∀ i, k < i → i ≤ m → s.getD i 0 ≠ 47) (hs : s.getD k 0 = 47) (hl : s.length - k - 1 ≤ 100) : partAt s m = some k := by
  have h2 : partAt s k = some k := by
    obtain ⟨k', rfl⟩ : ∃ k', k = k' + 1 := ⟨k - 1, by omega⟩
    unfold partAt
    rw [if_pos hl, if_pos hs]
  rcases partAt_high hk hn (.inl (by omega)) with h | h
  · rw [h, h2]
  · rw [← h, h2]
/-- No stroke at all. -/
theorem partAt_zero {s : List UInt8} : ∀ {m : Nat}, (∀ i, 0 < i → i ≤ m → s.getD i 0 ≠ 47) → partAt s m = none := fun {m} => by
  induction m with
  | zero => intro _; rfl
  | succ m ih =>
    intro hn
    unfold partAt
    split
    · rw [if_neg (hn (m + 1) (by omega) (Nat.le_refl _))]
      exact ih (fun i a b => hn i a (by omega))
    · rfl
set_option maxHeartbeats 1000000 in
set_option maxRecDepth 100000 in
theorem fpart_any (s : List UInt8) (w : World) (hs : s.length ≤ 255) : Calls Try.prog 26 #[str s] w fun e w' => e = .returned (.int .i64 (partI s)) ∧ w' = w := by
  have hsz := size_str s
  by_cases h1 : s.length ≤ 100
  · have q1 : (s.length : Int) ≤ 100 := by omega
    have HE : Hid (partI s = 0) := by unfold Hid partI partP; rw [if_pos h1]; rfl
    go_enter Try.func26, Try.ntmps26
    go_wp2
    go_ret
    exact ⟨by rw [HE.out]; rfl, rfl⟩
  · have q1 : ¬ ((s.length : Int) ≤ 100) := by omega
    obtain ⟨m, hm⟩ : ∃ m, m = min (s.length - 2) 155 := ⟨_, rfl⟩
    have HP : Hid (partP s = (partAt s m).map fun k => (s.take k, s.drop (k + 1))) := by unfold Hid; rw [hm]; exact if_neg h1
    have HM := hid hm
    have q3 : (s.length : Int) ≤ 255 := by omega
    clear hm
    go_enter Try.func26, Try.ntmps26
    go_wp2
    go_loopw [3] (fun i wr => ∃ k : Nat, k + 2 ≤ s.length ∧ i = .int .i64 k ∧ Hid (∀ i, k < i → i ≤ m → s.getD i 0 ≠ 47) ∧ wr = w) (fun i _ => (intOf i).toNat)
    case atStart => exact ⟨s.length - 2, by omega, by congr 1; omega, fun i a b => by have := HM.out; omega, rfl⟩
    case round =>
      obtain ⟨k, hk, rfl, hN, rfl⟩ := hrel
      cases k with
      | zero =>
        have HE : Hid (partI s = -1) := by unfold Hid partI; rw [HP.out, partAt_zero (fun i a b => hN.out i a b)]; rfl
        clear hN
        go_wp2
        go_ret
        exact ⟨by rw [HE.out]; rfl, rfl⟩
      | succ k =>
        have e0 : ((k + 1 : Nat) : Int) = (k : Int) + 1 := by omega
        have q4 : (k : Int) + 1 > 0 := by omega
        have q5 : (0 : Int) ≤ (k : Int) + 1 := by omega
        rw [e0] at *
        have hix : ∀ W, (Instr.index 9 (str s) (.int .i64 ((k : Int) + 1))).run Try.prog W = .ok (B (s.getD (k + 1) 0)) W := fun W => run_index_str s ((k : Int) + 1) W (by omega) (by omega)
        by_cases h3 : s.getD (k + 1) 0 = 47
        · by_cases h4 : k + 1 ≤ 155
          · have q6 : (k : Int) + 1 ≤ 155 := by omega
            have hkm : k + 1 ≤ m := by have := HM.out; omega
            have H3 := hid h3
            rw [h3] at hix
            have hix2 : ∀ W, (Instr.index 9 (str s) (.int .i64 ((k : Int) + 1))).run Try.prog W = .ok (.int .u8 47) W := hix
            clear hix h3
            by_cases h5 : s.length - (k + 1) - 1 ≤ 100
            · have q7 : (s.length : Int) - ((k : Int) + 1) - 1 ≤ 100 := by omega
              have HE : Hid (partI s = (k : Int) + 1) := by
                unfold Hid partI
                rw [HP.out, partAt_found (by omega) hkm hN.out H3.out h5]
                simp only [Option.map_some, List.length_take]
                omega
              clear hN H3 h4 h5 hkm
              go_wp2
              go_ret
              exact ⟨by rw [HE.out]; rfl, rfl⟩
            · have q7 : ¬ ((s.length : Int) - ((k : Int) + 1) - 1 ≤ 100) := by omega
              have HE : Hid (partI s = -1) := by
                unfold Hid partI
                rw [HP.out, partAt_none hkm hN.out (by omega)]
                rfl
              clear hN H3 h4 h5 hkm
              go_wp2
              go_ret
              exact ⟨by rw [HE.out]; rfl, rfl⟩
          · have q6 : ¬ ((k : Int) + 1 ≤ 155) := by omega
            have HN : Hid (∀ i, k < i → i ≤ m → s.getD i 0 ≠ 47) := fun i a b => by
              have := HM.out
              exact hN.out i (by omega) b
            rw [h3] at hix
            have hix2 : ∀ W, (Instr.index 9 (str s) (.int .i64 ((k : Int) + 1))).run Try.prog W = .ok (.int .u8 47) W := hix
            clear hix h3 hN h4
            go_wp2
            exact ⟨⟨k, by omega, by go_num, HN, trivial⟩, by simp [intOf]⟩
        · have HN : Hid (∀ i, k < i → i ≤ m → s.getD i 0 ≠ 47) := fun i a b => by
            by_cases e : i = k + 1
            · rw [e]; exact h3
            · exact hN.out i (by omega) b
          have hne : (V (s.getD (k + 1) 0) == 47) = false := beq_eq_false_iff_ne.2 (fun e => h3 (V_inj (by rw [e]; rfl)))
          generalize s.getD (k + 1) 0 = x at *
          clear h3 hN
          go_wp2
          exact ⟨⟨k, by omega, by go_num, HN, trivial⟩, by simp [intOf]⟩
end Go.Proofs.Ytdfnhgkabaikaaa
