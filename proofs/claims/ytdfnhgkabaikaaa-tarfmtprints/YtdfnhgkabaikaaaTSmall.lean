/- filled, kindOf, typeOf, isEnd. -/
import Derived.Test.YtdfnhgkabaikaaaTNum
namespace Go.Proofs.Ytdfnhgkabaikaaa
open Go.RowKit
set_option maxHeartbeats 1000000 in
theorem filled_any (n : Nat) (w : World) (hn : n ≤ 8589934592) : Calls Try.prog 30 #[.int .i64 n] w fun e w' => e = .returned (.int .i64 (filledN n : Nat)) ∧ w' = w := by
  have q : (0 : Int) ≤ (n : Int) + 511 := by omega
  have hE : Hid (((n : Int) + 512 - 1) / 512 * 512 = (filledN n : Nat)) := by unfold Hid filledN; omega
  go_enter Try.func30, Try.ntmps30
  go_wp2
  go_ret
  exact ⟨congrArg (fun z : Int => Ending.returned (.int .i64 z)) hE.out, rfl⟩
theorem V_cases (t : UInt8) (n : Nat) (hn : n < 256) : (t = UInt8.ofNat n ∧ V t = n) ∨ (t ≠ UInt8.ofNat n ∧ (V t == n) = false) := by
  by_cases h : t = UInt8.ofNat n
  · refine .inl ⟨h, ?_⟩
    rw [h]; unfold V; rw [UInt8.toNat_ofNat']; omega
  · exact .inr ⟨h, beq_eq_false_iff_ne.2 (fun e => h (V_inj (by rw [e]; unfold V; rw [UInt8.toNat_ofNat']; omega)))⟩
set_option maxHeartbeats 1000000 in
theorem kindOf_any (t : UInt8) (w : World) : Calls Try.prog 52 #[B t] w fun e w' => e = .returned (.int .i64 (kindP t)) ∧ w' = w := by
  by_cases h0 : t = 0
  · subst h0
    go_enter Try.func52, Try.ntmps52
    go_wp2
    go_ret
    exact ⟨rfl, rfl⟩
  by_cases h1 : t = 48
  · subst h1
    go_enter Try.func52, Try.ntmps52
    go_wp2
    go_ret
    exact ⟨rfl, rfl⟩
  by_cases h2 : t = 49
  · subst h2
    go_enter Try.func52, Try.ntmps52
    go_wp2
    go_ret
    exact ⟨rfl, rfl⟩
  by_cases h3 : t = 50
  · subst h3
    go_enter Try.func52, Try.ntmps52
    go_wp2
    go_ret
    exact ⟨rfl, rfl⟩
  by_cases h4 : t = 53
  · subst h4
    go_enter Try.func52, Try.ntmps52
    go_wp2
    go_ret
    exact ⟨rfl, rfl⟩
  have e0 : (V t == 0) = false := beq_eq_false_iff_ne.2 (fun e => h0 (V_inj (by rw [e]; rfl)))
  have e1 : (V t == 48) = false := beq_eq_false_iff_ne.2 (fun e => h1 (V_inj (by rw [e]; rfl)))
  have e2 : (V t == 49) = false := beq_eq_false_iff_ne.2 (fun e => h2 (V_inj (by rw [e]; rfl)))
  have e3 : (V t == 50) = false := beq_eq_false_iff_ne.2 (fun e => h3 (V_inj (by rw [e]; rfl)))
  have e4 : (V t == 53) = false := beq_eq_false_iff_ne.2 (fun e => h4 (V_inj (by rw [e]; rfl)))
  have HK : Hid (kindP t = 0) := by unfold Hid kindP; simp [h0, h1, h2, h3, h4]
  clear h0 h1 h2 h3 h4
  go_enter Try.func52, Try.ntmps52
  go_wp2
  go_ret
  exact ⟨by rw [HK.out]; rfl, rfl⟩
set_option maxHeartbeats 1000000 in
theorem typeOf_any (k : Int) (w : World) (h1 : 1 ≤ k) (h4 : k ≤ 4) : Calls Try.prog 42 #[.int .i64 k] w fun e w' => e = .returned (B (typeP k)) ∧ w' = w := by
  have hc : k = 1 ∨ k = 2 ∨ k = 3 ∨ k = 4 := by omega
  clear h1 h4
  rcases hc with rfl | rfl | rfl | rfl
  all_goals
    go_enter Try.func42, Try.ntmps42
    go_wp2
    go_ret
    exact ⟨rfl, rfl⟩
set_option maxHeartbeats 1000000 in
theorem isEnd_any (bs : List UInt8) (v : Value) (w : World) (hr : Rd w v bs) : Calls Try.prog 39 #[v] w fun e w' => e = .returned (.bool (endP bs)) ∧ w' = w := by
  have HN := hid (isNoughts_any bs v w hr)
  obtain ⟨ao, cap, rfl, r1, r2, _, _⟩ := hr
  have q0 : (bs.length : Int) ≤ 9223372036854775000 + 807 := by omega
  clear r1 r2
  by_cases h1 : 1024 ≤ bs.length
  · have q1 : (bs.length : Int) ≥ 1024 := by omega
    by_cases h2 : bs.length % 512 = 0
    · have q2 : (bs.length : Int) % 512 = 0 := by omega
      have HE : Hid (endP bs = noughts bs) := by unfold Hid endP; rw [decide_eq_true h1, decide_eq_true h2]; rfl
      go_enter Try.func39, Try.ntmps39
      go_wp2_with (first | (go_at_call 44; refine HN.out.mono ?_; rintro e w1 ⟨rfl, rfl⟩))
      go_ret
      exact ⟨by rw [HE.out]; rfl, rfl⟩
    · have q2 : ¬ ((bs.length : Int) % 512 = 0) := by omega
      have q3 : ((bs.length : Int) % 512 == 0) = false := beq_eq_false_iff_ne.2 q2
      have HE : Hid (endP bs = false) := by unfold Hid endP; rw [decide_eq_false h2]; simp
      go_enter Try.func39, Try.ntmps39
      go_wp2
      go_ret
      exact ⟨by rw [HE.out]; rfl, rfl⟩
  · have q1 : ¬ ((bs.length : Int) ≥ 1024) := by omega
    have HE : Hid (endP bs = false) := by unfold Hid endP; rw [decide_eq_false h1]; simp
    go_enter Try.func39, Try.ntmps39
    go_wp2
    go_ret
    exact ⟨by rw [HE.out]; rfl, rfl⟩
end Go.Proofs.Ytdfnhgkabaikaaa
