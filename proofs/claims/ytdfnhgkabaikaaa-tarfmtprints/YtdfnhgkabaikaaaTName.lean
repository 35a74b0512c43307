/- Names: isText, part, isName, isLink. -/
import Derived.Test.YtdfnhgkabaikaaaTText
namespace Go.Proofs.Ytdfnhgkabaikaaa
open Go.RowKit
theorem noZ_idx (s : List UInt8) : noZ s = decide (idx0 s < 0) := by
  rcases idx0_cases s with h | ⟨k, h⟩
  · rw [h]
    have := idx0_none h
    unfold noZ
    rw [show decide ((-1 : Int) < 0) = true by decide, List.all_eq_true]
    intro x hx
    rw [← this.1] at hx
    have := List.all_takeWhile (l := s) (p := fun x => x != 0)
    rw [List.all_eq_true] at this
    exact this x hx
  · rw [h]
    obtain ⟨hl, _, _⟩ := idx0_some h
    obtain ⟨h1, _⟩ := Lib.indexByte_some h
    rw [decide_eq_false (by omega)]
    unfold noZ
    rw [List.all_eq_false]
    exact ⟨0, List.mem_of_getElem? h1, by simp⟩
set_option maxHeartbeats 1000000 in
set_option maxRecDepth 100000 in
theorem slIndexByte_any (s : List UInt8) (w : World) : Calls Try.prog 48 #[str s, .int .u8 0] w fun e w' => e = .returned (.int .i64 (idx0 s)) ∧ w' = w := by
  go_enter Try.func48, Try.ntmps48
  go_wp2
  rw [run_callFunc_extern Try.func53 (by kernel_rfl) (by kernel_rfl) (by kernel_rfl) (e := Extern.BytealgIndexByte.indexByte) (by kernel_rfl), Lib.run_indexByteString]
  simp only [Result.andThen]
  rw [Oper.upon_value]
  go_wp2
  go_ret
  exact ⟨rfl, rfl⟩
set_option maxHeartbeats 1000000 in
theorem sIndexByte_any (s : List UInt8) (w : World) : Calls Try.prog 43 #[str s, .int .u8 0] w fun e w' => e = .returned (.int .i64 (idx0 s)) ∧ w' = w := by
  go_enter Try.func43, Try.ntmps43
  go_wp2_with fail
  refine (slIndexByte_any s w).mono ?_
  rintro e w1 ⟨rfl, rfl⟩
  go_wp2
  go_ret
  exact ⟨rfl, rfl⟩
set_option maxHeartbeats 1000000 in
theorem isText_any (s : List UInt8) (most : Nat) (w : World) : Calls Try.prog 35 #[str s, .int .i64 most] w fun e w' => e = .returned (.bool (textOk s most)) ∧ w' = w := by
  have hsz := size_str s
  have HI := hid (sIndexByte_any s w)
  have HZ := hid (noZ_idx s)
  by_cases h1 : 1 ≤ s.length
  · have q1 : (s.length : Int) ≥ 1 := by omega
    by_cases h2 : s.length ≤ most
    · have q2 : (s.length : Int) ≤ (most : Int) := by omega
      have HE : Hid (textOk s most = noZ s) := by unfold Hid textOk; rw [decide_eq_true h1, decide_eq_true h2]; rfl
      rcases idx0_cases s with hi | ⟨k, hi⟩
      · rw [hi] at HI HZ
        clear hi
        go_enter Try.func35, Try.ntmps35
        go_wp2_with (first | (go_at_call 43; refine HI.out.mono ?_; rintro e w1 ⟨rfl, rfl⟩))
        go_ret
        exact ⟨by rw [HE.out, HZ.out]; rfl, rfl⟩
      · rw [hi] at HI HZ
        have q3 : ¬ ((k : Int) < 0) := by omega
        have HZ2 : Hid (noZ s = false) := by unfold Hid; rw [HZ.out, decide_eq_false q3]
        clear hi
        go_enter Try.func35, Try.ntmps35
        go_wp2_with (first | (go_at_call 43; refine HI.out.mono ?_; rintro e w1 ⟨rfl, rfl⟩))
        go_ret
        exact ⟨by rw [HE.out, HZ2.out]; rfl, rfl⟩
    · have q2 : ¬ ((s.length : Int) ≤ (most : Int)) := by omega
      have HE : Hid (textOk s most = false) := by unfold Hid textOk; rw [decide_eq_false h2]; simp
      go_enter Try.func35, Try.ntmps35
      go_wp2
      go_ret
      exact ⟨by rw [HE.out]; rfl, rfl⟩
  · have q1 : ¬ ((s.length : Int) ≥ 1) := by omega
    have HE : Hid (textOk s most = false) := by unfold Hid textOk; rw [decide_eq_false h1]; simp
    go_enter Try.func35, Try.ntmps35
    go_wp2
    go_ret
    exact ⟨by rw [HE.out]; rfl, rfl⟩
end Go.Proofs.Ytdfnhgkabaikaaa
