/- The reference's IsWord of any text, Right, Uses, Bytes and Encode. -/
import Derived.Test.YtkmmeokccmppbaaDoorMUses
namespace Go.Proofs.YtkmmeokccmppbaaDoor
open Go.RowKit
theorem run_index_w (s : List UInt8) (i : Int) (w : World) (h0 : 0 ≤ i) (h1 : i < s.length) : (Instr.index 9 (str s) (.int .i64 i)).run Tryd.prog w = .ok (B (s.getD i.toNat 0)) w := by
  have hz := size_str s
  rw [run_index_string w _ _ .i64 i Tryd.underlying9, dif_pos ⟨h0, by rw [hz]; exact h1⟩]
  have hl : i.toNat < s.length := by omega
  rw [List.getD_eq_getElem?_getD, List.getElem?_eq_getElem hl]
  rfl
set_option maxHeartbeats 1000000 in
set_option maxRecDepth 100000 in
theorem fIsWord_len (s : List UInt8) (hs : (s.length : Int) ≤ 9223372036854775807) (w : World) : Calls Tryd.prog 15 #[str s] w fun e w' => e = .returned (.bool (wordOk s)) ∧ w' = w := by
  have hsz := size_str s
  have HS := hid hs
  clear hs
  go_enter Tryd.func15, Tryd.ntmps15
  go_wp2
  go_loopw [3] (fun i wr => ∃ k : Nat, k ≤ s.length ∧ i = .int .i64 k ∧ Hid ((s.take k).all okByte = true) ∧ wr = w) (fun i _ => s.length - (intOf i).toNat)
  case atStart => exact ⟨0, by omega, rfl, rfl, rfl⟩
  case round =>
    obtain ⟨k, hk, rfl, hA, rfl⟩ := hrel
    by_cases hlt : k < s.length
    · have hk0 : (0 : Int) ≤ (k : Int) := by omega
      have hk1 : (k : Int) < (s.length : Int) := by omega
      have hinc : IntKind.i64.wrap ((k : Int) + 1) = (k : Int) + 1 := IntWalk.i64_in _ (by have := HS.out; omega)
      have hix : ∀ W, (Instr.index 9 (str s) (.int .i64 (k : Int))).run Tryd.prog W = .ok (B (s.getD k 0)) W := fun W => run_index_w s (k : Int) W hk0 hk1
      have HT := hid (all_take_next hlt hA.out)
      have HN := hid (not_word hlt)
      generalize s.getD k 0 = x at *
      clear hA
      have x0 : 0 ≤ V x := V_nonneg x
      rcases okByte_cases x with ⟨hx, hx2⟩ | ⟨hx, n1, n2, n3⟩
      · have HA := hid (HT.out hx)
        clear HT HN hx
        rcases hx2 with ⟨y1, y2⟩ | ⟨y1, y2⟩ | y1
        all_goals
          go_wp2
          exact ⟨⟨k + 1, by omega, by go_num, HA, trivial⟩, by simp [intOf]; omega⟩
      · have HA := hid (HN.out hx)
        clear HT HN hx
        have hcase : V x < 45 ∨ (45 < V x ∧ V x < 48) ∨ (57 < V x ∧ V x < 97) ∨ 122 < V x := by omega
        have hne : (V x == 45) = false := beq_eq_false_iff_ne.2 n3
        clear n1 n2 n3
        rcases hcase with y1 | ⟨y1, y2⟩ | ⟨y1, y2⟩ | y1
        · go_wp2
          go_ret
          exact ⟨by rw [HA.out]; rfl, rfl⟩
        · go_wp2
          go_ret
          exact ⟨by rw [HA.out]; rfl, rfl⟩
        · have e1 : decide (V x ≤ 57) = false := decide_eq_false (by omega)
          go_wp2
          go_ret
          exact ⟨by rw [HA.out]; rfl, rfl⟩
        · have e1 : decide (V x ≤ 57) = false := decide_eq_false (by omega)
          have e2 : decide (V x ≤ 122) = false := decide_eq_false (by omega)
          go_wp2
          go_ret
          exact ⟨by rw [HA.out]; rfl, rfl⟩
    · have hge : ¬ ((k : Int) < (s.length : Int)) := by omega
      have hAll : s.all okByte = true := by
        have := hA.out
        rwa [List.take_of_length_le (by omega)] at this
      by_cases h1 : 1 ≤ s.length
      · by_cases h2 : s.length ≤ 24
        · have HE : Hid (wordOk s = true) := by unfold Hid wordOk; simp [h1, h2, hAll]
          have q1 : (s.length : Int) ≥ 1 := by omega
          have q2 : (s.length : Int) ≤ 24 := by omega
          go_wp2
          go_ret
          exact ⟨by rw [HE.out]; rfl, rfl⟩
        · have HE : Hid (wordOk s = false) := by unfold Hid wordOk; simp [h2]
          have q1 : (s.length : Int) ≥ 1 := by omega
          have q2 : ¬ ((s.length : Int) ≤ 24) := by omega
          go_wp2
          go_ret
          exact ⟨by rw [HE.out]; rfl, rfl⟩
      · have HE : Hid (wordOk s = false) := by unfold Hid wordOk; simp [h1]
        have q1 : ¬ ((s.length : Int) ≥ 1) := by omega
        go_wp2
        go_ret
        exact ⟨by rw [HE.out]; rfl, rfl⟩

set_option maxHeartbeats 1000000 in
theorem fRight_any (os ar : List UInt8) (la : Option Addr) (n lc : Nat) (ho : (os.length : Int) ≤ 9223372036854775807) (ha : (ar.length : Int) ≤ 9223372036854775807) (hn : n ≤ 9223372036854775807) (w : World) : Calls Tryd.prog 11 #[.agg #[str os, str ar, .slice la n lc]] w fun e w' => e = .returned (.int .i64 (rightE os ar n)) ∧ Below w.heap.size w w' := by
  have HB := hid ((Below.refl w.heap.size w).alloc (Nat.le_refl _) (.cells #[str os, str ar, .slice la n lc] 24))
  have hB0 := Below.refl (w.alloc (.cells #[str os, str ar, .slice la n lc] 24)).heap.size (w.alloc (.cells #[str os, str ar, .slice la n lc] 24))
  have c1 : (w.alloc (.cells #[str os, str ar, .slice la n lc] 24)).cell? ⟨w.heap.size, 1, none⟩ = some (str ar) := box_cell hB0 1
  have c2 : (w.alloc (.cells #[str os, str ar, .slice la n lc] 24)).cell? ⟨w.heap.size, 2, none⟩ = some (.slice la n lc) := box_cell hB0 2
  clear hB0
  cases hwo : wordOk os with
  | false =>
    have HE : Hid (rightE os ar n = 8) := by unfold Hid rightE; simp [hwo]
    go_enter Tryd.func11, Tryd.ntmps11
    go_wp2_with fail
    refine (fIsWord_len os ho _).mono ?_
    rintro e w1 ⟨rfl, rfl⟩
    rw [hwo]
    go_wp2
    go_ret
    exact ⟨by rw [HE.out]; rfl, HB.out⟩
  | true =>
    cases hwa : wordOk ar with
    | false =>
      have HE : Hid (rightE os ar n = 8) := by unfold Hid rightE; simp [hwo, hwa]
      go_enter Tryd.func11, Tryd.ntmps11
      go_wp2_with fail
      refine (fIsWord_len os ho _).mono ?_
      rintro e w1 ⟨rfl, rfl⟩
      rw [hwo]
      go_wp2_with fail
      refine (fIsWord_len ar ha _).mono ?_
      rintro e w1 ⟨rfl, rfl⟩
      rw [hwa]
      go_wp2
      go_ret
      exact ⟨by rw [HE.out]; rfl, HB.out⟩
    | true =>
      by_cases h8 : 8 < n
      · have HE : Hid (rightE os ar n = 6) := by unfold Hid rightE; simp [hwo, hwa, h8]
        have q : (n : Int) > 8 := by omega
        go_enter Tryd.func11, Tryd.ntmps11
        go_wp2_with fail
        refine (fIsWord_len os ho _).mono ?_
        rintro e w1 ⟨rfl, rfl⟩
        rw [hwo]
        go_wp2_with fail
        refine (fIsWord_len ar ha _).mono ?_
        rintro e w1 ⟨rfl, rfl⟩
        rw [hwa]
        go_wp2
        go_ret
        exact ⟨by rw [HE.out]; rfl, HB.out⟩
      · have HE : Hid (rightE os ar n = 0) := by unfold Hid rightE; simp [hwo, hwa, h8]
        have q : ¬ ((n : Int) > 8) := by omega
        go_enter Tryd.func11, Tryd.ntmps11
        go_wp2_with fail
        refine (fIsWord_len os ho _).mono ?_
        rintro e w1 ⟨rfl, rfl⟩
        rw [hwo]
        go_wp2_with fail
        refine (fIsWord_len ar ha _).mono ?_
        rintro e w1 ⟨rfl, rfl⟩
        rw [hwa]
        go_wp2
        go_ret
        exact ⟨by rw [HE.out]; rfl, HB.out⟩
end Go.Proofs.YtkmmeokccmppbaaDoor
