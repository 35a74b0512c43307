/- part, isName. -/
import Derived.Test.YtdfnhgkabaikaaaTName
namespace Go.Proofs.Ytdfnhgkabaikaaa
open Go.RowKit
theorem run_index_str (s : List UInt8) (i : Int) (w : World) (h0 : 0 ≤ i) (h1 : i < s.length) : (Instr.index 9 (str s) (.int .i64 i)).run Try.prog w = .ok (B (s.getD i.toNat 0)) w := by
  have hz := size_str s
  rw [run_index_string w _ _ .i64 i Try.underlying9, dif_pos ⟨h0, by rw [hz]; exact h1⟩]
  have hl : i.toNat < s.length := by omega
  rw [List.getD_eq_getElem?_getD, List.getElem?_eq_getElem hl]
  rfl
/-- What part tells. -/
def PartTo (s : List UInt8) (e : Ending) : Prop := match partP s with
  | some (p, r) => e = .returned (.tuple #[str p, str r, .bool true])
  | none => e = .returned (.tuple #[str [], str [], .bool false])
theorem extract_str (s : List UInt8) (i j : Nat) : (⟨s.toArray⟩ : ByteArray).extract i j = ⟨((s.drop i).take (j - i)).toArray⟩ := by
  apply ByteArray.ext
  rw [ByteArray.data_extract]
  simp [List.extract_eq_take_drop]
theorem part_end (s : List UInt8) (k : Nat) : Ending.returned (.tuple #[.string ((⟨s.toArray⟩ : ByteArray).extract 0 (k + 1)), .string ((⟨s.toArray⟩ : ByteArray).extract (k + 1 + 1) s.length), .bool true]) = .returned (.tuple #[str (s.take (k + 1)), str (s.drop (k + 1 + 1)), .bool true]) := by
  rw [extract_str, extract_str, List.drop_zero, Nat.sub_zero, List.take_of_length_le (l := s.drop (k + 1 + 1)) (by rw [List.length_drop]; exact Nat.le_refl _)]
set_option maxHeartbeats 2000000 in
set_option maxRecDepth 100000 in
theorem part_any (s : List UInt8) (w : World) (hs : s.length ≤ 255) : Calls Try.prog 36 #[str s] w fun e w' => PartTo s e ∧ ∃ q, w' = w.drewN q := by
  have hsz := size_str s
  by_cases h1 : s.length ≤ 100
  · have q1 : (s.length : Int) ≤ 100 := by omega
    have HE : Hid (partP s = some ([], s)) := if_pos h1
    go_enter Try.func36, Try.ntmps36
    go_wp2
    go_ret3
    refine ⟨?_, 0, rfl⟩
    unfold PartTo
    rw [HE.out]
    rfl
  · have q1 : ¬ ((s.length : Int) ≤ 100) := by omega
    obtain ⟨m, hm⟩ : ∃ m, m = min (s.length - 2) 155 := ⟨_, rfl⟩
    have q2 : (155 < (s.length : Int) - 2 ∧ (m : Int) = 155) ∨ (¬ (155 < (s.length : Int) - 2) ∧ (m : Int) = (s.length : Int) - 2) := by omega
    have q3 : (s.length : Int) ≤ 255 := by omega
    have HE : Hid (partP s = (partAt s m).map fun k => (s.take k, s.drop (k + 1))) := by unfold Hid; rw [hm]; exact if_neg h1
    have hm2 : m + 2 ≤ s.length := by omega
    clear hm
    rcases q2 with ⟨q2, hq⟩ | ⟨q2, hq⟩
    all_goals
      have HQ := hid hq
      clear hq
      go_enter Try.func36, Try.ntmps36
      go_wp2
      go_loopw [5] (fun i wr => ∃ k : Nat, k ≤ m ∧ i = .int .i64 k ∧ Hid (partAt s m = partAt s k) ∧ wr = w) (fun i _ => (intOf i).toNat)
      case atStart => exact ⟨m, by omega, by rw [HQ.out], rfl, rfl⟩
      case round =>
        obtain ⟨k, hk, rfl, hA, rfl⟩ := hrel
        cases k with
        | zero =>
          have HN : Hid (partP s = none) := by unfold Hid; rw [HE.out, hA.out]; rfl
          go_wp2
          go_ret3
          refine ⟨?_, 0, rfl⟩
          unfold PartTo
          rw [HN.out]
          rfl
        | succ k =>
          have q4 : ((k + 1 : Nat) : Int) ≥ 1 := by omega
          have e0 : ((k + 1 : Nat) : Int) = (k : Int) + 1 := by omega
          rw [e0] at *
          by_cases h2 : s.length - (k + 1) - 1 ≤ 100
          · have q5 : (s.length : Int) - ((k : Int) + 1) - 1 ≤ 100 := by omega
            have hix : ∀ W, (Instr.index 9 (str s) (.int .i64 ((k : Int) + 1))).run Try.prog W = .ok (B (s.getD (k + 1) 0)) W := fun W => run_index_str s ((k : Int) + 1) W (by omega) (by omega)
            by_cases h3 : s.getD (k + 1) 0 = 47
            · have HN : Hid (partP s = some (s.take (k + 1), s.drop (k + 1 + 1))) := by unfold Hid; rw [HE.out, hA.out]; unfold partAt; rw [if_pos h2, if_pos h3]; rfl
              rw [h3] at hix
              have hix2 : ∀ W, (Instr.index 9 (str s) (.int .i64 ((k : Int) + 1))).run Try.prog W = .ok (.int .u8 47) W := hix
              have q6 : (0 : Int) ≤ (k : Int) + 1 := by omega
              have q7 : (k : Int) + 1 ≤ (s.length : Int) := by omega
              have q8 : (k : Int) + 1 + 1 ≤ (s.length : Int) := by omega
              have q9 : (0 : Int) ≤ (k : Int) + 1 + 1 := by omega
              clear hix h3 hA h2
              go_wp2
              go_quiet (fail)
              go_wp2
              go_ret3
              refine ⟨?_, _, rfl⟩
              unfold PartTo
              rw [HN.out]
              exact part_end s k
            · have HN : Hid (partAt s m = partAt s k) := by unfold Hid; rw [hA.out]; conv => lhs; unfold partAt; rw [if_pos h2, if_neg h3]
              have hne : (V (s.getD (k + 1) 0) == 47) = false := beq_eq_false_iff_ne.2 (fun e => h3 (V_inj (by rw [e]; rfl)))
              generalize s.getD (k + 1) 0 = x at *
              clear h3 hA h2
              go_wp2
              exact ⟨⟨k, by omega, by go_num, HN, trivial⟩, by simp [intOf]⟩
          · have q5 : ¬ ((s.length : Int) - ((k : Int) + 1) - 1 ≤ 100) := by omega
            have HN : Hid (partP s = none) := by unfold Hid; rw [HE.out, hA.out]; unfold partAt; rw [if_neg h2]; rfl
            go_wp2
            go_ret3
            refine ⟨?_, 0, rfl⟩
            unfold PartTo
            rw [HN.out]
            rfl
set_option maxHeartbeats 1000000 in
theorem isName_any (s : List UInt8) (w : World) : Calls Try.prog 23 #[str s] w fun e w' => e = .returned (.bool (nameOk s)) ∧ ∃ q, w' = w.drewN q := by
  have HT := hid (isText_any s 255 w)
  cases ht : textOk s 255 with
  | false =>
    have HE : Hid (nameOk s = false) := by unfold Hid nameOk; rw [ht]; rfl
    rw [ht] at HT
    clear ht
    go_enter Try.func23, Try.ntmps23
    go_wp2_with fail
    refine HT.out.mono ?_
    rintro e w1 ⟨rfl, rfl⟩
    go_wp2
    go_ret
    exact ⟨by rw [HE.out]; rfl, 0, rfl⟩
  | true =>
    have hs : s.length ≤ 255 := by
      unfold textOk at ht
      simp only [Bool.and_eq_true, decide_eq_true_eq] at ht
      exact ht.2.1
    have HE : Hid (nameOk s = (partP s).isSome) := by unfold Hid nameOk; rw [ht]; rfl
    rw [ht] at HT
    have HP := hid (part_any s w hs)
    clear ht hs
    go_enter Try.func23, Try.ntmps23
    go_wp2_with fail
    refine HT.out.mono ?_
    rintro e w1 ⟨rfl, rfl⟩
    go_wp2_with fail
    refine HP.out.mono ?_
    rintro e w2 ⟨hp, q, rfl⟩
    unfold PartTo at hp
    cases hs : partP s with
    | none =>
      rw [hs] at hp
      simp only at hp
      subst hp
      go_wp2
      go_ret
      exact ⟨by rw [HE.out, hs]; rfl, _, rfl⟩
    | some pr =>
      rw [hs] at hp
      obtain ⟨p, r⟩ := pr
      simp only at hp
      subst hp
      go_wp2
      go_ret
      exact ⟨by rw [HE.out, hs]; rfl, _, rfl⟩
set_option maxHeartbeats 1000000 in
theorem isLink_any (k : Int) (s : List UInt8) (w : World) : Calls Try.prog 24 #[.int .i64 k, str s] w fun e w' => e = .returned (.bool (linkOk k s)) ∧ w' = w := by
  have HT := hid (isText_any s 100 w)
  by_cases h3 : k = 3
  · subst h3
    have HE : Hid (linkOk 3 s = textOk s 100) := if_pos (.inl rfl)
    go_enter Try.func24, Try.ntmps24
    go_wp2_with fail
    refine HT.out.mono ?_
    rintro e w1 ⟨rfl, rfl⟩
    go_wp2
    go_ret
    exact ⟨by rw [HE.out]; rfl, rfl⟩
  · by_cases h4 : k = 4
    · subst h4
      have HE : Hid (linkOk 4 s = textOk s 100) := if_pos (.inr rfl)
      go_enter Try.func24, Try.ntmps24
      go_wp2_with fail
      refine HT.out.mono ?_
      rintro e w1 ⟨rfl, rfl⟩
      go_wp2
      go_ret
      exact ⟨by rw [HE.out]; rfl, rfl⟩
    · have HE : Hid (linkOk k s = decide (s = [])) := if_neg (by omega)
      have e3 : (k == 3) = false := beq_eq_false_iff_ne.2 h3
      have e4 : (k == 4) = false := beq_eq_false_iff_ne.2 h4
      clear h3 h4
      go_enter Try.func24, Try.ntmps24
      go_wp2
      go_ret
      refine ⟨?_, rfl⟩
      rw [HE.out]
      cases s <;> rfl
end Go.Proofs.Ytdfnhgkabaikaaa
