/- The reference's IsWord and word. -/
import Derived.Test.YtkmmeokccmppbaaMNext
namespace Go.Proofs.Ytkmmeokccmppbaa
open Go.RowKit
theorem run_index_str (s : List UInt8) (i : Int) (w : World) (h0 : 0 ≤ i) (h1 : i < s.length) : (Instr.index 9 (str s) (.int .i64 i)).run Try.prog w = .ok (B (s.getD i.toNat 0)) w := by
  have hz := size_str s
  rw [run_index_string w _ _ .i64 i Try.underlying9, dif_pos ⟨h0, by rw [hz]; exact h1⟩]
  have hl : i.toNat < s.length := by omega
  rw [List.getD_eq_getElem?_getD, List.getElem?_eq_getElem hl]
  rfl
set_option maxHeartbeats 1000000 in
set_option maxRecDepth 100000 in
theorem fIsWord_any (s : List UInt8) (hs : s.length ≤ 1000) (w : World) : Calls Try.prog 23 #[str s] w fun e w' => e = .returned (.bool (wordOk s)) ∧ w' = w := by
  have hsz := size_str s
  go_enter Try.func23, Try.ntmps23
  go_wp2
  go_loopw [3] (fun i wr => ∃ k : Nat, k ≤ s.length ∧ i = .int .i64 k ∧ Hid ((s.take k).all okByte = true) ∧ wr = w) (fun i _ => s.length - (intOf i).toNat)
  case atStart => exact ⟨0, by omega, rfl, rfl, rfl⟩
  case round =>
    obtain ⟨k, hk, rfl, hA, rfl⟩ := hrel
    by_cases hlt : k < s.length
    · have hk0 : (0 : Int) ≤ (k : Int) := by omega
      have hk1 : (k : Int) < (s.length : Int) := by omega
      have hk2 : (k : Int) < 1000 := by omega
      have hix : ∀ W, (Instr.index 9 (str s) (.int .i64 (k : Int))).run Try.prog W = .ok (B (s.getD k 0)) W := fun W => run_index_str s (k : Int) W hk0 hk1
      have HT := hid (all_take_next hlt hA.out)
      have HN := hid (not_word hlt)
      generalize s.getD k 0 = x at *
      clear hA
      have x0 : 0 ≤ V x := V_nonneg x
      rcases okByte_cases x with ⟨hx, hx2⟩ | ⟨hx, n1, n2, n3⟩
      · have HA := hid (HT.out hx)
        clear HT HN hx
        rcases hx2 with ⟨y1, y2⟩ | ⟨y1, y2⟩ | y1
        all_goals
          go_wp2
          exact ⟨⟨k + 1, by omega, by go_num, HA, trivial⟩, by simp [intOf]; omega⟩
      · have HA := hid (HN.out hx)
        clear HT HN hx
        have hcase : V x < 45 ∨ (45 < V x ∧ V x < 48) ∨ (57 < V x ∧ V x < 97) ∨ 122 < V x := by omega
        have hne : (V x == 45) = false := beq_eq_false_iff_ne.2 n3
        clear n1 n2 n3
        rcases hcase with y1 | ⟨y1, y2⟩ | ⟨y1, y2⟩ | y1
        · go_wp2
          go_ret
          exact ⟨by rw [HA.out]; rfl, rfl⟩
        · go_wp2
          go_ret
          exact ⟨by rw [HA.out]; rfl, rfl⟩
        · have e1 : decide (V x ≤ 57) = false := decide_eq_false (by omega)
          go_wp2
          go_ret
          exact ⟨by rw [HA.out]; rfl, rfl⟩
        · have e1 : decide (V x ≤ 57) = false := decide_eq_false (by omega)
          have e2 : decide (V x ≤ 122) = false := decide_eq_false (by omega)
          go_wp2
          go_ret
          exact ⟨by rw [HA.out]; rfl, rfl⟩
    · have hge : ¬ ((k : Int) < (s.length : Int)) := by omega
      have hAll : s.all okByte = true := by
        have := hA.out
        rwa [List.take_of_length_le (by omega)] at this
      by_cases h1 : 1 ≤ s.length
      · by_cases h2 : s.length ≤ 24
        · have HE : Hid (wordOk s = true) := by unfold Hid wordOk; simp [h1, h2, hAll]
          have q1 : (s.length : Int) ≥ 1 := by omega
          have q2 : (s.length : Int) ≤ 24 := by omega
          go_wp2
          go_ret
          exact ⟨by rw [HE.out]; rfl, rfl⟩
        · have HE : Hid (wordOk s = false) := by unfold Hid wordOk; simp [h2]
          have q1 : (s.length : Int) ≥ 1 := by omega
          have q2 : ¬ ((s.length : Int) ≤ 24) := by omega
          go_wp2
          go_ret
          exact ⟨by rw [HE.out]; rfl, rfl⟩
      · have HE : Hid (wordOk s = false) := by unfold Hid wordOk; simp [h1]
        have q1 : ¬ ((s.length : Int) ≥ 1) := by omega
        go_wp2
        go_ret
        exact ⟨by rw [HE.out]; rfl, rfl⟩
/-- What the reference's word answers. -/
def FWordTo (bs : List UInt8) (j : Nat) (e : Ending) : Prop :=
  (∃ (s : List UInt8) (i : Int), e = .returned (.tuple #[str s, .int .i64 i, .bool false]) ∧ ∀ s t, pWord (bs.drop j) = some (s, t) → wordOk s = false) ∨
  ∃ s t, pWord (bs.drop j) = some (s, t) ∧ wordOk s = true ∧ t.length + (j + 1 + s.length) = bs.length ∧ t = bs.drop (j + 1 + s.length) ∧ e = .returned (.tuple #[str s, .int .i64 ((j + 1 + s.length : Nat) : Int), .bool true])
theorem Rd.cell {w : World} {ao : Option Addr} {cap : Nat} {bs : List UInt8} (h : Rd w (.slice ao bs.length cap) bs) {j : Nat} (hj : j < bs.length) : ∃ b o, ao = some ⟨b, o, none⟩ ∧ w.cell? ⟨b, o + j, none⟩ = some (B (bs.getD j 0)) := by
  obtain ⟨ao', cap', e, h1, h2, h3, h4⟩ := h
  simp only [Value.slice.injEq, true_and] at e
  obtain ⟨rfl, rfl⟩ := e
  cases ao with
  | none => have := h3 rfl; omega
  | some ad =>
    obtain ⟨b, o, rfl, _, hc⟩ := h4 ad rfl j _ (get_some (d := 0) hj)
    exact ⟨b, o, rfl, hc⟩
theorem Rd.mid {w : World} {ad : Addr} {cap : Nat} {bs : List UInt8} (h : Rd w (.slice (some ad) bs.length cap) bs) {i j : Nat} (hij : i ≤ j) (hj : j ≤ bs.length) : Rd w (.slice (some (ad.add i)) (j - i) (cap - i)) ((bs.drop i).take (j - i)) := by
  have h1 := h.drop (n := i) (by omega)
  have e : (bs.drop i).length = bs.length - i := List.length_drop
  rw [← e] at h1
  exact h1.take (by rw [e]; omega)
set_option maxRecDepth 100000 in
set_option maxHeartbeats 1000000 in
theorem fword_any (w : World) (v : Value) (bs : List UInt8) (j : Nat) (hr : Rd w v bs) (hj : (j : Int) ≤ 9223372036854775000) (hb : (bs.length : Int) ≤ 9223372036854775000) :
    Calls Try.prog 18 #[v, .int .i64 (j : Int)] w fun e w' => FWordTo bs j e ∧ Below w.heap.size w w' := by
  have HR := hid hr
  obtain ⟨ao, cap, rfl, h1, h2, h3, -⟩ := hr
  by_cases hlt : j < bs.length
  · obtain ⟨b, o, rfl, c0⟩ := HR.out.cell hlt
    have hdr : bs.drop j = bs.getD j 0 :: bs.drop (j + 1) := by
      rw [List.drop_eq_getElem_cons hlt, List.getD_eq_getElem?_getD, List.getElem?_eq_getElem hlt]
      rfl
    have HDr := hid hdr
    have hdl : (bs.drop (j + 1)).length = bs.length - (j + 1) := List.length_drop
    have HDl := hid hdl
    generalize bs.getD j 0 = n at *
    have n0 := V_nonneg n
    have n1 := V_lt n
    have hVn : V n = ((n.toNat : Nat) : Int) := rfl
    have HVn := hid hVn
    have q1 : ¬ ((j : Int) ≥ (bs.length : Int)) := by omega
    have q2 : (0 : Int) ≤ (j : Int) := by omega
    have q3 : (j : Int) < (bs.length : Int) := by omega
    clear hdr hdl hVn
    by_cases hle : j + 1 + n.toNat ≤ bs.length
    · have q4 : ¬ ((j : Int) + 1 + V n > (bs.length : Int)) := by rw [HVn.out]; omega
      have HP : Hid (pWord (bs.drop j) = some ((bs.drop (j + 1)).take n.toNat, bs.drop (j + 1 + n.toNat))) := by
        unfold Hid
        rw [HDr.out]
        show (if n.toNat ≤ (bs.drop (j + 1)).length then _ else _) = _
        rw [if_pos (by rw [HDl.out]; omega), List.drop_drop]
      have HsL : Hid (((bs.drop (j + 1)).take n.toNat).length = n.toNat) := by unfold Hid; rw [List.length_take, HDl.out]; omega
      have HTl : Hid ((bs.drop (j + 1 + n.toNat)).length + (j + 1 + ((bs.drop (j + 1)).take n.toNat).length) = bs.length) := by unfold Hid; rw [HsL.out, List.length_drop]; omega
      have HTd : Hid (bs.drop (j + 1 + n.toNat) = bs.drop (j + 1 + ((bs.drop (j + 1)).take n.toNat).length)) := by unfold Hid; rw [HsL.out]
      have hn255 : n.toNat ≤ 255 := by have := n.toNat_lt; omega
      by_cases hcap : j + 1 = cap
      · have hn0 : n.toNat = 0 := by omega
        have hV0 : V n = 0 := by rw [HVn.out, hn0]; rfl
        have hs0 : (bs.drop (j + 1)).take n.toNat = [] := by rw [hn0]; rfl
        have hRe : Rd w (.slice (some ⟨b, o, none⟩) 0 0) [] := ⟨_, 0, rfl, by simp, by omega, (fun h => by cases h), fun ad _ i x hx => by simp at hx⟩
        have hcv := run_str hRe
        clear hRe
        rw [hs0] at HP HsL HTl HTd
        clear hs0
        subst hcap
        generalize bs.drop (j + 1 + n.toNat) = tx at *
        obtain ⟨sx, hsx⟩ : ∃ sx : List UInt8, sx = [] := ⟨_, rfl⟩
        rw [← hsx] at HP HsL HTl HTd hcv
        clear hsx
        have HI := hid (fIsWord_any sx (by have := HsL.out; omega) w)
        go_enter Try.func18, Try.ntmps18
        go_wp2_with fail
        refine HI.out.mono ?_
        rintro e w1 ⟨rfl, rfl⟩
        cases hw : wordOk sx with
        | false =>
          have HF : Hid (FWordTo bs j (.returned (.tuple #[str sx, .int .i64 ((j : Int) + 1), .bool false]))) := .inl ⟨_, _, rfl, fun s t h => by
            rw [HP.out] at h
            simp only [Option.some.injEq, Prod.mk.injEq] at h
            rw [← h.1]
            exact hw⟩
          go_wp2
          go_ret3
          exact ⟨HF.out, Below.refl _ _⟩
        | true =>
          have HF : Hid (FWordTo bs j (.returned (.tuple #[str sx, .int .i64 ((j : Int) + 1), .bool true]))) := .inr ⟨sx, _, HP.out, hw, HTl.out, HTd.out, by rw [HsL.out, hn0]; rfl⟩
          go_wp2
          go_ret3
          exact ⟨HF.out, Below.refl _ _⟩
      · have hcv := run_str (HR.out.mid (i := j + 1) (j := j + 1 + n.toNat) (by omega) hle)
        rw [show j + 1 + n.toNat - (j + 1) = ((j : Int) + 1 + V n).toNat - (j + 1) by rw [HVn.out]; omega, Addr.add_mid, show ((j : Int) + 1 + V n).toNat - (j + 1) = n.toNat by rw [HVn.out]; omega] at hcv
        have hcv2 : (convert 22 9 (.slice (some ⟨b, o + (j + 1), none⟩) (((j : Int) + 1 + V n).toNat - (j + 1)) (cap - (j + 1)))).run Try.prog w = .ok (str ((bs.drop (j + 1)).take n.toNat)) w := by
          rw [show ((j : Int) + 1 + V n).toNat - (j + 1) = n.toNat by rw [HVn.out]; omega]
          exact hcv
        have q5 : (j : Int) + 1 ≤ (cap : Int) := by omega
        have q6 : (j : Int) + 1 + V n ≤ (cap : Int) := by rw [HVn.out]; omega
        clear hcv
        generalize (bs.drop (j + 1)).take n.toNat = sx at *
        generalize bs.drop (j + 1 + n.toNat) = tx at *
        have HI := hid (fIsWord_any sx (by have := HsL.out; omega) w)
        go_enter Try.func18, Try.ntmps18
        go_wp2_with fail
        refine HI.out.mono ?_
        rintro e w1 ⟨rfl, rfl⟩
        cases hw : wordOk sx with
        | false =>
          have HF : Hid (FWordTo bs j (.returned (.tuple #[str sx, .int .i64 ((j : Int) + 1 + V n), .bool false]))) := .inl ⟨_, _, rfl, fun s t h => by
            rw [HP.out] at h
            simp only [Option.some.injEq, Prod.mk.injEq] at h
            rw [← h.1]
            exact hw⟩
          go_wp2
          go_ret3
          exact ⟨HF.out, Below.refl _ _⟩
        | true =>
          have HF : Hid (FWordTo bs j (.returned (.tuple #[str sx, .int .i64 ((j : Int) + 1 + V n), .bool true]))) := .inr ⟨sx, _, HP.out, hw, HTl.out, HTd.out, by rw [HsL.out, HVn.out]; push_cast; rfl⟩
          go_wp2
          go_ret3
          exact ⟨HF.out, Below.refl _ _⟩
    · have q4 : (j : Int) + 1 + V n > (bs.length : Int) := by rw [HVn.out]; omega
      have HF : Hid (FWordTo bs j (.returned (.tuple #[str [], .int .i64 0, .bool false]))) := .inl ⟨_, _, rfl, fun s t h => by
        rw [HDr.out] at h
        have h' : (if n.toNat ≤ (bs.drop (j + 1)).length then some ((bs.drop (j + 1)).take n.toNat, (bs.drop (j + 1)).drop n.toNat) else none) = some (s, t) := h
        rw [if_neg (by rw [HDl.out]; omega)] at h'
        simp at h'⟩
      go_enter Try.func18, Try.ntmps18
      go_wp2
      go_ret3
      exact ⟨HF.out, Below.refl _ _⟩
  · have HF : Hid (FWordTo bs j (.returned (.tuple #[str [], .int .i64 0, .bool false]))) := .inl ⟨_, _, rfl, fun s t h => by
      rw [List.drop_of_length_le (by omega)] at h
      simp [pWord] at h⟩
    have q1 : (j : Int) ≥ (bs.length : Int) := by omega
    go_enter Try.func18, Try.ntmps18
    go_wp2
    go_ret3
    exact ⟨HF.out, Below.refl _ _⟩
end Go.Proofs.Ytkmmeokccmppbaa
