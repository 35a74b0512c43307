/- Fields of a header: noughts, numbers. -/
import Derived.Test.YtdfnhgkabaikaaaTPlain
namespace Go.Proofs.Ytdfnhgkabaikaaa
open Go.RowKit
/-- A slice that can be read, by its address. -/
theorem Rd.cell {w : World} {ad : Addr} {n cap : Nat} {bs : List UInt8} (h : Rd w (.slice (some ad) n cap) bs) : n = bs.length ∧ n ≤ cap ∧ cap ≤ 9223372036854775807 ∧ ∀ j, j < bs.length → ∃ b o, ad = ⟨b, o, none⟩ ∧ w.cell? ⟨b, o + j, none⟩ = some (B (bs.getD j 0)) := by
  obtain ⟨ao, cap', e, h1, h2, h3, h4⟩ := h
  simp only [Value.slice.injEq] at e
  obtain ⟨rfl, rfl, rfl⟩ := e
  refine ⟨rfl, h1, h2, fun j hj => ?_⟩
  obtain ⟨b, o, e, _, hc⟩ := h4 ad rfl j (bs.getD j 0) (get_some hj)
  exact ⟨b, o, e, hc⟩
theorem noughts_take {bs : List UInt8} {k : Nat} (hk : k < bs.length) (h : noughts (bs.take k) = true) (hx : bs.getD k 0 = 0) : noughts (bs.take (k + 1)) = true := by
  unfold noughts at *
  rw [List.take_succ_eq_append_getElem hk, List.all_append, h]
  rw [List.getD_eq_getElem?_getD, List.getElem?_eq_getElem hk] at hx
  simpa using hx
theorem noughts_not {bs : List UInt8} {k : Nat} (hk : k < bs.length) (hx : bs.getD k 0 ≠ 0) : noughts bs = false := by
  unfold noughts
  rw [List.all_eq_false]
  refine ⟨bs.getD k 0, ?_, by simpa using hx⟩
  rw [List.getD_eq_getElem?_getD, List.getElem?_eq_getElem hk]
  exact List.getElem_mem hk
theorem V_ne {x : UInt8} (h : x ≠ 0) : V x ≠ 0 := fun e => h (V_inj (by rw [e]; rfl))
set_option maxHeartbeats 1000000 in
theorem isNoughts_any (bs : List UInt8) (v : Value) (w : World) (hr : Rd w v bs) : Calls Try.prog 44 #[v] w fun e w' => e = .returned (.bool (noughts bs)) ∧ w' = w := by
  obtain ⟨ao, cap, rfl, h1, h2, h3, h4⟩ := hr
  cases ao with
  | none =>
    have hc := h3 rfl
    have hl : bs = [] := List.length_eq_zero_iff.1 (by omega)
    subst hl
    have hz : ([] : List UInt8).length = 0 := rfl
    clear h1 h2 h3 h4
    go_enter Try.func44, Try.ntmps44
    go_wp2
    go_loopw [7] (fun i wr => i = .int .i64 0 ∧ wr = w) (fun i _ => 0)
    case atStart => exact ⟨rfl, rfl⟩
    case round =>
      obtain ⟨rfl, rfl⟩ := hrel
      go_wp2
      go_ret
      exact ⟨rfl, rfl⟩
  | some ad =>
    have HC : Hid (∀ j, j < bs.length → ∃ b o, ad = ⟨b, o, none⟩ ∧ w.cell? ⟨b, o + j, none⟩ = some (B (bs.getD j 0))) := fun j hj => by
      obtain ⟨b, o, e, _, hc⟩ := h4 ad rfl j (bs.getD j 0) (get_some hj)
      exact ⟨b, o, e, hc⟩
    have hb : (bs.length : Int) ≤ 9223372036854775000 + 807 := by omega
    clear h1 h2 h3 h4
    go_enter Try.func44, Try.ntmps44
    go_wp2
    go_loopw [7] (fun i wr => ∃ k : Nat, k ≤ bs.length ∧ i = .int .i64 k ∧ Hid (noughts (bs.take k) = true) ∧ wr = w) (fun i _ => bs.length - (intOf i).toNat)
    case atStart => exact ⟨0, by omega, rfl, rfl, rfl⟩
    case round =>
      obtain ⟨k, hk, rfl, hA, rfl⟩ := hrel
      by_cases hlt : k < bs.length
      · obtain ⟨b, o, rfl, c1⟩ := HC.out k hlt
        have hk0 : (0 : Int) ≤ (k : Int) := by omega
        have hk1 : (k : Int) < (bs.length : Int) := by omega
        by_cases hx : bs.getD k 0 = 0
        · rw [hx] at c1
          have HN := hid (noughts_take hlt hA.out hx)
          clear hx hA
          have c1' : wr.cell? ⟨b, o + k, none⟩ = some (.int .u8 0) := c1
          clear c1
          go_wp2
          exact ⟨⟨k + 1, by omega, by go_num, HN, trivial⟩, by simp [intOf]; omega⟩
        · have HN := hid (noughts_not hlt hx)
          have hne : (V (bs.getD k 0) != 0) = true := bne_iff_ne.2 (V_ne hx)
          generalize bs.getD k 0 = x at *
          clear hx hA
          go_wp2
          go_ret
          exact ⟨by rw [HN.out]; rfl, rfl⟩
      · have hge : ¬ ((k : Int) < (bs.length : Int)) := by omega
        have HN : Hid (noughts bs = true) := by
          have := hA.out
          rwa [List.take_of_length_le (by omega)] at this
        go_wp2
        go_ret
        exact ⟨by rw [HN.out]; rfl, rfl⟩
end Go.Proofs.Ytdfnhgkabaikaaa
