/- A deed, deeds that were handed in. -/
import Derived.Test.YtpkjpkjcdpgaaaaRow
import Derived.Test.YtpkjpkjcdpgaaaaPair
import Derived.Lib.SmallJoins
import Derived.SizedLaws
namespace Go.Proofs.Ytpkjpkjcdpgaaaa
open Go.ChangeShapes Go.WideShapes Go.ChangeAt Go.RowKit
theorem cellsDeed : Try.prog.cellsOf 51 = 4 := by kernel_rfl
set_option maxRecDepth 100000 in
theorem deed_open {H : Type} {enc : TypeId × Value → H} {W : World} {r : Reach} {b0 base : Nat} {sp : Nat → Bool} {held : Bool} {v : Value} {d : DataW H} {p : List MemPlace} (hv : Value.okWide Try.prog W r b0 51 v) (h : DataW.Trod enc Try.prog W base sp held 51 v d p) :
    ∃ (f : Bool) (n l x : Int), v = .agg #[.bool f, .int .i64 n, .int .i64 l, .int .u8 x] ∧ 0 ≤ x ∧ x ≤ 255 ∧ (Lit.int .i64 n).wf = true ∧ (Lit.int .i64 l).wf = true := by
  obtain ⟨v0, v1, v2, v3, y0, y1, y2, y3, k, rfl, _, _, h0, h1, h2, h3⟩ := Joins.open_agg4 Try.underlying51 (by kernel_rfl) cellsDeed hv h
  obtain ⟨f, e0, _⟩ := DataW.trod_bool Try.underlying4 h0
  obtain ⟨n, e1, _, w1⟩ := DataW.trod_int Try.underlying3 h1
  obtain ⟨l, e2, _, w2⟩ := DataW.trod_int Try.underlying3 h2
  obtain ⟨x, e3, _, w3⟩ := DataW.trod_int Try.underlying5 h3
  simp only [List.cons.injEq, and_true] at e0 e1 e2 e3
  subst e0 e1 e2 e3
  have hb := bounds_u8 w3
  exact ⟨f, n, l, x, rfl, hb.1, hb.2, w1, w2⟩
theorem plain_addr {w : World} {a : Addr} {x : Value} (h : w.cell? a = some x) : a = ⟨a.block, a.off, none⟩ := by
  obtain ⟨b, o, s⟩ := a
  cases s with
  | none => rfl
  | some q =>
    unfold World.cell? at h
    cases hq : w.heap[b]? with
    | none => simp [hq] at h
    | some ob => cases ob <;> simp [hq] at h
set_option maxRecDepth 100000 in
/-- One deed in memory. -/
theorem deed_cells {H : Type} {enc : TypeId × Value → H} {W : World} {sp : Nat → Bool} {held : Bool} {a : Addr} {m : Nat} {y : DataW H × List MemPlace} (h : (W.cells? 0 a 4).bind (DataW.trod enc Try.prog W 0 sp held m 51) = some y) :
    ∃ D : DeedS, a = ⟨a.block, a.off, none⟩ ∧ W.cell? ⟨a.block, a.off, none⟩ = some (.bool D.f) ∧ W.cell? ⟨a.block, a.off + 1, none⟩ = some (.int .i64 D.n) ∧ W.cell? ⟨a.block, a.off + 2, none⟩ = some (.int .i64 D.l) ∧ W.cell? ⟨a.block, a.off + 3, none⟩ = some (.int .u8 D.x) ∧ 0 ≤ D.x ∧ D.x ≤ 255 := by
  obtain ⟨cs, hcs, hf⟩ := Option.bind_eq_some_iff.1 h
  obtain ⟨_, hl, hc⟩ := World.cells?_some hcs
  obtain ⟨y0, y1, y2, y3, n, _, _, h0, h1, h2, h3⟩ := Joins.trod_struct4 Try.underlying51 hf
  match cs, hl with
  | [v0, v1, v2, v3], _ =>
    obtain ⟨f, e0, _⟩ := DataW.trod_bool Try.underlying4 h0
    obtain ⟨nn, e1, _, _⟩ := DataW.trod_int Try.underlying3 h1
    obtain ⟨l, e2, _, _⟩ := DataW.trod_int Try.underlying3 h2
    obtain ⟨x, e3, _, w3⟩ := DataW.trod_int Try.underlying5 h3
    have e0' : v0 = .bool f := by simpa [show Try.prog.cellsOf 4 = 1 by kernel_rfl] using e0
    have e1' : v1 = .int .i64 nn := by simpa [show Try.prog.cellsOf 3 = 1 by kernel_rfl] using e1
    have e2' : v2 = .int .i64 l := by simpa [show Try.prog.cellsOf 3 = 1 by kernel_rfl] using e2
    have e3' : v3 = .int .u8 x := by simpa [show Try.prog.cellsOf 5 = 1 by kernel_rfl] using e3
    subst e0' e1' e2' e3'
    have hb := bounds_u8 w3
    have c0 := hc 0 (by omega)
    have hp := plain_addr c0
    rw [Addr.add, if_pos rfl] at hp
    rw [hp] at hc
    refine ⟨⟨f, nn, l, x⟩, hp, ?_, ?_, ?_, ?_, hb.1, hb.2⟩
    · simpa [Addr.add_mid] using hc 0 (by omega)
    · simpa [Addr.add_mid] using hc 1 (by omega)
    · simpa [Addr.add_mid] using hc 2 (by omega)
    · simpa [Addr.add_mid] using hc 3 (by omega)
theorem add_off (a : Addr) (j : Nat) : (a.add j).off = a.off + j := by
  unfold Addr.add; split <;> simp_all
theorem list_of {α : Type} {P : Nat → α → Prop} : ∀ n : Nat, (∀ i, i < n → ∃ x, P i x) → ∃ l : List α, l.length = n ∧ ∀ i (hi : i < l.length), P i l[i]
  | 0, _ => ⟨[], rfl, fun i hi => by simp at hi⟩
  | n + 1, h => by
    obtain ⟨l, hl, hp⟩ := list_of n (fun i hi => h i (by omega))
    obtain ⟨x, hx⟩ := h n (by omega)
    refine ⟨l ++ [x], by simp [hl], fun i hi => ?_⟩
    by_cases e : i < l.length
    · rw [List.getElem_append_left e]; exact hp i e
    · have e2 : i = n := by simp at hi; omega
      subst e2
      rw [List.getElem_append_right (by omega)]
      simpa [hl] using hx
set_option maxRecDepth 100000 in
theorem deeds_open {H : Type} {enc : TypeId × Value → H} {W : World} {base : Nat} {v : Value} {d : DataW H} {p : List MemPlace} (hok : Value.okWide Try.prog W .any base 22 v) (h : DataW.Trod enc Try.prog W 0 (fun _ => true) true 22 v d p) :
    ∃ (ds : List DeedS) (a : Option Addr) (c : Nat), v = .slice a ds.length c ∧ deedsAt W a ds ∧ ds.length ≤ 9223372036854775807 ∧ ((d = .nil ∧ ds = []) ∨ ∃ el sp, d = .slice el sp ∧ el.length = ds.length) := by
  obtain ⟨a0, len, cap, rfl⟩ := okWide_slice Try.underlying22 hok
  obtain ⟨fuel, hf⟩ := h
  rcases DataW.trod_slice Try.underlying22 hf with ⟨hcs, hx⟩ | ⟨a, len', cap', elems, rest, n, _, hcs, hx, _, hl, hm, hel, hcell, _, _⟩
  · simp only [Value.cells, List.cons.injEq, and_true, Value.slice.injEq] at hcs
    obtain ⟨rfl, rfl, rfl⟩ := hcs
    simp only [Prod.mk.injEq] at hx
    exact ⟨[], none, 0, rfl, fun j hj => by simp at hj, by simp, .inl ⟨hx.1, rfl⟩⟩
  · simp only [Value.cells, List.cons.injEq, and_true, Value.slice.injEq] at hcs
    obtain ⟨rfl, rfl, rfl⟩ := hcs
    simp only [Prod.mk.injEq] at hx
    have hex : ∀ i, i < len → ∃ D : DeedS, (a.add (i * 4)) = ⟨a.block, a.off + i * 4, none⟩ ∧ W.cell? ⟨a.block, a.off + i * 4, none⟩ = some (.bool D.f) ∧ W.cell? ⟨a.block, a.off + i * 4 + 1, none⟩ = some (.int .i64 D.n) ∧ W.cell? ⟨a.block, a.off + i * 4 + 2, none⟩ = some (.int .i64 D.l) ∧ W.cell? ⟨a.block, a.off + i * 4 + 3, none⟩ = some (.int .u8 D.x) ∧ 0 ≤ D.x ∧ D.x ≤ 255 := fun i hi => by
      have h1 := hcell i hi
      rw [cellsDeed, List.getElem?_eq_getElem (by omega)] at h1
      obtain ⟨D, hp, c0, c1, c2, c3, b0, b1⟩ := deed_cells h1
      have hblk : (a.add (i * 4)).block = a.block := add_block a _
      have hoff : (a.add (i * 4)).off = a.off + i * 4 := add_off _ _
      rw [hblk, hoff] at hp c0 c1 c2 c3
      exact ⟨D, hp, c0, c1, c2, c3, b0, b1⟩
    obtain ⟨ds, hdl, hP⟩ := list_of len hex
    refine ⟨ds, some a, cap, by rw [hdl], fun j hj => ?_, by unfold maxLen at hm; omega, .inr ⟨_, _, hx.1, by simp [hel, hdl]⟩⟩
    have ha : a = ⟨a.block, a.off, none⟩ := by
      have h0 := (hP 0 (by omega)).2.1
      have h1 := hcell 0 (by omega)
      rw [cellsDeed, List.getElem?_eq_getElem (by omega)] at h1
      obtain ⟨D, hp, _⟩ := deed_cells h1
      rw [Nat.zero_mul, Addr.add, if_pos rfl] at hp
      exact hp
    exact ⟨a.block, a.off, by rw [← ha], fun i hi => (hP i hi).2⟩
end Go.Proofs.Ytpkjpkjcdpgaaaa
