/- A deed that was handed in: its four fields. -/
import Derived.Test.YtpkjpkjcdpgaaaaRow
import Derived.Lib.SmallJoins
namespace Go.Proofs.Ytpkjpkjcdpgaaaa
open Go.ChangeShapes Go.WideShapes Go.ChangeAt Go.RowKit
theorem cellsDeed : Try.prog.cellsOf 51 = 4 := by kernel_rfl
set_option maxRecDepth 100000 in
theorem deed_open {H : Type} {enc : TypeId × Value → H} {W : World} {r : Reach} {b0 base : Nat} {sp : Nat → Bool} {held : Bool} {v : Value} {d : DataW H} {p : List MemPlace} (hv : Value.okWide Try.prog W r b0 51 v) (h : DataW.Trod enc Try.prog W base sp held 51 v d p) :
    ∃ (f : Bool) (n l x : Int), v = .agg #[.bool f, .int .i64 n, .int .i64 l, .int .u8 x] ∧ 0 ≤ x ∧ x ≤ 255 ∧ (Lit.int .i64 n).wf = true ∧ (Lit.int .i64 l).wf = true := by
  obtain ⟨v0, v1, v2, v3, y0, y1, y2, y3, k, rfl, _, _, h0, h1, h2, h3⟩ := Joins.open_agg4 Try.underlying51 (by kernel_rfl) cellsDeed hv h
  obtain ⟨f, e0, _⟩ := DataW.trod_bool Try.underlying4 h0
  obtain ⟨n, e1, _, w1⟩ := DataW.trod_int Try.underlying3 h1
  obtain ⟨l, e2, _, w2⟩ := DataW.trod_int Try.underlying3 h2
  obtain ⟨x, e3, _, w3⟩ := DataW.trod_int Try.underlying5 h3
  simp only [List.cons.injEq, and_true] at e0 e1 e2 e3
  subst e0 e1 e2 e3
  have hb := bounds_u8 w3
  exact ⟨f, n, l, x, rfl, hb.1, hb.2, w1, w2⟩
end Go.Proofs.Ytpkjpkjcdpgaaaa
