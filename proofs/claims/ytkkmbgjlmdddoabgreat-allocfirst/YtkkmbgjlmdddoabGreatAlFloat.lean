/- Small whole numbers as floats. -/
import Derived.Laws.FloatArith
import Derived.Test.YtkkmbgjlmdddoabGreatAlMap
namespace Go.Proofs.YtkkmbgjlmdddoabGreat
open Go.RowKit
def fN (k : Nat) : Nat := floatOfInt .f64 (k : Int)
def fOk (k : Nat) : Bool := FloatKind.f64.format.add (fN k) 4607182418800017408 == some (fN (k + 1)) && FloatKind.f64.format.add (fN k) 0 == some (fN k) && (floatToIntVal .f64 (fN k) .i64 == some (k : Int))
set_option maxRecDepth 100000 in
theorem fOk_small : (List.range 520).all fOk = true := by decide +kernel
theorem fN_zero : fN 0 = 0 := by decide +kernel
theorem fOk_at (k : Nat) (hk : k < 520) : fOk k = true := List.all_eq_true.1 fOk_small k (List.mem_range.2 hk)
theorem fN_add (k : Nat) (hk : k < 520) : FloatKind.f64.format.add (fN k) 4607182418800017408 = some (fN (k + 1)) := by
  have h := fOk_at k hk
  unfold fOk at h
  simp only [Bool.and_eq_true, beq_iff_eq] at h
  exact h.1.1
theorem fN_same (k : Nat) (hk : k < 520) : FloatKind.f64.format.add (fN k) 0 = some (fN k) := by
  have h := fOk_at k hk
  unfold fOk at h
  simp only [Bool.and_eq_true, beq_iff_eq] at h
  exact h.1.2
theorem fN_int (k : Nat) (hk : k < 520) : floatToIntVal .f64 (fN k) .i64 = some (k : Int) := by
  have h := fOk_at k hk
  unfold fOk at h
  simp only [Bool.and_eq_true, beq_iff_eq] at h
  exact h.2
end Go.Proofs.YtkkmbgjlmdddoabGreat
