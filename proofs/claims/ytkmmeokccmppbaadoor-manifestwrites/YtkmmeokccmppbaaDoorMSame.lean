/- The reference's Same: are two manifests the same? -/
import Derived.Test.YtkmmeokccmppbaaDoorMLive
import Derived.Test.YtkmmeokccmppbaaDoorEq32
namespace Go.Proofs.YtkmmeokccmppbaaDoor
open Go.RowKit
/-- The first k layers are the same. -/
def sameTo (a b : List (List UInt8)) (k : Nat) : Prop := ∀ i, i < k → a[i]? = b[i]?
theorem sameTo_next {a b : List (List UInt8)} {k : Nat} (h : sameTo a b k) (hk : a[k]? = b[k]?) : sameTo a b (k + 1) := fun i hi => by
  by_cases e : i = k
  · subst e; exact hk
  · exact h i (by omega)
theorem sameTo_all {a b : List (List UInt8)} (hl : a.length = b.length) (h : sameTo a b a.length) : a = b := by
  apply List.ext_getElem?
  intro i
  by_cases hi : i < a.length
  · exact h i hi
  · rw [List.getElem?_eq_none (by omega), List.getElem?_eq_none (by omega)]
def sameM (a b : MS) : Bool := decide (a.os = b.os) && (decide (a.arch = b.arch) && decide (a.ls = b.ls))
theorem sameM_iff {a b : MS} : sameM a b = true ↔ a = b := by
  cases a; cases b; simp [sameM, MS.mk.injEq]
theorem sameM_no {a b : MS} (h : a ≠ b) : sameM a b = false := by
  cases hs : sameM a b with
  | false => rfl
  | true => exact absurd (sameM_iff.1 hs) h
end Go.Proofs.YtkmmeokccmppbaaDoor
