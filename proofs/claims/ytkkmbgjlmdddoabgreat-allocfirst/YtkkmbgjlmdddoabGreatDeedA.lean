/- law03's Deed.pages, of whatever deed. -/
import Derived.Test.YtkkmbgjlmdddoabGreatBaseD
namespace Go.Proofs.YtkkmbgjlmdddoabGreat
open Go.RowKit
/-- How many bytes the page at j has. -/
def plen (s : Bool) (j : Nat) : Nat := if s = true ∧ j = 0 then 511 else 512
/-- The cells of the first k pages. -/
def pageCellsS (s : Bool) (ns : List Int) (bs : Nat → Nat) (k : Nat) : List Value := (List.range k).flatMap (fun j => [.int .i64 (ns.getD j 0), .slice (some ⟨bs j, 0, none⟩) (plen s j) 512])
theorem pageCellsS_succ (s : Bool) (ns : List Int) (bs : Nat → Nat) (k : Nat) : pageCellsS s ns bs (k + 1) = pageCellsS s ns bs k ++ [.int .i64 (ns.getD k 0), .slice (some ⟨bs k, 0, none⟩) (plen s k) 512] := by
  rw [pageCellsS, List.range_succ, List.flatMap_append]; simp [pageCellsS]
theorem pageCellsS_congr (s : Bool) (ns : List Int) (bs bs' : Nat → Nat) : ∀ k, (∀ j, j < k → bs j = bs' j) → pageCellsS s ns bs k = pageCellsS s ns bs' k
  | 0, _ => rfl
  | k + 1, h => by rw [pageCellsS_succ, pageCellsS_succ, pageCellsS_congr s ns bs bs' k (fun j hj => h j (by omega)), h k (by omega)]
theorem length_pageCellsS (s : Bool) (ns : List Int) (bs : Nat → Nat) (k : Nat) : (pageCellsS s ns bs k).length = k * 2 := by
  induction k with
  | zero => rfl
  | succ k ih => rw [pageCellsS_succ, List.length_append, ih]; simp; omega
theorem pageCellsS_at (s : Bool) (ns : List Int) (bs : Nat → Nat) : ∀ (k j : Nat), j < k → (pageCellsS s ns bs k)[j * 2]? = some (.int .i64 (ns.getD j 0)) ∧ (pageCellsS s ns bs k)[j * 2 + 1]? = some (.slice (some ⟨bs j, 0, none⟩) (plen s j) 512)
  | 0, j, h => by omega
  | k + 1, j, h => by
    have hl : ∀ k, (pageCellsS s ns bs k).length = k * 2 := fun k => by
      induction k with
      | zero => rfl
      | succ k ih => rw [pageCellsS_succ, List.length_append, ih]; simp; omega
    rw [pageCellsS_succ]
    by_cases e : j = k
    · subst e
      rw [List.getElem?_append_right (by rw [hl]; omega), List.getElem?_append_right (by rw [hl]; omega), hl]
      have e0 : j * 2 - j * 2 = 0 := by omega
      have e1 : j * 2 + 1 - j * 2 = 1 := by omega
      rw [e0, e1]
      exact ⟨rfl, rfl⟩
    · rw [List.getElem?_append_left (by rw [hl]; omega), List.getElem?_append_left (by rw [hl]; omega)]
      exact pageCellsS_at s ns bs k j (by omega)
def DeedAny (s : Bool) (ns : List Int) (m : Nat) (x : UInt8) (K : Nat) (w' : World) (e : Ending) : Prop := ∃ v bs, e = .returned v ∧ w'.ownsRow (K + 1) 63 2 v m (pageCellsS s ns bs m) ∧ ∀ j, j < m → K ≤ bs j ∧ ownB w' (bs j) (rowX x j)
end Go.Proofs.YtkkmbgjlmdddoabGreat
