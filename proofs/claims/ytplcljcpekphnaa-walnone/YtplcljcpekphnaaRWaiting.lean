/- The reference's Waiting. -/
import Derived.Test.YtplcljcpekphnaaRWaits
namespace Go.Proofs.Ytplcljcpekphnaa
open Go.RowKit
/-- The first k sectors' that wait. -/
def rKeys (f : Nat → Nat) (k : Nat) : List Int := ((List.range k).filter (fun n : Nat => decide (0 < f n))).map (fun n : Nat => (n : Int))
def rCounts (f : Nat → Nat) (k : Nat) : List Int := ((List.range k).filter (fun n : Nat => decide (0 < f n))).map (fun n : Nat => (f n : Int))
theorem rKeys_step (f : Nat → Nat) (k : Nat) : rKeys f (k + 1) = if 0 < f k then rKeys f k ++ [(k : Int)] else rKeys f k := by
  unfold rKeys
  rw [List.range_succ, List.filter_append]
  by_cases h : 0 < f k <;> simp [h]
theorem rCounts_step (f : Nat → Nat) (k : Nat) : rCounts f (k + 1) = if 0 < f k then rCounts f k ++ [(f k : Int)] else rCounts f k := by
  unfold rCounts
  rw [List.range_succ, List.filter_append]
  by_cases h : 0 < f k <;> simp [h]
theorem length_rKeys (f : Nat → Nat) (k : Nat) : (rKeys f k).length ≤ k := by
  unfold rKeys
  rw [List.length_map]
  exact Nat.le_trans (List.length_filter_le _ _) (by simp)
theorem length_rCounts (f : Nat → Nat) (k : Nat) : (rCounts f k).length = (rKeys f k).length := by simp [rKeys, rCounts]
/-- How many writes of sector n wait. -/
def rWait (R : RefS) (n : Nat) : Nat := waitsIn R.l (n : Int) (flushedTo R.l R.l.length) R.l.length
end Go.Proofs.Ytplcljcpekphnaa
