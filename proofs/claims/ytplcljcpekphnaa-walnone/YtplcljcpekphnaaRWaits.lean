/- The reference's waits. -/
import Derived.Test.YtplcljcpekphnaaRef4
namespace Go.Proofs.Ytplcljcpekphnaa
open Go.RowKit
/-- How many of the ops from f to k are of sector n. -/
def waitsIn (l : List ROp) (n : Int) (f : Nat) : Nat → Nat
  | 0 => 0
  | k + 1 => if h : k < l.length then (if f ≤ k ∧ l[k].n = n then waitsIn l n f k + 1 else waitsIn l n f k) else waitsIn l n f k
theorem waitsIn_le (l : List ROp) (n : Int) (f : Nat) : ∀ k, waitsIn l n f k ≤ k
  | 0 => Nat.le_refl _
  | k + 1 => by
    have := waitsIn_le l n f k
    unfold waitsIn
    split
    · split <;> omega
    · omega
theorem waitsIn_low (l : List ROp) (n : Int) (f : Nat) : ∀ k, k ≤ f → waitsIn l n f k = 0
  | 0, _ => rfl
  | k + 1, h => by
    have := waitsIn_low l n f k (by omega)
    unfold waitsIn
    split
    · rw [if_neg (by omega)]; exact this
    · exact this
end Go.Proofs.Ytplcljcpekphnaa
