/- The reference's Ops, Sectors, flushed. -/
import Derived.Test.YtplcljcpekphnaaRefNew
namespace Go.Proofs.Ytplcljcpekphnaa
open Go.RowKit
theorem opCells_cons (o : ROp) (l : List ROp) (v : Value) (vs : List Value) : opCells (o :: l) (v :: vs) = .bool o.flush :: .int .i64 o.n :: v :: opCells l vs := by simp [opCells]
theorem opCells_at : ∀ (l : List ROp) (vs : List Value) (_ : l.length = vs.length) (i : Nat) (hi : i < l.length) (hi' : i < vs.length),
    (opCells l vs)[i * 3]? = some (.bool l[i].flush) ∧ (opCells l vs)[i * 3 + 1]? = some (.int .i64 l[i].n) ∧ (opCells l vs)[i * 3 + 2]? = some vs[i]
  | [], _, _, i, hi, _ => by simp at hi
  | o :: l, [], h, _, _, _ => by simp at h
  | o :: l, v :: vs, h, 0, _, _ => by rw [opCells_cons]; simp
  | o :: l, v :: vs, h, i + 1, hi, hi' => by
    obtain ⟨h1, h2, h3⟩ := opCells_at l vs (by simpa using h) i (by simpa using hi) (by simpa using hi')
    rw [opCells_cons, show (i + 1) * 3 = i * 3 + 3 by omega]
    refine ⟨by simpa using h1, ?_, ?_⟩
    · rw [show i * 3 + 3 + 1 = (i * 3 + 1) + 3 by omega]; simpa using h2
    · rw [show i * 3 + 3 + 2 = (i * 3 + 2) + 3 by omega]; simpa using h3
/-- Behind which op the last flush of the first k is. -/
def flushedTo (l : List ROp) : Nat → Nat
  | 0 => 0
  | k + 1 => if h : k < l.length then (if l[k].flush then k + 1 else flushedTo l k) else flushedTo l k
theorem flushedTo_le (l : List ROp) : ∀ k, flushedTo l k ≤ k
  | 0 => Nat.le_refl _
  | k + 1 => by
    have := flushedTo_le l k
    unfold flushedTo
    split
    · split <;> omega
    · omega
end Go.Proofs.Ytplcljcpekphnaa
