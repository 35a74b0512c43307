/- The reference disk: do, Write, Flush. -/
import Derived.Test.YtplcljcpekphnaaRef
namespace Go.Proofs.Ytplcljcpekphnaa
open Go.RowKit
/-- What the reference may look at, with the blocks that were made meanwhile. -/
abbrev moreOf (Rd : Nat → Prop) (w w' : World) : Nat → Prop := fun i => Rd i ∨ (w.heap.size ≤ i ∧ i < w'.heap.size)
/-- The reference behind one op more. -/
def RefS.did (R : RefS) (o : ROp) : RefS := { R with l := R.l ++ [o] }
end Go.Proofs.Ytplcljcpekphnaa
