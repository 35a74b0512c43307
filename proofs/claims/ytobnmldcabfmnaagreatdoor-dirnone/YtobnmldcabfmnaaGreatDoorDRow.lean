/- The rows of dir: a world for the witness; the variables that the road names. -/
import Derived.Test.YtobnmldcabfmnaaGreatDoorCards
import Derived.Test.YtobnmldcabfmnaaGreatDoorTie
import Derived.Test.YtobnmldcabfmnaaGreatDoorJoined1
import Derived.Test.YtobnmldcabfmnaaGreatDoorJoined6
import Derived.Deep.DeepHandedRow
import Derived.ChangeMaps5
import Derived.OpenShut
namespace Go.Proofs.YtobnmldcabfmnaaGreatDoor
open Go.ChangeShapes Go.WideShapes Go.ChangeAt Go.RowKit
def acceptsD : List Nat := [128, 191, 160, 191, 128, 159, 144, 191, 128, 143] ++ List.replicate 22 0
def relaid (C : Array Value) : Obj -> Obj
 | .cells _ t frozen => .cells C t frozen
 | o => o
def relaidWorld (w : World) : World :=
 { w with heap := (w.heap.modify 1 (relaid (Go.Pinned.utf8FirstZ.map fun (n : Nat) => Value.int .u8 n).toArray)).modify 2 (relaid (acceptsD.map fun (n : Nat) => Value.int .u8 n).toArray) }
theorem maxLen_of {W : World} (h : W.ShapedOpen Tryz.prog) : ∃ m, W.cell? ⟨0, 0, none⟩ = some (.int .i64 m) := Tryz.laysM146.s1_3 W h
end Go.Proofs.YtobnmldcabfmnaaGreatDoor
