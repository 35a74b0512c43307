/- The rows of dir: a world for the witness; the variables that the road names. -/
import Derived.Test.YtpiieilffkickaaGreatDoorCards
import Derived.Test.YtpiieilffkickaaGreatDoorTie
import Derived.Test.YtpiieilffkickaaGreatDoorJoined1
import Derived.Test.YtpiieilffkickaaGreatDoorJoined6
import Derived.Deep.DeepHandedRow
import Derived.ChangeMaps5
import Derived.OpenShut
import Derived.Shelf.Vars
namespace Go.Proofs.YtpiieilffkickaaGreatDoor
open Go.ChangeShapes Go.WideShapes Go.ChangeAt Go.RowKit
def xP:List Nat:=[128,191,160,191,128,159,144,191,128,143] ++ List.replicate 22 0
def xm (C:Array Value):Obj->Obj
 | .cells _ t frozen => .cells C t frozen
 | o=>o
def iu (w:World):World :=
 { w with heap:=(w.heap.modify 1 (xm (Go.Pinned.utf8FirstZ.map fun (n:Nat)=>Value.int .u8 n).toArray)).modify 2 (xm (xP.map fun (n:Nat)=>Value.int .u8 n).toArray) }
theorem uU {W:World} (h:W.ShapedOpen Tryz.prog):∃m,W.cell? ⟨0,0,none⟩=some (.int .i64 m):=cell_of_shapedOpen_int (zero:=#[.int .i64 0]) (t:=3) h (of_decide_eq_true (by kernel_rfl)) (by kernel_rfl) rfl (by kernel_rfl) (by kernel_rfl) Tryz.underlying3
end Go.Proofs.YtpiieilffkickaaGreatDoor
