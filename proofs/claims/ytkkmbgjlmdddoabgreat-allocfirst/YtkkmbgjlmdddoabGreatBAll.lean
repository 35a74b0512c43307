/- law04's all: all pages as they are now. -/
import Derived.Test.YtkkmbgjlmdddoabGreatAllP
namespace Go.Proofs.YtkkmbgjlmdddoabGreat
open Go.RowKit
section
variable {p : Nat} {d : DL} {S : DiskS} {size rec : Nat} {F : Nat → Prop}
end
end Go.Proofs.YtkkmbgjlmdddoabGreat
