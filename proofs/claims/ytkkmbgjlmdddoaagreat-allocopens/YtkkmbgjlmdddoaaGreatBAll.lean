/- law04's all: all pages as they are now. -/
import Derived.Test.YtkkmbgjlmdddoaaGreatAllP
namespace Go.Proofs.YtkkmbgjlmdddoaaGreat
open Go.RowKit
section
variable {p : Nat} {d : DL} {S : DiskS} {size rec : Nat} {F : Nat → Prop}
end
end Go.Proofs.YtkkmbgjlmdddoaaGreat
