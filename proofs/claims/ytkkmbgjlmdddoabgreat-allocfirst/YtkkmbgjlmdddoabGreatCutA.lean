/- Cut of a Fork. -/
import Derived.Test.YtkkmbgjlmdddoabGreatBaseC
namespace Go.Proofs.YtkkmbgjlmdddoabGreat
open Go.RowKit Go.Maps
end Go.Proofs.YtkkmbgjlmdddoabGreat
