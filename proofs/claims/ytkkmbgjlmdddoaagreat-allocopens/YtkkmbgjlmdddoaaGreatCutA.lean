/- Cut of a Fork. -/
import Derived.Test.YtkkmbgjlmdddoaaGreatBaseC
namespace Go.Proofs.YtkkmbgjlmdddoaaGreat
open Go.RowKit Go.Maps
end Go.Proofs.YtkkmbgjlmdddoaaGreat
