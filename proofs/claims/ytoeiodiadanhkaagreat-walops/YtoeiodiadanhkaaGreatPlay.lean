/- play: deeds done on the disk and on the reference; both answer alike. -/
import Derived.Test.YtoeiodiadanhkaaGreatPair
namespace Go.Proofs.YtoeiodiadanhkaaGreat
open Go.RowKit
end Go.Proofs.YtoeiodiadanhkaaGreat
