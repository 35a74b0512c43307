/- law03's kept and crashed: a disk as it stood behind some ops, and crashed. -/
import Derived.Test.YtkkmbgjlmdddoabGreatCutA
import Derived.Test.YtkkmbgjlmdddoabGreatBaseB
import Derived.Test.YtkkmbgjlmdddoabGreatBaseA
namespace Go.Proofs.YtkkmbgjlmdddoabGreat
open Go.RowKit
def KeptTo (K : List Int) (w' : World) (e : Ending) : Prop := ∃ a c, e = .returned (.slice a K.length c) ∧ intsAt w' a K
/-- What a crash behind q ops leaves, by these choices. -/
def crashedS (S : DiskS) (q : Nat) (ch : List UInt8) : DiskS := freshS (crashL (cutS S q).waits (cutS S q).safe ((waitKeys (cutS S q).waits (cutS S q).safe.length).zip (keepL ch (waitCounts (cutS S q).waits (cutS S q).safe.length))))
end Go.Proofs.YtkkmbgjlmdddoabGreat
