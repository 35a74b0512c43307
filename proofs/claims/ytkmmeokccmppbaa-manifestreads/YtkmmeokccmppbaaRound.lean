/- One round of SHA-256: math/bits.RotateLeft32, digest.turned and spread return just what the plain functions say, at every argument and in every world; of what was there before the call nothing has turned. -/
import Derived.Test.YtkmmeokccmppbaaRows
import Derived.Test.YtkmmeokccmppbaaPlain
import Derived.WalkKit
import Derived.ProofKit
import Derived.OpenShut
import Derived.Handy
import Derived.WalkSmall
import Derived.BigQuiet
import Derived.Deep.QuietTactic
namespace Go.Proofs.Ytkmmeokccmppbaa
open Go.RowKit
attribute [local go_sem ↓] op_add op_xor op_and op_or op_not op_shl op_shr
attribute [local go_sem] U_not' u32_unsigned

/-- How far a count turns. -/
def rk (k : Int) : Nat := (bits .and .u64 (IntKind.u64.wrap k) 31).toNat
theorem rks : rk (-2) = 30 ∧ rk (-6) = 26 ∧ rk (-7) = 25 ∧ rk (-11) = 21 ∧ rk (-13) = 19 ∧ rk (-17) = 15 ∧ rk (-18) = 14 ∧ rk (-19) = 13 ∧ rk (-22) = 10 ∧ rk (-25) = 7 := by decide +kernel

end Go.Proofs.Ytkmmeokccmppbaa
