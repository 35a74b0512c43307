/- sha.padding returns the padding behind so many bytes, in a slice of its own; digest.bytes returns the digest's 32 bytes. -/
import Derived.Test.YtkmmeokccmppbaaMix
import Derived.Test.YtkmmeokccmppbaaCrc
import Derived.Deep.AppendLies
namespace Go.Proofs.Ytkmmeokccmppbaa
open Go.RowKit
attribute [local go_sem ↓] op_add op_xor op_and op_or op_not op_shl op_shr op_up op_down
attribute [local go_sem] V_mod U_or U_xor U_not' u32_unsigned
theorem info26 : (Try.prog.info? 40).map (·.size) = some 32 := by kernel_rfl
/-- The first k bytes of a digest, the others 0. -/
def outTo (s : St) (k : Nat) : List UInt8 := (List.range k).map (outByte s) ++ List.replicate (32 - k) 0
theorem outTo_set (s : St) (k : Nat) (h : k < 32) : (outTo s k).set k (outByte s k) = outTo s (k + 1) := by
  unfold outTo
  rw [List.set_append_right _ _ (by simp)]
  have e : 32 - k = (32 - (k + 1)) + 1 := by omega
  rw [e, List.replicate_succ]
  simp [List.range_succ]
theorem outTo_all (s : St) : outTo s 32 = outS s := by simp [outTo, outS]
theorem length_outTo (s : St) (k : Nat) (h : k ≤ 32) : (outTo s k).length = 32 := by simp [outTo]; omega
theorem op_shrI (x : UInt32) (y : Int) (h0 : 0 ≤ y) (h1 : y < 32) : Op.shift .shr .u32 (U x) .i64 y = pure (.int .u32 (U (x >>> UInt32.ofNat y.toNat))) := op_shr x .i64 y h0 h1

theorem infoB : (Try.prog.info? 5).map (fun i => (i.zero, i.size, i.bytes)) = some (some (.int .u8 0), 1, 1) := by kernel_rfl
/-- The padding's first bytes: the mark, the noughts, k bytes of the size, room behind. -/
def padTo (n k : Nat) : List UInt8 := (128 :: List.replicate ((119 - n % 64) % 64) 0) ++ (List.range k).map (sizeByte n) ++ List.replicate (8 - k) 0
theorem padTo_all (n : Nat) : padTo n 8 = padS n := by simp [padTo, padS]
theorem length_padTo (n k : Nat) (hk : k ≤ 8) : (padTo n k).length = 9 + (119 - n % 64) % 64 := by simp [padTo]; omega
theorem padTo_next (n k : Nat) (hk : k < 8) : (padTo n k).set (1 + (119 - n % 64) % 64 + k) (sizeByte n k) = padTo n (k + 1) := by
  have e : 8 - k = (8 - (k + 1)) + 1 := by omega
  have h1 : (128 :: List.replicate ((119 - n % 64) % 64) (0 : UInt8) ++ (List.range k).map (sizeByte n)).length = 1 + (119 - n % 64) % 64 + k := by simp; omega
  unfold padTo
  rw [List.set_append_right _ _ (by omega), h1, Nat.sub_self, e, List.replicate_succ, List.set_cons_zero, List.range_succ]
  simp
theorem V_size (n k : Nat) : ((n : Int) * 8 / 2 ^ (8 * (7 - k)) % 256) = V (sizeByte n k) := by
  unfold V sizeByte
  rw [UInt8.toNat_ofNat', Int.natCast_emod, Int.natCast_ediv, Int.natCast_mul, Int.natCast_pow, Int.mul_comm]; rfl

theorem zero_at (q : Nat) : ((List.replicate (9 + q) (0 : UInt8)).map B).toArray[0]? = some (B 0) := by
  rw [List.getElem?_toArray, List.getElem?_map, Nat.add_comm 9 q, List.replicate_succ]; rfl
theorem pad_start {w w1 : World} {n q : Nat} (hb1 : Below w.heap.size w w1) (hm1 : w1.heap[w.heap.size]? = some (.cells ((List.replicate (9 + q) (0 : UInt8)).map B).toArray 5 (0, 0))) (hq : (119 - n % 64) % 64 = q) :
    (w1.setCell ⟨w.heap.size, 0, none⟩ (.int .u8 128)).heap[w.heap.size]? = some (.cells ((padTo n 0).map B).toArray 5 (0, 0)) ∧ Below w.heap.size w (w1.setCell ⟨w.heap.size, 0, none⟩ (.int .u8 128)) := by
  refine ⟨?_, hb1.setCell (by simp) _⟩
  rw [block_setCell hm1, show Value.int .u8 128 = B 128 from rfl, set_mapB]
  have : (List.replicate (9 + q) (0 : UInt8)).set 0 128 = padTo n 0 := by
    unfold padTo
    rw [hq, show 9 + q = (q + 8) + 1 by omega, List.replicate_succ, List.set_cons_zero, ← List.replicate_append_replicate]
    simp
  rw [this]
end Go.Proofs.Ytkmmeokccmppbaa
