/- Hasher.Sum and sha.Sum return the SHA-256 of the bytes that were taken, that were handed in; what was there before is as it was; of nil: 32 noughts. -/
import Derived.Test.YtkmmeokccmppbaaWrite
namespace Go.Proofs.Ytkmmeokccmppbaa
open Go.RowKit
theorem bytesOff_of_block {w : World} {g n cap p : Nat} {bs : List UInt8} {t : TypeId} {fr : Nat × Nat} (hb : w.heap[g]? = some (.cells (bs.map B).toArray t fr)) (hn : n = bs.length) (hc : bs.length ≤ cap) (hp : g ≠ p) : BytesOff w (.slice (some ⟨g, 0, none⟩) n cap) bs p := by
  subst hn
  refine ⟨_, cap, rfl, hc, fun j x hj => ⟨g, 0, rfl, hp, lt_of_heap hb, ?_⟩⟩
  rw [Nat.zero_add, cell_of_block hb, List.getElem?_toArray, List.getElem?_map, hj]; rfl
theorem zeros32 : #[Value.int .u8 0, Value.int .u8 0, Value.int .u8 0, Value.int .u8 0, Value.int .u8 0, Value.int .u8 0, Value.int .u8 0, Value.int .u8 0, Value.int .u8 0, Value.int .u8 0, Value.int .u8 0, Value.int .u8 0, Value.int .u8 0, Value.int .u8 0, Value.int .u8 0, Value.int .u8 0, Value.int .u8 0, Value.int .u8 0, Value.int .u8 0, Value.int .u8 0, Value.int .u8 0, Value.int .u8 0, Value.int .u8 0, Value.int .u8 0, Value.int .u8 0, Value.int .u8 0, Value.int .u8 0, Value.int .u8 0, Value.int .u8 0, Value.int .u8 0, Value.int .u8 0, Value.int .u8 0] = ((List.replicate 32 (0 : UInt8)).map B).toArray := rfl

theorem one32 : ((List.replicate 32 (0 : UInt8)).map B).toArray.all (·.oneCell') = true := all_oneCell_toArray (B_one _)
theorem size32 : ((List.replicate 32 (0 : UInt8)).map B).toArray.size = 32 := by simp
theorem new32 (w : World) : ∃ w0 : World, w0 = w.alloc (.cells #[Value.int .u8 0, Value.int .u8 0, Value.int .u8 0, Value.int .u8 0, Value.int .u8 0, Value.int .u8 0, Value.int .u8 0, Value.int .u8 0, Value.int .u8 0, Value.int .u8 0, Value.int .u8 0, Value.int .u8 0, Value.int .u8 0, Value.int .u8 0, Value.int .u8 0, Value.int .u8 0, Value.int .u8 0, Value.int .u8 0, Value.int .u8 0, Value.int .u8 0, Value.int .u8 0, Value.int .u8 0, Value.int .u8 0, Value.int .u8 0, Value.int .u8 0, Value.int .u8 0, Value.int .u8 0, Value.int .u8 0, Value.int .u8 0, Value.int .u8 0, Value.int .u8 0, Value.int .u8 0] 40) ∧ w0.heap[w.heap.size]? = some (.cells ((List.replicate 32 (0 : UInt8)).map B).toArray 40 (0, 0)) ∧ Below w.heap.size w w0 ∧ w0.heap.size = w.heap.size + 1 :=
  ⟨_, rfl, by rw [zeros32]; exact block_new _ _, (Below.refl _ _).alloc (Nat.le_refl _) _, by simp⟩

end Go.Proofs.Ytkmmeokccmppbaa
