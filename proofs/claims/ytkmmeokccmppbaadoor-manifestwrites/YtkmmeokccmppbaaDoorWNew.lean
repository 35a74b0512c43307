/- A slice of bytes in a new block. -/
import Derived.Test.YtkmmeokccmppbaaDoorSum
import Derived.Lib.SlBytesConst
namespace Go.Proofs.YtkmmeokccmppbaaDoor
open Go.RowKit
theorem bytes_new (w : World) (bs : List UInt8) (C : Array Value) (t : TypeId) (fr : Nat × Nat) (n c : Nat) (hC : C = (bs.map B).toArray) (hn : n = bs.length) (hc : bs.length ≤ c) : Bytes (w.alloc (.cells C t fr)) (.slice (some ⟨w.heap.size, 0, none⟩) n c) bs := by
  subst hC hn
  refine ⟨_, c, rfl, hc, fun j x hj => ⟨_, 0, rfl, ?_⟩⟩
  rw [Nat.zero_add, cell_of_block (block_new _ _), List.getElem?_toArray, List.getElem?_map, hj]; rfl
end Go.Proofs.YtkmmeokccmppbaaDoor
