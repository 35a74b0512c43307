/- sha.Sum returns the SHA-256 of the bytes that were handed in; what was there before is as it was. -/
import Derived.Test.YtkmmeokccmppbaaHSum
namespace Go.Proofs.Ytkmmeokccmppbaa
open Go.RowKit
theorem lt_of_cell {w : World} {b o : Nat} {x : Value} (h : w.cell? ⟨b, o, none⟩ = some x) : b < w.heap.size := by
  unfold World.cell? at h
  cases hq : w.heap[b]? with
  | none => rw [hq] at h; simp at h
  | some o => exact lt_of_heap hq
theorem Bytes.up {w w' : World} {v : Value} {bs : List UInt8} (h : Bytes w v bs) (hb : Below w.heap.size w w') : Bytes w' v bs := by
  obtain ⟨a, cap, rfl, hc, hx⟩ := h
  refine ⟨a, cap, rfl, hc, fun j x hj => ?_⟩
  obtain ⟨b, off, rfl, hcell⟩ := hx j x hj
  exact ⟨b, off, rfl, (hb.cell (p := ⟨b, off + j, none⟩) (lt_of_cell hcell)).trans hcell⟩
theorem Bytes.off {w w' : World} {v : Value} {bs : List UInt8} (h : Bytes w v bs) (hb : Below w.heap.size w w') (p : Nat) (hp : w.heap.size ≤ p) : BytesOff w' v bs p := by
  obtain ⟨a, cap, rfl, hc, hx⟩ := h
  refine ⟨a, cap, rfl, hc, fun j x hj => ?_⟩
  obtain ⟨b, off, rfl, hcell⟩ := hx j x hj
  have hlt := lt_of_cell hcell
  exact ⟨b, off, rfl, by omega, Nat.lt_of_lt_of_le hlt hb.size, (hb.cell (p := ⟨b, off + j, none⟩) hlt).trans hcell⟩
theorem Sat.below {K : Nat} {w w' : World} (h : Sat w) (hb : Below K w w') (hK : 1 < K) : Sat w' := by
  obtain ⟨h0, h1, h2, h3, h4, h5, h6, h7⟩ := h
  exact ⟨(hb.cell (p := ⟨1, 0, none⟩) hK).trans h0, (hb.cell (p := ⟨1, 1, none⟩) hK).trans h1, (hb.cell (p := ⟨1, 2, none⟩) hK).trans h2, (hb.cell (p := ⟨1, 3, none⟩) hK).trans h3,
    (hb.cell (p := ⟨1, 4, none⟩) hK).trans h4, (hb.cell (p := ⟨1, 5, none⟩) hK).trans h5, (hb.cell (p := ⟨1, 6, none⟩) hK).trans h6, (hb.cell (p := ⟨1, 7, none⟩) hK).trans h7⟩

end Go.Proofs.Ytkmmeokccmppbaa
