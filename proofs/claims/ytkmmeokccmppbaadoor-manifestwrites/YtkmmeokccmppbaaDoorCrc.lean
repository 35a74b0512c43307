/- sha.Crc returns the CRC-32C of a slice's bytes, at every slice, in every world in which the table of its words is laid; the world stands as it was. -/
import Derived.Test.YtkmmeokccmppbaaDoorWords
namespace Go.Proofs.YtkmmeokccmppbaaDoor
open Go.RowKit
attribute [local go_sem ↓] op_add op_xor op_and op_or op_not op_shl op_shr op_up op_down
attribute [local go_sem] V_mod U_or U_xor U_not' u32_unsigned
/-- The CRC's words lie in their global. -/
def Cat (w : World) : Prop := ∀ t, t < 16 → w.cell? ⟨0, t, none⟩ = some (W (crcTab.getD t 0))
set_option maxRecDepth 100000 in
theorem Cat.lt {w : World} (h : Cat w) : 0 < w.heap.size := by
  have := h 0 (by omega)
  unfold World.cell? at this
  cases hq : w.heap[0]? with
  | none => rw [hq] at this; simp at this
  | some o => exact lt_of_heap hq
set_option maxRecDepth 100000 in
theorem Cat.below {K : Nat} {w w' : World} (h : Cat w) (hb : Below K w w') (hK : 0 < K) : Cat w' := fun t ht => (hb.cell (p := ⟨0, t, none⟩) hK).trans (h t ht)
/-- The slice v reads as the bytes bs. -/
def Bytes (w : World) (v : Value) (bs : List UInt8) : Prop :=
  ∃ (a : Option Addr) (cap : Nat), v = .slice a bs.length cap ∧ bs.length ≤ cap ∧ ∀ j x, bs[j]? = some x → ∃ b off, a = some ⟨b, off, none⟩ ∧ w.cell? ⟨b, off + j, none⟩ = some (B x)
set_option maxRecDepth 100000 in
theorem Bytes.below {K : Nat} {w w' : World} {v : Value} {bs : List UInt8} (h : Bytes w v bs) (hb : Below K w w') (hK : ∀ b off n cap, v = .slice (some ⟨b, off, none⟩) n cap → b < K) : Bytes w' v bs := by
  obtain ⟨a, cap, rfl, hc, hx⟩ := h
  refine ⟨a, cap, rfl, hc, fun j x hj => ?_⟩
  obtain ⟨b, off, rfl, hcell⟩ := hx j x hj
  exact ⟨b, off, rfl, (hb.cell (p := ⟨b, off + j, none⟩) (hK b off _ _ rfl)).trans hcell⟩
set_option maxRecDepth 100000 in
theorem crcRun_snoc (c : UInt32) (bs : List UInt8) (k : Nat) (x : UInt8) (h : bs[k]? = some x) : crcRun c (bs.take (k + 1)) = crcStep (crcRun c (bs.take k)) x := by
  have hk : k < bs.length := (List.getElem?_eq_some_iff.1 h).1
  have hx : bs[k] = x := (List.getElem?_eq_some_iff.1 h).2
  rw [List.take_succ_eq_append_getElem hk, hx]; simp [crcRun]
set_option maxRecDepth 100000 in
theorem U_mod16 (c : UInt32) : (U c % 16).toNat = c.toNat % 16 := by unfold U; omega
set_option maxRecDepth 100000 in
theorem nib_of (c : UInt32) : c >>> 4 ^^^ crcTab.getD (c.toNat % 16) 0 = nib c := rfl

end Go.Proofs.YtkmmeokccmppbaaDoor
