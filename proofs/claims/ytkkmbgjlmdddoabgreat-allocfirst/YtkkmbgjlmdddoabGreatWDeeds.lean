/- Deeds of law03 that were handed in. -/
import Derived.Test.YtkkmbgjlmdddoabGreatBaseC
import Derived.Deep.Strs
namespace Go.Proofs.YtkkmbgjlmdddoabGreat
open Go.ChangeShapes Go.WideShapes Go.ChangeAt Go.RowKit
/-- A deed: is it short, its numbers and where they lie, its byte. -/
structure WDeed where
  s : Bool
  ns : List Int
  na : Option Addr
  nc : Nat
  x : UInt8
def WDeed.ok (w : World) (D : WDeed) (b o : Nat) : Prop := w.cell? ⟨b, o, none⟩ = some (.bool D.s) ∧ w.cell? ⟨b, o + 1, none⟩ = some (.slice D.na D.ns.length D.nc) ∧ w.cell? ⟨b, o + 2, none⟩ = some (.int .u8 (D.x.toNat : Int)) ∧ intsAt w D.na D.ns ∧ D.ns.length ≤ 9223372036854775807
def wdeedsAt (w : World) (a : Option Addr) (ds : List WDeed) : Prop := ∀ j, j < ds.length → ∃ b o, a = some ⟨b, o, none⟩ ∧ ∀ i (hi : i < ds.length), WDeed.ok w ds[i] b (o + i * 3)
theorem WDeed.ok.below {w w' : World} {D : WDeed} {b o : Nat} (h : D.ok w b o) (k : Below w.heap.size w w') : D.ok w' b o :=
  ⟨(k.cell (World.block_lt_of_cell? w _ h.1)).trans h.1, (k.cell (World.block_lt_of_cell? w _ h.2.1)).trans h.2.1, (k.cell (World.block_lt_of_cell? w _ h.2.2.1)).trans h.2.2.1, h.2.2.2.1.below k, h.2.2.2.2⟩
theorem wdeedsAt.below {w w' : World} {a : Option Addr} {ds : List WDeed} (h : wdeedsAt w a ds) (k : Below w.heap.size w w') : wdeedsAt w' a ds := fun j hj => by
  obtain ⟨b, o, e, hc⟩ := h j hj
  exact ⟨b, o, e, fun i hi => (hc i hi).below k⟩
end Go.Proofs.YtkkmbgjlmdddoabGreat
