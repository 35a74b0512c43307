/- Deeds of law04 that were handed in. -/
import Derived.Test.YtkkmbgjlmdddoabGreatBaseC
namespace Go.Proofs.YtkkmbgjlmdddoabGreat
open Go.ChangeShapes Go.WideShapes Go.ChangeAt Go.RowKit
/-- A deed: what is done, the page, the byte, is it short. -/
structure BDeed where
  k : Int
  n : Int
  x : UInt8
  s : Bool
def BDeed.ok (w : World) (D : BDeed) (b o : Nat) : Prop := w.cell? ⟨b, o, none⟩ = some (.int .i64 D.k) ∧ w.cell? ⟨b, o + 1, none⟩ = some (.int .i64 D.n) ∧ w.cell? ⟨b, o + 2, none⟩ = some (.int .u8 (D.x.toNat : Int)) ∧ w.cell? ⟨b, o + 3, none⟩ = some (.bool D.s) ∧ -9223372036854775808 ≤ D.n ∧ D.n ≤ 9223372036854775807
def bdeedsAt (w : World) (a : Option Addr) (ds : List BDeed) : Prop := ∀ j, j < ds.length → ∃ b o, a = some ⟨b, o, none⟩ ∧ ∀ i (hi : i < ds.length), BDeed.ok w ds[i] b (o + i * 4)
theorem BDeed.ok.below {w w' : World} {D : BDeed} {b o : Nat} (h : D.ok w b o) (k : Below w.heap.size w w') : D.ok w' b o :=
  ⟨(k.cell (World.block_lt_of_cell? w _ h.1)).trans h.1, (k.cell (World.block_lt_of_cell? w _ h.2.1)).trans h.2.1, (k.cell (World.block_lt_of_cell? w _ h.2.2.1)).trans h.2.2.1, (k.cell (World.block_lt_of_cell? w _ h.2.2.2.1)).trans h.2.2.2.1, h.2.2.2.2⟩
theorem bdeedsAt.below {w w' : World} {a : Option Addr} {ds : List BDeed} (h : bdeedsAt w a ds) (k : Below w.heap.size w w') : bdeedsAt w' a ds := fun j hj => by
  obtain ⟨b, o, e, hc⟩ := h j hj
  exact ⟨b, o, e, fun i hi => (hc i hi).below k⟩
end Go.Proofs.YtkkmbgjlmdddoabGreat
