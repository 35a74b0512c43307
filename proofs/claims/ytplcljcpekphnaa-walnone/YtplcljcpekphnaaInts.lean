/- dunnageref01.SameInts, SameBytes: do two lists hold the same? -/
import Derived.Test.YtplcljcpekphnaaJoined1
import Derived.Deep.QuietTactic
namespace Go.Proofs.Ytplcljcpekphnaa
open Go.RowKit
theorem below_drewN' {K : Nat} {w w' : World} (h : Below K w w') (n : Nat) : Below K w (w'.drewN n) := ⟨h.os, h.tape, h.output, h.size, h.block⟩
/-- The numbers xs lie where the slice points. -/
def intsAt (w : World) (a : Option Addr) (xs : List Int) : Prop := ∀ j, j < xs.length → ∃ b o, a = some ⟨b, o, none⟩ ∧ ∀ i (hi : i < xs.length), w.cell? ⟨b, o + i, none⟩ = some (.int .i64 xs[i])
/-- The bytes l lie where the slice points. -/
def bytesIn (w : World) (a : Option Addr) (l : List UInt8) : Prop := ∀ j, j < l.length → ∃ b o, a = some ⟨b, o, none⟩ ∧ ∀ i (hi : i < l.length), w.cell? ⟨b, o + i, none⟩ = some (.int .u8 (l[i].toNat : Int))
theorem intsAt.below {w w' : World} {a : Option Addr} {xs : List Int} (h : intsAt w a xs) (hb : Below w.heap.size w w') : intsAt w' a xs := fun j hj => by
  obtain ⟨b, o, e, hc⟩ := h j hj
  exact ⟨b, o, e, fun i hi => by rw [hb.cell (p := ⟨b, o + i, none⟩) (World.block_lt_of_cell? w _ (hc i hi))]; exact hc i hi⟩
theorem bytesIn.below {w w' : World} {a : Option Addr} {l : List UInt8} (h : bytesIn w a l) (hb : Below w.heap.size w w') : bytesIn w' a l := fun j hj => by
  obtain ⟨b, o, e, hc⟩ := h j hj
  exact ⟨b, o, e, fun i hi => by rw [hb.cell (p := ⟨b, o + i, none⟩) (World.block_lt_of_cell? w _ (hc i hi))]; exact hc i hi⟩
/-- A row of numbers of one's own. -/
theorem ints_of_row {w : World} {base : Nat} {e : TypeId} {v : Value} {xs : List Int} (h : w.ownsRow base e 1 v xs.length (xs.map encZ)) : ∃ a c, v = .slice a xs.length c ∧ intsAt w a xs := by
  obtain ⟨sa, cap, rfl, hs⟩ := row_slice h
  refine ⟨sa, cap, rfl, fun j hj => ?_⟩
  obtain ⟨g, e, _, _, hc⟩ := hs j hj
  exact ⟨g, 0, e, fun i hi => by rw [Nat.zero_add, hc i hi]; simp [hi]⟩
theorem take_next {α : Type} {a b : List α} {k : Nat} (ha : k < a.length) (hb : k < b.length) (h : a.take k = b.take k) (hx : a[k] = b[k]) : a.take (k + 1) = b.take (k + 1) := by
  rw [List.take_succ_eq_append_getElem ha, List.take_succ_eq_append_getElem hb, h, hx]
theorem toNat_u8_inj {x y : UInt8} (h : (x.toNat : Int) = (y.toNat : Int)) : x = y := UInt8.toNat_inj.1 (by omega)
end Go.Proofs.Ytplcljcpekphnaa
