/- The reference disk: how it lies in memory; look, Copy, do, Write, Flush. -/
import Derived.Test.YtplcljcpekphnaaFlush2
namespace Go.Proofs.Ytplcljcpekphnaa
open Go.RowKit
/-- An op of the reference. -/
structure ROp where
  flush : Bool
  n : Int
  b : List UInt8
/-- The reference disk. -/
structure RefS where
  first : List (List UInt8)
  l : List ROp
/-- Where a slice points lies in Rd. -/
def inRd (Rd : Nat → Prop) (a : Option Addr) : Prop := ∀ ad, a = some ad → Rd ad.block
/-- The cells of ops, whose bytes are the slices vs. -/
def opCells (l : List ROp) (vs : List Value) : List Value := (l.zip vs).flatMap (fun p => [.bool p.1.flush, .int .i64 p.1.n, p.2])
theorem opCells_snoc (l : List ROp) (vs : List Value) (h : l.length = vs.length) (o : ROp) (v : Value) : opCells (l ++ [o]) (vs ++ [v]) = opCells l vs ++ [.bool o.flush, .int .i64 o.n, v] := by
  unfold opCells
  rw [List.zip_append h]
  simp
theorem length_opCells (l : List ROp) (vs : List Value) (h : l.length = vs.length) : (opCells l vs).length = l.length * 3 := by
  unfold opCells
  rw [List.length_flatMap]
  simp [h, List.map_const', List.sum_replicate_nat]
theorem bytesIn.keep {w w' : World} {a : Option Addr} {l : List UInt8} {G Rd : Nat → Prop} (h : bytesIn w a l) (k : Keeps G w w') (hr : inRd Rd a) (hG : ∀ i, Rd i → ¬ G i) : bytesIn w' a l := fun j hj => by
  obtain ⟨b, o, e, hc⟩ := h j hj
  exact ⟨b, o, e, fun i hi => k.cell (hc i hi) (hG b (hr _ e))⟩
/-- What look answers. -/
def lookR (R : RefS) (n : Int) : Int := if 0 ≤ n ∧ n < R.first.length then 0 else 2
theorem cells_of_bytes {w : World} {b o : Nat} {l : List UInt8} (h : ∀ i (hi : i < l.length), w.cell? ⟨b, o + i, none⟩ = some (.int .u8 (l[i].toNat : Int))) : ∀ j u, (l.map (fun x : UInt8 => Value.int .u8 (x.toNat : Int)))[j]? = some u → w.cell? ((⟨b, o, none⟩ : Addr).add j) = some u := fun j u hu => by
  have hj : j < l.length := by have := (List.getElem?_eq_some_iff.1 hu).1; simpa using this
  rw [Addr.add_mid, h j hj]
  simpa [hj] using hu
end Go.Proofs.Ytplcljcpekphnaa
