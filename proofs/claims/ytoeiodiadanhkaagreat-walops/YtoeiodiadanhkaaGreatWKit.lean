/- Bytes of one's own in a block, and numbers as bytes, the highest first. -/
import Derived.Test.YtoeiodiadanhkaaGreatJoined1
import Derived.Test.YtoeiodiadanhkaaGreatFrame
import Derived.Test.YtoeiodiadanhkaaGreatKit
namespace Go.Proofs.YtoeiodiadanhkaaGreat
open Go.RowKit
/-- A byte as the program's value. -/
def U8 (x : UInt8) : Value := .int .u8 (x.toNat : Int)
/-- A block of bytes that may be written. -/
def ownB (w : World) (b : Nat) (L : List UInt8) : Prop := w.heap[b]? = some (.cells (L.map U8).toArray 5 (0, 0))
theorem ownB.lt {w : World} {b : Nat} {L : List UInt8} (h : ownB w b L) : b < w.heap.size := lt_of_heap h
theorem ownB.keep {w w' : World} {b : Nat} {L : List UInt8} {F : Nat → Prop} (h : ownB w b L) (k : Keeps F w w') (hF : ¬ F b) : ownB w' b L := k.heap h hF
theorem ownB.below {w w' : World} {b : Nat} {L : List UInt8} (h : ownB w b L) (k : Below w.heap.size w w') : ownB w' b L := below_block k h (lt_of_heap h)
theorem ownB.cell {w : World} {b : Nat} {L : List UInt8} (h : ownB w b L) (j : Nat) (hj : j < L.length) : w.cell? ⟨b, j, none⟩ = some (.int .u8 (L[j].toNat : Int)) := by
  rw [cell_of_block h, List.getElem?_toArray, List.getElem?_map, List.getElem?_eq_getElem hj]; rfl
theorem ownB.set {w : World} {b : Nat} {L : List UInt8} (h : ownB w b L) (j : Nat) (x : UInt8) : ownB (w.setCell ⟨b, j, none⟩ (.int .u8 (x.toNat : Int))) b (L.set j x) := by
  have h1 := block_setCell h j (.int .u8 (x.toNat : Int))
  rw [List.setIfInBounds_toArray] at h1
  unfold ownB
  rw [h1, List.map_set]; rfl
theorem ownB.frozen {w : World} {b : Nat} {L : List UInt8} (h : ownB w b L) (j : Nat) : w.frozen? ⟨b, j, none⟩ = false := frozen_of_block h _
theorem ownB.at {w : World} {b : Nat} {L : List UInt8} (h : ownB w b L) : bytesAt w ⟨b, 0, none⟩ L := fun j hj => by rw [Addr.add_mid, Nat.zero_add]; exact h.cell j hj
/-- A number in k bytes, the highest first. -/
def beS : Nat → Nat → List UInt8
  | 0, _ => []
  | k + 1, x => beS k (x / 256) ++ [UInt8.ofNat (x % 256)]
theorem length_beS : ∀ k x, (beS k x).length = k
  | 0, _ => rfl
  | k + 1, x => by rw [beS, List.length_append, length_beS k]; rfl
/-- The number that bytes are. -/
def numS (l : List UInt8) : Nat := l.foldl (fun x o => x * 256 + o.toNat) 0
theorem numS_snoc (l : List UInt8) (o : UInt8) : numS (l ++ [o]) = numS l * 256 + o.toNat := by simp [numS]
theorem numS_be : ∀ k x, numS (beS k x) = x % 256 ^ k
  | 0, x => by simp [beS, numS, Nat.mod_one]
  | k + 1, x => by
    rw [beS, numS_snoc, numS_be k, UInt8.toNat_ofNat']
    have h1 : x % 256 ^ (k + 1) = x % 256 + 256 * (x / 256 % 256 ^ k) := by rw [Nat.pow_succ, Nat.mul_comm, Nat.mod_mul]
    have h2 : x % 256 % 2 ^ 8 = x % 256 := Nat.mod_eq_of_lt (Nat.mod_lt _ (by decide))
    omega
theorem numS_lt_aux : ∀ (l : List UInt8) (x : Nat), l.foldl (fun x o => x * 256 + o.toNat) x < (x + 1) * 256 ^ l.length
  | [], x => by simp
  | o :: l, x => by
    have ih := numS_lt_aux l (x * 256 + o.toNat)
    have ho := o.toNat_lt
    have h1 : (x * 256 + o.toNat + 1) * 256 ^ l.length ≤ ((x + 1) * 256) * 256 ^ l.length := Nat.mul_le_mul_right _ (by omega)
    rw [List.foldl_cons, List.length_cons, Nat.pow_succ, Nat.mul_comm (256 ^ l.length) 256, ← Nat.mul_assoc]
    omega
theorem numS_lt (l : List UInt8) : numS l < 256 ^ l.length := by
  have := numS_lt_aux l 0
  simpa [numS] using this
end Go.Proofs.YtoeiodiadanhkaaGreat
