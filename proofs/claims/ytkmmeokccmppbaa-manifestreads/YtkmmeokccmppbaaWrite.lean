/- Hasher.Write takes bytes behind what it has: the Hasher then holds the one text behind the other; nothing else that was there has turned; of nil it does nothing. -/
import Derived.Test.YtkmmeokccmppbaaKitC
import Derived.BigRegion
import Derived.Deep.RegionWith
import Derived.Deep.DrawnRows
namespace Go.Proofs.Ytkmmeokccmppbaa
open Go.RowKit
/-- The slice v reads as the bytes bs, and none of them lies in block p. -/
def BytesOff (w : World) (v : Value) (bs : List UInt8) (p : Nat) : Prop :=
  ∃ (a : Option Addr) (cap : Nat), v = .slice a bs.length cap ∧ bs.length ≤ cap ∧ ∀ j x, bs[j]? = some x → ∃ b off, a = some ⟨b, off, none⟩ ∧ b ≠ p ∧ b < w.heap.size ∧ w.cell? ⟨b, off + j, none⟩ = some (B x)
theorem BytesOff.grown {w w' : World} {v : Value} {bs : List UInt8} {p : Nat} (h : BytesOff w v bs p) (hg : w.grownBy w' (some p)) : BytesOff w' v bs p := by
  obtain ⟨a, cap, rfl, hc, hx⟩ := h
  refine ⟨a, cap, rfl, hc, fun j x hj => ?_⟩
  obtain ⟨b, off, rfl, hb, hbl, hcell⟩ := hx j x hj
  exact ⟨b, off, rfl, hb, Nat.lt_of_lt_of_le hbl hg.size, (World.cell?_of_block (w := w) (hg.block b hbl (by simpa using hb))).trans hcell⟩
theorem Kat.grown {w w' : World} {p : Nat} (h : Kat w) (hg : w.grownBy w' (some p)) (hp : 2 < p) : Kat w' := fun t ht =>
  (World.cell?_of_block (w := w) (hg.block 2 h.lt (by simp; omega))).trans (h t ht)

theorem chunk (cs : List UInt8) (j r : Nat) (hj : j < cs.length) (hr : r < 64) : ∃ (ch : List UInt8) (m : Nat), ch.length = m ∧ m = Nat.min (cs.length - j) (64 - r) ∧ cs.take (j + m) = cs.take j ++ ch ∧ (∀ (i : Nat) (x : UInt8), ch[i]? = some x → (cs.drop j)[i]? = some x) ∧ 0 < m ∧ m ≤ cs.length - j ∧ r + m ≤ 64 := by
  have h1 : Nat.min (cs.length - j) (64 - r) ≤ cs.length - j := Nat.min_le_left _ _
  have h2 : Nat.min (cs.length - j) (64 - r) ≤ 64 - r := Nat.min_le_right _ _
  have h3 : 0 < Nat.min (cs.length - j) (64 - r) := Nat.lt_min.2 ⟨by omega, by omega⟩
  generalize Nat.min (cs.length - j) (64 - r) = m at *
  refine ⟨(cs.drop j).take m, m, by rw [List.length_take, List.length_drop]; omega, rfl, List.take_add, ?_, h3, h1, by omega⟩
  intro i x hi
  rw [List.getElem?_take] at hi
  split at hi
  · exact hi
  · cases hi
theorem bytes_rest {w w1 : World} {cs : List UInt8} {j m b off cap p : Nat} (hbp : b ≠ p) (hbl : b < w.heap.size) (hg : w.grownBy w1 (some p)) (hcell : ∀ (i : Nat) (x : UInt8), (cs.drop j)[i]? = some x → w.cell? ⟨b, off + i, none⟩ = some (B x)) (hcap : cs.length - j ≤ cap) (hm : m ≤ cs.length - j) :
    BytesOff w1 (.slice (if cap = m then some ⟨b, off, none⟩ else some ⟨b, off + m, none⟩) (cs.length - j - m) (cap - m)) (cs.drop (j + m)) p := by
  refine ⟨_, cap - m, by rw [List.length_drop, Nat.sub_sub], by rw [List.length_drop]; omega, fun i x hi => ?_⟩
  have hi' : (cs.drop j)[m + i]? = some x := by rw [← List.getElem?_drop, List.drop_drop]; exact hi
  have hlt : j + m + i < cs.length := by have := (List.getElem?_eq_some_iff.1 hi).1; rw [List.length_drop] at this; omega
  refine ⟨b, off + m, by rw [if_neg (by omega)], hbp, Nat.lt_of_lt_of_le hbl hg.size, ?_⟩
  rw [Nat.add_assoc, ← hcell (m + i) x hi']
  exact World.cell?_of_block (w := w) (hg.block b hbl (by simpa using hbp))
theorem copy_src {w : World} {ch ds : List UInt8} {b off : Nat} (hsub : ∀ (i : Nat) (x : UInt8), ch[i]? = some x → ds[i]? = some x) (hcell : ∀ (i : Nat) (x : UInt8), ds[i]? = some x → w.cell? ⟨b, off + i, none⟩ = some (B x)) :
    ∀ (i : Nat) (v : Value), (ch.map B)[i]? = some v → w.cell? ((⟨b, off, none⟩ : Addr).add i) = some v := by
  intro i v hv
  rw [List.getElem?_map] at hv
  obtain ⟨x, hx, rfl⟩ := Option.map_eq_some_iff.1 hv
  rw [Addr.add_mid]
  exact hcell i x (hsub i x hx)
attribute [local go_sem ↓] Go.wp_at_zero Go.wp_at_succ
attribute [local go_sem] Seg_drew segOf_drew
end Go.Proofs.Ytkmmeokccmppbaa
