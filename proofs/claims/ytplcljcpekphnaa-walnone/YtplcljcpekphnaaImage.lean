/- disk.Disk.Image, Safe: all sectors as they are read, and as they were flushed. -/
import Derived.Test.YtplcljcpekphnaaTwo
namespace Go.Proofs.Ytplcljcpekphnaa
open Go.RowKit
/-- Rows of bytes lie where the slice points. -/
def rowsAt (w : World) (a : Option Addr) (L : List (List UInt8)) : Prop := ∀ j, j < L.length → ∃ b o, a = some ⟨b, o, none⟩ ∧ ∀ i (hi : i < L.length), ∃ a' c', w.cell? ⟨b, o + i, none⟩ = some (.slice a' (L[i]).length c') ∧ bytesIn w a' L[i]
theorem rowsAt.below {w w' : World} {a : Option Addr} {L : List (List UInt8)} (h : rowsAt w a L) (hb : Below w.heap.size w w') : rowsAt w' a L := fun j hj => by
  obtain ⟨b, o, e, hc⟩ := h j hj
  refine ⟨b, o, e, fun i hi => ?_⟩
  obtain ⟨a', c', h1, h2⟩ := hc i hi
  exact ⟨a', c', by rw [hb.cell (p := ⟨b, o + i, none⟩) (World.block_lt_of_cell? w _ h1)]; exact h1, h2.below hb⟩
/-- Such rows, whose blocks were made since lo. -/
def rowsFrom (w : World) (lo : Nat) (a : Option Addr) (L : List (List UInt8)) : Prop := ∀ j, j < L.length → ∃ b o, a = some ⟨b, o, none⟩ ∧ lo ≤ b ∧ ∀ i (hi : i < L.length), ∃ a' c', w.cell? ⟨b, o + i, none⟩ = some (.slice a' (L[i]).length c') ∧ bytesIn w a' L[i] ∧ ∀ ad, a' = some ad → lo ≤ ad.block
theorem rowsFrom.at {w : World} {lo : Nat} {a : Option Addr} {L : List (List UInt8)} (h : rowsFrom w lo a L) : rowsAt w a L := fun j hj => by
  obtain ⟨b, o, e, _, hc⟩ := h j hj
  exact ⟨b, o, e, fun i hi => by obtain ⟨a', c', h1, h2, _⟩ := hc i hi; exact ⟨a', c', h1, h2⟩⟩
theorem rowsFrom.keep {w w' : World} {lo : Nat} {a : Option Addr} {L : List (List UInt8)} {G : Nat → Prop} (h : rowsFrom w lo a L) (k : Keeps G w w') (hG : ∀ i, G i → i < lo) : rowsFrom w' lo a L := fun j hj => by
  obtain ⟨b, o, e, hb, hc⟩ := h j hj
  refine ⟨b, o, e, hb, fun i hi => ?_⟩
  obtain ⟨a', c', h1, h2, h3⟩ := hc i hi
  refine ⟨a', c', k.cell h1 (fun e => by have e2 := hG b e; omega), fun q hq => ?_, h3⟩
  obtain ⟨b2, o2, e2, hc2⟩ := h2 q hq
  exact ⟨b2, o2, e2, fun z hz => k.cell (hc2 z hz) (fun e => by have := hG b2 e; have := h3 _ e2; simp at this; omega)⟩
theorem rowsFrom.below {w w' : World} {lo : Nat} {a : Option Addr} {L : List (List UInt8)} (h : rowsFrom w lo a L) (hb : Below w.heap.size w w') : rowsFrom w' lo a L := h.keep (G := fun _ => False) (Keeps.of_below hb) (fun _ e => e.elim)
theorem bytesIn_of_at {w : World} {b : Nat} {l : List UInt8} (h : bytesAt w ⟨b, 0, none⟩ l) : bytesIn w (some ⟨b, 0, none⟩) l := fun _ _ => ⟨b, 0, rfl, fun i hi => by
  have := h i hi
  rwa [Addr.add_mid] at this⟩
/-- The bytes of sectors. -/
def bytesOf (L : List ByteArray) : List (List UInt8) := L.map (fun s => s.data.toList)
theorem length_bytesOf (L : List ByteArray) : (bytesOf L).length = L.length := by simp [bytesOf]
theorem infoRow : (Try.prog.info? 26).map (fun i => (i.zero, i.size, i.bytes)) = some (some (.slice none 0 0), 1, 24) := by kernel_rfl
theorem madeRow (n : Nat) : madeCells (Value.slice none 0 0).cells (n * 1) = (List.replicate n (Value.slice none 0 0)).toArray := by
  apply Array.ext
  · simp [madeCells]
  · intro i h1 h2
    simp [madeCells, Value.cells, Nat.mod_one]
/-- The first k rows have been laid. -/
def rowsTo (w : World) (g : Nat) (L : List ByteArray) (k : Nat) (vs : List Value) : Prop := vs.length = L.length ∧ w.heap[g]? = some (.cells vs.toArray 26 (0, 0)) ∧
  ∀ i (hi : i < L.length), i < k → ∃ bi c, vs[i]? = some (.slice (some ⟨bi, 0, none⟩) (L[i]).size c) ∧ g < bi ∧ bytesAt w ⟨bi, 0, none⟩ (L[i]).data.toList
theorem rowsTo_end {w : World} {g : Nat} {L : List ByteArray} {vs : List Value} (h : rowsTo w g L L.length vs) : rowsFrom w g (some ⟨g, 0, none⟩) (bytesOf L) := fun j hj => ⟨g, 0, rfl, Nat.le_refl _, fun i hi => by
  have hi' : i < L.length := by simpa [bytesOf] using hi
  obtain ⟨bi, c, h1, hgb, h3⟩ := h.2.2 i hi' hi'
  refine ⟨some ⟨bi, 0, none⟩, c, ?_, ?_, fun ad e => by rw [← Option.some.inj e]; exact Nat.le_of_lt hgb⟩
  · rw [Nat.zero_add, cell_of_block h.2.1, List.getElem?_toArray, h1]
    simp [bytesOf]
  · have := bytesIn_of_at h3
    simpa [bytesOf] using this⟩
/-- One row more: its bytes lie in a new block. -/
theorem rowsTo_step {w : World} {g : Nat} {L : List ByteArray} {k c : Nat} {vs : List Value} (h : rowsTo w g L k vs) (hk : k < L.length) (fr : Nat × Nat) (C : Array Value) (hC : ∀ j (hj : j < (L[k]).data.toList.length), C[j]? = some (.int .u8 ((L[k]).data.toList[j].toNat : Int))) :
    rowsTo ((w.setCell ⟨g, k, none⟩ (.slice (some ⟨w.heap.size, 0, none⟩) (L[k]).size c)).alloc (.cells C 5 fr)) g L (k + 1) (vs.set k (.slice (some ⟨w.heap.size, 0, none⟩) (L[k]).size c)) := by
  have hg := lt_of_heap h.2.1
  have hsz : (w.setCell ⟨g, k, none⟩ (.slice (some ⟨w.heap.size, 0, none⟩) (L[k]).size c)).heap.size = w.heap.size := by simp [World.setCell]
  refine ⟨by simpa using h.1, ?_, fun i hi hik => ?_⟩
  · have := block_alloc (block_setCell h.2.1 k (.slice (some ⟨w.heap.size, 0, none⟩) (L[k]).size c)) (.cells C 5 fr)
    rwa [List.setIfInBounds_toArray] at this
  · by_cases e : i = k
    · subst e
      refine ⟨w.heap.size, c, by simp [h.1, hi], hg, fun j hj => ?_⟩
      rw [Addr.add_mid, Nat.zero_add]
      have hn := block_new (w.setCell ⟨g, i, none⟩ (.slice (some ⟨w.heap.size, 0, none⟩) (L[i]).size c)) (.cells C 5 fr)
      rw [hsz] at hn
      rw [cell_of_block hn]
      exact hC j hj
    · obtain ⟨bi, c', h1, h2, h3⟩ := h.2.2 i hi (by omega)
      refine ⟨bi, c', by rw [List.getElem?_set_ne (by omega)]; exact h1, h2, fun j hj => ?_⟩
      have h4 := h3 j hj
      rw [Addr.add_mid] at h4 ⊢
      have hlt := World.block_lt_of_cell? w _ h4
      refine (World.cell?_of_block (w := w) ?_).trans h4
      rw [Below.heap_alloc _ _ _ (by rw [hsz]; exact hlt), block_setCell_other _ _ (show bi ≠ g by omega)]
theorem bytesRow_cells (s : ByteArray) (cap : Nat) : ∀ j (hj : j < s.data.toList.length), (bytesRow s cap)[j]? = some (.int .u8 (s.data.toList[j].toNat : Int)) := fun j hj => by
  rw [bytesRow_at s cap j (by simpa using hj)]; simp
end Go.Proofs.Ytplcljcpekphnaa
