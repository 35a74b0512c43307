/- Image, Safe, Read: what they answer is the caller's. -/
import Derived.Test.YtkkmbgjlmdddoabGreatBaseA
namespace Go.Proofs.YtkkmbgjlmdddoabGreat
open Go.RowKit
/-- The first k rows have been laid, each in a block of its own that may be written. -/
def rowsOwn (w : World) (g : Nat) (L : List ByteArray) (k : Nat) (vs : List Value) : Prop := vs.length = L.length ∧ w.heap[g]? = some (.cells vs.toArray 57 (0, 0)) ∧
  ∀ i (hi : i < L.length), i < k → ∃ bi c C, vs[i]? = some (.slice (some ⟨bi, 0, none⟩) (L[i]).size c) ∧ g < bi ∧ w.heap[bi]? = some (.cells C 5 (C.size, C.size + 1)) ∧ (L[i]).size ≤ C.size
theorem rowsOwn_step {w : World} {g : Nat} {L : List ByteArray} {k c : Nat} {vs : List Value} (h : rowsOwn w g L k vs) (hk : k < L.length) (C : Array Value) (hC : (L[k]).size ≤ C.size) :
    rowsOwn ((w.setCell ⟨g, k, none⟩ (.slice (some ⟨w.heap.size, 0, none⟩) (L[k]).size c)).alloc (.cells C 5 (C.size, C.size + 1))) g L (k + 1) (vs.set k (.slice (some ⟨w.heap.size, 0, none⟩) (L[k]).size c)) := by
  have hg := lt_of_heap h.2.1
  have hsz : (w.setCell ⟨g, k, none⟩ (.slice (some ⟨w.heap.size, 0, none⟩) (L[k]).size c)).heap.size = w.heap.size := by simp [World.setCell]
  refine ⟨by simpa using h.1, ?_, fun i hi hik => ?_⟩
  · have := block_alloc (block_setCell h.2.1 k (.slice (some ⟨w.heap.size, 0, none⟩) (L[k]).size c)) (.cells C 5 (C.size, C.size + 1))
    rwa [List.setIfInBounds_toArray] at this
  · by_cases e : i = k
    · subst e
      have hn := block_new (w.setCell ⟨g, i, none⟩ (.slice (some ⟨w.heap.size, 0, none⟩) (L[i]).size c)) (.cells C 5 (C.size, C.size + 1))
      rw [hsz] at hn
      exact ⟨w.heap.size, c, C, by simp [h.1, hi], hg, hn, hC⟩
    · obtain ⟨bi, c', C', h1, h2, h3, h4⟩ := h.2.2 i hi (by omega)
      refine ⟨bi, c', C', by rw [List.getElem?_set_ne (by omega)]; exact h1, h2, block_alloc ?_ _, h4⟩
      rw [block_setCell_other _ _ (show bi ≠ g by omega)]; exact h3
/-- A cell of such a block is another now. -/
theorem rowsOwn.set {w : World} {g : Nat} {L : List ByteArray} {k b o : Nat} {vs : List Value} {v : Value} (h : rowsOwn w g L k vs) (hb : b ≠ g) : rowsOwn (w.setCell ⟨b, o, none⟩ v) g L k vs := by
  refine ⟨h.1, by rw [block_setCell_other _ _ (Ne.symm hb)]; exact h.2.1, fun i hi hik => ?_⟩
  obtain ⟨bi, c', C', h1, h2, h3, h4⟩ := h.2.2 i hi hik
  by_cases e : bi = b
  · subst e
    exact ⟨bi, c', C'.setIfInBounds o v, h1, h2, by rw [Array.size_setIfInBounds]; exact block_setCell h3 o v, by rw [Array.size_setIfInBounds]; exact h4⟩
  · exact ⟨bi, c', C', h1, h2, by rw [block_setCell_other _ _ e]; exact h3, h4⟩
theorem rowsOwn.below {w w' : World} {g : Nat} {L : List ByteArray} {k : Nat} {vs : List Value} (h : rowsOwn w g L k vs) (hB : Below w.heap.size w w') : rowsOwn w' g L k vs := by
  refine ⟨h.1, below_block hB h.2.1 (lt_of_heap h.2.1), fun i hi hik => ?_⟩
  obtain ⟨bi, c', C', h1, h2, h3, h4⟩ := h.2.2 i hi hik
  exact ⟨bi, c', C', h1, h2, below_block hB h3 (lt_of_heap h3), h4⟩
theorem frozen_own {w : World} {b : Nat} {C : Array Value} {t : TypeId} (h : w.heap[b]? = some (.cells C t (C.size, C.size + 1))) {o : Nat} (ho : o < C.size) : w.frozen? ⟨b, o, none⟩ = false := by
  simp [World.frozen?, h]; omega
theorem size_row (s : ByteArray) (cap : Nat) : s.size ≤ (bytesRow s cap).size := by
  rcases Nat.eq_zero_or_pos s.size with h | h
  · omega
  · have := bytesRow_cells s cap (s.size - 1) (by show _ < s.data.toList.length; have : s.data.toList.length = s.size := by simp
                                                  omega)
    have h2 := (Array.getElem?_eq_some_iff.1 this).1
    omega
set_option maxRecDepth 100000 in
set_option maxHeartbeats 2000000 in
theorem read_own (d : DL) (S : DiskS) (n : Int) (w : World) (h : DiskRd w d S) (h0 : 0 ≤ n) (h1 : n < S.safe.length) :
    Calls Tryz.prog 90 #[.pointer (some ⟨d.p, 0, none⟩), .int .i64 n] w fun e w' => Below w.heap.size w w' ∧ ∃ c C, e = .returned (.tuple #[.slice (some ⟨w.heap.size, 0, none⟩) (seenS S.safe S.waits n).size c, .int .i64 0]) ∧ w'.heap[w.heap.size]? = some (.cells C 5 (C.size, C.size + 1)) ∧ (seenS S.safe S.waits n).size ≤ C.size := by
  have c2 : w.cell? ⟨d.p, 2, none⟩ = some (.slice (some ⟨d.L.g, 0, none⟩) S.safe.length d.L.cap) := by rw [cell_of_block h.heap]; rfl
  have c3 : w.cell? ⟨d.p, 3, none⟩ = some (.map (some d.L.m)) := by rw [cell_of_block h.heap]; rfl
  have HD := hid (decide_eq_true (And.intro h0 h1))
  have HC2 := hid c2
  have HS := hid (seen_any d.p d.L S.safe S.waits S.ops.length n w c2 c3 h.plates h0 h1)
  clear h c2 c3
  generalize seenS S.safe S.waits n = s at *
  have hconv := fun W => run_bytes_of_string (P := Tryz.prog) W 116 57 5 s Tryz.underlying116 Tryz.underlying57 Tryz.underlying5
  go_enter Tryz.func90, Tryz.ntmps90
  go_wp2_with fail
  refine (has_any d.p 2 _ _ _ _ _ HC2.out).mono ?_
  rintro e w9 ⟨rfl, h9⟩
  obtain rfl := h9.symm
  rw [HD.out]
  go_wp2_with fail
  refine HS.out.mono ?_
  rintro e w9 ⟨rfl, h9⟩
  obtain rfl := h9.symm
  go_wp2
  go_returns
  exact ⟨((Below.refl _ w).alloc (Nat.le_refl _) _).drew, grownCap w s.size 0 5, _, rfl, block_new w _, size_row s _⟩
end Go.Proofs.YtkkmbgjlmdddoabGreat
