/- Image, Safe, Read: what they answer is the caller's. -/
import Derived.Test.YtpkjpkjcdpgaaaaImage
namespace Go.Proofs.Ytpkjpkjcdpgaaaa
open Go.RowKit
/-- The first k rows have been laid, each in a block of its own that may be written. -/
def rowsOwn (w : World) (g : Nat) (L : List ByteArray) (k : Nat) (vs : List Value) : Prop := vs.length = L.length ∧ w.heap[g]? = some (.cells vs.toArray 28 (0, 0)) ∧
  ∀ i (hi : i < L.length), i < k → ∃ bi c C, vs[i]? = some (.slice (some ⟨bi, 0, none⟩) (L[i]).size c) ∧ g < bi ∧ w.heap[bi]? = some (.cells C 5 (C.size, C.size + 1)) ∧ (L[i]).size ≤ C.size
theorem rowsOwn_step {w : World} {g : Nat} {L : List ByteArray} {k c : Nat} {vs : List Value} (h : rowsOwn w g L k vs) (hk : k < L.length) (C : Array Value) (hC : (L[k]).size ≤ C.size) :
    rowsOwn ((w.setCell ⟨g, k, none⟩ (.slice (some ⟨w.heap.size, 0, none⟩) (L[k]).size c)).alloc (.cells C 5 (C.size, C.size + 1))) g L (k + 1) (vs.set k (.slice (some ⟨w.heap.size, 0, none⟩) (L[k]).size c)) := by
  have hg := lt_of_heap h.2.1
  have hsz : (w.setCell ⟨g, k, none⟩ (.slice (some ⟨w.heap.size, 0, none⟩) (L[k]).size c)).heap.size = w.heap.size := by simp [World.setCell]
  refine ⟨by simpa using h.1, ?_, fun i hi hik => ?_⟩
  · have := block_alloc (block_setCell h.2.1 k (.slice (some ⟨w.heap.size, 0, none⟩) (L[k]).size c)) (.cells C 5 (C.size, C.size + 1))
    rwa [List.setIfInBounds_toArray] at this
  · by_cases e : i = k
    · subst e
      have hn := block_new (w.setCell ⟨g, i, none⟩ (.slice (some ⟨w.heap.size, 0, none⟩) (L[i]).size c)) (.cells C 5 (C.size, C.size + 1))
      rw [hsz] at hn
      exact ⟨w.heap.size, c, C, by simp [h.1, hi], hg, hn, hC⟩
    · obtain ⟨bi, c', C', h1, h2, h3, h4⟩ := h.2.2 i hi (by omega)
      refine ⟨bi, c', C', by rw [List.getElem?_set_ne (by omega)]; exact h1, h2, block_alloc ?_ _, h4⟩
      rw [block_setCell_other _ _ (show bi ≠ g by omega)]; exact h3
/-- A cell of such a block is another now. -/
theorem rowsOwn.set {w : World} {g : Nat} {L : List ByteArray} {k b o : Nat} {vs : List Value} {v : Value} (h : rowsOwn w g L k vs) (hb : b ≠ g) : rowsOwn (w.setCell ⟨b, o, none⟩ v) g L k vs := by
  refine ⟨h.1, by rw [block_setCell_other _ _ (Ne.symm hb)]; exact h.2.1, fun i hi hik => ?_⟩
  obtain ⟨bi, c', C', h1, h2, h3, h4⟩ := h.2.2 i hi hik
  by_cases e : bi = b
  · subst e
    exact ⟨bi, c', C'.setIfInBounds o v, h1, h2, by rw [Array.size_setIfInBounds]; exact block_setCell h3 o v, by rw [Array.size_setIfInBounds]; exact h4⟩
  · exact ⟨bi, c', C', h1, h2, by rw [block_setCell_other _ _ e]; exact h3, h4⟩
theorem rowsOwn.below {w w' : World} {g : Nat} {L : List ByteArray} {k : Nat} {vs : List Value} (h : rowsOwn w g L k vs) (hB : Below w.heap.size w w') : rowsOwn w' g L k vs := by
  refine ⟨h.1, below_block hB h.2.1 (lt_of_heap h.2.1), fun i hi hik => ?_⟩
  obtain ⟨bi, c', C', h1, h2, h3, h4⟩ := h.2.2 i hi hik
  exact ⟨bi, c', C', h1, h2, below_block hB h3 (lt_of_heap h3), h4⟩
theorem frozen_own {w : World} {b : Nat} {C : Array Value} {t : TypeId} (h : w.heap[b]? = some (.cells C t (C.size, C.size + 1))) {o : Nat} (ho : o < C.size) : w.frozen? ⟨b, o, none⟩ = false := by
  simp [World.frozen?, h]; omega
theorem size_row (s : ByteArray) (cap : Nat) : s.size ≤ (bytesRow s cap).size := by
  rcases Nat.eq_zero_or_pos s.size with h | h
  · omega
  · have := bytesRow_cells s cap (s.size - 1) (by show _ < s.data.toList.length; have : s.data.toList.length = s.size := by simp
                                                  omega)
    have h2 := (Array.getElem?_eq_some_iff.1 this).1
    omega
set_option maxRecDepth 100000 in
set_option maxHeartbeats 2000000 in
theorem image_own (d : DL) (S : DiskS) (w : World) (h : DiskRd w d S) :
    Calls Try.prog 21 #[.pointer (some ⟨d.p, 0, none⟩)] w fun e w' => Below w.heap.size w w' ∧ ∃ vs, e = .returned (.slice (some ⟨w.heap.size, 0, none⟩) S.safe.length S.safe.length) ∧ rowsOwn w' w.heap.size (imgS S) (imgS S).length vs := by
  have c2 : w.cell? ⟨d.p, 2, none⟩ = some (.slice (some ⟨d.L.g, 0, none⟩) S.safe.length d.L.cap) := by rw [cell_of_block h.heap]; rfl
  have hm := h.plates.most
  have H := hid h
  have HL := hid (length_imgS S)
  clear h
  go_enter Try.func21, Try.ntmps21
  go_wp2_with (refine wpList_make_rows rfl (.tmp 12) (.tmp 12) rfl S.safe.length rfl rfl hm ?_; intro w1 hB1 hb1 hz1; have HB1 := hid hB1; have Hb1 := hid hb1; clear hB1 hb1 hz1)
  go_loopw [16] (fun i wr => ∃ (k : Nat) (vs : List Value), k ≤ S.safe.length ∧ i = .int .i64 k ∧ Hid (rowsOwn wr w.heap.size (imgS S) k vs) ∧ Hid (Below w.heap.size w wr)) (fun i _ => S.safe.length - (intOf i).toNat)
  case atStart => exact ⟨0, _, by omega, rfl, ⟨by simp [HL.out], Hb1.out, fun i hi hik => by omega⟩, HB1.out⟩
  case round =>
    obtain ⟨k, vs, hk, rfl, hR, hB⟩ := hrel
    clear c2
    by_cases hlt : k < S.safe.length
    · have hi0 : (0 : Int) ≤ (k : Int) := by omega
      have hi1 : (k : Int) < (S.safe.length : Int) := by omega
      have hlt1 : k < (imgS S).length := by rw [HL.out]; exact hlt
      have hs := by
        have hD := H.out.below hB.out
        exact seen_any d.p d.L S.safe S.waits S.ops.length (k : Int) wr (by rw [cell_of_block hD.heap]; rfl) (by rw [cell_of_block hD.heap]; rfl) hD.plates hi0 hi1
      rw [← imgS_at S k hlt1] at hs
      have HS := hid hs
      have cg : wr.cell? ⟨w.heap.size, k, none⟩ = some (vs[k]'(by rw [hR.out.1]; exact hlt1)) := by rw [cell_of_block hR.out.2.1, List.getElem?_toArray]; exact List.getElem?_eq_getElem _
      have fg : wr.frozen? ⟨w.heap.size, k, none⟩ = false := frozen_of_block hR.out.2.1 _
      have HStep := hid (fun c C hC => rowsOwn_step (c := c) hR.out hlt1 C hC)
      have hG := lt_of_heap hR.out.2.1
      generalize hs0 : (imgS S)[k] = s at *
      clear hs0 hs
      have hconv := fun W => run_bytes_of_string (P := Try.prog) W 71 28 5 s Try.underlying71 Try.underlying28 Try.underlying5
      go_wp2_with fail
      refine HS.out.mono ?_
      clear HS
      rintro e w9 ⟨rfl, h9⟩
      obtain rfl := h9.symm
      go_wp2
      exact ⟨⟨k + 1, _, by omega, by go_num, HStep.out _ _ (size_row s _), ((hB.out.setCell (Nat.le_refl _) _).alloc (by simpa using hB.out.size) _).drew⟩, by simp [intOf]; omega⟩
    · obtain rfl : k = S.safe.length := by omega
      have hge : ¬ ((S.safe.length : Int) < (S.safe.length : Int)) := by omega
      go_wp2
      go_ret
      first | exact ⟨hB.out, vs, rfl, by rw [HL.out]; exact hR.out⟩ | exact ⟨hB.out, rfl, vs, by rw [HL.out]; exact hR.out⟩
set_option maxRecDepth 100000 in
set_option maxHeartbeats 2000000 in
theorem safe_own (d : DL) (S : DiskS) (w : World) (h : DiskRd w d S) :
    Calls Try.prog 22 #[.pointer (some ⟨d.p, 0, none⟩)] w fun e w' => Below w.heap.size w w' ∧ ∃ vs, e = .returned (.slice (some ⟨w.heap.size, 0, none⟩) S.safe.length S.safe.length) ∧ rowsOwn w' w.heap.size S.safe S.safe.length vs := by
  have c2 : w.cell? ⟨d.p, 2, none⟩ = some (.slice (some ⟨d.L.g, 0, none⟩) S.safe.length d.L.cap) := by rw [cell_of_block h.heap]; rfl
  have hm := h.plates.most
  have H := hid h
  clear h
  go_enter Try.func22, Try.ntmps22
  go_wp2_with (refine wpList_make_rows rfl (.tmp 13) (.tmp 13) rfl S.safe.length rfl rfl hm ?_; intro w1 hB1 hb1 hz1; have HB1 := hid hB1; have Hb1 := hid hb1; have c2b : w1.cell? ⟨d.p, 2, none⟩ = some (.slice (some ⟨d.L.g, 0, none⟩) S.safe.length d.L.cap) := (hB1.cell (p := ⟨d.p, 2, none⟩) (lt_of_heap H.out.heap)).trans c2; clear hB1 hb1 hz1)
  go_loopw [21] (fun i wr => ∃ (k : Nat) (vs : List Value), k ≤ S.safe.length ∧ i = .int .i64 k ∧ Hid (rowsOwn wr w.heap.size S.safe k vs) ∧ Hid (Below w.heap.size w wr)) (fun i _ => S.safe.length - (intOf i).toNat)
  case atStart => exact ⟨0, _, by omega, rfl, ⟨by simp, Hb1.out, fun i hi hik => by omega⟩, HB1.out⟩
  case round =>
    obtain ⟨k, vs, hk, rfl, hR, hB⟩ := hrel
    clear c2 c2b
    by_cases hlt : k < S.safe.length
    · have hi0 : (0 : Int) ≤ (k : Int) := by omega
      have hi1 : (k : Int) < (S.safe.length : Int) := by omega
      have cs : wr.cell? ⟨d.L.g, k, none⟩ = some (.string (S.safe[k])) := by
        rw [hB.out.cell (p := ⟨d.L.g, k, none⟩) (H.out.plates.foot_lt (.inl rfl)), H.out.plates.safeRow.cellAt k (by omega)]
        simp [hlt]
      have cg : wr.cell? ⟨w.heap.size, k, none⟩ = some (vs[k]'(by rw [hR.out.1]; exact hlt)) := by rw [cell_of_block hR.out.2.1, List.getElem?_toArray]; exact List.getElem?_eq_getElem _
      have fg : wr.frozen? ⟨w.heap.size, k, none⟩ = false := frozen_of_block hR.out.2.1 _
      have HStep := hid (fun c C hC => rowsOwn_step (c := c) hR.out hlt C hC)
      have hG := lt_of_heap hR.out.2.1
      generalize hs0 : S.safe[k] = s at *
      clear hs0
      have hconv := fun W => run_bytes_of_string (P := Try.prog) W 71 28 5 s Try.underlying71 Try.underlying28 Try.underlying5
      go_wp2
      exact ⟨⟨k + 1, _, by omega, by go_num, HStep.out _ _ (size_row s _), ((hB.out.setCell (Nat.le_refl _) _).alloc (by simpa using hB.out.size) _).drew⟩, by simp [intOf]; omega⟩
    · obtain rfl : k = S.safe.length := by omega
      have hge : ¬ ((S.safe.length : Int) < (S.safe.length : Int)) := by omega
      go_wp2
      go_ret
      first | exact ⟨hB.out, vs, rfl, hR.out⟩ | exact ⟨hB.out, rfl, vs, hR.out⟩
set_option maxRecDepth 100000 in
set_option maxHeartbeats 2000000 in
theorem read_own (d : DL) (S : DiskS) (n : Int) (w : World) (h : DiskRd w d S) (h0 : 0 ≤ n) (h1 : n < S.safe.length) :
    Calls Try.prog 11 #[.pointer (some ⟨d.p, 0, none⟩), .int .i64 n] w fun e w' => Below w.heap.size w w' ∧ ∃ c C, e = .returned (.tuple #[.slice (some ⟨w.heap.size, 0, none⟩) (seenS S.safe S.waits n).size c, .int .i64 0]) ∧ w'.heap[w.heap.size]? = some (.cells C 5 (C.size, C.size + 1)) ∧ (seenS S.safe S.waits n).size ≤ C.size := by
  have c2 : w.cell? ⟨d.p, 2, none⟩ = some (.slice (some ⟨d.L.g, 0, none⟩) S.safe.length d.L.cap) := by rw [cell_of_block h.heap]; rfl
  have c3 : w.cell? ⟨d.p, 3, none⟩ = some (.map (some d.L.m)) := by rw [cell_of_block h.heap]; rfl
  have HD := hid (decide_eq_true (And.intro h0 h1))
  have HC2 := hid c2
  have HS := hid (seen_any d.p d.L S.safe S.waits S.ops.length n w c2 c3 h.plates h0 h1)
  clear h c2 c3
  generalize seenS S.safe S.waits n = s at *
  have hconv := fun W => run_bytes_of_string (P := Try.prog) W 71 28 5 s Try.underlying71 Try.underlying28 Try.underlying5
  go_enter Try.func11, Try.ntmps11
  go_wp2_with fail
  refine (has_any d.p 2 _ _ _ _ _ HC2.out).mono ?_
  rintro e w9 ⟨rfl, h9⟩
  obtain rfl := h9.symm
  rw [HD.out]
  go_wp2_with fail
  refine HS.out.mono ?_
  rintro e w9 ⟨rfl, h9⟩
  obtain rfl := h9.symm
  go_wp2
  go_returns
  exact ⟨((Below.refl _ w).alloc (Nat.le_refl _) _).drew, grownCap w s.size 0 5, _, rfl, block_new w _, size_row s _⟩
end Go.Proofs.Ytpkjpkjcdpgaaaa
