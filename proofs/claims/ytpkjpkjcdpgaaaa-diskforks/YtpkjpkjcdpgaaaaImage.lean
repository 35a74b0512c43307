/- disk.Disk.Image, Safe: all sectors as they are read, and as they were flushed. -/
import Derived.Test.YtpkjpkjcdpgaaaaTwo
namespace Go.Proofs.Ytpkjpkjcdpgaaaa
open Go.RowKit
/-- Rows of bytes lie where the slice points. -/
def rowsAt (w : World) (a : Option Addr) (L : List (List UInt8)) : Prop := ∀ j, j < L.length → ∃ b o, a = some ⟨b, o, none⟩ ∧ ∀ i (hi : i < L.length), ∃ a' c', w.cell? ⟨b, o + i, none⟩ = some (.slice a' (L[i]).length c') ∧ bytesIn w a' L[i]
theorem rowsAt.below {w w' : World} {a : Option Addr} {L : List (List UInt8)} (h : rowsAt w a L) (hb : Below w.heap.size w w') : rowsAt w' a L := fun j hj => by
  obtain ⟨b, o, e, hc⟩ := h j hj
  refine ⟨b, o, e, fun i hi => ?_⟩
  obtain ⟨a', c', h1, h2⟩ := hc i hi
  exact ⟨a', c', by rw [hb.cell (p := ⟨b, o + i, none⟩) (World.block_lt_of_cell? w _ h1)]; exact h1, h2.below hb⟩
/-- Such rows, whose blocks were made since lo. -/
def rowsFrom (w : World) (lo : Nat) (a : Option Addr) (L : List (List UInt8)) : Prop := ∀ j, j < L.length → ∃ b o, a = some ⟨b, o, none⟩ ∧ lo ≤ b ∧ ∀ i (hi : i < L.length), ∃ a' c', w.cell? ⟨b, o + i, none⟩ = some (.slice a' (L[i]).length c') ∧ bytesIn w a' L[i] ∧ ∀ ad, a' = some ad → lo ≤ ad.block
theorem rowsFrom.at {w : World} {lo : Nat} {a : Option Addr} {L : List (List UInt8)} (h : rowsFrom w lo a L) : rowsAt w a L := fun j hj => by
  obtain ⟨b, o, e, _, hc⟩ := h j hj
  exact ⟨b, o, e, fun i hi => by obtain ⟨a', c', h1, h2, _⟩ := hc i hi; exact ⟨a', c', h1, h2⟩⟩
theorem rowsFrom.keep {w w' : World} {lo : Nat} {a : Option Addr} {L : List (List UInt8)} {G : Nat → Prop} (h : rowsFrom w lo a L) (k : Keeps G w w') (hG : ∀ i, G i → i < lo) : rowsFrom w' lo a L := fun j hj => by
  obtain ⟨b, o, e, hb, hc⟩ := h j hj
  refine ⟨b, o, e, hb, fun i hi => ?_⟩
  obtain ⟨a', c', h1, h2, h3⟩ := hc i hi
  refine ⟨a', c', k.cell h1 (fun e => by have e2 := hG b e; omega), fun q hq => ?_, h3⟩
  obtain ⟨b2, o2, e2, hc2⟩ := h2 q hq
  exact ⟨b2, o2, e2, fun z hz => k.cell (hc2 z hz) (fun e => by have := hG b2 e; have := h3 _ e2; simp at this; omega)⟩
theorem rowsFrom.below {w w' : World} {lo : Nat} {a : Option Addr} {L : List (List UInt8)} (h : rowsFrom w lo a L) (hb : Below w.heap.size w w') : rowsFrom w' lo a L := h.keep (G := fun _ => False) (Keeps.of_below hb) (fun _ e => e.elim)
theorem bytesIn_of_at {w : World} {b : Nat} {l : List UInt8} (h : bytesAt w ⟨b, 0, none⟩ l) : bytesIn w (some ⟨b, 0, none⟩) l := fun _ _ => ⟨b, 0, rfl, fun i hi => by
  have := h i hi
  rwa [Addr.add_mid] at this⟩
/-- The bytes of sectors. -/
def bytesOf (L : List ByteArray) : List (List UInt8) := L.map (fun s => s.data.toList)
theorem length_bytesOf (L : List ByteArray) : (bytesOf L).length = L.length := by simp [bytesOf]
theorem infoRow : (Try.prog.info? 28).map (fun i => (i.zero, i.size, i.bytes)) = some (some (.slice none 0 0), 1, 24) := by kernel_rfl
theorem madeRow (n : Nat) : madeCells (Value.slice none 0 0).cells (n * 1) = (List.replicate n (Value.slice none 0 0)).toArray := by
  apply Array.ext
  · simp [madeCells]
  · intro i h1 h2
    simp [madeCells, Value.cells, Nat.mod_one]
theorem wpList_make_rows {w : World} {ops : Array Oper} {rest : List Oper} {o : Oper} {a : Act} {Q : Exit → Act → World → Prop} (hg : o.guard = none) (l c : Operand) (hop : o.op = Op.makeSlice 46 l c)
    (n : Nat) (hl : a.eval l = .int .i64 n) (hc : a.eval c = .int .i64 n) (hm : n ≤ 4096)
    (h : ∀ w1 : World, Below w.heap.size w w1 → w1.heap[w.heap.size]? = some (.cells (List.replicate n (Value.slice none 0 0)).toArray 28 (0, 0)) → w1.heap.size = w.heap.size + 1 →
      wpList Try.prog ops Q rest (a.put o.dst (.slice (some ⟨w.heap.size, 0, none⟩) n n)) w1) : wpList Try.prog ops Q (o :: rest) a w := by
  obtain ⟨i, hi, hz, hs, hb⟩ := info_parts infoRow
  refine wpList_plain hg fun K hK' => ?_
  have hrun := run_make (P := Try.prog) w 46 28 i (.slice none 0 0) Try.underlying46 hi hz .i64 .i64 n n (by omega) (by omega) (by rw [hb]; omega) (by omega)
  unfold Oper.wp
  simp only [Int.toNat_natCast, hs, madeRow] at hrun
  generalize (List.replicate n (Value.slice none 0 0)).toArray = Z at *
  simp [execOp, hop, hl, hc, hrun, Result.andThen]
  exact hK' _ _ (h _ ((Below.refl _ _).alloc (Nat.le_refl _) _) (block_new _ _) (by simp))
/-- The first k rows have been laid. -/
def rowsTo (w : World) (g : Nat) (L : List ByteArray) (k : Nat) (vs : List Value) : Prop := vs.length = L.length ∧ w.heap[g]? = some (.cells vs.toArray 28 (0, 0)) ∧
  ∀ i (hi : i < L.length), i < k → ∃ bi c, vs[i]? = some (.slice (some ⟨bi, 0, none⟩) (L[i]).size c) ∧ g < bi ∧ bytesAt w ⟨bi, 0, none⟩ (L[i]).data.toList
theorem rowsTo_end {w : World} {g : Nat} {L : List ByteArray} {vs : List Value} (h : rowsTo w g L L.length vs) : rowsFrom w g (some ⟨g, 0, none⟩) (bytesOf L) := fun j hj => ⟨g, 0, rfl, Nat.le_refl _, fun i hi => by
  have hi' : i < L.length := by simpa [bytesOf] using hi
  obtain ⟨bi, c, h1, hgb, h3⟩ := h.2.2 i hi' hi'
  refine ⟨some ⟨bi, 0, none⟩, c, ?_, ?_, fun ad e => by rw [← Option.some.inj e]; exact Nat.le_of_lt hgb⟩
  · rw [Nat.zero_add, cell_of_block h.2.1, List.getElem?_toArray, h1]
    simp [bytesOf]
  · have := bytesIn_of_at h3
    simpa [bytesOf] using this⟩
/-- One row more: its bytes lie in a new block. -/
theorem rowsTo_step {w : World} {g : Nat} {L : List ByteArray} {k c : Nat} {vs : List Value} (h : rowsTo w g L k vs) (hk : k < L.length) (fr : Nat × Nat) (C : Array Value) (hC : ∀ j (hj : j < (L[k]).data.toList.length), C[j]? = some (.int .u8 ((L[k]).data.toList[j].toNat : Int))) :
    rowsTo ((w.setCell ⟨g, k, none⟩ (.slice (some ⟨w.heap.size, 0, none⟩) (L[k]).size c)).alloc (.cells C 5 fr)) g L (k + 1) (vs.set k (.slice (some ⟨w.heap.size, 0, none⟩) (L[k]).size c)) := by
  have hg := lt_of_heap h.2.1
  have hsz : (w.setCell ⟨g, k, none⟩ (.slice (some ⟨w.heap.size, 0, none⟩) (L[k]).size c)).heap.size = w.heap.size := by simp [World.setCell]
  refine ⟨by simpa using h.1, ?_, fun i hi hik => ?_⟩
  · have := block_alloc (block_setCell h.2.1 k (.slice (some ⟨w.heap.size, 0, none⟩) (L[k]).size c)) (.cells C 5 fr)
    rwa [List.setIfInBounds_toArray] at this
  · by_cases e : i = k
    · subst e
      refine ⟨w.heap.size, c, by simp [h.1, hi], hg, fun j hj => ?_⟩
      rw [Addr.add_mid, Nat.zero_add]
      have hn := block_new (w.setCell ⟨g, i, none⟩ (.slice (some ⟨w.heap.size, 0, none⟩) (L[i]).size c)) (.cells C 5 fr)
      rw [hsz] at hn
      rw [cell_of_block hn]
      exact hC j hj
    · obtain ⟨bi, c', h1, h2, h3⟩ := h.2.2 i hi (by omega)
      refine ⟨bi, c', by rw [List.getElem?_set_ne (by omega)]; exact h1, h2, fun j hj => ?_⟩
      have h4 := h3 j hj
      rw [Addr.add_mid] at h4 ⊢
      have hlt := World.block_lt_of_cell? w _ h4
      refine (World.cell?_of_block (w := w) ?_).trans h4
      rw [Below.heap_alloc _ _ _ (by rw [hsz]; exact hlt), block_setCell_other _ _ (show bi ≠ g by omega)]
theorem bytesRow_cells (s : ByteArray) (cap : Nat) : ∀ j (hj : j < s.data.toList.length), (bytesRow s cap)[j]? = some (.int .u8 (s.data.toList[j].toNat : Int)) := fun j hj => by
  rw [bytesRow_at s cap j (by simpa using hj)]; simp
set_option maxRecDepth 100000 in
set_option maxHeartbeats 2000000 in
theorem image_disk_rd (d : DL) (S : DiskS) (w : World) (h : DiskRd w d S) :
    Calls Try.prog 21 #[.pointer (some ⟨d.p, 0, none⟩)] w fun e w' => ∃ g, e = .returned (.slice (some ⟨g, 0, none⟩) S.safe.length S.safe.length) ∧ rowsFrom w' w.heap.size (some ⟨g, 0, none⟩) (bytesOf (imgS S)) ∧ w.heap.size ≤ g ∧ Below w.heap.size w w' := by
  have c2 : w.cell? ⟨d.p, 2, none⟩ = some (.slice (some ⟨d.L.g, 0, none⟩) S.safe.length d.L.cap) := by rw [cell_of_block h.heap]; rfl
  have hm := h.plates.most
  have H := hid h
  have HL := hid (length_imgS S)
  clear h
  go_enter Try.func21, Try.ntmps21
  go_wp2_with (refine wpList_make_rows rfl (.tmp 12) (.tmp 12) rfl S.safe.length rfl rfl hm ?_; intro w1 hB1 hb1 hz1; have HB1 := hid hB1; have Hb1 := hid hb1; clear hB1 hb1 hz1)
  go_loopw [16] (fun i wr => ∃ (k : Nat) (vs : List Value), k ≤ S.safe.length ∧ i = .int .i64 k ∧ Hid (rowsTo wr w.heap.size (imgS S) k vs) ∧ Hid (Below w.heap.size w wr)) (fun i _ => S.safe.length - (intOf i).toNat)
  case atStart => exact ⟨0, _, by omega, rfl, ⟨by simp [HL.out], Hb1.out, fun i hi hik => by omega⟩, HB1.out⟩
  case round =>
    obtain ⟨k, vs, hk, rfl, hR, hB⟩ := hrel
    clear c2
    by_cases hlt : k < S.safe.length
    · have hi0 : (0 : Int) ≤ (k : Int) := by omega
      have hi1 : (k : Int) < (S.safe.length : Int) := by omega
      have hlt1 : k < (imgS S).length := by rw [HL.out]; exact hlt
      have hs := by
        have hD := H.out.below hB.out
        exact seen_any d.p d.L S.safe S.waits S.ops.length (k : Int) wr (by rw [cell_of_block hD.heap]; rfl) (by rw [cell_of_block hD.heap]; rfl) hD.plates hi0 hi1
      rw [← imgS_at S k hlt1] at hs
      have HS := hid hs
      have cg : wr.cell? ⟨w.heap.size, k, none⟩ = some (vs[k]'(by rw [hR.out.1]; exact hlt1)) := by rw [cell_of_block hR.out.2.1, List.getElem?_toArray]; exact List.getElem?_eq_getElem _
      have fg : wr.frozen? ⟨w.heap.size, k, none⟩ = false := frozen_of_block hR.out.2.1 _
      have HStep := hid (fun c fr C hC => rowsTo_step (c := c) hR.out hlt1 fr C hC)
      have hG := lt_of_heap hR.out.2.1
      generalize hs0 : (imgS S)[k] = s at *
      clear hs0 hs
      have hconv := fun W => run_bytes_of_string (P := Try.prog) W 71 28 5 s Try.underlying71 Try.underlying28 Try.underlying5
      go_wp2_with fail
      refine HS.out.mono ?_
      clear HS
      rintro e w9 ⟨rfl, h9⟩
      obtain rfl := h9.symm
      go_wp2
      exact ⟨⟨k + 1, _, by omega, by go_num, HStep.out _ _ _ (bytesRow_cells s _), ((hB.out.setCell (Nat.le_refl _) _).alloc (by simpa using hB.out.size) _).drew⟩, by simp [intOf]; omega⟩
    · obtain rfl : k = S.safe.length := by omega
      have hge : ¬ ((S.safe.length : Int) < (S.safe.length : Int)) := by omega
      go_wp2
      go_ret
      exact ⟨w.heap.size, rfl, rowsTo_end (by rw [HL.out]; exact hR.out), Nat.le_refl _, hB.out⟩
theorem image_disk (d : DL) (S : DiskS) (w : World) (h : DiskIn w d S) :
    Calls Try.prog 21 #[.pointer (some ⟨d.p, 0, none⟩)] w fun e w' => ∃ g, e = .returned (.slice (some ⟨g, 0, none⟩) S.safe.length S.safe.length) ∧ rowsFrom w' w.heap.size (some ⟨g, 0, none⟩) (bytesOf (imgS S)) ∧ w.heap.size ≤ g ∧ Below w.heap.size w w' :=
  image_disk_rd d S w h.rd
set_option maxRecDepth 100000 in
set_option maxHeartbeats 2000000 in
theorem safe_disk_rd (d : DL) (S : DiskS) (w : World) (h : DiskRd w d S) :
    Calls Try.prog 22 #[.pointer (some ⟨d.p, 0, none⟩)] w fun e w' => ∃ g, e = .returned (.slice (some ⟨g, 0, none⟩) S.safe.length S.safe.length) ∧ rowsFrom w' w.heap.size (some ⟨g, 0, none⟩) (bytesOf S.safe) ∧ w.heap.size ≤ g ∧ Below w.heap.size w w' := by
  have c2 : w.cell? ⟨d.p, 2, none⟩ = some (.slice (some ⟨d.L.g, 0, none⟩) S.safe.length d.L.cap) := by rw [cell_of_block h.heap]; rfl
  have hm := h.plates.most
  have H := hid h
  clear h
  go_enter Try.func22, Try.ntmps22
  go_wp2_with (refine wpList_make_rows rfl (.tmp 13) (.tmp 13) rfl S.safe.length rfl rfl hm ?_; intro w1 hB1 hb1 hz1; have HB1 := hid hB1; have Hb1 := hid hb1; have c2b : w1.cell? ⟨d.p, 2, none⟩ = some (.slice (some ⟨d.L.g, 0, none⟩) S.safe.length d.L.cap) := (hB1.cell (p := ⟨d.p, 2, none⟩) (lt_of_heap H.out.heap)).trans c2; clear hB1 hb1 hz1)
  go_loopw [21] (fun i wr => ∃ (k : Nat) (vs : List Value), k ≤ S.safe.length ∧ i = .int .i64 k ∧ Hid (rowsTo wr w.heap.size S.safe k vs) ∧ Hid (Below w.heap.size w wr)) (fun i _ => S.safe.length - (intOf i).toNat)
  case atStart => exact ⟨0, _, by omega, rfl, ⟨by simp, Hb1.out, fun i hi hik => by omega⟩, HB1.out⟩
  case round =>
    obtain ⟨k, vs, hk, rfl, hR, hB⟩ := hrel
    clear c2 c2b
    by_cases hlt : k < S.safe.length
    · have hi0 : (0 : Int) ≤ (k : Int) := by omega
      have hi1 : (k : Int) < (S.safe.length : Int) := by omega
      have cs : wr.cell? ⟨d.L.g, k, none⟩ = some (.string (S.safe[k])) := by
        rw [hB.out.cell (p := ⟨d.L.g, k, none⟩) (H.out.plates.foot_lt (.inl rfl)), H.out.plates.safeRow.cellAt k (by omega)]
        simp [hlt]
      have cg : wr.cell? ⟨w.heap.size, k, none⟩ = some (vs[k]'(by rw [hR.out.1]; exact hlt)) := by rw [cell_of_block hR.out.2.1, List.getElem?_toArray]; exact List.getElem?_eq_getElem _
      have fg : wr.frozen? ⟨w.heap.size, k, none⟩ = false := frozen_of_block hR.out.2.1 _
      have HStep := hid (fun c fr C hC => rowsTo_step (c := c) hR.out hlt fr C hC)
      have hG := lt_of_heap hR.out.2.1
      generalize hs0 : S.safe[k] = s at *
      clear hs0
      have hconv := fun W => run_bytes_of_string (P := Try.prog) W 71 28 5 s Try.underlying71 Try.underlying28 Try.underlying5
      go_wp2
      exact ⟨⟨k + 1, _, by omega, by go_num, HStep.out _ _ _ (bytesRow_cells s _), ((hB.out.setCell (Nat.le_refl _) _).alloc (by simpa using hB.out.size) _).drew⟩, by simp [intOf]; omega⟩
    · obtain rfl : k = S.safe.length := by omega
      have hge : ¬ ((S.safe.length : Int) < (S.safe.length : Int)) := by omega
      go_wp2
      go_ret
      exact ⟨w.heap.size, rfl, rowsTo_end hR.out, Nat.le_refl _, hB.out⟩
theorem safe_disk (d : DL) (S : DiskS) (w : World) (h : DiskIn w d S) :
    Calls Try.prog 22 #[.pointer (some ⟨d.p, 0, none⟩)] w fun e w' => ∃ g, e = .returned (.slice (some ⟨g, 0, none⟩) S.safe.length S.safe.length) ∧ rowsFrom w' w.heap.size (some ⟨g, 0, none⟩) (bytesOf S.safe) ∧ w.heap.size ≤ g ∧ Below w.heap.size w w' :=
  safe_disk_rd d S w h.rd
end Go.Proofs.Ytpkjpkjcdpgaaaa
