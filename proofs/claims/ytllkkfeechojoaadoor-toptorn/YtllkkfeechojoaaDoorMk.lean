/- A row of 512 noughts is made; such a row beside a disk. -/
import Derived.Test.YtllkkfeechojoaaDoorCopyRow
import Derived.Test.YtllkkfeechojoaaDoorJoined1


namespace Go.Proofs.YtllkkfeechojoaaDoor
open Go.RowKit
def zerosL : List UInt8 := List.replicate 512 0
theorem length_zerosL : zerosL.length = 512 := List.length_replicate
/-- The cells of a row of noughts. -/
def zcells : Array Value := (zerosL.map Sh.B).toArray
theorem mkInfo : (Tryd.prog.info? 5).map (fun i => (i.zero, i.size, i.bytes)) = some (some (.int .u8 0), 1, 1) := by kernel_rfl
theorem mkMadeN (n : Nat) : madeCells (Value.int .u8 0).cells (n * 1) = ((List.replicate n (0 : UInt8)).map Sh.B).toArray := by
  apply Array.ext
  · simp [madeCells]
  · intro i h1 h2
    simp [madeCells, Value.cells, Nat.mod_one, Sh.B, Sh.V]
theorem mkMade : madeCells (Value.int .u8 0).cells (512 * 1) = zcells := mkMadeN 512
theorem wp_mk_row {w : World} {o : Oper} {a : Act} {K : Act → World → Prop} {Q : Exit → Act → World → Prop} (l c : Operand) (hop : o.op = Op.makeSlice 22 l c) (hl : a.eval l = .int .i64 512) (hc : a.eval c = .int .i64 512) (B : Nat) (hB : w.heap.size = B)
    (h : K (a.put o.dst (.slice (some ⟨B, 0, none⟩) 512 512)) (w.alloc (.cells zcells 5))) : o.wp Tryd.prog a w K Q := by
  subst hB
  obtain ⟨i, hi, hz, hs, hb⟩ := info_parts mkInfo
  have hrun := run_make (P := Tryd.prog) w 22 5 i (.int .u8 0) Tryd.underlying22 hi hz .i64 .i64 512 512 (by omega) (by omega) (by rw [hb]; omega) (by omega)
  unfold Oper.wp
  simp only [hs] at hrun
  have e : madeCells (Value.int .u8 0).cells (Int.toNat 512 * 1) = zcells := mkMade
  rw [e] at hrun
  generalize zcells = Z at *
  simp [execOp, hop, hl, hc, hrun, Result.andThen]
  exact h
theorem ownRow_new (w : World) : ownRow (w.alloc (.cells zcells 5)) w.heap.size zerosL := ⟨length_zerosL, block_new _ _⟩
theorem ownRow.bytes {w : World} {b : Nat} {L : List UInt8} (h : ownRow w b L) : Sh.Bytes w (.slice (some ⟨b, 0, none⟩) 512 512) L := by
  refine ⟨some ⟨b, 0, none⟩, 512, by rw [h.1], by rw [h.1]; exact Nat.le_refl _, fun j x hj => ⟨b, 0, rfl, ?_⟩⟩
  rw [Nat.zero_add, cell_of_block h.2, List.getElem?_toArray, List.getElem?_map, hj]; rfl
theorem ownRow.at {w : World} {b : Nat} {L : List UInt8} (h : ownRow w b L) : bytesAt w ⟨b, 0, none⟩ L := by
  intro j hj
  rw [Addr.add_mid, Nat.zero_add, cell_of_block h.2, List.getElem?_toArray, List.getElem?_map, List.getElem?_eq_getElem hj]; rfl
theorem ownRow.keep {w w' : World} {b : Nat} {L : List UInt8} {F : Nat → Prop} (h : ownRow w b L) (k : Keeps F w w') (hF : ¬ F b) : ownRow w' b L := ⟨h.1, k.heap h.2 hF⟩
theorem ownRow.below {w w' : World} {b : Nat} {L : List UInt8} (h : ownRow w b L) (k : Below w.heap.size w w') : ownRow w' b L := ⟨h.1, below_block k h.2 (lt_of_heap h.2)⟩
theorem ownRow.off {w : World} {b : Nat} {L : List UInt8} {d : DL} {S : DiskS} (h : ownRow w b L) (hd : DiskIn w d S) : ¬ d.foot S.waits b := by
  have hi := h.2
  rintro (e | e | e)
  · rw [e, hd.heap] at hi
    simp only [Option.some.injEq, Obj.cells.injEq] at hi
    exact absurd hi.2.1 (by decide)
  · obtain ⟨cur, hc⟩ := row_type hd.ops e
    rw [hc] at hi
    simp only [Option.some.injEq, Obj.cells.injEq] at hi
    exact absurd hi.2.1 (by decide)
  · exact hd.plates.foot_other hi (by decide) e

set_option maxRecDepth 100000 in
set_option maxHeartbeats 1000000 in
theorem read_cap (d : DL) (S : DiskS) (n : Int) (w : World) (h : DiskIn w d S) (h0 : 0 ≤ n) (h1 : n < S.safe.length) :
    Calls Tryd.prog 9 #[.pointer (some ⟨d.p, 0, none⟩), .int .i64 n] w fun e w' => ∃ b c, e = .returned (.tuple #[.slice (some ⟨b, 0, none⟩) (seenS S.safe S.waits n).size c, .int .i64 0]) ∧ (seenS S.safe S.waits n).size ≤ c ∧ w.heap.size ≤ b ∧ bytesAt w' ⟨b, 0, none⟩ (seenS S.safe S.waits n).data.toList ∧ Below w.heap.size w w' := by
  have c2 : w.cell? ⟨d.p, 2, none⟩ = some (.slice (some ⟨d.L.g, 0, none⟩) S.safe.length d.L.cap) := by rw [cell_of_block h.heap]; rfl
  have c3 : w.cell? ⟨d.p, 3, none⟩ = some (.map (some d.L.m)) := by rw [cell_of_block h.heap]; rfl
  have HD := hid (decide_eq_true (And.intro h0 h1))
  have HC2 := hid c2
  have HS := hid (seen_any d.p d.L S.safe S.waits S.ops.length n w c2 c3 h.plates h0 h1)
  clear h c2 c3
  generalize seenS S.safe S.waits n = s at *
  have hconv := fun W => run_bytes_of_string (P := Tryd.prog) W 47 22 5 s Tryd.underlying47 Tryd.underlying22 Tryd.underlying5
  go_enter Tryd.func9, Tryd.ntmps9
  go_wp2_with fail
  refine (has_any d.p 2 _ _ _ _ _ HC2.out).mono ?_
  rintro e w9 ⟨rfl, h9⟩
  obtain rfl := h9.symm
  rw [HD.out]
  go_wp2_with fail
  refine HS.out.mono ?_
  rintro e w9 ⟨rfl, h9⟩
  obtain rfl := h9.symm
  go_wp2
  go_returns
  refine ⟨w.heap.size, grownCap w s.size 0 5, rfl, grownCap_ge _ _ _ _, Nat.le_refl _, fun j hj => ?_, ((Below.refl _ w).alloc (Nat.le_refl _) _).drew⟩
  have hj' : j < s.data.size := by simpa using hj
  rw [Addr.add_mid, Nat.zero_add]
  refine (cell_of_block (block_new w _) j).trans ?_
  rw [bytesRow_at s _ j hj']
  simp
/-- What Read answers, as the digests ask for it. -/
theorem bytes_of_at {w : World} {b : Nat} {s : ByteArray} {l : List UInt8} {c : Nat} (h : bytesAt w ⟨b, 0, none⟩ s.data.toList) (e : s.data.toList = l) (hc : s.size ≤ c) : Sh.Bytes w (.slice (some ⟨b, 0, none⟩) s.size c) l := by
  subst e
  have hl : s.size = s.data.toList.length := by simp
  refine ⟨some ⟨b, 0, none⟩, c, by rw [hl], by rw [← hl]; exact hc, fun j x hj => ⟨b, 0, rfl, ?_⟩⟩
  obtain ⟨hj', e⟩ := List.getElem?_eq_some_iff.1 hj
  have := h j hj'
  rw [Addr.add_mid] at this
  rw [this, e]; rfl
end Go.Proofs.YtllkkfeechojoaaDoor
