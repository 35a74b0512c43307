/- Blocks of bools. -/
import Derived.Test.YtkkmbgjlmdddoabGreatAlOff
namespace Go.Proofs.YtkkmbgjlmdddoabGreat
open Go.RowKit
/-- A block of bools. -/
def ownBl (w : World) (b : Nat) (L : List Bool) : Prop := w.heap[b]? = some (.cells (L.map Value.bool).toArray 4 (0, 0))
theorem ownBl.cell {w : World} {b : Nat} {L : List Bool} (h : ownBl w b L) (j : Nat) (hj : j < L.length) : w.cell? ⟨b, j, none⟩ = some (.bool L[j]) := by
  rw [cell_of_block h]; simp [hj]
theorem ownBl.set {w : World} {b : Nat} {L : List Bool} (h : ownBl w b L) (j : Nat) (x : Bool) : ownBl (w.setCell ⟨b, j, none⟩ (.bool x)) b (L.set j x) := by
  have h1 := block_setCell h j (.bool x)
  rw [List.setIfInBounds_toArray] at h1
  unfold ownBl
  rw [h1, List.map_set]
theorem infoBl : (Tryz.prog.info? 4).map (fun i => (i.zero, i.size, i.bytes)) = some (some (.bool false), 1, 1) := by kernel_rfl
theorem madeBl (n : Nat) : madeCells (Value.bool false).cells (n * 1) = (List.replicate n (Value.bool false)).toArray := by
  apply Array.ext
  · simp [madeCells]
  · intro i h1 h2
    simp [madeCells, Value.cells, Nat.mod_one]
theorem wpList_make_bls {w : World} {ops : Array Oper} {rest : List Oper} {o : Oper} {a : Act} {Q : Exit → Act → World → Prop} (hg : o.guard = none) (l c : Operand) (hop : o.op = Op.makeSlice 86 l c)
    (n : Nat) (hl : a.eval l = .int .i64 n) (hc : a.eval c = .int .i64 n) (hm : n ≤ 4096)
    (h : ∀ w1 : World, Below w.heap.size w w1 → ownBl w1 w.heap.size (List.replicate n false) → w1.heap.size = w.heap.size + 1 →
      wpList Tryz.prog ops Q rest (a.put o.dst (.slice (some ⟨w.heap.size, 0, none⟩) n n)) w1) : wpList Tryz.prog ops Q (o :: rest) a w := by
  obtain ⟨i, hi, hz, hs, hb⟩ := info_parts infoBl
  refine wpList_plain hg fun K hK' => ?_
  have hrun := run_make (P := Tryz.prog) w 86 4 i (.bool false) Tryz.underlying86 hi hz .i64 .i64 n n (by omega) (by omega) (by rw [hb]; omega) (by omega)
  unfold Oper.wp
  have hown : ownBl (w.alloc (.cells (List.replicate n (Value.bool false)).toArray 4)) w.heap.size (List.replicate n false) := by
    unfold ownBl
    rw [List.map_replicate]; exact block_new _ _
  simp only [Int.toNat_natCast, hs, madeBl] at hrun
  generalize (List.replicate n (Value.bool false)).toArray = Z at *
  simp [execOp, hop, hl, hc, hrun, Result.andThen]
  exact hK' _ _ (h _ ((Below.refl _ _).alloc (Nat.le_refl _) _) hown (by simp))
end Go.Proofs.YtkkmbgjlmdddoabGreat
