/- The bytes of a deed: so many, all of one kind. -/
import Derived.Test.YtabpfneihihmaaaDoorRepeat
namespace Go.Proofs.YtabpfneihihmaaaDoor
open Go.RowKit
/-- How many bytes a deed has. -/
def deedLen (l : Int) : Nat := if 0 ≤ l ∧ l ≤ 600 then l.toNat else 512
theorem infoU8 : (Tryd.prog.info? 5).map (fun i => (i.zero, i.size, i.bytes)) = some (some (.int .u8 0), 1, 1) := by kernel_rfl
theorem madeU8 (n : Nat) : madeCells (Value.int .u8 0).cells (n * 1) = (List.replicate n (Value.int .u8 0)).toArray := by
  apply Array.ext
  · simp [madeCells]
  · intro i h1 h2
    simp [madeCells, Value.cells, Nat.mod_one]
theorem wpList_make_u8 {w : World} {ops : Array Oper} {rest : List Oper} {o : Oper} {a : Act} {Q : Exit → Act → World → Prop} (hg : o.guard = none) (l c : Operand) (hop : o.op = Op.makeSlice 22 l c)
    (n : Nat) (x : Int) (hx : x = n) (hl : a.eval l = .int .i64 x) (hc : a.eval c = .int .i64 x) (hm : n ≤ 4096)
    (h : ∀ w1 : World, Below w.heap.size w w1 → w1.heap[w.heap.size]? = some (.cells (List.replicate n (Value.int .u8 0)).toArray 5 (0, 0)) → w1.heap.size = w.heap.size + 1 →
      wpList Tryd.prog ops Q rest (a.put o.dst (.slice (some ⟨w.heap.size, 0, none⟩) n n)) w1) : wpList Tryd.prog ops Q (o :: rest) a w := by
  subst hx
  obtain ⟨i, hi, hz, hs, hb⟩ := info_parts infoU8
  refine wpList_plain hg fun K hK' => ?_
  have hrun := run_make (P := Tryd.prog) w 22 5 i (.int .u8 0) Tryd.underlying22 hi hz .i64 .i64 n n (by omega) (by omega) (by rw [hb]; omega) (by omega)
  unfold Oper.wp
  simp only [Int.toNat_natCast, hs, madeU8] at hrun
  generalize (List.replicate n (Value.int .u8 0)).toArray = Z at *
  simp [execOp, hop, hl, hc, hrun, Result.andThen]
  exact hK' _ _ (h _ ((Below.refl _ _).alloc (Nat.le_refl _) _) (block_new _ _) (by simp))
theorem filled_set (x y : Value) (n k : Nat) (h : k < n) : (filled x y n k).set k x = filled x y n (k + 1) := by
  unfold filled
  rw [List.set_append_right _ _ (by simp)]
  have e : n - k = (n - (k + 1)) + 1 := by omega
  rw [e, List.replicate_succ]
  simp [List.replicate_succ', List.append_assoc]
end Go.Proofs.YtabpfneihihmaaaDoor
