/- Two digests are compared byte by byte; two strings' bytes as lists. -/
import Derived.Test.YtkmmeokccmppbaaDoorPad
import Derived.ChangeKeysEq
namespace Go.Proofs.YtkmmeokccmppbaaDoor
open Go.RowKit
set_option maxRecDepth 100000 in
theorem cells5 : Tryd.prog.cellsOf 5 = 1 := by kernel_rfl
set_option maxRecDepth 100000 in
theorem eqItems_bytes (d : Nat) (xs ys : List UInt8) (hl : xs.length = ys.length) (w : World) : ∀ is : List Nat, (∀ i ∈ is, i < xs.length) →
    (Op.eqItems (d + 1) 5 1 (xs.map B).toArray (ys.map B).toArray is).run Tryd.prog w = .ok (is.all fun i => xs.getD i 0 == ys.getD i 0) w
  | [], _ => by simp [Op.eqItems]
  | i :: is, h => by
    have hi : i < xs.length := h i (by simp)
    have ih := eqItems_bytes d xs ys hl w is (fun j hj => h j (by simp [hj]))
    have ha : (isAgg 5).run Tryd.prog w = .ok false w := by simp [isAgg, run_underlying Tryd.underlying5]
    have p1 : (part 5 (xs.map B).toArray (i * 1)).run Tryd.prog w = .ok (B (xs.getD i 0)) w := by
      have hg : (xs.map B).toArray[i * 1]? = some (B (xs.getD i 0)) := by rw [Nat.mul_one, List.getElem?_toArray, List.getElem?_map, get_some (d := 0) hi]; rfl
      simp only [part, Sem.run_bind, ha, Result.andThen_ok, Bool.false_eq_true, if_false, hg, Sem.run_pure]
    have p2 : (part 5 (ys.map B).toArray (i * 1)).run Tryd.prog w = .ok (B (ys.getD i 0)) w := by
      have hg : (ys.map B).toArray[i * 1]? = some (B (ys.getD i 0)) := by rw [Nat.mul_one, List.getElem?_toArray, List.getElem?_map, get_some (d := 0) (by omega)]; rfl
      simp only [part, Sem.run_bind, ha, Result.andThen_ok, Bool.false_eq_true, if_false, hg, Sem.run_pure]
    have p3 := run_equalIn_int (P := Tryd.prog) w d 5 .u8 .u8 (V (xs.getD i 0)) (V (ys.getD i 0)) Tryd.underlying5
    simp only [Op.eqItems, Sem.run_bind, p1, p2, p3, Result.andThen_ok, List.all_cons]
    have e : (V (xs.getD i 0) == V (ys.getD i 0)) = (xs.getD i 0 == ys.getD i 0) := by
      rw [Bool.eq_iff_iff]; simp only [beq_iff_eq]; exact ⟨V_inj, fun h => by rw [h]⟩
    rw [e]
    cases xs.getD i 0 == ys.getD i 0
    · simp
    · simpa using ih
set_option maxRecDepth 100000 in
theorem range_all (xs ys : List UInt8) (n : Nat) (hx : xs.length = n) (hy : ys.length = n) : ((List.range n).all fun i => xs.getD i 0 == ys.getD i 0) = decide (xs = ys) := by
  rw [Bool.eq_iff_iff]
  simp only [List.all_eq_true, List.mem_range, beq_iff_eq, decide_eq_true_eq]
  constructor
  · intro h
    apply List.ext_getElem (by omega)
    intro i h1 h2
    have := h i (by omega)
    rwa [List.getD_eq_getElem?_getD, List.getD_eq_getElem?_getD, List.getElem?_eq_getElem h1, List.getElem?_eq_getElem h2] at this
  · intro h i _; rw [h]
set_option maxRecDepth 100000 in
theorem run_eq32 (xs ys : List UInt8) (hx : xs.length = 32) (hy : ys.length = 32) (w : World) :
    (Op.equalIn 10000 26 (.agg (xs.map B).toArray) (.agg (ys.map B).toArray)).run Tryd.prog w = .ok (decide (xs = ys)) w := by
  obtain ⟨i, hi⟩ := Option.isSome_iff_exists.1 (show (Tryd.prog.info? 5).isSome = true by kernel_rfl)
  rw [run_equalIn_array w 9999 _ _ Tryd.underlying26 hi, cells5, eqItems_bytes 9998 xs ys (by omega) w _ (fun j hj => by have := List.mem_range.1 hj; omega), range_all xs ys 32 hx hy]
end Go.Proofs.YtkmmeokccmppbaaDoor
