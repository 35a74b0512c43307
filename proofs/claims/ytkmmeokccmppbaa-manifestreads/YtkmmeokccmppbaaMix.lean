/- digest.mixed returns the digest behind one more block, at every digest and block, in every world in which the table of the rounds' words is laid. -/
import Derived.Test.YtkmmeokccmppbaaWords
import Derived.Deep.RegionHeld3
import Derived.StillTailTactics
import Derived.BigRegion
import Derived.Deep.RegionWith
import Derived.Deep.DrawnRows
namespace Go.Proofs.Ytkmmeokccmppbaa
open Go.RowKit
attribute [local go_sem ↓] op_add op_xor op_and op_or op_not op_shl op_shr op_up op_down
attribute [local go_sem] V_mod U_or
attribute [local go_sem ↓] Go.wp_at_zero Go.wp_at_succ
/-- The rounds' words lie in their global. -/
def Kat (w : World) : Prop := ∀ t, t < 64 → w.cell? ⟨2, t, none⟩ = some (W (kwords.getD t 0))
theorem hmix : Try.prog.follows .mixedOrders = true := by kernel_rfl
theorem Kat.lt {w : World} (h : Kat w) : 2 < w.heap.size := by
  have := h 0 (by omega)
  unfold World.cell? at this
  cases hq : w.heap[2]? with
  | none => rw [hq] at this; simp at this
  | some o => exact lt_of_heap hq
theorem Kat.below {K : Nat} {w w' : World} (h : Kat w) (hb : Below K w w') (hK : 2 < K) : Kat w' := fun t ht => (hb.cell (p := ⟨2, t, none⟩) hK).trans (h t ht)
abbrev sc (v : St) : Array Value := #[W v.a, W v.b, W v.c, W v.d, W v.e, W v.f, W v.g, W v.h]
theorem mix_start {w w2 w3 : World} {o1 o2 o3 o4 z : Obj} (hb2 : Below (w.heap.size + 1 + 1 + 1 + 1) ((((w.alloc o1).alloc o2).alloc o3).alloc o4) w2) (hg3 : (w2.alloc z).grownBy w3 (some w2.heap.size)) :
    w3.heap[w.heap.size]? = some o1 ∧ w3.heap[w.heap.size + 1 + 1]? = some o3 ∧ w3.heap[w.heap.size + 1 + 1 + 1]? = some o4 ∧ w.heap.size + 1 + 1 + 1 + 1 ≤ w2.heap.size ∧ Below w.heap.size w w3 := by
  obtain ⟨h1, _, h3, h4, h5, h6⟩ := new4 w o1 o2 o3 o4
  have hz : w.heap.size + 1 + 1 + 1 + 1 ≤ w2.heap.size := by have := hb2.size; omega
  have go : ∀ {b : Nat} {o : Obj}, b < w.heap.size + 1 + 1 + 1 + 1 → ((((w.alloc o1).alloc o2).alloc o3).alloc o4).heap[b]? = some o → w3.heap[b]? = some o := fun hb ho =>
    grown_block hg3 (block_alloc (below_block hb2 ho hb) _) (by simp; omega)
  refine ⟨go (by omega) h1, go (by omega) h3, go (by omega) h4, hz, ?_⟩
  exact (h5.trans ((hb2.mono (by omega)).alloc (by omega) z)).trans (below_of_grown hg3 (by omega) (by simp; omega))
theorem cell_up {wr w1 : World} (hx : ∀ i, i < wr.heap.size → w1.heap[i]? = wr.heap[i]?) {b o : Nat} {x : Value} (h : wr.cell? ⟨b, o, none⟩ = some x) : w1.cell? ⟨b, o, none⟩ = some x := by
  have hlt : b < wr.heap.size := by
    unfold World.cell? at h
    cases hq : wr.heap[b]? with
    | none => rw [hq] at h; simp at h
    | some o => exact lt_of_heap hq
  rw [← h]; exact World.cell?_of_block (w := wr) (hx b hlt)
theorem frozen_up {wr w1 : World} (hx : ∀ i, i < wr.heap.size → w1.heap[i]? = wr.heap[i]?) {b : Nat} (hb : b < wr.heap.size) (o : Nat) : w1.frozen? ⟨b, o, none⟩ = wr.frozen? ⟨b, o, none⟩ :=
  World.frozen?_of_block (w := wr) (hx b hb)
theorem list16 (l : List UInt32) (h : l.length = 16) : ∃ a0 a1 a2 a3 a4 a5 a6 a7 a8 a9 a10 a11 a12 a13 a14 a15, l = [a0, a1, a2, a3, a4, a5, a6, a7, a8, a9, a10, a11, a12, a13, a14, a15] := by
  match l, h with
  | [a0, a1, a2, a3, a4, a5, a6, a7, a8, a9, a10, a11, a12, a13, a14, a15], _ => exact ⟨a0, a1, a2, a3, a4, a5, a6, a7, a8, a9, a10, a11, a12, a13, a14, a15, rfl⟩
/-- The sums of the first k numbers, the others as they are. -/
def addL (a b : List UInt32) (k : Nat) : List UInt32 := (a.zipWith (· + ·) b).take k ++ a.drop k
theorem length_addL (a b : List UInt32) (k : Nat) (ha : a.length = 8) (hb : b.length = 8) (hk : k ≤ 8) : (addL a b k).length = 8 := by
  simp [addL, ha, hb]; omega
theorem addL_get (a b : List UInt32) (k : Nat) (ha : a.length = 8) (hb : b.length = 8) (hk : k < 8) : (addL a b k).getD k 0 = a.getD k 0 := by
  simp only [List.getD_eq_getElem?_getD, addL]
  rw [List.getElem?_append_right (by simp [ha, hb]; omega)]
  simp [ha, hb, Nat.min_eq_left (Nat.le_of_lt hk)]
theorem addL_set (a b : List UInt32) (k : Nat) (ha : a.length = 8) (hb : b.length = 8) (hk : k < 8) : (addL a b k).set k (a.getD k 0 + b.getD k 0) = addL a b (k + 1) := by
  unfold addL
  rw [List.set_append_right _ _ (by simp [ha, hb]; omega)]
  have h1 : k - ((a.zipWith (· + ·) b).take k).length = 0 := by simp [ha, hb]; omega
  rw [h1, List.drop_eq_getElem_cons (by omega : k < a.length), List.set_cons_zero, List.take_succ_eq_append_getElem (by simp [ha, hb]; omega), List.append_assoc]
  congr 1
  simp [List.getD_eq_getElem?_getD, List.getElem?_eq_getElem (show k < a.length by omega), List.getElem?_eq_getElem (show k < b.length by omega)]
theorem addL_all (s v : St) : addL s.list v.list 8 = (addS s v).list := rfl
end Go.Proofs.Ytkmmeokccmppbaa
