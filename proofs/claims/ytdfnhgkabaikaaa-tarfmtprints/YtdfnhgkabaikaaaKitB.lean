/- Small laws on slices of bytes that fill a block, over any program: made, appended to within their room, appended to from nil, turned into a string. Nothing here is assumed. -/
import Derived.Test.YtdfnhgkabaikaaaKit
import Derived.Test.YtdfnhgkabaikaaaPlain
import Derived.ArgAppend
import Derived.Deep.AppendLies
import Derived.Laws.CopyOwn
namespace Go.Proofs.Ytdfnhgkabaikaaa
open Go.RowKit
section
variable {P : Program}
theorem hid {p : Prop} (h : p) : Hid p := h
theorem get_some {α : Type} {l : List α} {k : Nat} {d : α} (h : k < l.length) : l[k]? = some (l.getD k d) := by
  rw [List.getD_eq_getElem?_getD, List.getElem?_eq_getElem h]; rfl
theorem set_map (l : List UInt32) (k : Nat) (x : UInt32) : ((l.map W).toArray).setIfInBounds k (W x) = ((l.set k x).map W).toArray := by
  simp [List.map_set]
theorem set_mapB (l : List UInt8) (k : Nat) (x : UInt8) : ((l.map B).toArray).setIfInBounds k (B x) = ((l.set k x).map B).toArray := by
  simp [List.map_set]
theorem madeB (n : Nat) : madeCells (Value.int .u8 0).cells (n * 1) = ((List.replicate n (0 : UInt8)).map B).toArray := by
  apply Array.ext
  · simp [madeCells]
  · intro i h1 h2
    simp [madeCells, Value.cells, Nat.mod_one]; rfl
/-- make([]byte, l, c). -/
theorem wpList_make_bytes {w : World} {ops : Array Oper} {rest : List Oper} {o : Oper} {a : Act} {Q : Exit → Act → World → Prop} (hg : o.guard = none) (l c : Operand) (t : TypeId) (hop : o.op = Op.makeSlice t l c)
    (e : TypeId) (h1 : P.underlying t = some (.slice e)) (hi : (P.info? e).map (fun i => (i.zero, i.size, i.bytes)) = some (some (.int .u8 0), 1, 1))
    (L C : Int) (n m : Nat) (hl : a.eval l = .int .i64 L) (hc : a.eval c = .int .i64 C) (hL : L = n) (hC : C = m) (hnm : n ≤ m) (hm : m ≤ 281474976710656)
    (h : ∀ w1 : World, Below w.heap.size w w1 → w1.heap[w.heap.size]? = some (.cells ((List.replicate m (0 : UInt8)).map B).toArray e (0, 0)) → w1.heap.size = w.heap.size + 1 →
      wpList P ops Q rest (a.put o.dst (.slice (some ⟨w.heap.size, 0, none⟩) n m)) w1) : wpList P ops Q (o :: rest) a w := by
  obtain ⟨i, hi, hz, hs, hb⟩ := info_parts hi
  refine wpList_plain hg fun K hK' => ?_
  subst hL hC
  have hrun := run_make (P := P) w t e i (.int .u8 0) h1 hi hz .i64 .i64 n m (by omega) (by omega) (by rw [hb]; omega) (by omega)
  unfold Oper.wp
  simp only [Int.toNat_natCast, hs, madeB] at hrun
  generalize ((List.replicate m (0 : UInt8)).map B).toArray = Z at *
  simp [execOp, hop, hl, hc, hrun, Result.andThen]
  exact hK' _ _ (h _ ((Below.refl _ _).alloc (Nat.le_refl _) _) (block_new _ _) (by simp))
/-- append(s, x...) within s's room, s at the head of a block. -/
theorem wpList_append_room {w : World} {ops : Array Oper} {rest : List Oper} {o : Oper} {a : Act} {Q : Exit → Act → World → Prop} (hg : o.guard = none) (s x : Operand) (t : TypeId)
    (hop : o.op = Op.call { callee := Callee.builtin Builtin.append, args := #[s, x], argTypes := #[t, t] }) (e : TypeId) (h1 : P.underlying t = some (.slice e)) (hi : (P.info? e).map (fun i => (i.zero, i.size, i.bytes)) = some (some (.int .u8 0), 1, 1))
    (g k cap : Nat) (hs : a.eval s = .slice (some ⟨g, 0, none⟩) k cap) (C : Array Value) (tt : TypeId) (hblk : w.heap[g]? = some (.cells C tt (0, 0))) (hC : cap ≤ C.size)
    (ad : Addr) (m c : Nat) (news : List Value) (hx : a.eval x = .slice (some ad) m c) (hn : news.length = m) (hc : ∀ j u, news[j]? = some u → w.cell? (ad.add j) = some u) (h1c : ∀ u ∈ news, u.oneCell' = true) (hroom : k + m ≤ cap)
    (h : ∀ w1 : World, w.grownBy w1 (some g) → w1.heap[g]? = some (.cells (C.toList.take k ++ news ++ C.toList.drop (k + m)).toArray tt (0, 0)) → w1.heap.size = w.heap.size →
      wpList P ops Q rest (a.put o.dst (.slice (some ⟨g, 0, none⟩) (k + m) cap)) w1) : wpList P ops Q (o :: rest) a w := by
  obtain ⟨i, hi, hz, hsz, hb⟩ := info_parts hi
  refine wpList_plain hg fun K hK' => ?_
  have hrun := run_append_room_cells (P := P) w t o.type e i h1 hi g 0 k cap ad m c news (by rw [hsz]; omega) hc h1c hroom
    (fun j hj => by rw [hsz, cell_of_block hblk, Array.getElem?_eq_getElem (by omega)]; rfl) (fun j hj => frozen_of_block hblk _)
  obtain ⟨i1, i2, i3, i4, i5, i6⟩ := setCells_block g news k w C tt hblk (by omega)
  rw [hsz] at hrun
  simp only [Nat.mul_one, Nat.zero_add] at hrun
  unfold Oper.wp
  simp [execOp, hop, resolve, invoke, builtin, hs, hx, hrun, Result.andThen]
  exact hK' _ _ (h _ ⟨i3, i4, i5, by omega, fun q _ hq => i2 q (by simpa using hq)⟩ (by rw [i1, hn]) i6)
end
end Go.Proofs.Ytdfnhgkabaikaaa
