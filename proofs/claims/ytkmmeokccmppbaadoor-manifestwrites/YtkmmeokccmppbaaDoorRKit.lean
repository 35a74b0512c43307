/- What the walk of the reference's Sum stands on: what lies between two of its steps; make and append of words. -/
import Derived.Test.YtkmmeokccmppbaaDoorPlainRef
import Derived.Test.YtkmmeokccmppbaaDoorRSmall
import Derived.Test.YtkmmeokccmppbaaDoorPieces
import Derived.Deep.RegionHeld3
namespace Go.Proofs.YtkmmeokccmppbaaDoor
open Go.RowKit
/-- What lies between two steps: the answer's block, the eight words, the constants, the bytes joined so far, what was there. -/
structure Rst (w wr : World) (m : Value) (M : List UInt8) (L : List UInt32) : Prop where
  res : wr.heap[w.heap.size]? = some (.cells ((List.replicate 32 (0 : UInt8)).map B).toArray 26 (0, 0))
  hh : wr.heap[w.heap.size + 1]? = some (.cells (L.map W).toArray 42 (0, 0))
  kk : wr.heap[w.heap.size + 1 + 1]? = some (.cells (kwords.map W).toArray 42 (0, 0))
  own : wr.ownsRow (w.heap.size + 1 + 1 + 1) 5 1 m M.length (M.map B)
  below : Below w.heap.size w wr
set_option maxRecDepth 100000 in
theorem Rst.up {w wr w2 : World} {m : Value} {M : List UInt8} {L : List UInt32} (h : Rst w wr m M L) (hb : Below wr.heap.size wr w2) : Rst w w2 m M L :=
  ⟨below_block hb h.res (lt_of_heap h.res), below_block hb h.hh (lt_of_heap h.hh), below_block hb h.kk (lt_of_heap h.kk), h.own.kept (grown_of_below hb none) (by cases m.ownBlock <;> simp), h.below.trans (hb.mono h.below.size)⟩
set_option maxRecDepth 100000 in
theorem Rst.appended {w wr w2 : World} {m m' : Value} {M M' : List UInt8} {L : List UInt32} (h : Rst w wr m M L) (ho : w2.ownsRow (w.heap.size + 1 + 1 + 1) 5 1 m' M'.length (M'.map B)) (hg : wr.grownBy w2 m.ownBlock) : Rst w w2 m' M' L := by
  have hne : ∀ b, b < w.heap.size + 1 + 1 + 1 → m.ownBlock ≠ some b := fun b hb e => by have := (h.own.lt _ e).1; omega
  exact ⟨grown_block hg h.res (hne _ (by omega)), grown_block hg h.hh (hne _ (by omega)), grown_block hg h.kk (hne _ (by omega)), ho,
    h.below.trans ⟨hg.os, hg.tape, hg.output, hg.size, fun k hk => hg.block k (Nat.lt_of_lt_of_le hk h.below.size) (fun e => hne k (by omega) e.symm)⟩⟩
set_option maxRecDepth 100000 in
theorem Rst.bytes {w wr : World} {m : Value} {M : List UInt8} {L : List UInt32} (h : Rst w wr m M L) : Bytes wr m M := by
  rcases h.own.2 with ⟨hv, h0⟩ | ⟨g, cap, cur, hv, _⟩
  · rw [hv]
    have : M = [] := List.eq_nil_of_length_eq_zero h0
    subst this
    exact ⟨none, 0, rfl, by simp, fun j x hj => by simp at hj⟩
  · have := h.own
    rw [hv] at this ⊢
    exact (own_of_row this rfl).bytes
set_option maxRecDepth 100000 in
theorem Rst.shape {w wr : World} {m : Value} {M : List UInt8} {L : List UInt32} (h : Rst w wr m M L) : ∃ a c, m = .slice a M.length c := by
  obtain ⟨a, c, h, _⟩ := h.bytes
  exact ⟨a, c, h⟩
set_option maxRecDepth 100000 in
theorem Rst.base {w wr : World} {m : Value} {M : List UInt8} {L : List UInt32} (h : Rst w wr m M L) : w.heap.size + 1 + 1 + 1 ≤ wr.heap.size := lt_of_heap h.kk
set_option maxRecDepth 100000 in
theorem Rst.set {w wr : World} {m : Value} {M : List UInt8} {L : List UInt32} (h : Rst w wr m M L) (k : Nat) (x : UInt32) : Rst w (wr.setCell ⟨w.heap.size + 1, k, none⟩ (W x)) m M (L.set k x) := by
  refine ⟨?_, ?_, ?_, ownsRow_setCell_below h.own (by simp) _, h.below.setCell (by simp) _⟩
  · rw [block_setCell_other _ _ (by omega)]; exact h.res
  · rw [block_setCell h.hh, set_map]
  · rw [block_setCell_other _ _ (by omega)]; exact h.kk
set_option maxRecDepth 100000 in
theorem Rst.alloc {w wr : World} {m : Value} {M : List UInt8} {L : List UInt32} (h : Rst w wr m M L) (o : Obj) : Rst w (wr.alloc o) m M L := h.up ((Below.refl _ _).alloc (Nat.le_refl _) o)
set_option maxRecDepth 100000 in
theorem rst_start {w w1 : World} {Z H : Array Value} (hZ : Z = ((List.replicate 32 (0 : UInt8)).map B).toArray) (hH : H = (startS.list.map W).toArray)
    (hk : w1.heap[((w.alloc (.cells Z 26)).alloc (.cells H 42)).heap.size]? = some (.cells (kwords.map W).toArray 42 (0, 0)))
    (hb : Below ((w.alloc (.cells Z 26)).alloc (.cells H 42)).heap.size ((w.alloc (.cells Z 26)).alloc (.cells H 42)) w1) : Rst w w1 (.slice none 0 0) [] startS.list ∧ ((w.alloc (.cells Z 26)).alloc (.cells H 42)).heap.size = w.heap.size + 1 + 1 := by
  obtain ⟨n1, n2, n3, n4⟩ := new2 w (.cells Z 26) (.cells H 42)
  rw [n4] at hk hb
  subst hZ hH
  exact ⟨⟨below_block hb n1 (by omega), below_block hb n2 (by omega), hk, World.ownsRow_nil _ _ _ _, n3.trans (hb.mono (by omega))⟩, n4⟩
set_option maxRecDepth 100000 in
theorem pad_rem (n j : Nat) (hj : j ≤ (119 - n % 64) % 64) : (n + 1 + j) % 64 = 56 ↔ j = (119 - n % 64) % 64 := by omega
set_option maxRecDepth 100000 in
theorem infoW : (Tryd.prog.info? 42).map (fun i => (i.zero, i.size, i.bytes)) = some (some (.int .u32 0), 1, 4) := by kernel_rfl
set_option maxRecDepth 100000 in
theorem infoW_parts : ∃ i, Tryd.prog.info? 42 = some i ∧ i.zero = some (.int .u32 0) ∧ i.size = 1 ∧ i.bytes = 4 := by
  obtain ⟨i, hi, h⟩ := Option.map_eq_some_iff.1 infoW
  simp only [Prod.mk.injEq] at h
  exact ⟨i, hi, h.1, h.2.1, h.2.2⟩
set_option maxRecDepth 100000 in
theorem madeW (n : Nat) : madeCells (Value.int .u32 0).cells (n * 1) = ((List.replicate n (0 : UInt32)).map W).toArray := by
  apply Array.ext
  · simp [madeCells]
  · intro i h1 h2
    simp [madeCells, Value.cells, Nat.mod_one]; rfl
set_option maxRecDepth 100000 in
theorem wpList_make_words {w : World} {ops : Array Oper} {rest : List Oper} {o : Oper} {a : Act} {Q : Exit → Act → World → Prop} (hg : o.guard = none) (hop : o.op = Op.makeSlice 43 (.const (.int .i64 64)) (.const (.int .i64 64)))
    (h : ∀ w1 : World, Below w.heap.size w w1 → w1.heap[w.heap.size]? = some (.cells ((List.replicate 64 (0 : UInt32)).map W).toArray 42 (0, 0)) → w1.heap.size = w.heap.size + 1 →
      wpList Tryd.prog ops Q rest (a.put o.dst (.slice (some ⟨w.heap.size, 0, none⟩) 64 64)) w1) : wpList Tryd.prog ops Q (o :: rest) a w := by
  obtain ⟨i, hi, hz, hs, hb⟩ := infoW_parts
  refine wpList_plain hg fun K hK' => ?_
  have hrun := run_make (P := Tryd.prog) w 43 42 i (.int .u32 0) Tryd.underlying43 hi hz .i64 .i64 64 64 (by omega) (by omega) (by rw [hb]; decide) (by omega)
  unfold Oper.wp
  simp only [show (64 : Int).toNat = 64 from rfl, hs, madeW] at hrun
  generalize ((List.replicate 64 (0 : UInt32)).map W).toArray = Z at *
  simp [execOp, hop, Act.eval, hrun, Result.andThen]
  exact hK' _ _ (h _ ((Below.refl _ _).alloc (Nat.le_refl _) _) (block_new _ _) (by simp))
/-- Eight words in a slice. -/
def VAt (wx : World) (v : Value) (s : St) (z : Nat) : Prop := ∃ g c, v = .slice (some ⟨g, 0, none⟩) 8 c ∧ z ≤ g ∧ g < wx.heap.size ∧ wx.rangeAt g 0 (s.list.map W)
set_option maxRecDepth 100000 in
theorem wpList_append_words {w : World} {ops : Array Oper} {rest : List Oper} {o : Oper} {a : Act} {Q : Exit → Act → World → Prop} (hgd : o.guard = none) (s x : Operand)
    (ho : o.op = .call { callee := .builtin .append, args := #[s, x], argTypes := #[43, 43] }) (S : St) (b : Nat) (hs : a.eval s = .slice none 0 0) (hx : a.eval x = .slice (some ⟨b, 0, none⟩) 8 8)
    (hb : w.heap[b]? = some (.cells (S.list.map W).toArray 42 (0, 0)))
    (h : ∀ v' w', VAt w' v' S w.heap.size → Below w.heap.size w w' → wpList Tryd.prog ops Q rest (a.put o.dst v') w') : wpList Tryd.prog ops Q (o :: rest) a w := by
  obtain ⟨i0, hi, hz0, hz1, hz2⟩ := infoW_parts
  refine wpList_append_lies _ hgd s x 43 ho w.heap.size 42 i0 (.int .u32 0) 1 4 Tryd.underlying43 hi hz0 hz1 hz2 rfl (by omega) (.slice none 0 0) 0 [] hs (World.ownsRow_nil _ _ _ _) ⟨b, 0, none⟩ 8 8 (S.list.map W) hx (by simp [St.list]) ?_ (W_one _) (by omega) (by unfold maxLen; omega) (by omega) (Nat.le_refl _) w.heap.size rfl ?_
  · intro j u hu
    rw [Addr.add_mid, Nat.zero_add, cell_of_block hb, List.getElem?_toArray]; exact hu
  · intro g cap w1 hown hgr hat hlt
    rw [List.nil_append, Nat.zero_add] at hown
    rw [Nat.zero_add]
    refine h _ w1 ⟨g, cap, rfl, ?_, hlt, fun j u hu => ?_⟩ ⟨hgr.os, hgr.tape, hgr.output, hgr.size, fun k hk => hgr.block k hk (by simp [Value.ownBlock])⟩
    · rcases hat with hat | hat
      · simp [Value.ownBlock] at hat
      · omega
    · have hj : j < 8 := by have := (List.getElem?_eq_some_iff.1 hu).1; simpa [St.list] using this
      rw [Nat.zero_add, hown.cellAt j (by omega)]; exact hu
set_option maxRecDepth 100000 in
theorem VAt.cells {wx : World} {v : Value} {s : St} {z : Nat} (h : VAt wx v s z) : ∃ g c, v = .slice (some ⟨g, 0, none⟩) 8 c ∧ z ≤ g ∧ g < wx.heap.size ∧ wx.cell? ⟨g, 0, none⟩ = some (W s.a) ∧ wx.cell? ⟨g, 1, none⟩ = some (W s.b) ∧ wx.cell? ⟨g, 2, none⟩ = some (W s.c) ∧ wx.cell? ⟨g, 3, none⟩ = some (W s.d) ∧
    wx.cell? ⟨g, 4, none⟩ = some (W s.e) ∧ wx.cell? ⟨g, 5, none⟩ = some (W s.f) ∧ wx.cell? ⟨g, 6, none⟩ = some (W s.g) ∧ wx.cell? ⟨g, 7, none⟩ = some (W s.h) := by
  obtain ⟨g, c, rfl, hz, hg, hr⟩ := h
  exact ⟨g, c, rfl, hz, hg, hr 0 _ rfl, hr 1 _ rfl, hr 2 _ rfl, hr 3 _ rfl, hr 4 _ rfl, hr 5 _ rfl, hr 6 _ rfl, hr 7 _ rfl⟩
set_option maxRecDepth 100000 in
theorem VAt.below {K : Nat} {wx wy : World} {v : Value} {s : St} {z : Nat} (h : VAt wx v s z) (hb : Below K wx wy) (hK : wx.heap.size ≤ K) : VAt wy v s z := by
  obtain ⟨g, c, rfl, hz, hg, hr⟩ := h
  exact ⟨g, c, rfl, hz, Nat.lt_of_lt_of_le hg hb.size, fun j u hu => (World.cell?_of_block (w := wx) (hb.block g (by omega))).trans (hr j u hu)⟩
set_option maxRecDepth 100000 in
theorem VAt.new {w : World} {s : St} {z : Nat} (hz : z ≤ w.heap.size) : VAt (w.alloc (.cells (s.list.map W).toArray 42 (0, 0))) (.slice (some ⟨w.heap.size, 0, none⟩) 8 8) s z :=
  ⟨_, _, rfl, hz, by simp, fun j u hu => by rw [Nat.zero_add, cell_of_block (block_new _ _), List.getElem?_toArray]; exact hu⟩
set_option maxRecDepth 100000 in
/-- A byte of a slice, with its address. -/
theorem Bytes.byte {w : World} {a : Option Addr} {n c : Nat} {bs : List UInt8} (h : Bytes w (.slice a n c) bs) {k : Nat} (hk : k < bs.length) : ∃ b off, a = some ⟨b, off, none⟩ ∧ w.cell? ⟨b, off + k, none⟩ = some (B (bs.getD k 0)) := by
  obtain ⟨a', cap, hv, _, hx⟩ := h
  simp only [Value.slice.injEq] at hv
  obtain ⟨b, off, hab, hc⟩ := hx k _ (get_some (d := 0) hk)
  exact ⟨b, off, hv.1.trans hab, hc⟩
set_option maxRecDepth 100000 in
theorem VAt.mono {wx : World} {v : Value} {s : St} {z z' : Nat} (h : VAt wx v s z) (hz : z' ≤ z) : VAt wx v s z' := by
  obtain ⟨g, c, rfl, h1, hg, hr⟩ := h
  exact ⟨g, c, rfl, Nat.le_trans hz h1, hg, hr⟩
set_option maxRecDepth 100000 in
theorem word_cell {w : World} {b : Nat} {L : List UInt32} {t : TypeId} {fr : Nat × Nat} (h : w.heap[b]? = some (.cells (L.map W).toArray t fr)) {k : Nat} (hk : k < L.length) : w.cell? ⟨b, k, none⟩ = some (W (L.getD k 0)) := by
  rw [cell_of_block h, List.getElem?_toArray, List.getElem?_map, get_some (d := 0) hk]; rfl
set_option maxRecDepth 100000 in
theorem range_set {w : World} {g b o : Nat} {cs : List Value} {v : Value} (h : w.rangeAt g 0 cs) (hne : g ≠ b) : (w.setCell ⟨b, o, none⟩ v).rangeAt g 0 cs := fun j u hu =>
  (World.cell?_of_block (w := w) (block_setCell_other (w := w) o v hne)).trans (h j u hu)
set_option maxRecDepth 100000 in
theorem mixS_rv (S : St) (blk : List UInt8) : mixS S blk = addS S (rv (wordsTo blk 64) S 64) := by
  unfold mixS; rw [rv_eq _ (length_wordsTo blk 64)]
set_option maxRecDepth 100000 in
theorem Rst.drew {w wr : World} {m : Value} {M : List UInt8} {L : List UInt32} (h : Rst w wr m M L) : Rst w wr.drew m M L := h.up (Below.refl _ _).drew
set_option maxRecDepth 100000 in
theorem cell_set_off (w : World) (b o o' : Nat) (v : Value) (h : o' ≠ o) : (w.setCell ⟨b, o, none⟩ v).cell? ⟨b, o', none⟩ = w.cell? ⟨b, o', none⟩ :=
  World.cell?_setCell_other w _ _ v (fun e => h (by simp only [Addr.mk.injEq] at e; exact e.2.1.symm))
set_option maxRecDepth 100000 in
theorem VAt.drew {wx : World} {v : Value} {s : St} {z : Nat} (h : VAt wx v s z) : VAt wx.drew v s z := h
set_option maxRecDepth 100000 in
theorem elem48 : Tryd.prog.underlying 43 = some (.slice (Tryd.prog.elem 43)) := by kernel_rfl
set_option maxRecDepth 100000 in
theorem elemIs48 : Tryd.prog.elem 43 = 42 := by kernel_rfl
set_option maxRecDepth 100000 in
theorem run_idx48 (b : Nat) (i : Int) (k : Nat) (hk : i.toNat = k) (h0 : 0 ≤ i) (h1 : i < 64) (W : World) : (Instr.indexAt 43 (.slice (some ⟨b, 0, none⟩) 64 64) (.int .i64 i)).run Tryd.prog W = .ok (.pointer (some ⟨b, k, none⟩)) W := by
  obtain ⟨i0, hi, _, hs, _⟩ := infoW_parts
  rw [run_indexAt_slice (P := Tryd.prog) (w := W) (h := elem48), if_pos ⟨h0, by omega⟩, elemIs48]
  simp [sizeOf, typeInfo, hi, hs, hk, Addr.add_mid]
set_option maxRecDepth 100000 in
theorem exec_idx {a : Act} {o : Oper} {x y : Operand} (ho : o.op = .indexAddr 43 x y) (b : Nat) (hx : a.eval x = .slice (some ⟨b, 0, none⟩) 64 64) (i : Int) (hy : a.eval y = .int .i64 i) (k : Nat) (hk : i.toNat = k) (h0 : 0 ≤ i) (h1 : i < 64) (W : World) :
    (execOp a.eval o).run Tryd.prog W = .ok (.value (.pointer (some ⟨b, k, none⟩))) W := by
  unfold execOp
  simp only [ho, hx, hy, run_idx48 b i k hk h0 h1, Sem.run_bind, Sem.run_pure, Result.andThen_ok]
set_option maxRecDepth 100000 in
theorem Rst.setOther {w wr : World} {m : Value} {M : List UInt8} {L : List UInt32} (h : Rst w wr m M L) (b o : Nat) (v : Value) (hb : w.heap.size + 1 + 1 + 1 ≤ b) (hne : ∀ k, m.ownBlock = some k → k ≠ b) : Rst w (wr.setCell ⟨b, o, none⟩ v) m M L := by
  refine ⟨?_, ?_, ?_, h.own.kept (grown_setCell (grown_refl wr (some b)) o v) ?_, h.below.setCell (by simp; omega) _⟩
  · rw [block_setCell_other _ _ (by omega)]; exact h.res
  · rw [block_setCell_other _ _ (by omega)]; exact h.hh
  · rw [block_setCell_other _ _ (by omega)]; exact h.kk
  · exact .inr (fun e => hne b e rfl)
set_option maxRecDepth 100000 in
/-- A callee that draws, behind draws. -/
theorem quiet_add {P : Program} {f : FuncId} {args : Array Value} {w : World} {k n : Nat} {v : Value} (h : Calls P f args (w.drewN (k + n)) fun e w' => e = .returned v ∧ ∃ m, w' = (w.drewN (k + n)).drewN m) :
    Calls P f args (w.drewN (k + n)) fun e w'' => e = .returned v ∧ ∃ m, w'' = w.drewN (k + m) :=
  h.mono fun _ _ ⟨he, m, hm⟩ => ⟨he, n + m, by rw [hm, World.drewN_drewN, Nat.add_assoc]⟩
end Go.Proofs.YtkmmeokccmppbaaDoor
