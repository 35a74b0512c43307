/- Small laws on whole blocks of memory, over any program: a variable that fills its block is loaded and stored whole; what a store of one cell makes of its block; a result that lies in memory. Nothing here is assumed. -/
import Derived.WalkKit
import Derived.ProofKit
import Derived.Handy
import Derived.WalkSmall
import Derived.Deep.MidRow
import Derived.ScopeJumps
import Derived.StillTailTactics
import Derived.WalkMore
namespace Go.Proofs.Ytdfnhgkabaikaaa
open Go.RowKit
section
variable {P : Program}
theorem cell_of_block {w : World} {b : Nat} {C : Array Value} {t : TypeId} {fr : Nat × Nat} (h : w.heap[b]? = some (.cells C t fr)) (o : Nat) : w.cell? ⟨b, o, none⟩ = C[o]? := by
  simp [World.cell?, h]
theorem frozen_of_block {w : World} {b : Nat} {C : Array Value} {t : TypeId} (h : w.heap[b]? = some (.cells C t (0, 0))) (o : Nat) : w.frozen? ⟨b, o, none⟩ = false := by
  simp [World.frozen?, h]
theorem lt_of_heap {w : World} {b : Nat} {o : Obj} (h : w.heap[b]? = some o) : b < w.heap.size := (Array.getElem?_eq_some_iff.1 h).1
theorem block_setCell {w : World} {b : Nat} {C : Array Value} {t : TypeId} {fr : Nat × Nat} (h : w.heap[b]? = some (.cells C t fr)) (o : Nat) (v : Value) :
    (w.setCell ⟨b, o, none⟩ v).heap[b]? = some (.cells (C.setIfInBounds o v) t fr) := by
  have hlt := lt_of_heap h
  have hv : w.heap[b] = .cells C t fr := (Array.getElem?_eq_some_iff.1 h).2
  simp [World.setCell, Array.getElem?_modify, h]
theorem block_setCell_other {w : World} {b k : Nat} (o : Nat) (v : Value) (h : k ≠ b) : (w.setCell ⟨b, o, none⟩ v).heap[k]? = w.heap[k]? :=
  Below.heap_setCell w ⟨b, o, none⟩ v k h
theorem block_alloc {w : World} {b : Nat} {ob : Obj} (h : w.heap[b]? = some ob) (o : Obj) : (w.alloc o).heap[b]? = some ob := by
  rw [Below.heap_alloc _ _ _ (lt_of_heap h)]; exact h
theorem block_new (w : World) (o : Obj) : (w.alloc o).heap[w.heap.size]? = some o := by
  show (w.heap.push o)[w.heap.size]? = _
  simp
theorem new2 (w : World) (o1 o2 : Obj) : ((w.alloc o1).alloc o2).heap[w.heap.size]? = some o1 ∧ ((w.alloc o1).alloc o2).heap[w.heap.size + 1]? = some o2 ∧ Below w.heap.size w ((w.alloc o1).alloc o2) ∧ ((w.alloc o1).alloc o2).heap.size = w.heap.size + 1 + 1 := by
  refine ⟨block_alloc (block_new _ _) _, ?_, ((Below.refl _ _).alloc (Nat.le_refl _) _).alloc (by simp) _, by simp⟩
  have := block_new (w.alloc o1) o2
  simpa using this
theorem new3 (w : World) (o1 o2 o3 : Obj) : (((w.alloc o1).alloc o2).alloc o3).heap[w.heap.size]? = some o1 ∧ (((w.alloc o1).alloc o2).alloc o3).heap[w.heap.size + 1]? = some o2 ∧ (((w.alloc o1).alloc o2).alloc o3).heap[w.heap.size + 1 + 1]? = some o3 ∧
    Below w.heap.size w (((w.alloc o1).alloc o2).alloc o3) ∧ (((w.alloc o1).alloc o2).alloc o3).heap.size = w.heap.size + 1 + 1 + 1 := by
  obtain ⟨h1, h2, h3, h4⟩ := new2 w o1 o2
  refine ⟨block_alloc h1 _, block_alloc h2 _, ?_, h3.alloc (by omega) _, by simp⟩
  have := block_new ((w.alloc o1).alloc o2) o3
  rw [h4] at this; exact this
theorem new4 (w : World) (o1 o2 o3 o4 : Obj) : ((((w.alloc o1).alloc o2).alloc o3).alloc o4).heap[w.heap.size]? = some o1 ∧ ((((w.alloc o1).alloc o2).alloc o3).alloc o4).heap[w.heap.size + 1]? = some o2 ∧ ((((w.alloc o1).alloc o2).alloc o3).alloc o4).heap[w.heap.size + 1 + 1]? = some o3 ∧
    ((((w.alloc o1).alloc o2).alloc o3).alloc o4).heap[w.heap.size + 1 + 1 + 1]? = some o4 ∧ Below w.heap.size w ((((w.alloc o1).alloc o2).alloc o3).alloc o4) ∧ ((((w.alloc o1).alloc o2).alloc o3).alloc o4).heap.size = w.heap.size + 1 + 1 + 1 + 1 := by
  obtain ⟨h1, h2, h3, h4, h5⟩ := new3 w o1 o2 o3
  refine ⟨block_alloc h1 _, block_alloc h2 _, block_alloc h3 _, ?_, h4.alloc (by omega) _, by simp⟩
  have := block_new (((w.alloc o1).alloc o2).alloc o3) o4
  rw [h5] at this; exact this
theorem below_block {K : Nat} {w w' : World} (h : Below K w w') {b : Nat} {ob : Obj} (hb : w.heap[b]? = some ob) (hK : b < K) : w'.heap[b]? = some ob := by
  rw [h.block b hK]; exact hb
theorem range_of_block {w : World} {b : Nat} {C : Array Value} {t : TypeId} {fr : Nat × Nat} (h : w.heap[b]? = some (.cells C t fr)) : w.rangeAt b 0 C.toList := by
  intro j v hv
  rw [cell_of_block h]; simpa using hv
theorem there_of_block {w : World} {b : Nat} {C : Array Value} {t : TypeId} (h : w.heap[b]? = some (.cells C t (0, 0))) (o n : Nat) (hn : o + n ≤ C.size) : w.there b o n := by
  intro j hj
  refine ⟨?_, frozen_of_block h _⟩
  rw [cell_of_block h, Array.getElem?_eq_getElem (by omega)]; rfl
/-- The variable that fills a block, loaded. -/
theorem wpList_load_block {ops : Array Oper} {rest : List Oper} {op : Oper} {a : Act} {w : World} {Q : Exit → Act → World → Prop} (hgd : op.guard = none) (ty : TypeId) (x : Operand) (ho : op.op = .load ty x)
    (b : Nat) (hx : a.eval x = .pointer (some ⟨b, 0, none⟩)) (C : Array Value) (t : TypeId) (fr : Nat × Nat) (hb : w.heap[b]? = some (.cells C t fr)) (d : TypeDesc)
    (hu : P.underlying ty = some d) (hd : d.isRow = true) (hi : (P.info? ty).map (·.size) = some C.size)
    (h : wpList P ops Q rest (a.put op.dst (.agg C)) w) : wpList P ops Q (op :: rest) a w :=
  wpList_load_mid hgd ty x ho b 0 hx C.toList d (range_of_block hb) hu hd (by simpa using hi) (by simpa using h)
theorem run_load_block {w : World} {b : Nat} {C : Array Value} {t ty : TypeId} {fr : Nat × Nat} (hb : w.heap[b]? = some (.cells C t fr)) (d : TypeDesc)
    (hu : P.underlying ty = some d) (hd : d.isRow = true) (hi : (P.info? ty).map (·.size) = some C.size) : (loadVar ty ⟨b, 0, none⟩).run P w = .ok (.agg C) w := by
  have := run_loadVar_mid (P := P) w b 0 ty C.toList d (range_of_block hb) hu hd (by simpa using hi)
  simpa using this
theorem setCells_block (b : Nat) : ∀ (vs : List Value) (o : Nat) (w : World) (C : Array Value) (t : TypeId), w.heap[b]? = some (.cells C t (0, 0)) → o + vs.length ≤ C.size →
    (w.setCells b o vs).heap[b]? = some (.cells (C.toList.take o ++ vs ++ C.toList.drop (o + vs.length)).toArray t (0, 0)) ∧ (∀ k, k ≠ b → (w.setCells b o vs).heap[k]? = w.heap[k]?)
      ∧ (w.setCells b o vs).os = w.os ∧ (w.setCells b o vs).tape = w.tape ∧ (w.setCells b o vs).output = w.output ∧ (w.setCells b o vs).heap.size = w.heap.size
  | [], o, w, C, t, h, _ => by simp [World.setCells, h]
  | v :: vs, o, w, C, t, h, hl => by
    have ih := setCells_block b vs (o + 1) (w.setCell ⟨b, o, none⟩ v) (C.setIfInBounds o v) t (block_setCell h o v) (by simp at hl ⊢; omega)
    obtain ⟨i1, i2, i3, i4, i5, i6⟩ := ih
    have e : (w.setCells b o (v :: vs)) = (w.setCell ⟨b, o, none⟩ v).setCells b (o + 1) vs := rfl
    rw [e]
    refine ⟨?_, fun k hk => (i2 k hk).trans (block_setCell_other o v hk), i3, i4, i5, by rw [i6]; simp [World.setCell]⟩
    rw [i1]
    have := list_seg_step C.toList o v vs (by simp at hl ⊢; omega)
    rw [Array.toList_setIfInBounds, this]; simp
/-- The variable that fills a block, stored whole: the world behind it is a letter. -/
theorem wpList_store_block {ops : Array Oper} {rest : List Oper} {op : Oper} {a : Act} {w : World} {Q : Exit → Act → World → Prop} (hgd : op.guard = none) (ty : TypeId) (x y : Operand) (ho : op.op = .store ty x y)
    (b : Nat) (cs : Array Value) (hx : a.eval x = .pointer (some ⟨b, 0, none⟩)) (hy : a.eval y = .agg cs) (C : Array Value) (t : TypeId) (hb : w.heap[b]? = some (.cells C t (0, 0))) (hs : cs.size = C.size)
    (hi : (P.info? ty).map (·.size) = some cs.size) (h1 : cs.all (·.oneCell') = true)
    (h : ∀ w1 : World, w.grownBy w1 (some b) → w1.heap[b]? = some (.cells cs t (0, 0)) → w1.heap.size = w.heap.size → wpList P ops Q rest (a.put op.dst undef) w1) : wpList P ops Q (op :: rest) a w := by
  obtain ⟨i1, i2, i3, i4, i5, i6⟩ := setCells_block b cs.toList 0 w C t hb (by simp; omega)
  refine wpList_store_mid hgd ty x y ho b 0 cs hx hy (there_of_block hb 0 _ (by omega)) hi h1 (h _ ⟨i3, i4, i5, by omega, fun k _ hk => i2 k (by simpa using hk)⟩ ?_ i6)
  rw [i1]
  rw [List.drop_eq_nil_of_le (by simp; omega)]
  simp
theorem bcell {W w1 : World} (hb : Below W.heap.size W w1) : (∀ b o, b < W.heap.size → w1.cell? ⟨b, o, none⟩ = W.cell? ⟨b, o, none⟩) ∧ (∀ b o, b < W.heap.size → w1.frozen? ⟨b, o, none⟩ = W.frozen? ⟨b, o, none⟩) :=
  ⟨fun b o h => hb.cell (p := ⟨b, o, none⟩) h, fun b o h => hb.frozen (p := ⟨b, o, none⟩) h⟩
theorem grown_block {w w1 : World} {r : Option Nat} (h : w.grownBy w1 r) {b : Nat} {ob : Obj} (hb : w.heap[b]? = some ob) (hr : r ≠ some b) : w1.heap[b]? = some ob := by
  rw [h.block b (lt_of_heap hb) (fun e => hr e.symm)]; exact hb
theorem grown_refl (w : World) (r : Option Nat) : w.grownBy w r := ⟨rfl, rfl, rfl, Nat.le_refl _, fun _ _ _ => rfl⟩
theorem grown_trans {a b c : World} {r : Option Nat} (h : a.grownBy b r) (k : b.grownBy c r) : a.grownBy c r :=
  ⟨k.os.trans h.os, k.tape.trans h.tape, k.output.trans h.output, Nat.le_trans h.size k.size, fun i hi hr => (k.block i (Nat.lt_of_lt_of_le hi h.size) hr).trans (h.block i hi hr)⟩
theorem grown_of_below {w w' : World} (h : Below w.heap.size w w') (r : Option Nat) : w.grownBy w' r := ⟨h.os, h.tape, h.output, h.size, fun k hk _ => h.block k hk⟩
theorem grown_drew {w w' : World} {r : Option Nat} (h : w.grownBy w' r) : w.grownBy w'.drew r := ⟨h.os, h.tape, h.output, h.size, h.block⟩
theorem grown_drewN {w w' : World} {r : Option Nat} (h : w.grownBy w' r) (n : Nat) : w.grownBy (w'.drewN n) r := ⟨h.os, h.tape, h.output, h.size, h.block⟩
theorem grown_alloc {w w' : World} {r : Option Nat} (h : w.grownBy w' r) (o : Obj) : w.grownBy (w'.alloc o) r :=
  grown_trans h ⟨rfl, rfl, rfl, by simp, fun k hk _ => Below.heap_alloc _ _ _ hk⟩
theorem grown_setCell {w w' : World} {b : Nat} (h : w.grownBy w' (some b)) (o : Nat) (v : Value) : w.grownBy (w'.setCell ⟨b, o, none⟩ v) (some b) :=
  grown_trans h ⟨rfl, rfl, rfl, by simp [World.setCell], fun k _ hr => block_setCell_other o v (fun e => hr (by rw [e]))⟩
/-- A new variable's writes are no writes below it. -/
theorem below_of_grown {w w' : World} {b K : Nat} (h : w.grownBy w' (some b)) (hb : K ≤ b) (hK : K ≤ w.heap.size) : Below K w w' :=
  ⟨h.os, h.tape, h.output, h.size, fun k hk => h.block k (by omega) (by simp; omega)⟩
/-- An array value's element that is one cell. -/
theorem run_index_one {w : World} {ty e : TypeId} {len : Nat} {cs : Array Value} {i : Nat} {kd : IntKind} {v : Value} (hu : P.underlying ty = some (.array len e)) (hs : (P.info? e).map (·.size) = some 1) {ik : IntKind} (hue : P.underlying e = some (.int ik))
    (hi : i < len) (hv : cs[i]? = some v) : (Instr.index ty (.agg cs) (.int kd i)).run P w = .ok v w := by
  cases hq : P.info? e with
  | none => simp [hq] at hs
  | some j =>
    have hj : j.size = 1 := by simpa [hq] using hs
    simp [Instr.index, asIntOf, run_underlying hu, sizeOf, typeInfo, hq, hj, part, isAgg, run_underlying hue, hv]
    intro h; omega
/-- A block's cells; that it is a row of n cells. -/
def blk (w : World) (b : Nat) : Array Value := match w.heap[b]? with | some (.cells C _ _) => C | _ => #[]
def Blk (w : World) (b n : Nat) : Prop := ∃ C t fr, w.heap[b]? = some (.cells C t fr) ∧ C.size = n
theorem Blk.mk {w : World} {b n : Nat} {C : Array Value} {t : TypeId} {fr : Nat × Nat} (h : w.heap[b]? = some (.cells C t fr)) (hn : C.size = n) : Blk w b n := ⟨C, t, fr, h, hn⟩
theorem blk_of {w : World} {b : Nat} {C : Array Value} {t : TypeId} {fr : Nat × Nat} (h : w.heap[b]? = some (.cells C t fr)) : blk w b = C := by simp [blk, h]
theorem blk_drew (w : World) (b : Nat) : blk w.drew b = blk w b := rfl
theorem Blk_drew (w : World) (b n : Nat) : Blk w.drew b n = Blk w b n := rfl
theorem blk_lit (w : World) (d b : Nat) : blk ⟨w.heap, w.tape, d, w.os, w.output⟩ b = blk w b := rfl
theorem Blk_lit (w : World) (d b n : Nat) : Blk ⟨w.heap, w.tape, d, w.os, w.output⟩ b n = Blk w b n := rfl
/-- The load of a variable that fills its block, as a rule for the walk. -/
theorem run_load_blk {w : World} {b n : Nat} {ty : TypeId} {d : TypeDesc} (hu : P.underlying ty = some d) (hd : d.isRow = true) (hi : (P.info? ty).map (·.size) = some n) (h : Blk w b n) :
    (Instr.loadAt ty (.pointer (some ⟨b, 0, none⟩))).run P w = .ok (.agg (blk w b)) w := by
  obtain ⟨C, t, fr, hb, hn⟩ := h
  rw [blk_of hb]
  have := run_loadAt_mid (P := P) w b 0 ty C.toList d (range_of_block hb) hu hd (by rw [hi]; simp [hn])
  simpa using this
/-- In the head of a region that draws: the load of a variable that fills its block. -/
theorem wpStill_load_block {ops : Array Oper} {rest : List Oper} {op : Oper} {a : Act} {w : World} {Q : Act → Prop} (hgd : op.guard = none) (ty : TypeId) (x : Operand) (ho : op.op = .load ty x)
    (b : Nat) (hx : a.eval x = .pointer (some ⟨b, 0, none⟩)) (C : Array Value) (t : TypeId) (fr : Nat × Nat) (hb : w.heap[b]? = some (.cells C t fr)) (d : TypeDesc)
    (hu : P.underlying ty = some d) (hd : d.isRow = true) (hi : (P.info? ty).map (·.size) = some C.size)
    (h : wpStill P ops w Q rest (a.put op.dst (.agg C))) : wpStill P ops w Q (op :: rest) a := by
  refine wpStill_step fun K hK => ?_
  have hw : Region.wanted op (yielded ops a.tmps) = true := by simp [Region.wanted, hgd]
  rw [if_pos hw]
  unfold Oper.still execOp
  have hl := run_load_block (P := P) hb d hu hd hi
  simp only [ho, hx, Instr.loadAt, Instr.sureAddr, Sem.run_bind, Sem.run_pure, Result.andThen_ok, hl, Oper.stillUpon]
  exact ⟨trivial, hK _ h⟩
/-- One result, in memory. -/
theorem results_cell {fn : Func} {p : Tmp} {ty : TypeId} (h : fn.results = #[.cell p ty]) (tmps : Array Value) (w : World) {b : Nat} {C : Array Value} {t : TypeId} {fr : Nat × Nat}
    (hp : tmps.getD p undef = .pointer (some ⟨b, 0, none⟩)) (hb : w.heap[b]? = some (.cells C t fr)) (d : TypeDesc) (hu : P.underlying ty = some d) (hd : d.isRow = true) (hi : (P.info? ty).map (·.size) = some C.size) :
    (results fn tmps).run P w = .ok (.agg C) w := by
  have hp' : tmps[p]?.getD undef = .pointer (some ⟨b, 0, none⟩) := by simpa using hp
  simp only [results, h]
  simp [hp', asAddr, run_load_block hb d hu hd hi]
/-- A scope through which the run goes with one jump ahead at most. -/
theorem wp_scope_once {c rest : Code} {Q : Exit → Act → World → Prop} {a : Act} {w : World} (l : Nat) (hf : findLabel c l = some rest)
    (first : c.wp P (Exit.jump l (fun a' w' => rest.wp P (Exit.noGoto Q) a' w') Q) a w) : (Code.scope c).wp P Q a w :=
  wp_scope_jumps l (fun a' w' => rest.wp P (Exit.noGoto Q) a' w') (fun _ _ => 0) hf first fun a' w' h => by
    refine Code.wp_mono ?_ h
    intro e a1 w1 hq
    cases e <;> first | exact hq | exact (hq : False).elim
end
end Go.Proofs.Ytdfnhgkabaikaaa
