/- Several of my texts in one: Kit, Frame, State, Repeat, Do, Clone, Nil, Made, Has, Disk, Write, New, NewDisk, Waiting, Waiting2, Crash, Read, Deed, Live, Ints, Same, Two, Image, Flush, Flush2, OpsSec. -/
import Derived.WalkKit
import Derived.ProofKit
import Derived.Handy
import Derived.WalkSmall
import Derived.Deep.MidRow
import Derived.ScopeJumps
import Derived.StillTailTactics
import Derived.WalkMore
import Derived.Maps.RangeWalk
import Derived.Lib.SlKeysI
import Derived.Test.YtkkmbgjlmdddoabGreatProg
import Derived.Deep.AppendLies
import Derived.Maps.OwnOps
import Derived.WalkArith
import Derived.Test.YtkkmbgjlmdddoabGreatRows
import Derived.Test.YtkkmbgjlmdddoabGreatShelf
import Derived.Laws.CopyOwn
import Derived.ArgAppend
import Derived.Deep.RegionHeld3
import Derived.Laws.OwnMore
import Derived.Carry
import Derived.Deep.Onto
import Derived.Laws.IdiomStrings
import Derived.Test.YtkkmbgjlmdddoabGreatIter
import Derived.Shelf.AbstractIn
import Derived.Deep.QuietTactic
import Derived.BigQuiet
/- Small laws on whole blocks of memory, over any program: a variable that fills its block is loaded and stored whole; what a store of one cell makes of its block; a result that lies in memory. Nothing here is assumed. -/
namespace Go.Proofs.YtkkmbgjlmdddoabGreat
open Go.RowKit
section
variable {P : Program}
theorem cell_of_block {w : World} {b : Nat} {C : Array Value} {t : TypeId} {fr : Nat × Nat} (h : w.heap[b]? = some (.cells C t fr)) (o : Nat) : w.cell? ⟨b, o, none⟩ = C[o]? := by
  simp [World.cell?, h]
theorem frozen_of_block {w : World} {b : Nat} {C : Array Value} {t : TypeId} (h : w.heap[b]? = some (.cells C t (0, 0))) (o : Nat) : w.frozen? ⟨b, o, none⟩ = false := by
  simp [World.frozen?, h]
theorem lt_of_heap {w : World} {b : Nat} {o : Obj} (h : w.heap[b]? = some o) : b < w.heap.size := (Array.getElem?_eq_some_iff.1 h).1
theorem block_setCell {w : World} {b : Nat} {C : Array Value} {t : TypeId} {fr : Nat × Nat} (h : w.heap[b]? = some (.cells C t fr)) (o : Nat) (v : Value) :
    (w.setCell ⟨b, o, none⟩ v).heap[b]? = some (.cells (C.setIfInBounds o v) t fr) := by
  have hlt := lt_of_heap h
  have hv : w.heap[b] = .cells C t fr := (Array.getElem?_eq_some_iff.1 h).2
  simp [World.setCell, Array.getElem?_modify, h]
theorem block_setCell_other {w : World} {b k : Nat} (o : Nat) (v : Value) (h : k ≠ b) : (w.setCell ⟨b, o, none⟩ v).heap[k]? = w.heap[k]? :=
  Below.heap_setCell w ⟨b, o, none⟩ v k h
theorem block_alloc {w : World} {b : Nat} {ob : Obj} (h : w.heap[b]? = some ob) (o : Obj) : (w.alloc o).heap[b]? = some ob := by
  rw [Below.heap_alloc _ _ _ (lt_of_heap h)]; exact h
theorem block_new (w : World) (o : Obj) : (w.alloc o).heap[w.heap.size]? = some o := by
  show (w.heap.push o)[w.heap.size]? = _
  simp
theorem new2 (w : World) (o1 o2 : Obj) : ((w.alloc o1).alloc o2).heap[w.heap.size]? = some o1 ∧ ((w.alloc o1).alloc o2).heap[w.heap.size + 1]? = some o2 ∧ Below w.heap.size w ((w.alloc o1).alloc o2) ∧ ((w.alloc o1).alloc o2).heap.size = w.heap.size + 1 + 1 := by
  refine ⟨block_alloc (block_new _ _) _, ?_, ((Below.refl _ _).alloc (Nat.le_refl _) _).alloc (by simp) _, by simp⟩
  have := block_new (w.alloc o1) o2
  simpa using this
theorem new3 (w : World) (o1 o2 o3 : Obj) : (((w.alloc o1).alloc o2).alloc o3).heap[w.heap.size]? = some o1 ∧ (((w.alloc o1).alloc o2).alloc o3).heap[w.heap.size + 1]? = some o2 ∧ (((w.alloc o1).alloc o2).alloc o3).heap[w.heap.size + 1 + 1]? = some o3 ∧
    Below w.heap.size w (((w.alloc o1).alloc o2).alloc o3) ∧ (((w.alloc o1).alloc o2).alloc o3).heap.size = w.heap.size + 1 + 1 + 1 := by
  obtain ⟨h1, h2, h3, h4⟩ := new2 w o1 o2
  refine ⟨block_alloc h1 _, block_alloc h2 _, ?_, h3.alloc (by omega) _, by simp⟩
  have := block_new ((w.alloc o1).alloc o2) o3
  rw [h4] at this; exact this
theorem new4 (w : World) (o1 o2 o3 o4 : Obj) : ((((w.alloc o1).alloc o2).alloc o3).alloc o4).heap[w.heap.size]? = some o1 ∧ ((((w.alloc o1).alloc o2).alloc o3).alloc o4).heap[w.heap.size + 1]? = some o2 ∧ ((((w.alloc o1).alloc o2).alloc o3).alloc o4).heap[w.heap.size + 1 + 1]? = some o3 ∧
    ((((w.alloc o1).alloc o2).alloc o3).alloc o4).heap[w.heap.size + 1 + 1 + 1]? = some o4 ∧ Below w.heap.size w ((((w.alloc o1).alloc o2).alloc o3).alloc o4) ∧ ((((w.alloc o1).alloc o2).alloc o3).alloc o4).heap.size = w.heap.size + 1 + 1 + 1 + 1 := by
  obtain ⟨h1, h2, h3, h4, h5⟩ := new3 w o1 o2 o3
  refine ⟨block_alloc h1 _, block_alloc h2 _, block_alloc h3 _, ?_, h4.alloc (by omega) _, by simp⟩
  have := block_new (((w.alloc o1).alloc o2).alloc o3) o4
  rw [h5] at this; exact this
theorem below_block {K : Nat} {w w' : World} (h : Below K w w') {b : Nat} {ob : Obj} (hb : w.heap[b]? = some ob) (hK : b < K) : w'.heap[b]? = some ob := by
  rw [h.block b hK]; exact hb
theorem range_of_block {w : World} {b : Nat} {C : Array Value} {t : TypeId} {fr : Nat × Nat} (h : w.heap[b]? = some (.cells C t fr)) : w.rangeAt b 0 C.toList := by
  intro j v hv
  rw [cell_of_block h]; simpa using hv
theorem there_of_block {w : World} {b : Nat} {C : Array Value} {t : TypeId} (h : w.heap[b]? = some (.cells C t (0, 0))) (o n : Nat) (hn : o + n ≤ C.size) : w.there b o n := by
  intro j hj
  refine ⟨?_, frozen_of_block h _⟩
  rw [cell_of_block h, Array.getElem?_eq_getElem (by omega)]; rfl
/-- The variable that fills a block, loaded. -/
theorem wpList_load_block {ops : Array Oper} {rest : List Oper} {op : Oper} {a : Act} {w : World} {Q : Exit → Act → World → Prop} (hgd : op.guard = none) (ty : TypeId) (x : Operand) (ho : op.op = .load ty x)
    (b : Nat) (hx : a.eval x = .pointer (some ⟨b, 0, none⟩)) (C : Array Value) (t : TypeId) (fr : Nat × Nat) (hb : w.heap[b]? = some (.cells C t fr)) (d : TypeDesc)
    (hu : P.underlying ty = some d) (hd : d.isRow = true) (hi : (P.info? ty).map (·.size) = some C.size)
    (h : wpList P ops Q rest (a.put op.dst (.agg C)) w) : wpList P ops Q (op :: rest) a w :=
  wpList_load_mid hgd ty x ho b 0 hx C.toList d (range_of_block hb) hu hd (by simpa using hi) (by simpa using h)
theorem run_load_block {w : World} {b : Nat} {C : Array Value} {t ty : TypeId} {fr : Nat × Nat} (hb : w.heap[b]? = some (.cells C t fr)) (d : TypeDesc)
    (hu : P.underlying ty = some d) (hd : d.isRow = true) (hi : (P.info? ty).map (·.size) = some C.size) : (loadVar ty ⟨b, 0, none⟩).run P w = .ok (.agg C) w := by
  have := run_loadVar_mid (P := P) w b 0 ty C.toList d (range_of_block hb) hu hd (by simpa using hi)
  simpa using this
theorem setCells_block (b : Nat) : ∀ (vs : List Value) (o : Nat) (w : World) (C : Array Value) (t : TypeId), w.heap[b]? = some (.cells C t (0, 0)) → o + vs.length ≤ C.size →
    (w.setCells b o vs).heap[b]? = some (.cells (C.toList.take o ++ vs ++ C.toList.drop (o + vs.length)).toArray t (0, 0)) ∧ (∀ k, k ≠ b → (w.setCells b o vs).heap[k]? = w.heap[k]?)
      ∧ (w.setCells b o vs).os = w.os ∧ (w.setCells b o vs).tape = w.tape ∧ (w.setCells b o vs).output = w.output ∧ (w.setCells b o vs).heap.size = w.heap.size
  | [], o, w, C, t, h, _ => by simp [World.setCells, h]
  | v :: vs, o, w, C, t, h, hl => by
    have ih := setCells_block b vs (o + 1) (w.setCell ⟨b, o, none⟩ v) (C.setIfInBounds o v) t (block_setCell h o v) (by simp at hl ⊢; omega)
    obtain ⟨i1, i2, i3, i4, i5, i6⟩ := ih
    have e : (w.setCells b o (v :: vs)) = (w.setCell ⟨b, o, none⟩ v).setCells b (o + 1) vs := rfl
    rw [e]
    refine ⟨?_, fun k hk => (i2 k hk).trans (block_setCell_other o v hk), i3, i4, i5, by rw [i6]; simp [World.setCell]⟩
    rw [i1]
    have := list_seg_step C.toList o v vs (by simp at hl ⊢; omega)
    rw [Array.toList_setIfInBounds, this]; simp
/-- The variable that fills a block, stored whole: the world behind it is a letter. -/
theorem wpList_store_block {ops : Array Oper} {rest : List Oper} {op : Oper} {a : Act} {w : World} {Q : Exit → Act → World → Prop} (hgd : op.guard = none) (ty : TypeId) (x y : Operand) (ho : op.op = .store ty x y)
    (b : Nat) (cs : Array Value) (hx : a.eval x = .pointer (some ⟨b, 0, none⟩)) (hy : a.eval y = .agg cs) (C : Array Value) (t : TypeId) (hb : w.heap[b]? = some (.cells C t (0, 0))) (hs : cs.size = C.size)
    (hi : (P.info? ty).map (·.size) = some cs.size) (h1 : cs.all (·.oneCell') = true)
    (h : ∀ w1 : World, w.grownBy w1 (some b) → w1.heap[b]? = some (.cells cs t (0, 0)) → w1.heap.size = w.heap.size → wpList P ops Q rest (a.put op.dst undef) w1) : wpList P ops Q (op :: rest) a w := by
  obtain ⟨i1, i2, i3, i4, i5, i6⟩ := setCells_block b cs.toList 0 w C t hb (by simp; omega)
  refine wpList_store_mid hgd ty x y ho b 0 cs hx hy (there_of_block hb 0 _ (by omega)) hi h1 (h _ ⟨i3, i4, i5, by omega, fun k _ hk => i2 k (by simpa using hk)⟩ ?_ i6)
  rw [i1]
  rw [List.drop_eq_nil_of_le (by simp; omega)]
  simp
theorem bcell {W w1 : World} (hb : Below W.heap.size W w1) : (∀ b o, b < W.heap.size → w1.cell? ⟨b, o, none⟩ = W.cell? ⟨b, o, none⟩) ∧ (∀ b o, b < W.heap.size → w1.frozen? ⟨b, o, none⟩ = W.frozen? ⟨b, o, none⟩) :=
  ⟨fun b o h => hb.cell (p := ⟨b, o, none⟩) h, fun b o h => hb.frozen (p := ⟨b, o, none⟩) h⟩
theorem grown_block {w w1 : World} {r : Option Nat} (h : w.grownBy w1 r) {b : Nat} {ob : Obj} (hb : w.heap[b]? = some ob) (hr : r ≠ some b) : w1.heap[b]? = some ob := by
  rw [h.block b (lt_of_heap hb) (fun e => hr e.symm)]; exact hb
theorem grown_refl (w : World) (r : Option Nat) : w.grownBy w r := ⟨rfl, rfl, rfl, Nat.le_refl _, fun _ _ _ => rfl⟩
theorem grown_trans {a b c : World} {r : Option Nat} (h : a.grownBy b r) (k : b.grownBy c r) : a.grownBy c r :=
  ⟨k.os.trans h.os, k.tape.trans h.tape, k.output.trans h.output, Nat.le_trans h.size k.size, fun i hi hr => (k.block i (Nat.lt_of_lt_of_le hi h.size) hr).trans (h.block i hi hr)⟩
theorem grown_of_below {w w' : World} (h : Below w.heap.size w w') (r : Option Nat) : w.grownBy w' r := ⟨h.os, h.tape, h.output, h.size, fun k hk _ => h.block k hk⟩
theorem grown_drew {w w' : World} {r : Option Nat} (h : w.grownBy w' r) : w.grownBy w'.drew r := ⟨h.os, h.tape, h.output, h.size, h.block⟩
theorem grown_drewN {w w' : World} {r : Option Nat} (h : w.grownBy w' r) (n : Nat) : w.grownBy (w'.drewN n) r := ⟨h.os, h.tape, h.output, h.size, h.block⟩
theorem grown_alloc {w w' : World} {r : Option Nat} (h : w.grownBy w' r) (o : Obj) : w.grownBy (w'.alloc o) r :=
  grown_trans h ⟨rfl, rfl, rfl, by simp, fun k hk _ => Below.heap_alloc _ _ _ hk⟩
theorem grown_setCell {w w' : World} {b : Nat} (h : w.grownBy w' (some b)) (o : Nat) (v : Value) : w.grownBy (w'.setCell ⟨b, o, none⟩ v) (some b) :=
  grown_trans h ⟨rfl, rfl, rfl, by simp [World.setCell], fun k _ hr => block_setCell_other o v (fun e => hr (by rw [e]))⟩
/-- A new variable's writes are no writes below it. -/
theorem below_of_grown {w w' : World} {b K : Nat} (h : w.grownBy w' (some b)) (hb : K ≤ b) (hK : K ≤ w.heap.size) : Below K w w' :=
  ⟨h.os, h.tape, h.output, h.size, fun k hk => h.block k (by omega) (by simp; omega)⟩
/-- An array value's element that is one cell. -/
theorem run_index_one {w : World} {ty e : TypeId} {len : Nat} {cs : Array Value} {i : Nat} {kd : IntKind} {v : Value} (hu : P.underlying ty = some (.array len e)) (hs : (P.info? e).map (·.size) = some 1) {ik : IntKind} (hue : P.underlying e = some (.int ik))
    (hi : i < len) (hv : cs[i]? = some v) : (Instr.index ty (.agg cs) (.int kd i)).run P w = .ok v w := by
  cases hq : P.info? e with
  | none => simp [hq] at hs
  | some j =>
    have hj : j.size = 1 := by simpa [hq] using hs
    simp [Instr.index, asIntOf, run_underlying hu, sizeOf, typeInfo, hq, hj, part, isAgg, run_underlying hue, hv]
    intro h; omega
/-- A block's cells; that it is a row of n cells. -/
def blk (w : World) (b : Nat) : Array Value := match w.heap[b]? with | some (.cells C _ _) => C | _ => #[]
def Blk (w : World) (b n : Nat) : Prop := ∃ C t fr, w.heap[b]? = some (.cells C t fr) ∧ C.size = n
theorem Blk.mk {w : World} {b n : Nat} {C : Array Value} {t : TypeId} {fr : Nat × Nat} (h : w.heap[b]? = some (.cells C t fr)) (hn : C.size = n) : Blk w b n := ⟨C, t, fr, h, hn⟩
theorem blk_of {w : World} {b : Nat} {C : Array Value} {t : TypeId} {fr : Nat × Nat} (h : w.heap[b]? = some (.cells C t fr)) : blk w b = C := by simp [blk, h]
theorem blk_drew (w : World) (b : Nat) : blk w.drew b = blk w b := rfl
theorem Blk_drew (w : World) (b n : Nat) : Blk w.drew b n = Blk w b n := rfl
theorem blk_lit (w : World) (d b : Nat) : blk ⟨w.heap, w.tape, d, w.os, w.output⟩ b = blk w b := rfl
theorem Blk_lit (w : World) (d b n : Nat) : Blk ⟨w.heap, w.tape, d, w.os, w.output⟩ b n = Blk w b n := rfl
/-- The load of a variable that fills its block, as a rule for the walk. -/
theorem run_load_blk {w : World} {b n : Nat} {ty : TypeId} {d : TypeDesc} (hu : P.underlying ty = some d) (hd : d.isRow = true) (hi : (P.info? ty).map (·.size) = some n) (h : Blk w b n) :
    (Instr.loadAt ty (.pointer (some ⟨b, 0, none⟩))).run P w = .ok (.agg (blk w b)) w := by
  obtain ⟨C, t, fr, hb, hn⟩ := h
  rw [blk_of hb]
  have := run_loadAt_mid (P := P) w b 0 ty C.toList d (range_of_block hb) hu hd (by rw [hi]; simp [hn])
  simpa using this
/-- In the head of a region that draws: the load of a variable that fills its block. -/
theorem wpStill_load_block {ops : Array Oper} {rest : List Oper} {op : Oper} {a : Act} {w : World} {Q : Act → Prop} (hgd : op.guard = none) (ty : TypeId) (x : Operand) (ho : op.op = .load ty x)
    (b : Nat) (hx : a.eval x = .pointer (some ⟨b, 0, none⟩)) (C : Array Value) (t : TypeId) (fr : Nat × Nat) (hb : w.heap[b]? = some (.cells C t fr)) (d : TypeDesc)
    (hu : P.underlying ty = some d) (hd : d.isRow = true) (hi : (P.info? ty).map (·.size) = some C.size)
    (h : wpStill P ops w Q rest (a.put op.dst (.agg C))) : wpStill P ops w Q (op :: rest) a := by
  refine wpStill_step fun K hK => ?_
  have hw : Region.wanted op (yielded ops a.tmps) = true := by simp [Region.wanted, hgd]
  rw [if_pos hw]
  unfold Oper.still execOp
  have hl := run_load_block (P := P) hb d hu hd hi
  simp only [ho, hx, Instr.loadAt, Instr.sureAddr, Sem.run_bind, Sem.run_pure, Result.andThen_ok, hl, Oper.stillUpon]
  exact ⟨trivial, hK _ h⟩
/-- One result, in memory. -/
theorem results_cell {fn : Func} {p : Tmp} {ty : TypeId} (h : fn.results = #[.cell p ty]) (tmps : Array Value) (w : World) {b : Nat} {C : Array Value} {t : TypeId} {fr : Nat × Nat}
    (hp : tmps.getD p undef = .pointer (some ⟨b, 0, none⟩)) (hb : w.heap[b]? = some (.cells C t fr)) (d : TypeDesc) (hu : P.underlying ty = some d) (hd : d.isRow = true) (hi : (P.info? ty).map (·.size) = some C.size) :
    (results fn tmps).run P w = .ok (.agg C) w := by
  have hp' : tmps[p]?.getD undef = .pointer (some ⟨b, 0, none⟩) := by simpa using hp
  simp only [results, h]
  simp [hp', asAddr, run_load_block hb d hu hd hi]
/-- A scope through which the run goes with one jump ahead at most. -/
theorem wp_scope_once {c rest : Code} {Q : Exit → Act → World → Prop} {a : Act} {w : World} (l : Nat) (hf : findLabel c l = some rest)
    (first : c.wp P (Exit.jump l (fun a' w' => rest.wp P (Exit.noGoto Q) a' w') Q) a w) : (Code.scope c).wp P Q a w :=
  wp_scope_jumps l (fun a' w' => rest.wp P (Exit.noGoto Q) a' w') (fun _ _ => 0) hf first fun a' w' h => by
    refine Code.wp_mono ?_ h
    intro e a1 w1 hq
    cases e <;> first | exact hq | exact (hq : False).elim
end
end Go.Proofs.YtkkmbgjlmdddoabGreat
/- Frames: what becomes of memory where only the blocks of a set may be written, and new ones made; a map's reading whose elements stand for themselves. Nothing here is assumed. -/
namespace Go.Proofs.YtkkmbgjlmdddoabGreat
open Go.RowKit Go.Maps
/-- Only blocks of F have been written, and new ones made. -/
structure Keeps (F : Nat → Prop) (w w' : World) : Prop where
  os : w'.os = w.os
  tape : w'.tape = w.tape
  output : w'.output = w.output
  size : w.heap.size ≤ w'.heap.size
  block : ∀ k, k < w.heap.size → ¬ F k → w'.heap[k]? = w.heap[k]?
theorem Keeps.refl (F : Nat → Prop) (w : World) : Keeps F w w := ⟨rfl, rfl, rfl, Nat.le_refl _, fun _ _ _ => rfl⟩
theorem Keeps.trans {F G : Nat → Prop} {a b c : World} (h : Keeps F a b) (k : Keeps G b c) (hG : ∀ i, G i → F i ∨ a.heap.size ≤ i) : Keeps F a c :=
  ⟨k.os.trans h.os, k.tape.trans h.tape, k.output.trans h.output, Nat.le_trans h.size k.size, fun i hi hF =>
    (k.block i (Nat.lt_of_lt_of_le hi h.size) (fun hg => by rcases hG i hg with h1 | h1; exact hF h1; omega)).trans (h.block i hi hF)⟩
theorem Keeps.mono {F G : Nat → Prop} {a b : World} (h : Keeps F a b) (hG : ∀ i, F i → G i) : Keeps G a b := ⟨h.os, h.tape, h.output, h.size, fun i hi hn => h.block i hi (fun hf => hn (hG i hf))⟩
theorem Keeps.drew {F : Nat → Prop} {a b : World} (h : Keeps F a b) : Keeps F a b.drew := ⟨h.os, h.tape, h.output, h.size, h.block⟩
theorem Keeps.drewN {F : Nat → Prop} {a b : World} (h : Keeps F a b) (n : Nat) : Keeps F a (b.drewN n) := ⟨h.os, h.tape, h.output, h.size, h.block⟩
theorem Keeps.of_grown {F : Nat → Prop} {a b : World} {r : Option Nat} (h : a.grownBy b r) (hr : ∀ i, r = some i → F i) : Keeps F a b :=
  ⟨h.os, h.tape, h.output, h.size, fun i hi hF => h.block i hi (fun e => hF (hr i e.symm))⟩
theorem Keeps.of_below {F : Nat → Prop} {a b : World} (h : Below a.heap.size a b) : Keeps F a b := ⟨h.os, h.tape, h.output, h.size, fun i hi _ => h.block i hi⟩
theorem Keeps.grown {F : Nat → Prop} {a b c : World} {r : Option Nat} (h : Keeps F a b) (k : b.grownBy c r) (hr : ∀ i, r = some i → F i ∨ a.heap.size ≤ i) : Keeps F a c :=
  h.trans (G := fun i => r = some i) (Keeps.of_grown k fun _ e => e) hr
theorem Keeps.andBelow {F : Nat → Prop} {a b c : World} (h : Keeps F a b) (k : Below b.heap.size b c) : Keeps F a c := h.trans (G := fun _ => False) (Keeps.of_below k) (fun _ e => e.elim)
theorem Keeps.alloc {F : Nat → Prop} {a b : World} (h : Keeps F a b) (o : Obj) : Keeps F a (b.alloc o) := h.andBelow ((Below.refl _ _).alloc (Nat.le_refl _) _)
theorem Keeps.below {F : Nat → Prop} {a b : World} (h : Keeps F a b) {K : Nat} (hK : K ≤ a.heap.size) (hF : ∀ i, F i → K ≤ i) : Below K a b :=
  ⟨h.os, h.tape, h.output, h.size, fun i hi => h.block i (by omega) (fun hf => by have := hF i hf; omega)⟩
theorem Keeps.heap {F : Nat → Prop} {a b : World} (h : Keeps F a b) {k : Nat} {o : Obj} (hk : a.heap[k]? = some o) (hF : ¬ F k) : b.heap[k]? = some o := by
  rw [h.block k (lt_of_heap hk) hF]; exact hk
theorem Keeps.cell {F : Nat → Prop} {a b : World} (h : Keeps F a b) {ad : Addr} {v : Value} (hc : a.cell? ad = some v) (hF : ¬ F ad.block) : b.cell? ad = some v := by
  rw [World.cell?_of_block (h.block ad.block (World.block_lt_of_cell? a _ hc) hF)]; exact hc
theorem Keeps.row {F : Nat → Prop} {a b : World} (h : Keeps F a b) {base : Nat} {e : TypeId} {size : Nat} {v : Value} {n : Nat} {xs : List Value} (hr : a.ownsRow base e size v n xs) (hF : ∀ i, v.ownBlock = some i → ¬ F i) : b.ownsRow base e size v n xs := by
  refine ⟨hr.1, ?_⟩
  rcases hr.2 with hn | ⟨g, cap, cur, rfl, hb, hg, rest⟩
  · exact .inl hn
  · exact .inr ⟨g, cap, cur, rfl, hb, h.heap hg (hF g rfl), rest⟩
theorem Keeps.map {F : Nat → Prop} {a b : World} (h : Keeps F a b) {H : Type} {P : Program} {k : TypeId} {R : Value → Option (DataW H × List MemPlace)} {m n : Nat} {D : DataW H} (hm : a.ownsMap P k R m n D) (hF : ¬ F m) : b.ownsMap P k R m n D := by
  obtain ⟨es, clock, hb, rest⟩ := hm
  exact ⟨es, clock, h.heap hb hF, rest⟩
theorem below_of_row {K : Nat} {w w' : World} {r : Option Nat} (h : w.grownBy w' r) (hK : K ≤ w.heap.size) (hr : ∀ i, r = some i → K ≤ i) : Below K w w' :=
  ⟨h.os, h.tape, h.output, h.size, fun k hk => h.block k (by omega) (fun e => by have := hr k e.symm; omega)⟩
theorem ne_of_heap {w : World} {a b : Nat} {x y : Obj} (hx : w.heap[a]? = some x) (hy : w.heap[b]? = some y) (h : x ≠ y) : a ≠ b := fun e => by
  subst e; rw [hx] at hy; exact h (Option.some.inj hy)
theorem row_block {w : World} {base g n cap : Nat} {e : TypeId} {size : Nat} {xs : List Value} (h : w.ownsRow base e size (.slice (some ⟨g, 0, none⟩) n cap) n xs) : ∃ cur, w.heap[g]? = some (.cells cur e (0, 0)) ∧ n ≤ cap ∧ cap ≤ maxLen ∧ cur.size = cap * size ∧ cur.toList.take (n * size) = xs := by
  rcases h.2 with ⟨hn, _⟩ | ⟨g', cap', cur, hv, _, hg, h1, h2, h3, h4⟩
  · simp at hn
  · simp only [Value.slice.injEq, Option.some.injEq, Addr.mk.injEq, and_true] at hv
    obtain ⟨rfl, _, rfl⟩ := hv
    exact ⟨cur, hg, h1, h2, h3, h4⟩
theorem map_block {H : Type} {P : Program} {k : TypeId} {R : Value → Option (DataW H × List MemPlace)} {w : World} {m n : Nat} {D : DataW H} (h : w.ownsMap P k R m n D) : ∃ es clock, w.heap[m]? = some (.map es clock) := by
  obtain ⟨es, clock, hb, _⟩ := h
  exact ⟨es, clock, hb⟩
/-- An element of a map that stands for itself. -/
def selfElem (v : Value) : Option (DataW Value × List MemPlace) := some (.held v, [])
theorem selfElem_inv {v : Value} {d : DataW Value} {ps : List MemPlace} (h : selfElem v = some (d, ps)) : d = .held v := by
  simp [selfElem] at h; exact h.1.symm
/-- 'm[k]' at such a map: what stands there, or the zero value. -/
theorem self_lookup {P : Program} {t k e : TypeId} {w : World} {b n : Nat} {D : DataW Value} (h : w.ownsMap P k selfElem b n D) (K : Keyed P k) (ht : P.underlying t = some (.map k e)) {z : Value} (hz : (zeroValue e).run P w = .ok z w) {key : Value} {kl : Lit} (hkey : keyOf P k key = some kl) :
    ∃ v, (Instr.lookup t (.map (some b)) key false).run P w = .ok v w ∧ D.atKey kl (.held z) = .held v := by
  obtain ⟨v, ps, hr, hv⟩ := h.lookup K ht hz (zd := .held z) (zp := []) rfl hkey
  exact ⟨v, hr, selfElem_inv hv⟩
theorem keyLit_i64 (n : Int) : WideAt.IsKeyLit (.int .i64 n) := by simp [WideAt.IsKeyLit]
end Go.Proofs.YtkkmbgjlmdddoabGreat
/- What a disk is, in plain words (DiskS), and how it lies in memory (DiskIn). -/
namespace Go.Proofs.YtkkmbgjlmdddoabGreat
open Go.RowKit Go.Maps
/-- A write of a sector, or a flush. -/
inductive OpS where
  | write (n : Int) (s : ByteArray)
  | flush
/-- An op as the program's value. -/
def encOp : OpS → Value
  | .write n s => .iface 173 (.agg #[.int .i64 n, .string s])
  | .flush => .iface 175 (.agg #[])
theorem encOp_one (o : OpS) : (encOp o).oneCell' = true := by cases o <;> rfl
/-- A disk: its first sectors, its ops, what is safe, what waits. -/
structure DiskS where
  first : List ByteArray
  ops : List OpS
  safe : List ByteArray
  waits : Int → List ByteArray
/-- One value more. -/
def upd (f : Int → List ByteArray) (n : Int) (x : List ByteArray) : Int → List ByteArray := fun k => if k = n then x else f k
theorem upd_same (f : Int → List ByteArray) (n : Int) (x : List ByteArray) : upd f n x n = x := by simp [upd]
theorem upd_other (f : Int → List ByteArray) {n k : Int} (x : List ByteArray) (h : k ≠ n) : upd f n x k = f k := by simp [upd, h]
/-- How many ops a disk may have here. -/
def opsMax : Nat := 1000000000
theorem opsMax_len {n : Nat} (h : n < opsMax) : n + 1 ≤ maxLen ∧ (n + 1) * 16 ≤ 140737488355328 ∧ n < maxLen := by unfold opsMax at h; unfold maxLen; omega
/-- Where the sectors lie that are safe, the map of what waits, what it reads as, and of each sector the row of its writes. -/
structure PL where
  g : Nat
  cap : Nat
  m : Nat
  D : DataW Value
  row : Int → Nat
  rcap : Int → Nat
def PL.safeV (L : PL) (n : Nat) : Value := .slice (some ⟨L.g, 0, none⟩) n L.cap
/-- What the map has of a sector. -/
def PL.rowV (L : PL) (waits : Int → List ByteArray) (n : Int) : Value := if waits n = [] then .slice none 0 0 else .slice (some ⟨L.row n, 0, none⟩) (waits n).length (L.rcap n)
/-- The blocks that are written when it changes. -/
def PL.foot (L : PL) (waits : Int → List ByteArray) (i : Nat) : Prop := i = L.g ∨ i = L.m ∨ ∃ n, waits n ≠ [] ∧ i = L.row n
abbrev strs (l : List ByteArray) : List Value := l.map Value.string
theorem strs_one (l : List ByteArray) : ∀ u ∈ strs l, u.oneCell' = true := by
  intro u hu; obtain ⟨s, _, rfl⟩ := List.mem_map.1 hu; rfl
structure PlatesIn (w : World) (L : PL) (safe : List ByteArray) (waits : Int → List ByteArray) (B : Nat) : Prop where
  safeRow : w.ownsRow 0 116 1 (.slice (some ⟨L.g, 0, none⟩) safe.length L.cap) safe.length (strs safe)
  mapOwn : w.ownsMap Tryz.prog 3 selfElem L.m B L.D
  absent : ∀ n, waits n = [] → Maps.has L.D (.int .i64 n) = false
  there : ∀ n, waits n ≠ [] → Maps.has L.D (.int .i64 n) = true
  held : ∀ n, waits n ≠ [] → ∀ z, L.D.atKey (.int .i64 n) z = .held (.slice (some ⟨L.row n, 0, none⟩) (waits n).length (L.rcap n))
  rows : ∀ n, waits n ≠ [] → w.ownsRow 0 116 1 (.slice (some ⟨L.row n, 0, none⟩) (waits n).length (L.rcap n)) (waits n).length (strs (waits n))
  off : ∀ n, waits n ≠ [] → L.row n ≠ L.g
  apart : ∀ n n', waits n ≠ [] → waits n' ≠ [] → L.row n = L.row n' → n = n'
  len : ∀ n, (waits n).length ≤ B
  dom : ∀ n, waits n ≠ [] → 0 ≤ n ∧ n < safe.length
  pos : 0 < safe.length
  most : safe.length ≤ 4096
variable {w w' : World} {L : PL} {safe : List ByteArray} {waits : Int → List ByteArray} {B : Nat}
theorem PlatesIn.foot_block (h : PlatesIn w L safe waits B) {i : Nat} (hi : L.foot waits i) : (∃ cur, w.heap[i]? = some (.cells cur 116 (0, 0))) ∨ ∃ es c, w.heap[i]? = some (.map es c) := by
  rcases hi with rfl | rfl | ⟨n, hn, rfl⟩
  · obtain ⟨cur, hc, _⟩ := row_block h.safeRow; exact .inl ⟨cur, hc⟩
  · obtain ⟨es, c, hm⟩ := map_block h.mapOwn; exact .inr ⟨es, c, hm⟩
  · obtain ⟨cur, hc, _⟩ := row_block (h.rows n hn); exact .inl ⟨cur, hc⟩
theorem PlatesIn.foot_lt (h : PlatesIn w L safe waits B) {i : Nat} (hi : L.foot waits i) : i < w.heap.size := by
  rcases h.foot_block hi with ⟨_, hc⟩ | ⟨_, _, hc⟩ <;> exact lt_of_heap hc
/-- A block that holds cells of another type is none of them. -/
theorem PlatesIn.foot_other (h : PlatesIn w L safe waits B) {i : Nat} {cs : Array Value} {t : TypeId} {fr : Nat × Nat} (hi : w.heap[i]? = some (.cells cs t fr)) (ht : t ≠ 116) : ¬ L.foot waits i := by
  intro hf
  rcases h.foot_block hf with ⟨_, hc⟩ | ⟨_, _, hc⟩
  · rw [hi] at hc; simp only [Option.some.injEq, Obj.cells.injEq] at hc; exact ht hc.2.1
  · rw [hi] at hc; cases hc
theorem PlatesIn.keep (h : PlatesIn w L safe waits B) {G : Nat → Prop} (k : Keeps G w w') (hG : ∀ i, L.foot waits i → ¬ G i) : PlatesIn w' L safe waits B where
  safeRow := k.row h.safeRow (fun i hi => hG i (.inl (Option.some.inj hi).symm))
  mapOwn := k.map h.mapOwn (hG _ (.inr (.inl rfl)))
  absent := h.absent
  there := h.there
  held := h.held
  rows := fun n hn => k.row (h.rows n hn) (fun i hi => hG i (.inr (.inr ⟨n, hn, (Option.some.inj hi).symm⟩)))
  off := h.off
  apart := h.apart
  len := h.len
  dom := h.dom
  pos := h.pos
  most := h.most
theorem zeroSecs (w : World) : (zeroValue 119).run Tryz.prog w = .ok (.slice none 0 0) w := Tryz.zeroValue119 w
theorem keyI {n : Int} (h0 : -9223372036854775808 ≤ n) (h1 : n < 9223372036854775808) : keyOf Tryz.prog 3 (.int .i64 n) = some (.int .i64 n) := by
  refine keyOf_int_mk Tryz.underlying3 ?_
  exact WalkArith.wf_i64 ⟨h0, by omega⟩
theorem PlatesIn.look (h : PlatesIn w L safe waits B) (n : Int) (h0 : 0 ≤ n) (h1 : n < safe.length) (W : World) (hW : W.heap = w.heap) : (Instr.lookup 148 (.map (some L.m)) (.int .i64 n) false).run Tryz.prog W = .ok (L.rowV waits n) W := by
  have hmost := h.most
  have hmap : W.ownsMap Tryz.prog 3 selfElem L.m B L.D := by
    obtain ⟨es, c, hb, r⟩ := h.mapOwn; exact ⟨es, c, by rw [hW]; exact hb, r⟩
  obtain ⟨v, hr, hv⟩ := self_lookup hmap (int_keyed Tryz.underlying3) Tryz.underlying148 (zeroSecs W) (keyI (n := n) (by omega) (by omega))
  rw [hr]
  by_cases hn : waits n = []
  · rw [atKey_of_not_has (h.absent n hn)] at hv
    rw [PL.rowV, if_pos hn, ← DataW.held.inj hv]
  · rw [h.held n hn] at hv
    rw [PL.rowV, if_neg hn, DataW.held.inj hv]
theorem PlatesIn.look2 (h : PlatesIn w L safe waits B) (n : Int) (h0 : 0 ≤ n) (h1 : n < safe.length) (W : World) (k : Keeps (fun _ => False) w W) : (Instr.lookup 148 (.map (some L.m)) (.int .i64 n) false).run Tryz.prog W = .ok (L.rowV waits n) W :=
  (h.keep k (fun _ _ e => e)).look n h0 h1 W rfl
theorem PlatesIn.rowOwn (h : PlatesIn w L safe waits B) (n : Int) : w.ownsRow 0 116 1 (L.rowV waits n) (waits n).length (strs (waits n)) := by
  by_cases hn : waits n = []
  · simp only [PL.rowV, hn]; exact World.ownsRow_nil _ _ _ _
  · simp only [PL.rowV, if_neg hn]; exact h.rows n hn
theorem PL.rowV_block {n : Int} {i : Nat} (h : (L.rowV waits n).ownBlock = some i) : waits n ≠ [] ∧ i = L.row n := by
  by_cases hn : waits n = []
  · simp [PL.rowV, hn, Value.ownBlock] at h
  · simp [PL.rowV, hn, Value.ownBlock] at h; exact ⟨hn, h.symm⟩
/-- Behind 'append(waits[n], s)', ahead of the store. -/
theorem PlatesIn.mid (h : PlatesIn w L safe waits B) {n : Int} {w0 w1 : World} (k0 : Below w.heap.size w w0) (hgr : w0.grownBy w1 (L.rowV waits n).ownBlock) :
    w1.ownsMap Tryz.prog 3 selfElem L.m B L.D ∧ (∀ i o, w0.heap[i]? = some o → ¬ L.foot waits i → w1.heap[i]? = some o) := by
  have hf : ∀ i, (L.rowV waits n).ownBlock = some i → L.foot waits i := fun i e => by
    obtain ⟨hn, e'⟩ := PL.rowV_block e; exact .inr (.inr ⟨n, hn, e'⟩)
  have K1 : Keeps (fun i => (L.rowV waits n).ownBlock = some i) w w1 := (Keeps.of_below k0).trans (Keeps.of_grown hgr (fun i e => e)) (fun i e => .inl e)
  refine ⟨K1.map h.mapOwn (fun he => ?_), fun i o hi hn => (hgr.block i (lt_of_heap hi) (fun e => hn (hf i e.symm))).trans hi⟩
  obtain ⟨es, mc, hmb⟩ := map_block h.mapOwn
  obtain ⟨hn, e'⟩ := PL.rowV_block he
  obtain ⟨c, hc, _⟩ := row_block (h.rows n hn)
  rw [← e', hmb] at hc; cases hc
/-- Behind 'waits[n] = append(waits[n], s)'. -/
theorem PlatesIn.wrote (h : PlatesIn w L safe waits B) {n : Int} (h0 : 0 ≤ n) (h1 : n < safe.length) {s : ByteArray} {w0 w1 w2 : World} {g cap : Nat} (k0 : Below w.heap.size w w0)
    (hown : w1.ownsRow 0 116 1 (.slice (some ⟨g, 0, none⟩) ((waits n).length + 1) cap) ((waits n).length + 1) (strs (waits n) ++ [.string s]))
    (hgr : w0.grownBy w1 (L.rowV waits n).ownBlock) (hat : (L.rowV waits n).ownBlock = some g ∨ g = w0.heap.size)
    (hmap : w2.ownsMap Tryz.prog 3 selfElem L.m (B + 1) (L.D.put (.int .i64 n) (.held (.slice (some ⟨g, 0, none⟩) ((waits n).length + 1) cap)))) (hgr2 : w1.grownBy w2 (some L.m)) :
    PlatesIn w2 { L with D := L.D.put (.int .i64 n) (.held (.slice (some ⟨g, 0, none⟩) ((waits n).length + 1) cap)), row := fun k => if k = n then g else L.row k, rcap := fun k => if k = n then cap else L.rcap k } safe (upd waits n (waits n ++ [s])) (B + 1) ∧
      (∀ i, ({ L with D := L.D.put (.int .i64 n) (.held (.slice (some ⟨g, 0, none⟩) ((waits n).length + 1) cap)), row := fun k => if k = n then g else L.row k, rcap := fun k => if k = n then cap else L.rcap k } : PL).foot (upd waits n (waits n ++ [s])) i → L.foot waits i ∨ w.heap.size ≤ i) ∧ Keeps (L.foot waits) w w2 := by
  have hold : g < w.heap.size → waits n ≠ [] ∧ g = L.row n := fun hlt => by
    rcases hat with e | e
    · exact PL.rowV_block e
    · have := k0.size; omega
  have K1 : Keeps (fun i => (L.rowV waits n).ownBlock = some i) w w1 := (Keeps.of_below k0).trans (Keeps.of_grown hgr (fun i e => e)) (fun i e => .inl e)
  have K2 : Keeps (fun i => (L.rowV waits n).ownBlock = some i ∨ i = L.m) w w2 := (K1.mono (fun _ => .inl)).grown hgr2 (fun i e => .inl (.inr (Option.some.inj e).symm))
  obtain ⟨es, mc, hmb⟩ := map_block h.mapOwn
  obtain ⟨gc, hgb, _⟩ := row_block h.safeRow
  obtain ⟨rc, hrb, _⟩ := row_block hown
  obtain ⟨es2, mc2, hmb2⟩ := map_block hmap
  have hgm : g ≠ L.m := by
    intro e
    have hm1 : w1.heap[L.m]? = some (.map es mc) := K1.heap hmb (fun he => by
      obtain ⟨hn, e'⟩ := PL.rowV_block he
      obtain ⟨c, hc, _⟩ := row_block (h.rows n hn)
      rw [← e'] at hc; rw [hmb] at hc; cases hc)
    rw [← e, hrb] at hm1; cases hm1
  have hmL : L.m ≠ L.g := fun e => by rw [e, hgb] at hmb; cases hmb
  have hrm : ∀ k, waits k ≠ [] → L.row k ≠ L.m := fun k hk e => by
    obtain ⟨c, hc, _⟩ := row_block (h.rows k hk)
    rw [e, hmb] at hc; cases hc
  have hbig : ∀ k, waits k ≠ [] → k ≠ n → L.row k ≠ g := fun k hk hkn e => by
    have hlt : L.row k < w.heap.size := h.foot_lt (.inr (.inr ⟨k, hk, rfl⟩))
    obtain ⟨hn, e'⟩ := hold (by rw [← e]; exact hlt)
    exact hkn (h.apart k n hk hn (e.trans e'))
  have hgg : g ≠ L.g := fun e => by
    obtain ⟨hn, e'⟩ := hold (by rw [e]; exact h.foot_lt (.inl rfl))
    exact h.off n hn (e'.symm.trans e)
  refine ⟨⟨?_, hmap, ?_, ?_, ?_, ?_, ?_, ?_, ?_, ?_, h.pos, h.most⟩, fun i hi => ?_, K2.mono (fun i e => ?_)⟩
  · refine K2.row h.safeRow (fun i hi => ?_)
    obtain rfl : L.g = i := Option.some.inj hi
    rintro (e | e)
    · obtain ⟨hn, e'⟩ := PL.rowV_block e; exact h.off n hn e'.symm
    · exact hmL e.symm
  · intro k hk
    by_cases hkn : k = n
    · subst hkn; rw [upd_same] at hk; simp at hk
    · rw [upd_other _ _ hkn] at hk
      rw [has_put_other (by simpa using hkn)]; exact h.absent k hk
  · intro k hk
    by_cases hkn : k = n
    · subst hkn; exact has_put_same h.mapOwn.isMap (keyLit_i64 _) _
    · rw [upd_other _ _ hkn] at hk
      rw [has_put_other (by simpa using hkn)]; exact h.there k hk
  · intro k hk z
    by_cases hkn : k = n
    · subst hkn
      rw [atKey_put_same h.mapOwn.isMap (keyLit_i64 _)]
      simp [upd_same]
    · rw [upd_other _ _ hkn] at hk
      rw [atKey_put_other (by simpa using hkn), h.held k hk]
      simp [upd_other _ _ hkn, hkn]
  · intro k hk
    by_cases hkn : k = n
    · subst hkn
      simp only [upd_same, if_true, List.length_append, List.length_cons, List.length_nil, Nat.zero_add]
      have := hown.kept hgr2 (.inr (fun e => hgm (by simpa [Value.ownBlock] using e)))
      simpa [strs] using this
    · rw [upd_other _ _ hkn] at hk
      simp only [upd_other _ _ hkn, hkn, if_false]
      refine K2.row (h.rows k hk) (fun i hi => ?_)
      obtain rfl : L.row k = i := Option.some.inj hi
      rintro (e | e)
      · obtain ⟨hn, e'⟩ := PL.rowV_block e; exact hkn (h.apart k n hk hn e')
      · exact hrm k hk e
  · intro k hk
    by_cases hkn : k = n
    · subst hkn; simpa using hgg
    · rw [upd_other _ _ hkn] at hk
      simpa [hkn] using h.off k hk
  · intro k k' hk hk' e
    by_cases hkn : k = n
    · by_cases hkn' : k' = n
      · rw [hkn, hkn']
      · rw [upd_other _ _ hkn'] at hk'
        simp only [hkn, hkn', if_true, if_false] at e
        exact absurd e.symm (hbig k' hk' hkn')
    · by_cases hkn' : k' = n
      · rw [upd_other _ _ hkn] at hk
        simp only [hkn, hkn', if_true, if_false] at e
        exact absurd e (hbig k hk hkn)
      · rw [upd_other _ _ hkn] at hk
        rw [upd_other _ _ hkn'] at hk'
        simp only [hkn, hkn', if_false] at e
        exact h.apart k k' hk hk' e
  · intro k
    by_cases hkn : k = n
    · subst hkn; rw [upd_same]; have := h.len k; simp; omega
    · rw [upd_other _ _ hkn]; have := h.len k; omega
  · intro k hk
    by_cases hkn : k = n
    · subst hkn; exact ⟨h0, h1⟩
    · rw [upd_other _ _ hkn] at hk; exact h.dom k hk
  · rcases hi with e | e | ⟨k, hk, e⟩
    · exact .inl (.inl e)
    · exact .inl (.inr (.inl e))
    · by_cases hkn : k = n
      · simp only [hkn, if_true] at e
        by_cases hlt : g < w.heap.size
        · obtain ⟨hn, e'⟩ := hold hlt
          exact .inl (.inr (.inr ⟨n, hn, e.trans e'⟩))
        · exact .inr (by omega)
      · rw [upd_other _ _ hkn] at hk
        simp only [hkn, if_false] at e
        exact .inl (.inr (.inr ⟨k, hk, e⟩))
  · rcases e with e | e
    · obtain ⟨hn, e'⟩ := PL.rowV_block e; exact .inr (.inr ⟨n, hn, e'⟩)
    · exact .inr (.inl e)
end Go.Proofs.YtkkmbgjlmdddoabGreat
/- slices.Repeat at a slice of one sector: so many sectors, each that one, in a new slice. -/
namespace Go.Proofs.YtkkmbgjlmdddoabGreat
open Go.RowKit
theorem hid {p : Prop} (h : p) : Hid p := h
theorem hmix : Tryz.prog.follows .mixedOrders = true := by kernel_rfl
theorem mul_one_u (n : Nat) (hn : n ≤ 4096) (w : World) : Calls Tryz.prog 94 #[.int .u64 1, .int .u64 n] w fun e w' => e = .returned (.tuple #[.int .u64 0, .int .u64 n]) ∧ w' = w := by
  have h := Tryz.bits_Mul 1 n (by omega) (by omega) w
  rw [show 1 * n / 18446744073709551616 = 0 by omega, show 1 * n % 18446744073709551616 = n by omega] at h
  exact h
theorem infoS : (Tryz.prog.info? 116).map (fun i => (i.zero, i.size, i.bytes)) = some (some (.string ⟨#[]⟩), 1, 16) := by kernel_rfl
theorem sizeS : (Tryz.prog.info? 116).map (·.size) = some 1 := by kernel_rfl
theorem madeS (n : Nat) : madeCells (Value.string ⟨#[]⟩).cells (n * 1) = (List.replicate n (Value.string ⟨#[]⟩)).toArray := by
  apply Array.ext
  · simp [madeCells]
  · intro i h1 h2
    simp [madeCells, Value.cells, Nat.mod_one]
theorem wpList_make_secs {w : World} {ops : Array Oper} {rest : List Oper} {o : Oper} {a : Act} {Q : Exit → Act → World → Prop} (hg : o.guard = none) (l c : Operand) (hop : o.op = Op.makeSlice 119 l c)
    (n : Nat) (hl : a.eval l = .int .i64 n) (hc : a.eval c = .int .i64 n) (hm : n ≤ 4096)
    (h : ∀ w1 : World, Below w.heap.size w w1 → w1.heap[w.heap.size]? = some (.cells (List.replicate n (Value.string ⟨#[]⟩)).toArray 116 (0, 0)) → w1.heap.size = w.heap.size + 1 →
      wpList Tryz.prog ops Q rest (a.put o.dst (.slice (some ⟨w.heap.size, 0, none⟩) n n)) w1) : wpList Tryz.prog ops Q (o :: rest) a w := by
  obtain ⟨i, hi, hz, hs, hb⟩ := info_parts infoS
  refine wpList_plain hg fun K hK' => ?_
  have hrun := run_make (P := Tryz.prog) w 119 116 i (.string ⟨#[]⟩) Tryz.underlying119 hi hz .i64 .i64 n n (by omega) (by omega) (by rw [hb]; omega) (by omega)
  unfold Oper.wp
  simp only [Int.toNat_natCast, hs, madeS] at hrun
  generalize (List.replicate n (Value.string ⟨#[]⟩)).toArray = Z at *
  simp [execOp, hop, hl, hc, hrun, Result.andThen]
  exact hK' _ _ (h _ ((Below.refl _ _).alloc (Nat.le_refl _) _) (block_new _ _) (by simp))
theorem wpList_copy_block {P : Program} {w : World} {ops : Array Oper} {rest : List Oper} {o : Oper} {a : Act} {Q : Exit → Act → World → Prop} (hgd : o.guard = none) (d s : Operand) (dT sT : TypeId)
    (ho : o.op = .call { callee := .builtin .copy, args := #[d, s], argTypes := #[dT, sT] }) (elem : TypeId) (hu : P.underlying dT = some (.slice elem)) (hsz : (P.info? elem).map (·.size) = some 1)
    (g off dLen dCap : Nat) (ad : Addr) (sLen sCap : Nat) (hd : a.eval d = .slice (some ⟨g, off, none⟩) dLen dCap) (hs : a.eval s = .slice (some ad) sLen sCap)
    (C : Array Value) (t : TypeId) (hg : w.heap[g]? = some (.cells C t (0, 0))) (cs : List Value) (hn : cs.length = Nat.min sLen dLen) (hsrc : ∀ j v, cs[j]? = some v → w.cell? (ad.add j) = some v)
    (hfit : off + cs.length ≤ C.size) (h1 : ∀ v ∈ cs, v.oneCell' = true)
    (h : ∀ w1 : World, w.grownBy w1 (some g) → w1.heap[g]? = some (.cells (C.toList.take off ++ (cs ++ C.toList.drop (off + cs.length))).toArray t (0, 0)) → w1.heap.size = w.heap.size →
      wpList P ops Q rest (a.put o.dst (goInt cs.length)) w1) : wpList P ops Q (o :: rest) a w :=
  wpList_copy_own hgd d s dT sT ho elem hu hsz g off dLen dCap ad sLen sCap hd hs C t hg cs hn hsrc hfit h1
    (h _ ⟨rfl, rfl, rfl, by simp [World.setRow], fun k _ hk => setRow_other w g k _ (fun e => hk (by rw [e]))⟩ (setRow_heap w g C _ t (0, 0) hg) (by simp [World.setRow]))
theorem wp_copy_block {P : Program} {w : World} {o : Oper} {a : Act} {K : Act → World → Prop} {Q : Exit → Act → World → Prop} (d s : Operand) (dT sT : TypeId)
    (ho : o.op = .call { callee := .builtin .copy, args := #[d, s], argTypes := #[dT, sT] }) (elem : TypeId) (hu : P.underlying dT = some (.slice elem)) (hsz : (P.info? elem).map (·.size) = some 1)
    (g off dLen dCap : Nat) (ad : Addr) (sLen sCap : Nat) (hd : a.eval d = .slice (some ⟨g, off, none⟩) dLen dCap) (hs : a.eval s = .slice (some ad) sLen sCap)
    (C : Array Value) (t : TypeId) (hg : w.heap[g]? = some (.cells C t (0, 0))) (cs : List Value) (hn : cs.length = Nat.min sLen dLen) (hsrc : ∀ j v, cs[j]? = some v → w.cell? (ad.add j) = some v)
    (hfit : off + cs.length ≤ C.size) (h1 : ∀ v ∈ cs, v.oneCell' = true)
    (h : ∀ w1 : World, w.grownBy w1 (some g) → w1.heap[g]? = some (.cells (C.toList.take off ++ (cs ++ C.toList.drop (off + cs.length))).toArray t (0, 0)) → w1.heap.size = w.heap.size →
      K (a.put o.dst (goInt cs.length)) w1) : o.wp P a w K Q := by
  have hrun := run_copy_row (P := P) w dT sT o.type elem g off dLen dCap ad sLen sCap C t cs hu hsz hg hn hsrc hfit h1
  rw [List.append_assoc] at hrun
  unfold Oper.wp
  simp only [execOp, ho, resolve, invoke, builtin, hd, hs, hrun, Sem.run_bind, Sem.run_pure, Result.andThen_ok, List.map_toArray, List.map_cons, List.map_nil]
  exact h _ ⟨rfl, rfl, rfl, by simp [World.setRow], fun k _ hk => setRow_other w g k _ (fun e => hk (by rw [e]))⟩ (setRow_heap w g C _ t (0, 0) hg) (by simp [World.setRow])
/-- The first k cells hold x, the others y. -/
def filled (x y : Value) (n k : Nat) : List Value := List.replicate k x ++ List.replicate (n - k) y
theorem length_filled (x y : Value) (n k : Nat) (h : k ≤ n) : (filled x y n k).length = n := by simp [filled]; omega
theorem filled_more (x y : Value) (n k m : Nat) : (filled x y n k).take k ++ (List.replicate m x ++ (filled x y n k).drop (k + m)) = filled x y n (k + m) := by
  unfold filled
  rw [List.take_append_of_le_length (by simp), List.take_of_length_le (by simp), List.drop_append, List.drop_of_length_le (by simp), List.nil_append, List.drop_replicate, ← List.append_assoc, List.replicate_append_replicate]
  congr 2
  simp; omega
theorem one_src {w w1 : World} {b : Nat} {v : Value} (hb : w1.heap[b]? = w.heap[b]?) (hc : w.cell? ⟨b, 0, none⟩ = some v) : ∀ j u, [v][j]? = some u → w1.cell? ((⟨b, 0, none⟩ : Addr).add j) = some u := by
  intro j u hu
  cases j with
  | zero =>
    rw [Addr.add_mid, ← Option.some.inj hu]
    exact (World.cell?_of_block (w := w) hb).trans hc
  | succ j => simp at hu
theorem fill_one (n : Nat) (x y : Value) : ((List.replicate n y).toArray.toList.take 0 ++ ([x] ++ (List.replicate n y).toArray.toList.drop (0 + [x].length))) = filled x y n 1 := by
  simp [filled]
theorem fill_src {w : World} {g n k m : Nat} {x y : Value} {t : TypeId} {fr : Nat × Nat} (h : w.heap[g]? = some (.cells (filled x y n k).toArray t fr)) (hm : m ≤ k) : ∀ j u, (List.replicate m x)[j]? = some u → w.cell? ((⟨g, 0, none⟩ : Addr).add j) = some u := by
  intro j u hu
  have hj : j < m := by have := (List.getElem?_eq_some_iff.1 hu).1; simpa using this
  rw [Addr.add_mid, Nat.zero_add, cell_of_block h, List.getElem?_toArray, filled, List.getElem?_append_left (by simp; omega), List.getElem?_replicate, if_pos (by omega)]
  rw [List.getElem?_replicate, if_pos hj] at hu
  exact hu
set_option maxRecDepth 100000 in
set_option maxHeartbeats 1000000 in
theorem repeat_one (s : ByteArray) (b n : Nat) (h1 : 1 ≤ n) (hn : n ≤ 4096) (w : World) (hb : w.cell? ⟨b, 0, none⟩ = some (.string s)) :
    Calls Tryz.prog 72 #[.slice (some ⟨b, 0, none⟩) 1 1, .int .i64 n] w fun e w' => e = .returned (.slice (some ⟨w.heap.size, 0, none⟩) n n) ∧ w'.heap[w.heap.size]? = some (.cells (List.replicate n (Value.string s)).toArray 116 (0, 0)) ∧ Below w.heap.size w w' := by
  have HB := hid hb
  have hbl := World.block_lt_of_cell? w _ hb
  go_enter Tryz.func72, Tryz.ntmps72
  go_wp2_with (first
    | (go_at_call 94; refine (mul_one_u n hn _).mono ?_; rintro e w9 ⟨rfl, h9⟩; obtain rfl := h9.symm)
    | (refine wpList_make_secs rfl (.tmp 29) (.tmp 29) rfl n rfl rfl hn ?_; intro w1 hB1 hb1 hz1; have HB1 := hid hB1; have Hb1 := hid hb1; clear hB1 hb1 hz1)
    | (refine wpList_copy_block rfl (.tmp 31) (.tmp 32) 119 119 rfl 116 Tryz.underlying119 sizeS w.heap.size 0 n n ⟨b, 0, none⟩ 1 1 rfl rfl _ 116 Hb1.out [.string s] (Nat.min_eq_left h1).symm (one_src (HB1.out.block b hbl) HB.out) (by simpa using h1) (by simp [Value.oneCell']) ?_; intro w2 hg2 hb2 hz2; rw [fill_one] at hb2; have H2 := hid hb2; have HB2 := hid (HB1.out.trans (below_of_grown hg2 (Nat.le_refl _) HB1.out.size)); clear hb2 hg2 hz2 Hb1 HB1))
  clear hb
  go_loopw [8] (fun i wr => ∃ k : Nat, 1 ≤ k ∧ k ≤ n ∧ i = .int .i64 k ∧ Hid (wr.heap[w.heap.size]? = some (.cells (filled (.string s) (.string ⟨#[]⟩) n k).toArray 116 (0, 0))) ∧ Hid (Below w.heap.size w wr)) (fun i _ => n - (intOf i).toNat)
  case atStart => exact ⟨1, by omega, h1, rfl, H2, HB2⟩
  case round =>
    obtain ⟨k, hk1, hkn, rfl, hF, hBr⟩ := hrel
    clear H2 HB2
    by_cases hlt : k < n
    · have hk0 : (0 : Int) ≤ (k : Int) := by omega
      have hk2 : (k : Int) ≤ (n : Int) := by omega
      have hk3 : (k : Int) < (n : Int) := by omega
      go_wp2
      refine wp_region_noPanic ?_
      refine wp_region_held_drew (S := fun w' => Below w.heap.size w w') (by kernel_rfl) hBr.out.drew (fun hHeld => ?_)
      refine wpAnyH_take (i := 0) (v := ?_) rfl (by kernel_rfl) (by kernel_rfl) (by kernel_rfl) (fun _ _ _ h => h) (Or.inl ⟨by rfl, ?_⟩) (by assumption) ?_
      rotate_left
      · (intro W hSw; (try dsimp only at hSw); go_simp; try with_reducible rfl)
      try simp only [List.getElem_toArray, List.getElem_cons_zero, Act.put, List.setIfInBounds_toArray, List.set_cons_zero, List.set_cons_succ]
      refine wpAnyH_take (i := 1) (v := ?_) rfl (by kernel_rfl) (by kernel_rfl) (by kernel_rfl) (fun _ _ _ h => h) (Or.inl ⟨by rfl, ?_⟩) (by assumption) ?_
      rotate_left
      · (intro W hSw; (try dsimp only at hSw); go_simp; try with_reducible rfl)
      try simp only [List.getElem_toArray, List.getElem_cons_succ, List.getElem_cons_zero, Act.put, List.setIfInBounds_toArray, List.set_cons_zero, List.set_cons_succ]
      refine wpAnyH_take (i := 2) (v := ?_) rfl (by kernel_rfl) (by kernel_rfl) (by kernel_rfl) (fun _ _ _ h => h) (Or.inl ⟨by rfl, ?_⟩) (by assumption) ?_
      rotate_left
      · (intro W hSw; (try dsimp only at hSw); go_simp; try with_reducible rfl)
      try simp only [List.getElem_toArray, List.getElem_cons_succ, List.getElem_cons_zero, Act.put, List.setIfInBounds_toArray, List.set_cons_zero, List.set_cons_succ]
      refine wpAnyH_take (i := 3) (v := ?_) rfl (by kernel_rfl) (by kernel_rfl) (by kernel_rfl) (fun _ _ _ h => h) (Or.inl ⟨by rfl, ?_⟩) (by assumption) ?_
      rotate_left
      · (intro W hSw; (try dsimp only at hSw); go_simp; try with_reducible rfl)
      try simp only [List.getElem_toArray, List.getElem_cons_succ, List.getElem_cons_zero, Act.put, List.setIfInBounds_toArray, List.set_cons_zero, List.set_cons_succ]
      refine wpAnyH_take (i := 4) (v := ?_) rfl (by kernel_rfl) (by kernel_rfl) (by kernel_rfl) (fun _ _ _ h => h) (Or.inl ⟨by rfl, ?_⟩) (by assumption) ?_
      rotate_left
      · (intro W hSw; (try dsimp only at hSw); go_simp; try with_reducible rfl)
      try simp only [List.getElem_toArray, List.getElem_cons_succ, List.getElem_cons_zero, Act.put, List.setIfInBounds_toArray, List.set_cons_zero, List.set_cons_succ]
      refine wpAnyH_take (i := 5) (v := ?_) rfl (by kernel_rfl) (by kernel_rfl) (by kernel_rfl) (fun _ _ _ h => h) (Or.inl ⟨by rfl, ?_⟩) (by assumption) ?_
      rotate_left
      · (intro W hSw; (try dsimp only at hSw); go_simp; try with_reducible rfl)
      try simp only [List.getElem_toArray, List.getElem_cons_succ, List.getElem_cons_zero, Act.put, List.setIfInBounds_toArray, List.set_cons_zero, List.set_cons_succ]
      refine wpAnyH_take (i := 6) (v := ?_) rfl (by kernel_rfl) (by kernel_rfl) (by kernel_rfl) (fun _ _ _ h => h) (Or.inl ⟨by rfl, ?_⟩) (by assumption) ?_
      rotate_left
      · (intro W hSw; (try dsimp only at hSw); go_simp; try with_reducible rfl)
      try simp only [List.getElem_toArray, List.getElem_cons_succ, List.getElem_cons_zero, Act.put, List.setIfInBounds_toArray, List.set_cons_zero, List.set_cons_succ]
      refine wpAnyH_ready (rs := [7]) (by kernel_rfl) (by simp) (AllReadyH.cons rfl (fun K hK => ?_) AllReadyH.nil)
      rw [if_pos (by rfl)]
      rw [if_neg (show ¬ (n = k) by omega)]
      generalize hm : Nat.min k (n - k) = m
      have hm1 : 1 ≤ m := by rw [← hm]; exact Nat.le_min.2 ⟨hk1, by omega⟩
      have hmk : m ≤ k := by rw [← hm]; exact Nat.min_le_left _ _
      have hmn : k + m ≤ n := by have : m ≤ n - k := by rw [← hm]; exact Nat.min_le_right _ _
                                 omega
      refine wp_copy_block (.tmp 41) (.tmp 44) 119 119 rfl 116 Tryz.underlying119 sizeS w.heap.size k (n - k) (n - k) ⟨w.heap.size, 0, none⟩ k n rfl rfl _ 116 (w := wr.drew) hF.out (List.replicate m (.string s)) (by rw [List.length_replicate, hm]) (fill_src hF.out hmk) (by simp [length_filled _ _ _ _ hkn]; omega) (by intro v hv; rw [List.eq_of_mem_replicate hv]; rfl) ?_
      intro w2 hg2 hb2 hz2
      simp only [List.length_replicate] at hb2
      rw [filled_more] at hb2
      have H2 := hid hb2
      have HB2 := hid (hBr.out.drew.trans (below_of_grown hg2 (Nat.le_refl _) hBr.out.drew.size))
      clear hb2 hg2 hz2 hHeld
      refine hK.out _ _ HB2.out (fun hHeld => ?_)
      clear hK K
      try simp only [List.getElem_toArray, List.getElem_cons_succ, List.getElem_cons_zero, Act.put, List.setIfInBounds_toArray, List.set_cons_zero, List.set_cons_succ]
      refine wpAnyH_take (i := 8) (v := ?_) rfl (by kernel_rfl) (by kernel_rfl) (by kernel_rfl) (fun _ _ _ h => h) (Or.inl ⟨by rfl, ?_⟩) (by assumption) ?_
      rotate_left
      · (intro W hSw; (try dsimp only at hSw); go_simp; try with_reducible rfl)
      try simp only [List.getElem_toArray, List.getElem_cons_succ, List.getElem_cons_zero, Act.put, List.setIfInBounds_toArray, List.set_cons_zero, List.set_cons_succ]
      refine wpAnyH_take (i := 9) (v := ?_) rfl (by kernel_rfl) (by kernel_rfl) (by kernel_rfl) (fun _ _ _ h => h) (Or.inl ⟨by rfl, ?_⟩) (by assumption) ?_
      rotate_left
      · (intro W hSw; (try dsimp only at hSw); go_simp; try with_reducible rfl)
      try simp only [List.getElem_toArray, List.getElem_cons_succ, List.getElem_cons_zero, Act.put, List.setIfInBounds_toArray, List.set_cons_zero, List.set_cons_succ]
      refine wpAnyH_done (by kernel_rfl) ?_ _
      refine NoPanic.normal ?_
      go_wp2
      go_roundw
      case rel =>
        have hw : IntKind.i64.wrap ((k : Int) + (m : Int)) = ((k + m : Nat) : Int) := by rw [IntWalk.i64_in _ (by omega)]; omega
        exact ⟨k + m, by omega, hmn, by rw [hw], H2, HB2⟩
      case measure =>
        have hw : IntKind.i64.wrap ((k : Int) + (m : Int)) = (k : Int) + (m : Int) := IntWalk.i64_in _ (by omega)
        simp [intOf, hw]; omega
    · have hge : ¬ ((k : Int) < (n : Int)) := by omega
      obtain rfl : k = n := by omega
      go_wp2
      go_ret
      refine ⟨rfl, ?_, hBr.out⟩
      have := hF.out
      rwa [show filled (.string s) (.string ⟨#[]⟩) k k = List.replicate k (Value.string s) by simp [filled]] at this
end Go.Proofs.YtkkmbgjlmdddoabGreat
/- plates.do at a write: the sector's writes that wait are one more. -/
namespace Go.Proofs.YtkkmbgjlmdddoabGreat
open Go.RowKit Go.Maps
theorem wp_lookup_run {P : Program} {w : World} {o : Oper} {a : Act} {K : Act → World → Prop} {Q : Exit → Act → World → Prop} (m x : Operand) (t : TypeId) (hop : o.op = Op.lookup t m x false) (M k v : Value) (hm : a.eval m = M) (hx : a.eval x = k)
    (hrun : (Instr.lookup t M k false).run P w = .ok v w) (h : K (a.put o.dst v) w) : o.wp P a w K Q := by
  unfold Oper.wp
  simp [execOp, hop, hm, hx, hrun, Result.andThen]
  exact h
theorem wp_mapUpdate_self {P : Program} {w : World} {o : Oper} {a : Act} {K : Act → World → Prop} {Q : Exit → Act → World → Prop} (m x v : Operand) (t : TypeId) (hop : o.op = Op.mapUpdate t m x v) (k e : TypeId) (KK : Keyed P k) (ht : P.underlying t = some (.map k e)) (b n : Nat) (D : DataW Value)
    (hm : a.eval m = .map (some b)) (hown : w.ownsMap P k selfElem b n D) (hn : n < maxLen) (key val : Value) (kl : Lit) (hx : a.eval x = key) (hv : a.eval v = val) (hkey : keyOf P k key = some kl)
    (h : ∀ w', w'.ownsMap P k selfElem b (n + 1) (D.put kl (.held val)) → w.grownBy w' (some b) → K (a.put o.dst undef) w') : o.wp P a w K Q := by
  obtain ⟨w', hrun, r1, r2⟩ := hown.update KK ht hn hkey (val := val) (d := .held val) (ps := []) rfl
  unfold Oper.wp
  simp [execOp, hop, hm, hx, hv, hrun, Result.andThen]
  exact h w' r1 r2
theorem assert_write (W : World) (v : Value) : (Instr.typeAssert (.iface 173 v) 183 173 true).run Tryz.prog W = .ok (.tuple #[v, .bool true]) W := by kernel_rfl
set_option maxRecDepth 100000 in
set_option maxHeartbeats 1000000 in
theorem do_write (p : Nat) (fv ov : Value) (L : PL) (safe : List ByteArray) (waits : Int → List ByteArray) (B : Nat) (n : Int) (s : ByteArray) (w : World)
    (hp : w.heap[p]? = some (.cells #[fv, ov, .slice (some ⟨L.g, 0, none⟩) safe.length L.cap, .map (some L.m)] 154 (0, 0))) (h : PlatesIn w L safe waits B) (hB : B < opsMax) (h0 : 0 ≤ n) (h1 : n < safe.length) :
    Calls Tryz.prog 128 #[.pointer (some ⟨p, 2, none⟩), .iface 173 (.agg #[.int .i64 n, .string s])] w fun e w' => e = .returned (.tuple #[]) ∧
      ∃ L', PlatesIn w' L' safe (upd waits n (waits n ++ [s])) (B + 1) ∧ L'.g = L.g ∧ L'.cap = L.cap ∧ L'.m = L.m ∧ (∀ i, L'.foot (upd waits n (waits n ++ [s])) i → L.foot waits i ∨ w.heap.size ≤ i) ∧ Keeps (L.foot waits) w w' := by
  have c3 : w.cell? ⟨p, 3, none⟩ = some (.map (some L.m)) := by rw [cell_of_block hp]; rfl
  go_enter Tryz.func128, Tryz.ntmps128
  have hta := assert_write
  have HP := hid hp
  have H := hid h
  clear hp h
  go_wp2
  obtain ⟨i0, hi, hz0, hz1, hz2⟩ := info_parts infoS
  have HI := hid hi
  clear hi
  obtain ⟨n1, n2, n3, n4⟩ := new2 w (.cells #[.int .i64 n, .string s] 173) (.cells #[.string s] 116)
  have HN1 := hid n1
  have HN2 := hid n2
  have HN3 := hid n3
  have HN4 := hid n4
  have HR := hid (((H.out.rowOwn n).alloc (.cells #[.int .i64 n, .string s] 173)).alloc (.cells #[.string s] 116))
  have HL := hid (opsMax_len (Nat.lt_of_le_of_lt (H.out.len n) hB))
  have HNP := hid (H.out.foot_other HP.out (by decide))
  have HNX : Hid (¬ L.foot waits w.heap.size) := fun hf => absurd (H.out.foot_lt hf) (Nat.lt_irrefl _)
  have HPM : Hid (p ≠ L.m) := fun e => HNP.out (.inr (.inl e))
  have HXM : Hid (w.heap.size ≠ L.m) := fun e => HNX.out (.inr (.inl e))
  clear n1 n2 n3 n4
  have hz : p ≠ w.heap.size := fun e => by have := lt_of_heap HP.out; omega
  refine wp_region_noPanic ?_
  refine wp_region_held_drew (S := fun W => W.cell? ⟨p, 3, none⟩ = some (.map (some L.m)) ∧ W.cell? ⟨w.heap.size, 0, none⟩ = some (.int .i64 n) ∧ W.cell? ⟨w.heap.size, 1, none⟩ = some (.string s)) (by kernel_rfl) ?_ (fun hHeld => ?_)
  · refine ⟨?_, ?_, ?_⟩
    · exact (cell_of_block (block_alloc HP.out _) 3)
    · exact (cell_of_block (block_new w _) 0)
    · exact (cell_of_block (block_new w _) 1)
  refine wpAnyH_take (i := 0) (v := ?_) rfl (by kernel_rfl) (by kernel_rfl) (by kernel_rfl) (fun _ _ _ h => h) (Or.inl ⟨by rfl, ?_⟩) (by assumption) ?_
  rotate_left
  · (intro W hSw; (try dsimp only at hSw); obtain ⟨s1, s2, s3⟩ := hSw; go_simp; try with_reducible rfl)
  try simp only [List.getElem_toArray, List.getElem_cons_zero, Act.put, List.setIfInBounds_toArray, List.set_cons_zero, List.set_cons_succ]
  refine wpAnyH_take (i := 1) (v := ?_) rfl (by kernel_rfl) (by kernel_rfl) (by kernel_rfl) (fun _ _ _ h => h) (Or.inl ⟨by rfl, ?_⟩) (by assumption) ?_
  rotate_left
  · (intro W hSw; (try dsimp only at hSw); obtain ⟨s1, s2, s3⟩ := hSw; go_simp; try with_reducible rfl)
  try simp only [List.getElem_toArray, List.getElem_cons_succ, List.getElem_cons_zero, Act.put, List.setIfInBounds_toArray, List.set_cons_zero, List.set_cons_succ]
  refine wpAnyH_take (i := 2) (v := ?_) rfl (by kernel_rfl) (by kernel_rfl) (by kernel_rfl) (fun _ _ _ h => h) (Or.inl ⟨by rfl, ?_⟩) (by assumption) ?_
  rotate_left
  · (intro W hSw; (try dsimp only at hSw); obtain ⟨s1, s2, s3⟩ := hSw; go_simp; try with_reducible rfl)
  try simp only [List.getElem_toArray, List.getElem_cons_succ, List.getElem_cons_zero, Act.put, List.setIfInBounds_toArray, List.set_cons_zero, List.set_cons_succ]
  refine wpAnyH_take (i := 3) (v := ?_) rfl (by kernel_rfl) (by kernel_rfl) (by kernel_rfl) (fun _ _ _ h => h) (Or.inl ⟨by rfl, ?_⟩) (by assumption) ?_
  rotate_left
  · (intro W hSw; (try dsimp only at hSw); obtain ⟨s1, s2, s3⟩ := hSw; go_simp; try with_reducible rfl)
  try simp only [List.getElem_toArray, List.getElem_cons_succ, List.getElem_cons_zero, Act.put, List.setIfInBounds_toArray, List.set_cons_zero, List.set_cons_succ]
  refine wpAnyH_take (i := 4) (v := ?_) rfl (by kernel_rfl) (by kernel_rfl) (by kernel_rfl) (fun _ _ _ h => h) (Or.inl ⟨by rfl, ?_⟩) (by assumption) ?_
  rotate_left
  · (intro W hSw; (try dsimp only at hSw); obtain ⟨s1, s2, s3⟩ := hSw; go_simp; try with_reducible rfl)
  try simp only [List.getElem_toArray, List.getElem_cons_succ, List.getElem_cons_zero, Act.put, List.setIfInBounds_toArray, List.set_cons_zero, List.set_cons_succ]
  refine wpAnyH_take (i := 5) (v := ?_) rfl (by kernel_rfl) (by kernel_rfl) (by kernel_rfl) (fun _ _ _ h => h) (Or.inl ⟨by rfl, ?_⟩) (by assumption) ?_
  rotate_left
  · (intro W hSw; (try dsimp only at hSw); obtain ⟨s1, s2, s3⟩ := hSw; go_simp; try with_reducible rfl)
  try simp only [List.getElem_toArray, List.getElem_cons_succ, List.getElem_cons_zero, Act.put, List.setIfInBounds_toArray, List.set_cons_zero, List.set_cons_succ]
  refine wpAnyH_take (i := 6) (v := ?_) rfl (by kernel_rfl) (by kernel_rfl) (by kernel_rfl) (fun _ _ _ h => h) (Or.inl ⟨by rfl, ?_⟩) (by assumption) ?_
  rotate_left
  · (intro W hSw; (try dsimp only at hSw); obtain ⟨s1, s2, s3⟩ := hSw; go_simp; try with_reducible rfl)
  try simp only [List.getElem_toArray, List.getElem_cons_succ, List.getElem_cons_zero, Act.put, List.setIfInBounds_toArray, List.set_cons_zero, List.set_cons_succ]
  refine wpAnyH_take (i := 7) (v := ?_) rfl (by kernel_rfl) (by kernel_rfl) (by kernel_rfl) (fun _ _ _ h => h) (Or.inl ⟨by rfl, ?_⟩) (by assumption) ?_
  rotate_left
  · (intro W hSw; (try dsimp only at hSw); obtain ⟨s1, s2, s3⟩ := hSw; go_simp; try with_reducible rfl)
  try simp only [List.getElem_toArray, List.getElem_cons_succ, List.getElem_cons_zero, Act.put, List.setIfInBounds_toArray, List.set_cons_zero, List.set_cons_succ]
  refine wpAnyH_take (i := 8) (v := ?_) rfl (by kernel_rfl) (by kernel_rfl) (by kernel_rfl) (fun _ _ _ h => h) (Or.inl ⟨by rfl, ?_⟩) (by assumption) ?_
  rotate_left
  · (intro W hSw; (try dsimp only at hSw); obtain ⟨s1, s2, s3⟩ := hSw; go_simp; try with_reducible rfl)
  try simp only [List.getElem_toArray, List.getElem_cons_succ, List.getElem_cons_zero, Act.put, List.setIfInBounds_toArray, List.set_cons_zero, List.set_cons_succ]
  refine wpAnyH_take (i := 9) (v := ?_) rfl (by kernel_rfl) (by kernel_rfl) (by kernel_rfl) (fun _ _ _ h => h) (Or.inl ⟨by rfl, ?_⟩) (by assumption) ?_
  rotate_left
  · (intro W hSw; (try dsimp only at hSw); obtain ⟨s1, s2, s3⟩ := hSw; go_simp; try with_reducible rfl)
  try simp only [List.getElem_toArray, List.getElem_cons_succ, List.getElem_cons_zero, Act.put, List.setIfInBounds_toArray, List.set_cons_zero, List.set_cons_succ]
  refine wpAnyH_take (i := 10) (v := ?_) rfl (by kernel_rfl) (by kernel_rfl) (by kernel_rfl) (fun _ _ _ h => h) (Or.inl ⟨by rfl, ?_⟩) (by assumption) ?_
  rotate_left
  · (intro W hSw; (try dsimp only at hSw); obtain ⟨s1, s2, s3⟩ := hSw; go_simp; try with_reducible rfl)
  try simp only [List.getElem_toArray, List.getElem_cons_succ, List.getElem_cons_zero, Act.put, List.setIfInBounds_toArray, List.set_cons_zero, List.set_cons_succ]
  refine wpAnyH_take (i := 11) (v := ?_) rfl (by kernel_rfl) (by kernel_rfl) (by kernel_rfl) (fun _ _ _ h => h) (Or.inl ⟨by rfl, ?_⟩) (by assumption) ?_
  rotate_left
  · (intro W hSw; (try dsimp only at hSw); obtain ⟨s1, s2, s3⟩ := hSw; go_simp; try with_reducible rfl)
  try simp only [List.getElem_toArray, List.getElem_cons_succ, List.getElem_cons_zero, Act.put, List.setIfInBounds_toArray, List.set_cons_zero, List.set_cons_succ]
  refine wpAnyH_take (i := 13) (v := ?_) rfl (by kernel_rfl) (by kernel_rfl) (by kernel_rfl) (fun _ _ _ h => h) (Or.inl ⟨by rfl, ?_⟩) (by assumption) ?_
  rotate_left
  · (intro W hSw; (try dsimp only at hSw); obtain ⟨s1, s2, s3⟩ := hSw; go_simp; try with_reducible rfl)
  try simp only [List.getElem_toArray, List.getElem_cons_succ, List.getElem_cons_zero, Act.put, List.setIfInBounds_toArray, List.set_cons_zero, List.set_cons_succ]
  refine wpAnyH_take (i := 14) (v := ?_) rfl (by kernel_rfl) (by kernel_rfl) (by kernel_rfl) (fun _ _ _ h => h) (Or.inl ⟨by rfl, ?_⟩) (by assumption) ?_
  rotate_left
  · (intro W hSw; (try dsimp only at hSw); obtain ⟨s1, s2, s3⟩ := hSw; go_simp; try with_reducible rfl)
  try simp only [List.getElem_toArray, List.getElem_cons_succ, List.getElem_cons_zero, Act.put, List.setIfInBounds_toArray, List.set_cons_zero, List.set_cons_succ]
  refine wpAnyH_ready (rs := [12, 15]) (by kernel_rfl) (by simp) (AllReadyH.cons rfl (fun K hK => ?_) (AllReadyH.cons rfl (fun K hK => ?_) AllReadyH.nil))
  · -- the look-up first
    rw [if_pos (by rfl)]
    refine wp_lookup_run (.tmp 20) (.tmp 22) 148 rfl (.map (some L.m)) (.int .i64 n) (L.rowV waits n) rfl rfl (H.out.look2 n h0 h1 _ ((Keeps.of_below ((Below.refl _ _).alloc (Nat.le_refl _) _)).drew)) ?_
    refine hK.out _ _ hHeld (fun hHeld => ?_)
    clear hK K
    try simp only [List.getElem_toArray, List.getElem_cons_succ, List.getElem_cons_zero, Act.put, List.setIfInBounds_toArray, List.set_cons_zero, List.set_cons_succ]
    refine wpAnyH_ready (rs := [15]) (by kernel_rfl) (by simp) (AllReadyH.cons rfl (fun K hK => ?_) AllReadyH.nil)
    rw [if_pos (by rfl)]
    unfold Oper.wp
    go_simp
    refine hK.out _ _ ⟨cell_of_block (block_alloc (block_alloc HP.out _) _) 3, cell_of_block (block_alloc (block_new w _) _) 0, cell_of_block (block_alloc (block_new w _) _) 1⟩ (fun hHeld => ?_)
    clear hK K
    refine wpAnyH_ready (rs := [16]) (by kernel_rfl) (by simp) (AllReadyH.cons rfl (fun K hK => ?_) AllReadyH.nil)
    rw [if_pos (by rfl)]
    refine wp_append_lies _ (.tmp 23) (.tmp 26) 119 rfl 0 116 i0 (.string ⟨#[]⟩) 1 16 Tryz.underlying119 HI.out hz0 hz1 hz2 rfl (by omega) (L.rowV waits n) (waits n).length (strs (waits n)) rfl HR.out ⟨w.heap.size + 1, 0, none⟩ 1 1 [.string s] rfl rfl (World.news_of_block (cs := #[.string s]) HN2.out) (by intro u hu; rw [List.mem_singleton.1 hu]; rfl) (by omega) HL.out.1 HL.out.2.1 (Nat.zero_le _) (w.heap.size + 1 + 1) HN4.out ?_
    intro g cap w1 hown hgr hat hlt
    have HG := hid hgr
    have HO := hid hown
    have HA := hid hat
    clear hown hgr hat hlt
    obtain ⟨hm1, hk1⟩ := H.out.mid HN3.out.drew HG.out
    have Hm1 := hid hm1
    have hk1p := hid (hk1 p _ (block_alloc (block_alloc HP.out _) _) HNP.out)
    have hk1x := hid (hk1 w.heap.size _ HN1.out HNX.out)
    clear hm1 hk1
    refine hK.out _ _ ⟨cell_of_block hk1p.out 3, cell_of_block hk1x.out 0, cell_of_block hk1x.out 1⟩ (fun hHeld => ?_)
    clear hK K
    try simp only [List.getElem_toArray, List.getElem_cons_succ, List.getElem_cons_zero, Act.put, List.setIfInBounds_toArray, List.set_cons_zero, List.set_cons_succ]
    refine wpAnyH_ready (rs := [17]) (by kernel_rfl) (by simp) (AllReadyH.cons rfl (fun K hK => ?_) AllReadyH.nil)
    rw [if_pos (by rfl)]
    refine wp_mapUpdate_self (.tmp 14) (.tmp 16) (.tmp 27) 148 rfl 3 119 (int_keyed Tryz.underlying3) Tryz.underlying148 L.m B L.D rfl Hm1.out (opsMax_len hB).2.2 (.int .i64 n) (.slice (some ⟨g, 0, none⟩) ((waits n).length + 1) cap) (.int .i64 n) rfl rfl (keyI (by omega) (by have := H.out.most; omega)) ?_
    intro w2 hown2 hgr2
    have HO2 := hid hown2
    have HG2 := hid hgr2
    clear hown2 hgr2
    refine hK.out _ _ ⟨cell_of_block (grown_block HG2.out hk1p.out (fun e => HPM.out (Option.some.inj e).symm)) 3, cell_of_block (grown_block HG2.out hk1x.out (fun e => HXM.out (Option.some.inj e).symm)) 0, cell_of_block (grown_block HG2.out hk1x.out (fun e => HXM.out (Option.some.inj e).symm)) 1⟩ (fun hHeld => ?_)
    clear hK K
    refine wpAnyH_done (by kernel_rfl) ?_ _
    refine NoPanic.normal ?_
    have HW := hid (H.out.wrote h0 h1 HN3.out.drew HO.out HG.out (HA.out.imp id (fun e => e.trans HN4.out.symm)) HO2.out HG2.out)
    clear HG HG2 HO HO2 HA Hm1 hk1p hk1x hHeld
    go_wp2
    go_end0
    exact ⟨rfl, _, HW.out.1, rfl, rfl, rfl, HW.out.2.1, HW.out.2.2⟩
  · -- the new element first
    rw [if_pos (by rfl)]
    unfold Oper.wp
    go_simp
    refine hK.out _ _ ⟨cell_of_block (block_alloc (block_alloc HP.out _) _) 3, cell_of_block (block_alloc (block_new w _) _) 0, cell_of_block (block_alloc (block_new w _) _) 1⟩ (fun hHeld => ?_)
    clear hK K
    refine wpAnyH_ready (rs := [12]) (by kernel_rfl) (by simp) (AllReadyH.cons rfl (fun K hK => ?_) AllReadyH.nil)
    rw [if_pos (by rfl)]
    refine wp_lookup_run (.tmp 20) (.tmp 22) 148 rfl (.map (some L.m)) (.int .i64 n) (L.rowV waits n) rfl rfl (H.out.look2 n h0 h1 _ ((Keeps.of_below HN3.out).drew)) ?_
    refine hK.out _ _ hHeld (fun hHeld => ?_)
    clear hK K
    try simp only [List.getElem_toArray, List.getElem_cons_succ, List.getElem_cons_zero, Act.put, List.setIfInBounds_toArray, List.set_cons_zero, List.set_cons_succ]
    refine wpAnyH_ready (rs := [16]) (by kernel_rfl) (by simp) (AllReadyH.cons rfl (fun K hK => ?_) AllReadyH.nil)
    rw [if_pos (by rfl)]
    refine wp_append_lies _ (.tmp 23) (.tmp 26) 119 rfl 0 116 i0 (.string ⟨#[]⟩) 1 16 Tryz.underlying119 HI.out hz0 hz1 hz2 rfl (by omega) (L.rowV waits n) (waits n).length (strs (waits n)) rfl HR.out ⟨w.heap.size + 1, 0, none⟩ 1 1 [.string s] rfl rfl (World.news_of_block (cs := #[.string s]) HN2.out) (by intro u hu; rw [List.mem_singleton.1 hu]; rfl) (by omega) HL.out.1 HL.out.2.1 (Nat.zero_le _) (w.heap.size + 1 + 1) HN4.out ?_
    intro g cap w1 hown hgr hat hlt
    have HG := hid hgr
    have HO := hid hown
    have HA := hid hat
    clear hown hgr hat hlt
    obtain ⟨hm1, hk1⟩ := H.out.mid HN3.out.drew HG.out
    have Hm1 := hid hm1
    have hk1p := hid (hk1 p _ (block_alloc (block_alloc HP.out _) _) HNP.out)
    have hk1x := hid (hk1 w.heap.size _ HN1.out HNX.out)
    clear hm1 hk1
    refine hK.out _ _ ⟨cell_of_block hk1p.out 3, cell_of_block hk1x.out 0, cell_of_block hk1x.out 1⟩ (fun hHeld => ?_)
    clear hK K
    try simp only [List.getElem_toArray, List.getElem_cons_succ, List.getElem_cons_zero, Act.put, List.setIfInBounds_toArray, List.set_cons_zero, List.set_cons_succ]
    refine wpAnyH_ready (rs := [17]) (by kernel_rfl) (by simp) (AllReadyH.cons rfl (fun K hK => ?_) AllReadyH.nil)
    rw [if_pos (by rfl)]
    refine wp_mapUpdate_self (.tmp 14) (.tmp 16) (.tmp 27) 148 rfl 3 119 (int_keyed Tryz.underlying3) Tryz.underlying148 L.m B L.D rfl Hm1.out (opsMax_len hB).2.2 (.int .i64 n) (.slice (some ⟨g, 0, none⟩) ((waits n).length + 1) cap) (.int .i64 n) rfl rfl (keyI (by omega) (by have := H.out.most; omega)) ?_
    intro w2 hown2 hgr2
    have HO2 := hid hown2
    have HG2 := hid hgr2
    clear hown2 hgr2
    refine hK.out _ _ ⟨cell_of_block (grown_block HG2.out hk1p.out (fun e => HPM.out (Option.some.inj e).symm)) 3, cell_of_block (grown_block HG2.out hk1x.out (fun e => HXM.out (Option.some.inj e).symm)) 0, cell_of_block (grown_block HG2.out hk1x.out (fun e => HXM.out (Option.some.inj e).symm)) 1⟩ (fun hHeld => ?_)
    clear hK K
    refine wpAnyH_done (by kernel_rfl) ?_ _
    refine NoPanic.normal ?_
    have HW := hid (H.out.wrote h0 h1 HN3.out.drew HO.out HG.out (HA.out.imp id (fun e => e.trans HN4.out.symm)) HO2.out HG2.out)
    clear HG HG2 HO HO2 HA Hm1 hk1p hk1x hHeld
    go_wp2
    go_end0
    exact ⟨rfl, _, HW.out.1, rfl, rfl, rfl, HW.out.2.1, HW.out.2.2⟩
end Go.Proofs.YtkkmbgjlmdddoabGreat
/- slices.Clone at sectors: a new slice that holds the same. -/
namespace Go.Proofs.YtkkmbgjlmdddoabGreat
open Go.RowKit
theorem run_slice_in (d : Nat) (t e : TypeId) (a : Addr) (n c : Nat) (h : Tryz.prog.underlying t = some (.slice e)) (w : World) : (Op.equalIn (d + 1) t (.slice (some a) n c) (.slice none 0 0)).run Tryz.prog w = .ok false w := by
  simp [Op.equalIn, run_underlying h]
theorem run_slice_nil (t e : TypeId) (a : Addr) (n c : Nat) (h : Tryz.prog.underlying t = some (.slice e)) (w : World) : (binOp .eql t (.slice (some a) n c) (.slice none 0 0)).run Tryz.prog w = .ok (.bool false) w := by
  have he : (Op.equal t (.slice (some a) n c) (.slice none 0 0)).run Tryz.prog w = .ok false w := run_slice_in 9999 t e a n c h w
  simp only [binOp]
  simp [he]
set_option maxRecDepth 100000 in
set_option maxHeartbeats 1000000 in
theorem clone_any (xs : List Value) (ad : Addr) (c : Nat) (hpos : 0 < xs.length) (hn : xs.length ≤ 4096) (h1 : ∀ u ∈ xs, u.oneCell' = true) (w : World) (hx : ∀ j u, xs[j]? = some u → w.cell? (ad.add j) = some u) :
    Calls Tryz.prog 119 #[.slice (some ad) xs.length c] w fun e w' => ∃ g cap, e = .returned (.slice (some ⟨g, 0, none⟩) xs.length cap) ∧ w'.ownsRow w.heap.size 116 1 (.slice (some ⟨g, 0, none⟩) xs.length cap) xs.length xs ∧ Below w.heap.size w w' := by
  obtain ⟨i0, hi, hz0, hz1, hz2⟩ := info_parts infoS
  have HI := hid hi
  have HX := hid hx
  clear hi hx
  go_enter Tryz.func119, Tryz.ntmps119
  have hq := fun W => run_slice_nil 119 _ ad xs.length c Tryz.underlying119 W
  go_wp2_with (refine wpList_append_lies _ rfl (.tmp 5) (.tmp 6) 119 rfl w.heap.size 116 i0 (.string ⟨#[]⟩) 1 16 Tryz.underlying119 HI.out hz0 hz1 hz2 rfl (by omega) (.slice (some ⟨w.heap.size, 0, none⟩) 0 0) 0 [] rfl (World.ownsRow_lit w #[] 0 (Nat.le_refl _) (by simp) rfl) ad xs.length c xs rfl (by simp) (fun j u hu => by rw [World.cell?_alloc_lt _ _ _ (World.block_lt_of_cell? w _ (HX.out j u hu))]; exact HX.out j u hu) h1 hpos (by unfold maxLen; omega) (by omega) (by simp) (w.heap.size + 1) (by simp) ?_; intro g cap w1 hown hgr hat hlt)
  go_ret
  rw [List.nil_append, Nat.zero_add] at hown
  refine ⟨g, cap, rfl, hown, ?_⟩
  exact ((Below.refl _ _).alloc (Nat.le_refl _) _).trans ⟨hgr.os, hgr.tape, hgr.output, hgr.size, fun k hk => hgr.block k (by simp; omega) (by simp [Value.ownBlock]; omega)⟩
end Go.Proofs.YtkkmbgjlmdddoabGreat
/- What the functions of disk answer at a nil disk; sizes. Each in every world, which stays as it was. -/
namespace Go.Proofs.YtkkmbgjlmdddoabGreat
open Go.RowKit
theorem read_nil (n : Int) (w : World) : Calls Tryz.prog 90 #[.pointer none, .int .i64 n] w fun e w' => e = .returned (.tuple #[.slice none 0 0, .int .i64 1]) ∧ w' = w := by
  go_enter Tryz.func90, Tryz.ntmps90
  go_wp2
  go_returns
  exact ⟨rfl, rfl⟩
theorem write_nil (n : Int) (v : Value) (w : World) : Calls Tryz.prog 106 #[.pointer none, .int .i64 n, v] w fun e w' => e = .returned (.int .i64 1) ∧ w' = w := by
  go_enter Tryz.func106, Tryz.ntmps106
  go_wp2
  go_ret
  exact ⟨rfl, rfl⟩
theorem flush_nil (w : World) : Calls Tryz.prog 107 #[.pointer none] w fun e w' => e = .returned (.int .i64 1) ∧ w' = w := by
  go_enter Tryz.func107, Tryz.ntmps107
  go_wp2
  go_ret
  exact ⟨rfl, rfl⟩
theorem sectors_nil (w : World) : Calls Tryz.prog 73 #[.pointer none] w fun e w' => e = .returned (.int .i64 0) ∧ w' = w := by
  go_enter Tryz.func73, Tryz.ntmps73
  go_wp2
  go_ret
  exact ⟨rfl, rfl⟩
theorem fork_nil (w : World) : Calls Tryz.prog 74 #[.pointer none] w fun e w' => e = .returned (.pointer none) ∧ w' = w := by
  go_enter Tryz.func74, Tryz.ntmps74
  go_wp2
  go_ret
  exact ⟨rfl, rfl⟩
theorem run_nil_in (d : Nat) (t : TypeId) (a : Addr) (h : Tryz.prog.underlying t = some (.pointer (Tryz.prog.pointee t))) (w : World) : (Op.equalIn (d + 1) t (.pointer none) (.pointer (some a))).run Tryz.prog w = .ok false w := by
  simp [Op.equalIn, run_underlying h]
theorem run_nil_eql (t : TypeId) (a : Addr) (h : Tryz.prog.underlying t = some (.pointer (Tryz.prog.pointee t))) (w : World) : (binOp .eql t (.pointer none) (.pointer (some a))).run Tryz.prog w = .ok (.bool false) w := by
  have he : (Op.equal t (.pointer none) (.pointer (some a))).run Tryz.prog w = .ok false w := run_nil_in 9999 t a h w
  simp only [binOp]
  simp [he]
theorem isSize_any (n : Int) (w : World) : Calls Tryz.prog 69 #[.int .i64 n] w fun e w' => e = .returned (.bool (decide (1 ≤ n ∧ n ≤ 4096))) ∧ w' = w := by
  by_cases h1 : 1 ≤ n
  · by_cases h2 : n ≤ 4096
    · go_enter Tryz.func69, Tryz.ntmps69
      go_wp2
      go_ret
      exact ⟨by simp [h1, h2], rfl⟩
    · go_enter Tryz.func69, Tryz.ntmps69
      go_wp2
      go_ret
      exact ⟨by simp [h2], rfl⟩
  · go_enter Tryz.func69, Tryz.ntmps69
    go_wp2
    go_ret
    exact ⟨by rw [decide_eq_false (fun h => by omega)]; rfl, rfl⟩
end Go.Proofs.YtkkmbgjlmdddoabGreat
/- disk.flushed, disk.made, disk.New: a disk of sectors that are all 0. -/
namespace Go.Proofs.YtkkmbgjlmdddoabGreat
open Go.RowKit
theorem info63 : (Tryz.prog.info? 150).map (·.size) = some 2 := by kernel_rfl
set_option maxRecDepth 100000 in
set_option maxHeartbeats 1000000 in
theorem flushed_any (xs : List Value) (ad : Addr) (c : Nat) (hpos : 0 < xs.length) (hn : xs.length ≤ 4096) (h1 : ∀ u ∈ xs, u.oneCell' = true) (w : World) (hx : ∀ j u, xs[j]? = some u → w.cell? (ad.add j) = some u) :
    Calls Tryz.prog 100 #[.slice (some ad) xs.length c] w fun e w' => ∃ g cap m, e = .returned (.agg #[.slice (some ⟨g, 0, none⟩) xs.length cap, .map (some m)]) ∧ w.heap.size ≤ m ∧ w'.heap[m]? = some (.map #[] 0) ∧ w'.ownsRow w.heap.size 116 1 (.slice (some ⟨g, 0, none⟩) xs.length cap) xs.length xs ∧ Below w.heap.size w w' := by
  have HX := hid hx
  clear hx
  go_enter Tryz.func100, Tryz.ntmps100
  go_wp2_with fail
  refine (clone_any xs ad c hpos hn h1 _ (fun j u hu => by rw [World.cell?_alloc_lt _ _ _ (World.block_lt_of_cell? w _ (HX.out j u hu))]; exact HX.out j u hu)).mono ?_
  rintro e w1 ⟨g, cap, rfl, hown, hB⟩
  have hmk := fun W => run_makeMap (P := Tryz.prog) 148 W
  have hb0 := below_block hB (block_new w (.cells #[.slice none 0 0, .map none] 150)) (by simp)
  have HB0 := hid hb0
  have HOW := hid hown
  have HBB := hid hB
  clear hb0 hown hB
  go_wp2_with (refine wpList_store_block rfl 150 (.tmp 2) (.tmp 6) rfl w.heap.size #[.slice (some ⟨g, 0, none⟩) xs.length cap, .map (some w1.heap.size)] rfl rfl _ 150 (block_alloc HB0.out _) rfl info63 (by simp [Value.oneCell']) ?_; intro w2 hg2 hb2 hz2)
  refine bodyPost_ret (results_cell Tryz.results100 _ _ rfl hb2 _ Tryz.underlying150 rfl info63) rfl ⟨g, cap, w1.heap.size, rfl, ?_, ?_, ?_, ?_⟩
  · have := HBB.out.size; simp at this; omega
  · exact grown_block hg2 (block_new w1 _) (by have := lt_of_heap HB0.out; intro e; have := Option.some.inj e; omega)
  · have hgz := (HOW.out.lt g rfl).1
    refine ((HOW.out.alloc _).kept hg2 (.inr (fun e => ?_))).mono (by simp)
    have := Option.some.inj e
    simp at this hgz
    omega
  · have hw := (Below.refl w.heap.size w).alloc (Nat.le_refl _) (.cells #[.slice none 0 0, .map none] 150)
    have h1 := hw.trans (HBB.out.mono (by simp))
    exact (h1.alloc h1.size _).trans (below_of_grown hg2 (Nat.le_refl _) (h1.alloc h1.size _).size)
/-- A disk as it is made: its first sectors, no op, the same sectors safe, nothing that waits. -/
structure Fresh (w0 w : World) (p : Nat) (xs : List Value) (first : Value) : Prop where
  fields : ∃ g cap m, w.heap[p]? = some (.cells #[first, .slice none 0 0, .slice (some ⟨g, 0, none⟩) xs.length cap, .map (some m)] 154 (0, 0)) ∧ w0.heap.size ≤ m ∧ w.heap[m]? = some (.map #[] 0) ∧
    w.ownsRow w0.heap.size 116 1 (.slice (some ⟨g, 0, none⟩) xs.length cap) xs.length xs
  new : w0.heap.size ≤ p
  below : Below w0.heap.size w0 w
set_option maxRecDepth 100000 in
set_option maxHeartbeats 1000000 in
theorem made_any (xs : List Value) (ad : Addr) (c : Nat) (hpos : 0 < xs.length) (hn : xs.length ≤ 4096) (h1 : ∀ u ∈ xs, u.oneCell' = true) (w : World) (hx : ∀ j u, xs[j]? = some u → w.cell? (ad.add j) = some u) :
    Calls Tryz.prog 71 #[.slice (some ad) xs.length c] w fun e w' => ∃ p, e = .returned (.pointer (some ⟨p, 0, none⟩)) ∧ Fresh w w' p xs (.slice (some ad) xs.length c) := by
  have HX := hid hx
  clear hx
  go_enter Tryz.func71, Tryz.ntmps71
  go_wp2_with fail
  refine (flushed_any xs ad c hpos hn h1 _ HX.out).mono ?_
  rintro e w1 ⟨g, cap, m, rfl, hm, hmb, hown, hB⟩
  have HM := hid hm
  have HMB := hid hmb
  have HOW := hid hown
  have HB := hid hB
  clear hm hmb hown hB
  go_wp2
  go_ret
  refine ⟨_, rfl, ⟨g, cap, m, block_new _ _, HM.out, block_alloc HMB.out _, HOW.out.alloc _⟩, HB.out.size, HB.out.alloc HB.out.size _⟩
end Go.Proofs.YtkkmbgjlmdddoabGreat
/- plates.has: is there a sector of that number? -/
namespace Go.Proofs.YtkkmbgjlmdddoabGreat
open Go.RowKit
set_option maxRecDepth 10000 in
theorem has_is (b o : Nat) (a : Option Addr) (len cap : Nat) (n : Int) (w : World) (hc : w.cell? ⟨b, o, none⟩ = some (.slice a len cap)) (r : Bool) (hr : decide (0 ≤ n ∧ n < (len : Int)) = r) :
    Calls Tryz.prog 112 #[.pointer (some ⟨b, o, none⟩), .int .i64 n] w fun e w' => e = .returned (.bool r) ∧ w' = w := by
  by_cases h0 : 0 ≤ n
  · by_cases h1 : n < (len : Int)
    · rw [decide_eq_true ⟨h0, h1⟩] at hr
      subst hr
      go_enter Tryz.func112, Tryz.ntmps112
      go_wp2
      go_ret
      exact ⟨rfl, rfl⟩
    · rw [decide_eq_false (fun h => h1 h.2)] at hr
      subst hr
      go_enter Tryz.func112, Tryz.ntmps112
      go_wp2
      go_ret
      exact ⟨rfl, rfl⟩
  · rw [decide_eq_false (fun h => h0 h.1)] at hr
    subst hr
    go_enter Tryz.func112, Tryz.ntmps112
    go_wp2
    go_ret
    exact ⟨rfl, rfl⟩
theorem has_any (b o : Nat) (a : Option Addr) (len cap : Nat) (n : Int) (w : World) (hc : w.cell? ⟨b, o, none⟩ = some (.slice a len cap)) :
    Calls Tryz.prog 112 #[.pointer (some ⟨b, o, none⟩), .int .i64 n] w fun e w' => e = .returned (.bool (decide (0 ≤ n ∧ n < (len : Int)))) ∧ w' = w := has_is b o a len cap n w hc _ rfl
end Go.Proofs.YtkkmbgjlmdddoabGreat
/- How a disk lies in memory (DiskIn); note and Write: one write more. -/
namespace Go.Proofs.YtkkmbgjlmdddoabGreat
open Go.RowKit Go.Maps
/-- Where a disk lies, the values of its fields. -/
structure DL where
  p : Nat
  fv : Value
  ov : Value
  L : PL
/-- The blocks that are written when it changes. -/
def DL.foot (d : DL) (waits : Int → List ByteArray) (i : Nat) : Prop := i = d.p ∨ d.ov.ownBlock = some i ∨ d.L.foot waits i
structure DiskIn (w : World) (d : DL) (S : DiskS) : Prop where
  heap : w.heap[d.p]? = some (.cells #[d.fv, d.ov, .slice (some ⟨d.L.g, 0, none⟩) S.safe.length d.L.cap, .map (some d.L.m)] 154 (0, 0))
  ops : w.ownsRow 0 183 1 d.ov S.ops.length (S.ops.map encOp)
  plates : PlatesIn w d.L S.safe S.waits S.ops.length
  first : ∃ ad c, d.fv = .slice (some ad) S.first.length c ∧ (∀ j s, S.first[j]? = some s → w.cell? (ad.add j) = some (.string s)) ∧ ¬ d.foot S.waits ad.block
  flen : S.first.length = S.safe.length
theorem row_type {w : World} {base : Nat} {e : TypeId} {size : Nat} {v : Value} {n : Nat} {xs : List Value} (h : w.ownsRow base e size v n xs) {i : Nat} (hi : v.ownBlock = some i) : ∃ cur, w.heap[i]? = some (.cells cur e (0, 0)) := by
  rcases h.2 with ⟨rfl, _⟩ | ⟨g, cap, cur, rfl, _, hg, _⟩
  · simp [Value.ownBlock] at hi
  · obtain rfl : g = i := Option.some.inj hi
    exact ⟨cur, hg⟩
theorem DiskIn.ops_off {w : World} {d : DL} {S : DiskS} (h : DiskIn w d S) {i : Nat} (hi : d.ov.ownBlock = some i) : ¬ d.L.foot S.waits i ∧ i ≠ d.p := by
  obtain ⟨cur, hc⟩ := row_type h.ops hi
  refine ⟨h.plates.foot_other hc (by decide), ne_of_heap hc h.heap (fun e => ?_)⟩
  simp only [Obj.cells.injEq] at e
  exact absurd e.2.1 (by decide)
theorem DiskIn.p_off {w : World} {d : DL} {S : DiskS} (h : DiskIn w d S) : ¬ d.L.foot S.waits d.p := h.plates.foot_other h.heap (by decide)
theorem DiskIn.foot_lt {w : World} {d : DL} {S : DiskS} (h : DiskIn w d S) {i : Nat} (hi : d.foot S.waits i) : i < w.heap.size := by
  rcases hi with rfl | e | e
  · exact lt_of_heap h.heap
  · obtain ⟨_, hc⟩ := row_type h.ops e; exact lt_of_heap hc
  · exact h.plates.foot_lt e
theorem add_block (ad : Addr) (j : Nat) : (ad.add j).block = ad.block := by
  unfold Addr.add; split <;> simp_all
theorem DiskIn.keep {w w' : World} {d : DL} {S : DiskS} (h : DiskIn w d S) {G : Nat → Prop} (k : Keeps G w w') (hG : ∀ i, d.foot S.waits i → ¬ G i) (hF : ∀ i, d.fv.ownBlock = some i → ¬ G i) : DiskIn w' d S where
  heap := k.heap h.heap (hG _ (.inl rfl))
  ops := k.row h.ops (fun i hi => hG i (.inr (.inl hi)))
  plates := h.plates.keep k (fun i hi => hG i (.inr (.inr hi)))
  first := by
    obtain ⟨ad, c, e, hc, hn⟩ := h.first
    exact ⟨ad, c, e, fun j s hj => k.cell (hc j s hj) (by rw [add_block]; exact hF _ (by rw [e]; rfl)), hn⟩
  flen := h.flen
/-- New blocks alone have been made. -/
theorem DiskIn.below {w w' : World} {d : DL} {S : DiskS} (h : DiskIn w d S) (k : Below w.heap.size w w') : DiskIn w' d S := h.keep (G := fun _ => False) (Keeps.of_below k) (fun _ _ e => e) (fun _ _ e => e)
/-- What is read of a disk: all but its ops' own cells, and its first sectors. -/
structure DiskRd (w : World) (d : DL) (S : DiskS) : Prop where
  heap : w.heap[d.p]? = some (.cells #[d.fv, d.ov, .slice (some ⟨d.L.g, 0, none⟩) S.safe.length d.L.cap, .map (some d.L.m)] 154 (0, 0))
  plates : PlatesIn w d.L S.safe S.waits S.ops.length
  ov : ∃ a c, d.ov = .slice a S.ops.length c
theorem row_slice' {w : World} {base : Nat} {e : TypeId} {size : Nat} {v : Value} {n : Nat} {xs : List Value} (h : w.ownsRow base e size v n xs) : ∃ a c, v = .slice a n c := by
  rcases h.2 with ⟨rfl, rfl⟩ | ⟨g, cap, cur, rfl, _⟩
  · exact ⟨none, 0, rfl⟩
  · exact ⟨_, _, rfl⟩
theorem DiskIn.rd {w : World} {d : DL} {S : DiskS} (h : DiskIn w d S) : DiskRd w d S := ⟨h.heap, h.plates, row_slice' h.ops⟩
theorem DiskRd.keep {w w' : World} {d : DL} {S : DiskS} (h : DiskRd w d S) {G : Nat → Prop} (k : Keeps G w w') (hp : ¬ G d.p) (hG : ∀ i, d.L.foot S.waits i → ¬ G i) : DiskRd w' d S :=
  ⟨k.heap h.heap hp, h.plates.keep k hG, h.ov⟩
theorem DiskRd.below {w w' : World} {d : DL} {S : DiskS} (h : DiskRd w d S) (k : Below w.heap.size w w') : DiskRd w' d S := h.keep (G := fun _ => False) (Keeps.of_below k) (fun e => e) (fun _ _ e => e)
/-- One write more. -/
def DiskS.wrote (S : DiskS) (n : Int) (s : ByteArray) : DiskS := { S with ops := S.ops ++ [.write n s], waits := upd S.waits n (S.waits n ++ [s]) }
theorem infoOp : (Tryz.prog.info? 183).map (fun i => (i.zero, i.size, i.bytes)) = some (some .nilIface, 1, 16) := by kernel_rfl
set_option maxRecDepth 100000 in
set_option maxHeartbeats 1000000 in
theorem note_write (d : DL) (S : DiskS) (n : Int) (s : ByteArray) (w : World) (h : DiskIn w d S) (hB : S.ops.length < opsMax) (h0 : 0 ≤ n) (h1 : n < S.safe.length) :
    Calls Tryz.prog 121 #[.pointer (some ⟨d.p, 0, none⟩), .iface 173 (.agg #[.int .i64 n, .string s])] w fun e w' => e = .returned (.tuple #[]) ∧
      ∃ d', DiskIn w' d' (S.wrote n s) ∧ d'.p = d.p ∧ d'.fv = d.fv ∧ (∀ i, d'.foot (S.wrote n s).waits i → d.foot S.waits i ∨ w.heap.size ≤ i) ∧ Keeps (d.foot S.waits) w w' := by
  have c1 : w.cell? ⟨d.p, 1, none⟩ = some d.ov := by rw [cell_of_block h.heap]; rfl
  have hlt := lt_of_heap h.heap
  obtain ⟨i0, hi, hz0, hz1, hz2⟩ := info_parts infoOp
  have HI := hid hi
  have H := hid h
  have HL := hid (opsMax_len hB)
  clear hi h
  go_enter Tryz.func121, Tryz.ntmps121
  go_wp2_with (refine wpList_append_lies _ rfl (.tmp 8) (.tmp 10) 152 rfl 0 183 i0 .nilIface 1 16 Tryz.underlying152 HI.out hz0 hz1 hz2 rfl (by omega) d.ov S.ops.length (S.ops.map encOp) rfl (H.out.ops.alloc _) ⟨w.heap.size, 0, none⟩ 1 1 [encOp (.write n s)] rfl rfl (World.news_of_block (cs := #[encOp (.write n s)]) (block_new w _)) (by intro u hu; rw [List.mem_singleton.1 hu]; rfl) (by omega) HL.out.1 HL.out.2.1 (Nat.zero_le _) (w.heap.size + 1) (by simp) ?_; intro g cap w1 hown hgr hat hlt1; have HO := hid hown; have HG := hid hgr; have HA := hid hat; have HP1 := hid ((hgr.block d.p (by simp; omega) (fun e => (H.out.ops_off e.symm).2 rfl)).trans (block_alloc H.out.heap _)); have f1 : w1.cell? ⟨d.p, 1, none⟩ = some d.ov := cell_of_block HP1.out 1; have f2 : w1.frozen? ⟨d.p, 1, none⟩ = false := frozen_of_block HP1.out 1; clear hown hgr hat hlt1)
  have K1 : Keeps (fun i => d.ov.ownBlock = some i) w w1 := (Keeps.of_below ((Below.refl _ _).alloc (Nat.le_refl _) _)).trans (Keeps.of_grown HG.out (fun i e => e)) (fun i e => .inl e)
  have K2 : Keeps (fun i => d.ov.ownBlock = some i ∨ i = d.p) w (w1.setCell ⟨d.p, 1, none⟩ (.slice (some ⟨g, 0, none⟩) (S.ops.length + 1) cap)) :=
    (K1.mono (fun _ => .inl)).grown (grown_setCell (grown_refl w1 (some d.p)) 1 _) (fun i e => .inl (.inr (Option.some.inj e).symm))
  have HK2 := hid K2
  have hP2 := block_setCell HP1.out 1 (.slice (some ⟨g, 0, none⟩) (S.ops.length + 1) cap)
  have HP2 := hid hP2
  have hgp : g ≠ d.p := by
    obtain ⟨cur, hc⟩ := row_type HO.out rfl
    refine ne_of_heap hc HP1.out (fun e => ?_)
    simp only [Obj.cells.injEq] at e
    exact absurd e.2.1 (by decide)
  have HO2 := hid (HO.out.kept (grown_setCell (grown_refl w1 (some d.p)) 1 (.slice (some ⟨g, 0, none⟩) (S.ops.length + 1) cap)) (.inr (fun e => hgp (by simpa [Value.ownBlock] using e))))
  have HPL := hid (H.out.plates.keep HK2.out (fun i hi e => by
    rcases e with e | e
    · exact (H.out.ops_off e).1 hi
    · exact H.out.p_off (e ▸ hi)))
  clear K1 K2 hP2 f1 f2 HO hgp
  generalize hW : w1.setCell ⟨d.p, 1, none⟩ (.slice (some ⟨g, 0, none⟩) (S.ops.length + 1) cap) = w2 at *
  clear hW
  refine (do_write d.p d.fv (.slice (some ⟨g, 0, none⟩) (S.ops.length + 1) cap) d.L S.safe S.waits S.ops.length n s w2 HP2.out HPL.out hB h0 h1).mono ?_
  rintro e w3 ⟨rfl, L', hP3, e1, e2, e3, hfoot, hK3⟩
  have HP3 := hid hP3
  have HF3 := hid hfoot
  have HK3 := hid hK3
  have HE := hid (And.intro e1 (And.intro e2 e3))
  clear hP3 hfoot hK3 e1 e2 e3
  have HFoot : Hid (∀ i, (DL.foot ⟨d.p, d.fv, .slice (some ⟨g, 0, none⟩) (S.ops.length + 1) cap, L'⟩ (S.wrote n s).waits i) → d.foot S.waits i ∨ w.heap.size ≤ i) := by
    rintro i (e | e | e)
    · exact .inl (.inl e)
    · obtain rfl : g = i := Option.some.inj e
      rcases HA.out with e | e
      · exact .inl (.inr (.inl e))
      · exact .inr (by omega)
    · rcases HF3.out i e with e | e
      · exact .inl (.inr (.inr e))
      · exact .inr (Nat.le_trans HK2.out.size e)
  have HKall : Hid (Keeps (d.foot S.waits) w w3) := (HK2.out.mono (fun i e => by rcases e with e | e; exact .inr (.inl e); exact .inl e)).trans HK3.out (fun i e => .inl (.inr (.inr e)))
  go_wp2
  go_end0
  refine ⟨rfl, ⟨d.p, d.fv, .slice (some ⟨g, 0, none⟩) (S.ops.length + 1) cap, L'⟩, ⟨?_, ?_, ?_, ?_, ?_⟩, rfl, rfl, ?_, ?_⟩
  · rw [HE.out.1, HE.out.2.1, HE.out.2.2]
    exact HK3.out.heap HP2.out H.out.p_off
  · have h2 := HK3.out.row HO2.out (fun i hi => by
      obtain ⟨cur, hc⟩ := row_type HO2.out hi
      exact HPL.out.foot_other hc (by decide))
    simpa [DiskS.wrote] using h2
  · simpa [DiskS.wrote] using HP3.out
  · obtain ⟨ad, c, e, hc, hn⟩ := H.out.first
    refine ⟨ad, c, e, fun j u hj => ?_, fun hf => ?_⟩
    · refine HK3.out.cell (HK2.out.cell (hc j u hj) ?_) ?_
      · rw [add_block]; rintro (e | e)
        · exact hn (.inr (.inl e))
        · exact hn (.inl e)
      · rw [add_block]; exact fun e => hn (.inr (.inr e))
    · have hlt0 : S.first.length ≠ 0 := by have := H.out.flen; have := H.out.plates.pos; omega
      have hltad : ad.block < w.heap.size := by
        have h00 := hc 0 (S.first[0]'(by omega)) (by simp)
        have := World.block_lt_of_cell? w _ h00
        rwa [add_block] at this
      exact hn (by rcases HFoot.out _ hf with e | e; exact e; omega)
  · exact H.out.flen
  · exact HFoot.out
  · exact HKall.out
end Go.Proofs.YtkkmbgjlmdddoabGreat
/- disk.Disk.Write: a sector that is written waits; a number of no sector, or other than 512 bytes, is refused. -/
namespace Go.Proofs.YtkkmbgjlmdddoabGreat
open Go.RowKit Go.Maps
/-- The bytes l lie from ad on. -/
def bytesAt (w : World) (ad : Addr) (l : List UInt8) : Prop := ∀ j (hj : j < l.length), w.cell? (ad.add j) = some (.int .u8 (l[j].toNat : Int))
set_option maxRecDepth 100000 in
set_option maxHeartbeats 1000000 in
theorem write_ok (d : DL) (S : DiskS) (n : Int) (l : List UInt8) (ad : Addr) (c : Nat) (w : World) (h : DiskIn w d S) (hB : S.ops.length < opsMax) (h0 : 0 ≤ n) (h1 : n < S.safe.length) (hl : l.length = 512) (hb : bytesAt w ad l) :
    Calls Tryz.prog 106 #[.pointer (some ⟨d.p, 0, none⟩), .int .i64 n, .slice (some ad) 512 c] w fun e w' => e = .returned (.int .i64 0) ∧
      ∃ d', DiskIn w' d' (S.wrote n ⟨l.toArray⟩) ∧ d'.p = d.p ∧ d'.fv = d.fv ∧ (∀ i, d'.foot (S.wrote n ⟨l.toArray⟩).waits i → d.foot S.waits i ∨ w.heap.size ≤ i) ∧ Keeps (d.foot S.waits) w w' := by
  have hcv := run_convert_bytes_back (P := Tryz.prog) w 57 116 5 ad c l Tryz.underlying57 Tryz.underlying5 Tryz.underlying116 hb
  rw [hl] at hcv
  have c2 : w.cell? ⟨d.p, 2, none⟩ = some (.slice (some ⟨d.L.g, 0, none⟩) S.safe.length d.L.cap) := by rw [cell_of_block h.heap]; rfl
  have HD := hid (decide_eq_true (And.intro h0 h1))
  have HC2 := hid c2
  have HN := hid (note_write d S n ⟨l.toArray⟩ w h hB h0 h1)
  clear hb hl h c2
  generalize hs : (⟨l.toArray⟩ : ByteArray) = s at *
  clear hs
  go_enter Tryz.func106, Tryz.ntmps106
  go_wp2_with fail
  refine (has_any d.p 2 _ _ _ _ _ HC2.out).mono ?_
  rintro e w9 ⟨rfl, h9⟩
  obtain rfl := h9.symm
  rw [HD.out]
  go_wp2_with fail
  refine HN.out.mono ?_
  rintro e w1 ⟨rfl, hq⟩
  have HQ := hid hq
  clear hq
  go_wp2
  go_ret
  exact ⟨rfl, HQ.out⟩
set_option maxRecDepth 100000 in
set_option maxHeartbeats 1000000 in
theorem write_no (d : DL) (S : DiskS) (n : Int) (a : Option Addr) (k c : Nat) (w : World) (h : DiskIn w d S) (h1 : ¬ (0 ≤ n ∧ n < S.safe.length)) :
    Calls Tryz.prog 106 #[.pointer (some ⟨d.p, 0, none⟩), .int .i64 n, .slice a k c] w fun e w' => e = .returned (.int .i64 2) ∧ w' = w := by
  have HC2 := hid (show w.cell? ⟨d.p, 2, none⟩ = some (.slice (some ⟨d.L.g, 0, none⟩) S.safe.length d.L.cap) by rw [cell_of_block h.heap]; rfl)
  have HD := hid (decide_eq_false h1)
  clear h h1
  go_enter Tryz.func106, Tryz.ntmps106
  go_wp2_with fail
  refine (has_any d.p 2 _ _ _ _ _ HC2.out).mono ?_
  rintro e w9 ⟨rfl, h9⟩
  obtain rfl := h9.symm
  rw [HD.out]
  go_wp2
  go_ret
  exact ⟨rfl, rfl⟩
set_option maxRecDepth 100000 in
set_option maxHeartbeats 1000000 in
theorem write_len (d : DL) (S : DiskS) (n : Int) (a : Option Addr) (k c : Nat) (w : World) (h : DiskIn w d S) (h0 : 0 ≤ n) (h1 : n < S.safe.length) (hk : k ≠ 512) :
    Calls Tryz.prog 106 #[.pointer (some ⟨d.p, 0, none⟩), .int .i64 n, .slice a k c] w fun e w' => e = .returned (.int .i64 3) ∧ w' = w := by
  have HC2 := hid (show w.cell? ⟨d.p, 2, none⟩ = some (.slice (some ⟨d.L.g, 0, none⟩) S.safe.length d.L.cap) by rw [cell_of_block h.heap]; rfl)
  have HD := hid (decide_eq_true (And.intro h0 h1))
  have hk' : ¬ ((k : Int) = 512) := by omega
  clear h
  go_enter Tryz.func106, Tryz.ntmps106
  go_wp2_with fail
  refine (has_any d.p 2 _ _ _ _ _ HC2.out).mono ?_
  rintro e w9 ⟨rfl, h9⟩
  obtain rfl := h9.symm
  rw [HD.out]
  go_wp2
  go_ret
  exact ⟨rfl, rfl⟩
/-- What Write answers. -/
def errW (S : DiskS) (n : Int) (l : List UInt8) : Int := if ¬ (0 ≤ n ∧ n < S.safe.length) then 2 else if l.length ≠ 512 then 3 else 0
/-- A disk behind Write. -/
def DiskS.put (S : DiskS) (n : Int) (l : List UInt8) : DiskS := if errW S n l = 0 then S.wrote n ⟨l.toArray⟩ else S
theorem put_safe (S : DiskS) (n : Int) (l : List UInt8) : (S.put n l).safe = S.safe := by unfold DiskS.put; split <;> rfl
theorem put_first (S : DiskS) (n : Int) (l : List UInt8) : (S.put n l).first = S.first := by unfold DiskS.put; split <;> rfl
theorem put_ops (S : DiskS) (n : Int) (l : List UInt8) : (S.put n l).ops.length ≤ S.ops.length + 1 := by unfold DiskS.put; split <;> simp [DiskS.wrote]
theorem write_any (d : DL) (S : DiskS) (n : Int) (l : List UInt8) (ad : Addr) (k c : Nat) (w : World) (h : DiskIn w d S) (hB : S.ops.length < opsMax) (hk : l.length = k) (hb : bytesAt w ad l) :
    Calls Tryz.prog 106 #[.pointer (some ⟨d.p, 0, none⟩), .int .i64 n, .slice (some ad) k c] w fun e w' => e = .returned (.int .i64 (errW S n l)) ∧
      ∃ d', DiskIn w' d' (S.put n l) ∧ d'.p = d.p ∧ d'.fv = d.fv ∧ (∀ i, d'.foot (S.put n l).waits i → d.foot S.waits i ∨ w.heap.size ≤ i) ∧ Keeps (d.foot S.waits) w w' := by
  by_cases hn : 0 ≤ n ∧ n < S.safe.length
  · by_cases hl : l.length = 512
    · have e0 : errW S n l = 0 := by rw [errW, if_neg (not_not_intro hn), if_neg (not_not_intro hl)]
      have e1 : S.put n l = S.wrote n ⟨l.toArray⟩ := by rw [DiskS.put, if_pos e0]
      rw [e0, e1]
      obtain rfl : k = 512 := by omega
      exact write_ok d S n l ad c w h hB hn.1 hn.2 hl hb
    · have e0 : errW S n l = 3 := by rw [errW, if_neg (not_not_intro hn), if_pos hl]
      have e1 : S.put n l = S := by rw [DiskS.put, if_neg (by rw [e0]; decide)]
      rw [e0, e1]
      refine (write_len d S n (some ad) k c w h hn.1 hn.2 (by omega)).mono ?_
      rintro e w' ⟨rfl, rfl⟩
      exact ⟨rfl, d, h, rfl, rfl, fun i hi => .inl hi, Keeps.refl _ _⟩
  · have e0 : errW S n l = 2 := by rw [errW, if_pos hn]
    have e1 : S.put n l = S := by rw [DiskS.put, if_neg (by rw [e0]; decide)]
    rw [e0, e1]
    refine (write_no d S n (some ad) k c w h hn).mono ?_
    rintro e w' ⟨rfl, rfl⟩
    exact ⟨rfl, d, h, rfl, rfl, fun i hi => .inl hi, Keeps.refl _ _⟩
end Go.Proofs.YtkkmbgjlmdddoabGreat
/- disk.New: a disk of sectors that are all 0, or none. -/
namespace Go.Proofs.YtkkmbgjlmdddoabGreat
open Go.RowKit
/-- A sector that is 0 everywhere. -/
def blankS : ByteArray := ⟨(Lib.repeatL [0] 512).toArray⟩
set_option maxRecDepth 100000 in
set_option maxHeartbeats 1000000 in
theorem new_ok (n : Nat) (h1 : 1 ≤ n) (hn : n ≤ 4096) (w : World) :
    Calls Tryz.prog 41 #[.int .i64 n] w fun e w' => ∃ p first, e = .returned (.tuple #[.pointer (some ⟨p, 0, none⟩), .int .i64 0]) ∧ (∃ b, first = .slice (some ⟨b, 0, none⟩) n n ∧ w.heap.size ≤ b ∧ w'.heap[b]? = some (.cells (List.replicate n (Value.string blankS)).toArray 116 (0, 0))) ∧ Fresh w w' p (List.replicate n (.string blankS)) first := by
  have hd : decide (1 ≤ (n : Int) ∧ (n : Int) ≤ 4096) = true := decide_eq_true ⟨by omega, by omega⟩
  have HD := hid hd
  clear hd
  go_enter Tryz.func41, Tryz.ntmps41
  go_wp2_with fail
  refine (isSize_any _ _).mono ?_
  rintro e w9 ⟨rfl, h9⟩
  obtain rfl := h9.symm
  rw [HD.out]
  go_wp2_with fail
  refine (Tryz.strings_Repeat ⟨#[0]⟩ 512 _ (by omega) (by decide)).mono ?_
  rintro e w1 ⟨rfl, hB1⟩
  have HB1 := hid hB1
  clear hB1
  go_wp2_with fail
  refine (repeat_one blankS w1.heap.size n h1 hn _ (by rw [cell_of_block (block_new w1 _)]; rfl)).mono ?_
  rintro e w2 ⟨rfl, hb2, hB2⟩
  have hz : (w1.alloc (.cells #[.string ⟨(Lib.repeatL [0] 512).toArray⟩] 116)).heap.size = w1.heap.size + 1 := by simp
  rw [hz] at hb2
  have HBa := hid ((HB1.out.alloc HB1.out.size (.cells #[.string ⟨(Lib.repeatL [0] 512).toArray⟩] 116)).trans (hB2.mono (HB1.out.alloc HB1.out.size _).size))
  have Hb2 := hid hb2
  have hl : (List.replicate n (Value.string blankS)).length = n := by simp
  have hmade := made_any (List.replicate n (Value.string blankS)) ⟨w1.heap.size + 1, 0, none⟩ n (by rw [hl]; omega) (by rw [hl]; exact hn) (by intro u hu; rw [List.eq_of_mem_replicate hu]; rfl) w2
    (fun j u hu => by rw [Addr.add_mid, Nat.zero_add, cell_of_block Hb2.out, List.getElem?_toArray]; exact hu)
  rw [hl] at hmade
  have HMade := hid hmade
  have HL := hid hl
  clear hB2 hb2 hmade hl hz
  go_wp2_with fail
  refine HMade.out.mono ?_
  rintro e w3 ⟨p, rfl, hF⟩
  have HF := hid hF
  clear hF
  go_wp2
  go_returns
  have hz1 := HBa.out.size
  have hz2 := HB1.out.size
  refine ⟨p, .slice (some ⟨w1.heap.size + 1, 0, none⟩) n n, rfl, ⟨w1.heap.size + 1, rfl, by omega, below_block HF.out.below Hb2.out (lt_of_heap Hb2.out)⟩, ?_⟩
  obtain ⟨⟨g, cap, m, f1, f2, f3, f4⟩, fn, fb⟩ := HF.out
  exact ⟨⟨g, cap, m, f1, by omega, f3, f4.mono hz1⟩, by omega, HBa.out.trans (fb.mono hz1)⟩
theorem new_bad (n : Int) (h : ¬ (1 ≤ n ∧ n ≤ 4096)) (w : World) : Calls Tryz.prog 41 #[.int .i64 n] w fun e w' => e = .returned (.tuple #[.pointer none, .int .i64 2]) ∧ w' = w := by
  have HD := hid (decide_eq_false h)
  go_enter Tryz.func41, Tryz.ntmps41
  go_wp2_with fail
  refine (isSize_any _ _).mono ?_
  rintro e w9 ⟨rfl, h9⟩
  obtain rfl := h9.symm
  rw [HD.out]
  go_wp2
  go_returns
  exact ⟨rfl, rfl⟩
end Go.Proofs.YtkkmbgjlmdddoabGreat
/- A disk as it is made lies in memory as DiskIn says; disk.New. -/
namespace Go.Proofs.YtkkmbgjlmdddoabGreat
open Go.RowKit Go.Maps
/-- A disk as it is made of sectors. -/
def freshS (xs : List ByteArray) : DiskS := ⟨xs, [], xs, fun _ => []⟩
theorem map_empty {w : World} {m : Nat} (h : w.heap[m]? = some (.map #[] 0)) : w.ownsMap Tryz.prog 3 selfElem m 0 (.map []) :=
  ⟨#[], 0, h, ⟨by simp, MapKept.stamped_empty 0, by simp⟩, Nat.le_refl _, rfl⟩
theorem fresh_disk {w0 w : World} {p : Nat} {xs : List ByteArray} {ad : Addr} {c : Nat} (h : Fresh w0 w p (strs xs) (.slice (some ad) (strs xs).length c)) (hpos : 0 < xs.length) (hmost : xs.length ≤ 4096) (had : ad.block < w0.heap.size)
    (hx : ∀ j u, (strs xs)[j]? = some u → w0.cell? (ad.add j) = some u) : ∃ d, DiskIn w d (freshS xs) ∧ d.p = p ∧ d.fv.ownBlock = some ad.block ∧ (∀ i, d.foot (freshS xs).waits i → w0.heap.size ≤ i) ∧ Below w0.heap.size w0 w := by
  obtain ⟨⟨g, cap, m, f1, f2, f3, f4⟩, fn, fb⟩ := h
  have hl : (strs xs).length = xs.length := by simp
  rw [hl] at f1 f4
  have hg := (f4.lt g rfl).1
  have hfoot : ∀ i, (DL.foot ⟨p, .slice (some ad) xs.length c, .slice none 0 0, ⟨g, cap, m, .map [], fun _ => 0, fun _ => 0⟩⟩ (freshS xs).waits i) → w0.heap.size ≤ i := by
    rintro i (e | e | e | e | ⟨n, hn, e⟩)
    · have e' : i = p := e; omega
    · simp [Value.ownBlock] at e
    · have e' : i = g := e; omega
    · have e' : i = m := e; omega
    · simp [freshS] at hn
  refine ⟨⟨p, .slice (some ad) xs.length c, .slice none 0 0, ⟨g, cap, m, .map [], fun _ => 0, fun _ => 0⟩⟩, ⟨f1, World.ownsRow_nil _ _ _ _, ?_, ?_, rfl⟩, rfl, rfl, hfoot, fb⟩
  · exact ⟨f4.mono (Nat.zero_le _), map_empty f3, fun _ _ => rfl, fun n hn => by simp [freshS] at hn, fun n hn => by simp [freshS] at hn, fun n hn => by simp [freshS] at hn, fun n hn => by simp [freshS] at hn, fun n n' hn => by simp [freshS] at hn, fun n => Nat.le_refl _, fun n hn => by simp [freshS] at hn, hpos, hmost⟩
  · refine ⟨ad, c, rfl, fun j s hj => ?_, fun hf => by have := hfoot _ hf; omega⟩
    have h0 := hx j (.string s) (by simpa [freshS] using hj)
    rw [fb.cell (by rw [add_block]; exact had)]
    exact h0
theorem strs_replicate (n : Nat) (s : ByteArray) : strs (List.replicate n s) = List.replicate n (Value.string s) := by simp [strs]
set_option maxRecDepth 100000 in
set_option maxHeartbeats 1000000 in
theorem new_disk (n : Nat) (h1 : 1 ≤ n) (hn : n ≤ 4096) (w : World) :
    Calls Tryz.prog 41 #[.int .i64 n] w fun e w' => ∃ d, e = .returned (.tuple #[.pointer (some ⟨d.p, 0, none⟩), .int .i64 0]) ∧ DiskIn w' d (freshS (List.replicate n blankS)) ∧ (∀ i, d.foot (freshS (List.replicate n blankS)).waits i → w.heap.size ≤ i) ∧ (∀ i, d.fv.ownBlock = some i → w.heap.size ≤ i) ∧ Below w.heap.size w w' := by
  have hd : decide (1 ≤ (n : Int) ∧ (n : Int) ≤ 4096) = true := decide_eq_true ⟨by omega, by omega⟩
  have HD := hid hd
  clear hd
  go_enter Tryz.func41, Tryz.ntmps41
  go_wp2_with fail
  refine (isSize_any _ _).mono ?_
  rintro e w9 ⟨rfl, h9⟩
  obtain rfl := h9.symm
  rw [HD.out]
  go_wp2_with fail
  refine (Tryz.strings_Repeat ⟨#[0]⟩ 512 _ (by omega) (by decide)).mono ?_
  rintro e w1 ⟨rfl, hB1⟩
  have HB1 := hid hB1
  clear hB1
  go_wp2_with fail
  refine (repeat_one blankS w1.heap.size n h1 hn _ (by rw [cell_of_block (block_new w1 _)]; rfl)).mono ?_
  rintro e w2 ⟨rfl, hb2, hB2⟩
  have hz : (w1.alloc (.cells #[.string ⟨(Lib.repeatL [0] 512).toArray⟩] 116)).heap.size = w1.heap.size + 1 := by simp
  rw [hz] at hb2
  have HBa := hid ((HB1.out.alloc HB1.out.size (.cells #[.string ⟨(Lib.repeatL [0] 512).toArray⟩] 116)).trans (hB2.mono (HB1.out.alloc HB1.out.size _).size))
  have Hb2 := hid hb2
  have hl : (List.replicate n (Value.string blankS)).length = n := by simp
  have hx : ∀ j u, (List.replicate n (Value.string blankS))[j]? = some u → w2.cell? ((⟨w1.heap.size + 1, 0, none⟩ : Addr).add j) = some u := fun j u hu => by rw [Addr.add_mid, Nat.zero_add, cell_of_block Hb2.out, List.getElem?_toArray]; exact hu
  have HX := hid hx
  have hmade := made_any (List.replicate n (Value.string blankS)) ⟨w1.heap.size + 1, 0, none⟩ n (by rw [hl]; omega) (by rw [hl]; exact hn) (by intro u hu; rw [List.eq_of_mem_replicate hu]; rfl) w2 HX.out
  rw [hl] at hmade
  have HMade := hid hmade
  have HL := hid hl
  clear hB2 hb2 hmade hl hz hx
  go_wp2_with fail
  refine HMade.out.mono ?_
  rintro e w3 ⟨p, rfl, hF⟩
  have HF := hid hF
  clear hF HMade
  go_wp2
  go_returns
  have hz1 := HBa.out.size
  have hz2 := HB1.out.size
  have hlt := lt_of_heap Hb2.out
  obtain ⟨d, e1, e2, e3, e4, e5⟩ := fresh_disk (w0 := w2) (w := w3) (p := p) (xs := List.replicate n blankS) (ad := ⟨w1.heap.size + 1, 0, none⟩) (c := n) (by
    have := HF.out
    rw [strs_replicate, HL.out]; exact this) (by simp; omega) (by simp; omega) hlt (by rw [strs_replicate]; exact HX.out)
  refine ⟨d, by rw [e2]; rfl, e1, fun i hi => Nat.le_trans hz1 (e4 i hi), fun i hi => ?_, HBa.out.trans (e5.mono hz1)⟩
  rw [e3] at hi
  have := Option.some.inj hi
  simp at this; omega
end Go.Proofs.YtkkmbgjlmdddoabGreat
/- plates.waiting: the sectors that wait, rising. -/
namespace Go.Proofs.YtkkmbgjlmdddoabGreat
open Go.RowKit Go.Maps Go.Sort Go.Shelf
/-- The sectors that wait, rising. -/
def waitKeys (waits : Int → List ByteArray) (N : Nat) : List Int := ((List.range N).map (fun k : Nat => (k : Int))).filter (fun k => !(waits k).isEmpty)
theorem mem_waitKeys {waits : Int → List ByteArray} {N : Nat} {k : Int} : k ∈ waitKeys waits N ↔ (0 ≤ k ∧ k < N ∧ waits k ≠ []) := by
  simp only [waitKeys, List.mem_filter, List.mem_map, List.mem_range]
  constructor
  · rintro ⟨⟨j, hj, rfl⟩, h⟩
    refine ⟨by omega, by omega, ?_⟩
    simpa using h
  · rintro ⟨h0, h1, h2⟩
    exact ⟨⟨k.toNat, by omega, by omega⟩, by simpa using h2⟩
theorem sorted_waitKeys (waits : Int → List ByteArray) (N : Nat) : (waitKeys waits N).Pairwise (fun a b => a < b) := by
  refine List.Pairwise.filter _ (List.pairwise_map.2 (List.pairwise_lt_range.imp (fun h => by omega)))
theorem sort_waitKeys (waits : Int → List ByteArray) (N : Nat) : (waitKeys waits N).mergeSort leI = waitKeys waits N :=
  List.mergeSort_of_pairwise ((sorted_waitKeys waits N).imp (fun h => by simp only [leI, decide_eq_true_eq]; omega))
theorem PlatesIn.keys {w : World} {L : PL} {safe : List ByteArray} {waits : Int → List ByteArray} {B : Nat} (h : PlatesIn w L safe waits B) {ss : List Int} (hs : ss.Perm (intKeys L.D)) : ss.mergeSort leI = waitKeys waits safe.length := by
  have hk : ∀ x, x ∈ waitKeys waits safe.length ↔ has L.D (.int .i64 x) = true := fun x => by
    rw [mem_waitKeys]
    constructor
    · rintro ⟨_, _, hx⟩; exact h.there x hx
    · intro hx
      have hne : waits x ≠ [] := fun e => by rw [h.absent x e] at hx; cases hx
      exact ⟨(h.dom x hne).1, (h.dom x hne).2, hne⟩
  obtain ⟨es, hD, hpw, _⟩ := h.mapOwn.entries (int_keyed Tryz.underlying3)
  obtain ⟨es', hD', hko⟩ := h.mapOwn.keysOf
  obtain rfl : es = es' := by rw [hD] at hD'; simpa using hD'
  have hp : (waitKeys waits safe.length).Perm (intKeys L.D) := by
    rw [hD] at hk ⊢
    exact perm_intKeys hpw (fun p hp => by obtain ⟨v, hv⟩ := hko p hp; obtain ⟨x, _, hx, _⟩ := Maps.keyOf_i64 Tryz.underlying3 hv; exact ⟨x, hx⟩) ((sorted_waitKeys _ _).imp (fun h => by omega)) hk
  rw [mergeSort_of_perm_i (hs.trans hp.symm), sort_waitKeys]
theorem sortsA (m : Nat) : AnyZI.SortsIn Tryz.prog Tryz.sortedA_ren Fence.wide m :=
  ⟨fun blk off cap ss W hH hblk hsz => callsIn_wide.2 (Tryz.slices_Sort_int blk off cap ss W hH hblk hsz),
   fun p cap W => callsIn_wide.2 (Tryz.slices_Sort_int_none p cap W)⟩
end Go.Proofs.YtkkmbgjlmdddoabGreat
/- disk.Disk.Waiting: the sectors that wait, and of each how many writes. -/
namespace Go.Proofs.YtkkmbgjlmdddoabGreat
open Go.RowKit Go.Maps
/-- Of each sector that waits how many of its writes do. -/
def waitCounts (waits : Int → List ByteArray) (N : Nat) : List Int := (waitKeys waits N).map (fun k => ((waits k).length : Int))
theorem infoInt : (Tryz.prog.info? 3).map (fun i => (i.zero, i.size, i.bytes)) = some (some (.int .i64 0), 1, 8) := by kernel_rfl
theorem length_waitKeys (waits : Int → List ByteArray) (N : Nat) : (waitKeys waits N).length ≤ N := by
  unfold waitKeys; exact Nat.le_trans (List.length_filter_le _ _) (by simp)
theorem counts_step (ks : List Int) (f : Int → Int) (k : Nat) (hk : k < ks.length) : ((ks.map f).take k).map encZ ++ [.int .i64 (f ks[k])] = ((ks.map f).take (k + 1)).map encZ := by
  have hk' : k < (ks.map f).length := by simpa using hk
  rw [List.take_succ_eq_append_getElem hk']
  simp
end Go.Proofs.YtkkmbgjlmdddoabGreat
/- disk.Disk.Crash: what a crash leaves. -/
namespace Go.Proofs.YtkkmbgjlmdddoabGreat
open Go.RowKit Go.Maps
/-- What is left, sector by sector, when of those that are named so many writes are kept. -/
def crashL (waits : Int → List ByteArray) (left : List ByteArray) (nk : List (Int × Int)) : List ByteArray :=
  nk.foldl (fun l p => if 0 < p.2 then l.set p.1.toNat ((waits p.1).getD (p.2.toNat - 1) ⟨#[]⟩) else l) left
theorem length_crashL (waits : Int → List ByteArray) : ∀ (nk : List (Int × Int)) (left : List ByteArray), (crashL waits left nk).length = left.length
  | [], _ => rfl
  | p :: r, left => by
    show (crashL waits (if 0 < p.2 then left.set p.1.toNat ((waits p.1).getD (p.2.toNat - 1) ⟨#[]⟩) else left) r).length = _
    rw [length_crashL waits r]
    split <;> simp
theorem crashL_step (waits : Int → List ByteArray) (left : List ByteArray) (nk : List (Int × Int)) (k : Nat) (h : k < nk.length) :
    crashL waits left (nk.take (k + 1)) = (fun l (p : Int × Int) => if 0 < p.2 then l.set p.1.toNat ((waits p.1).getD (p.2.toNat - 1) ⟨#[]⟩) else l) (crashL waits left (nk.take k)) nk[k] := by
  rw [List.take_succ_eq_append_getElem h, crashL, List.foldl_append]; rfl
/-- The numbers that a crash may have. -/
def goodKeep (waits : Int → List ByteArray) (N : Nat) (keep : List Int) : Prop :=
  keep.length ≤ (waitKeys waits N).length ∧ ∀ j (hj : j < keep.length) (hj' : j < (waitKeys waits N).length), 0 ≤ keep[j] ∧ keep[j] ≤ (waits (waitKeys waits N)[j]).length
theorem goodKeep_iff (waits : Int → List ByteArray) (N : Nat) (keep : List Int) : goodKeep waits N keep ↔ (keep.length ≤ (waitKeys waits N).length ∧ ∀ j (hj : j < keep.length) (hj' : j < (waitKeys waits N).length), 0 ≤ keep[j] ∧ keep[j] ≤ (waits (waitKeys waits N)[j]).length) := Iff.rfl
theorem row_slice {w : World} {base : Nat} {e : TypeId} {v : Value} {n : Nat} {xs : List Value} (h : w.ownsRow base e 1 v n xs) : ∃ sa cap, v = .slice sa n cap ∧ ∀ j, j < n → ∃ g, sa = some ⟨g, 0, none⟩ ∧ g < w.heap.size ∧ base ≤ g ∧ ∀ i, i < n → w.cell? ⟨g, i, none⟩ = xs[i]? := by
  rcases Nat.eq_zero_or_pos n with rfl | hn
  · rcases h.2 with ⟨rfl, _⟩ | ⟨g, cap, cur, rfl, _⟩
    · exact ⟨none, 0, rfl, fun j hj => by omega⟩
    · exact ⟨some ⟨g, 0, none⟩, cap, rfl, fun j hj => by omega⟩
  · obtain ⟨g, cap, rfl, h1, h2⟩ := h.form hn
    exact ⟨some ⟨g, 0, none⟩, cap, rfl, fun j hj => ⟨g, rfl, h2, h1, fun i hi => h.cellAt i (by omega)⟩⟩
end Go.Proofs.YtkkmbgjlmdddoabGreat
/- plates.seen, disk.Disk.Read: a sector as it was written last. -/
namespace Go.Proofs.YtkkmbgjlmdddoabGreat
open Go.RowKit Go.Maps
/-- A sector as it is read. -/
def seenS (safe : List ByteArray) (waits : Int → List ByteArray) (n : Int) : ByteArray := if waits n = [] then safe.getD n.toNat ⟨#[]⟩ else (waits n).getLastD ⟨#[]⟩
set_option maxRecDepth 100000 in
set_option maxHeartbeats 1000000 in
theorem seen_any (p : Nat) (L : PL) (safe : List ByteArray) (waits : Int → List ByteArray) (B : Nat) (n : Int) (w : World) (h2 : w.cell? ⟨p, 2, none⟩ = some (.slice (some ⟨L.g, 0, none⟩) safe.length L.cap)) (h3 : w.cell? ⟨p, 3, none⟩ = some (.map (some L.m))) (h : PlatesIn w L safe waits B) (h0 : 0 ≤ n) (h1 : n < safe.length) :
    Calls Tryz.prog 113 #[.pointer (some ⟨p, 2, none⟩), .int .i64 n] w fun e w' => e = .returned (.string (seenS safe waits n)) ∧ w' = w := by
  have hm := h.most
  have hlook := h.look n h0 h1 w rfl
  by_cases hn : waits n = []
  · rw [PL.rowV, if_pos hn] at hlook
    have hlt : n.toNat < safe.length := by omega
    have cn : w.cell? ⟨L.g, n.toNat, none⟩ = some (.string (safe.getD n.toNat ⟨#[]⟩)) := by
      rw [h.safeRow.cellAt n.toNat (by omega)]
      simp [hlt]
    have hs : seenS safe waits n = safe.getD n.toNat ⟨#[]⟩ := by rw [seenS, if_pos hn]
    rw [hs]
    generalize safe.getD n.toNat ⟨#[]⟩ = s at *
    clear h hs hn
    go_enter Tryz.func113, Tryz.ntmps113
    go_wp2
    go_ret
    exact ⟨rfl, rfl⟩
  · rw [PL.rowV, if_neg hn] at hlook
    have hpos : 0 < (waits n).length := List.length_pos_iff.2 hn
    have hdom := h.rows n hn
    have hmost : (waits n).length ≤ 9223372036854775807 := by
      obtain ⟨cur, _, h1, h2, _⟩ := row_block hdom
      unfold maxLen at h2; omega
    have cn : w.cell? ⟨L.row n, (waits n).length - 1, none⟩ = some (.string ((waits n).getLastD ⟨#[]⟩)) := by
      rw [hdom.cellAt _ (by omega)]
      rw [List.getElem?_map, ← List.getLast?_eq_getElem?, List.getLast?_eq_some_getLast hn]
      simp [List.getLastD_eq_getLast?, List.getLast?_eq_some_getLast hn]
    have hs : seenS safe waits n = (waits n).getLastD ⟨#[]⟩ := by rw [seenS, if_neg hn]
    rw [hs]
    generalize (waits n).getLastD ⟨#[]⟩ = s at *
    generalize hk : (waits n).length = k at *
    clear h hs hn hdom hk
    have k0 : (0 : Int) < (k : Int) := by omega
    have k1 : ((k : Int) - 1).toNat = k - 1 := by omega
    go_enter Tryz.func113, Tryz.ntmps113
    go_wp2
    go_ret
    exact ⟨rfl, rfl⟩
set_option maxRecDepth 100000 in
set_option maxHeartbeats 1000000 in
theorem read_ok_rd (d : DL) (S : DiskS) (n : Int) (w : World) (h : DiskRd w d S) (h0 : 0 ≤ n) (h1 : n < S.safe.length) :
    Calls Tryz.prog 90 #[.pointer (some ⟨d.p, 0, none⟩), .int .i64 n] w fun e w' => ∃ b c, e = .returned (.tuple #[.slice (some ⟨b, 0, none⟩) (seenS S.safe S.waits n).size c, .int .i64 0]) ∧ w.heap.size ≤ b ∧ bytesAt w' ⟨b, 0, none⟩ (seenS S.safe S.waits n).data.toList ∧ Below w.heap.size w w' := by
  have c2 : w.cell? ⟨d.p, 2, none⟩ = some (.slice (some ⟨d.L.g, 0, none⟩) S.safe.length d.L.cap) := by rw [cell_of_block h.heap]; rfl
  have c3 : w.cell? ⟨d.p, 3, none⟩ = some (.map (some d.L.m)) := by rw [cell_of_block h.heap]; rfl
  have HD := hid (decide_eq_true (And.intro h0 h1))
  have HC2 := hid c2
  have HS := hid (seen_any d.p d.L S.safe S.waits S.ops.length n w c2 c3 h.plates h0 h1)
  clear h c2 c3
  generalize seenS S.safe S.waits n = s at *
  have hconv := fun W => run_bytes_of_string (P := Tryz.prog) W 116 57 5 s Tryz.underlying116 Tryz.underlying57 Tryz.underlying5
  go_enter Tryz.func90, Tryz.ntmps90
  go_wp2_with fail
  refine (has_any d.p 2 _ _ _ _ _ HC2.out).mono ?_
  rintro e w9 ⟨rfl, h9⟩
  obtain rfl := h9.symm
  rw [HD.out]
  go_wp2_with fail
  refine HS.out.mono ?_
  rintro e w9 ⟨rfl, h9⟩
  obtain rfl := h9.symm
  go_wp2
  go_returns
  refine ⟨w.heap.size, grownCap w s.size 0 5, rfl, Nat.le_refl _, fun j hj => ?_, ((Below.refl _ w).alloc (Nat.le_refl _) _).drew⟩
  have hj' : j < s.data.size := by simpa using hj
  rw [Addr.add_mid, Nat.zero_add]
  refine (cell_of_block (block_new w _) j).trans ?_
  rw [bytesRow_at s _ j hj']
  simp
theorem read_ok (d : DL) (S : DiskS) (n : Int) (w : World) (h : DiskIn w d S) (h0 : 0 ≤ n) (h1 : n < S.safe.length) :
    Calls Tryz.prog 90 #[.pointer (some ⟨d.p, 0, none⟩), .int .i64 n] w fun e w' => ∃ b c, e = .returned (.tuple #[.slice (some ⟨b, 0, none⟩) (seenS S.safe S.waits n).size c, .int .i64 0]) ∧ w.heap.size ≤ b ∧ bytesAt w' ⟨b, 0, none⟩ (seenS S.safe S.waits n).data.toList ∧ Below w.heap.size w w' :=
  read_ok_rd d S n w h.rd h0 h1
set_option maxRecDepth 100000 in
set_option maxHeartbeats 1000000 in
theorem read_no_rd (d : DL) (S : DiskS) (n : Int) (w : World) (h : DiskRd w d S) (h1 : ¬ (0 ≤ n ∧ n < S.safe.length)) :
    Calls Tryz.prog 90 #[.pointer (some ⟨d.p, 0, none⟩), .int .i64 n] w fun e w' => e = .returned (.tuple #[.slice none 0 0, .int .i64 2]) ∧ w' = w := by
  have HC2 := hid (show w.cell? ⟨d.p, 2, none⟩ = some (.slice (some ⟨d.L.g, 0, none⟩) S.safe.length d.L.cap) by rw [cell_of_block h.heap]; rfl)
  have HD := hid (decide_eq_false h1)
  clear h h1
  go_enter Tryz.func90, Tryz.ntmps90
  go_wp2_with fail
  refine (has_any d.p 2 _ _ _ _ _ HC2.out).mono ?_
  rintro e w9 ⟨rfl, h9⟩
  obtain rfl := h9.symm
  rw [HD.out]
  go_wp2
  go_returns
  exact ⟨rfl, rfl⟩
theorem read_no (d : DL) (S : DiskS) (n : Int) (w : World) (h : DiskIn w d S) (h1 : ¬ (0 ≤ n ∧ n < S.safe.length)) :
    Calls Tryz.prog 90 #[.pointer (some ⟨d.p, 0, none⟩), .int .i64 n] w fun e w' => e = .returned (.tuple #[.slice none 0 0, .int .i64 2]) ∧ w' = w :=
  read_no_rd d S n w h.rd h1
end Go.Proofs.YtkkmbgjlmdddoabGreat
/- The bytes of a deed: so many, all of one kind. -/
namespace Go.Proofs.YtkkmbgjlmdddoabGreat
open Go.RowKit
/-- How many bytes a deed has. -/
def deedLen (l : Int) : Nat := if 0 ≤ l ∧ l ≤ 600 then l.toNat else 512
theorem infoU8 : (Tryz.prog.info? 5).map (fun i => (i.zero, i.size, i.bytes)) = some (some (.int .u8 0), 1, 1) := by kernel_rfl
theorem madeU8 (n : Nat) : madeCells (Value.int .u8 0).cells (n * 1) = (List.replicate n (Value.int .u8 0)).toArray := by
  apply Array.ext
  · simp [madeCells]
  · intro i h1 h2
    simp [madeCells, Value.cells, Nat.mod_one]
theorem wpList_make_u8 {w : World} {ops : Array Oper} {rest : List Oper} {o : Oper} {a : Act} {Q : Exit → Act → World → Prop} (hg : o.guard = none) (l c : Operand) (hop : o.op = Op.makeSlice 57 l c)
    (n : Nat) (x : Int) (hx : x = n) (hl : a.eval l = .int .i64 x) (hc : a.eval c = .int .i64 x) (hm : n ≤ 4096)
    (h : ∀ w1 : World, Below w.heap.size w w1 → w1.heap[w.heap.size]? = some (.cells (List.replicate n (Value.int .u8 0)).toArray 5 (0, 0)) → w1.heap.size = w.heap.size + 1 →
      wpList Tryz.prog ops Q rest (a.put o.dst (.slice (some ⟨w.heap.size, 0, none⟩) n n)) w1) : wpList Tryz.prog ops Q (o :: rest) a w := by
  subst hx
  obtain ⟨i, hi, hz, hs, hb⟩ := info_parts infoU8
  refine wpList_plain hg fun K hK' => ?_
  have hrun := run_make (P := Tryz.prog) w 57 5 i (.int .u8 0) Tryz.underlying57 hi hz .i64 .i64 n n (by omega) (by omega) (by rw [hb]; omega) (by omega)
  unfold Oper.wp
  simp only [Int.toNat_natCast, hs, madeU8] at hrun
  generalize (List.replicate n (Value.int .u8 0)).toArray = Z at *
  simp [execOp, hop, hl, hc, hrun, Result.andThen]
  exact hK' _ _ (h _ ((Below.refl _ _).alloc (Nat.le_refl _) _) (block_new _ _) (by simp))
theorem filled_set (x y : Value) (n k : Nat) (h : k < n) : (filled x y n k).set k x = filled x y n (k + 1) := by
  unfold filled
  rw [List.set_append_right _ _ (by simp)]
  have e : n - k = (n - (k + 1)) + 1 := by omega
  rw [e, List.replicate_succ]
  simp [List.replicate_succ', List.append_assoc]
end Go.Proofs.YtkkmbgjlmdddoabGreat
/- live answers true. -/
namespace Go.Proofs.YtkkmbgjlmdddoabGreat
open Go.RowKit Go.Maps
/-- So many bytes of one kind. -/
def fullS (n : Nat) (x : Int) : List UInt8 := List.replicate n (UInt8.ofNat x.toNat)
theorem bytes_full {w : World} {g n : Nat} {x : Int} {t : TypeId} {fr : Nat × Nat} (h : w.heap[g]? = some (.cells (List.replicate n (Value.int .u8 x)).toArray t fr)) (h0 : 0 ≤ x) (h1 : x ≤ 255) : bytesAt w ⟨g, 0, none⟩ (fullS n x) := by
  intro j hj
  have hj' : j < n := by simpa [fullS] using hj
  rw [Addr.add_mid, Nat.zero_add, cell_of_block h]
  have e : ((UInt8.ofNat x.toNat).toNat : Int) = x := by
    rw [UInt8.toNat_ofNat_of_lt' (by simp [UInt8.size]; omega)]; omega
  have e2 : (fullS n x)[j] = UInt8.ofNat x.toNat := by simp [fullS]
  rw [e2, e]
  simp [hj']
theorem length_full (n : Nat) (x : Int) : (fullS n x).length = n := by simp [fullS]
theorem deedLen512 : deedLen 512 = 512 := by decide
theorem Keeps.thenBelow {F : Nat → Prop} {a b : World} {K : Nat} {w : World} (hb : Below K w a) (h : Keeps F a b) (hK : K ≤ w.heap.size) (hF : ∀ i, F i → K ≤ i) : Below K w b := hb.trans (h.below (Nat.le_trans hK hb.size) hF)
def liveS : DiskS := ((freshS (List.replicate 2 blankS)).wrote 1 ⟨(fullS 512 7).toArray⟩).wrote 1 ⟨(fullS 512 8).toArray⟩
theorem put_live1 : (freshS (List.replicate 2 blankS)).put 1 (fullS 512 7) = (freshS (List.replicate 2 blankS)).wrote 1 ⟨(fullS 512 7).toArray⟩ := by
  rw [DiskS.put, if_pos]; simp [errW, freshS, length_full]
theorem put_live2 : ((freshS (List.replicate 2 blankS)).put 1 (fullS 512 7)).put 1 (fullS 512 8) = liveS := by
  rw [put_live1, DiskS.put, if_pos]
  · rfl
  · simp [errW, freshS, length_full, DiskS.wrote]
theorem liveS_waits : liveS.waits 1 = [⟨(fullS 512 7).toArray⟩, ⟨(fullS 512 8).toArray⟩] := by
  simp [liveS, DiskS.wrote, upd, freshS]
theorem liveS_keys : waitKeys liveS.waits 2 = [1] := by
  simp [waitKeys, List.range_succ, liveS, DiskS.wrote, upd, freshS]
theorem liveS_counts : waitCounts liveS.waits 2 = [2] := by
  rw [waitCounts, liveS_keys]; simp [liveS_waits]
theorem liveS_good : goodKeep liveS.waits 2 [1] := by
  rw [goodKeep_iff, liveS_keys]
  refine ⟨by simp, fun j hj hj' => ?_⟩
  obtain rfl : j = 0 := by simp at hj; omega
  simp [liveS_waits]
theorem liveS_crash : crashL liveS.waits liveS.safe ([1].zip [1]) = [blankS, ⟨(fullS 512 7).toArray⟩] := by
  have h2 : liveS.safe = [blankS, blankS] := rfl
  rw [h2]
  simp [crashL, liveS_waits]
end Go.Proofs.YtkkmbgjlmdddoabGreat
/- dunnageref01.SameInts, SameBytes: do two lists hold the same? -/
namespace Go.Proofs.YtkkmbgjlmdddoabGreat
open Go.RowKit
theorem below_drewN' {K : Nat} {w w' : World} (h : Below K w w') (n : Nat) : Below K w (w'.drewN n) := ⟨h.os, h.tape, h.output, h.size, h.block⟩
/-- The numbers xs lie where the slice points. -/
def intsAt (w : World) (a : Option Addr) (xs : List Int) : Prop := ∀ j, j < xs.length → ∃ b o, a = some ⟨b, o, none⟩ ∧ ∀ i (hi : i < xs.length), w.cell? ⟨b, o + i, none⟩ = some (.int .i64 xs[i])
/-- The bytes l lie where the slice points. -/
def bytesIn (w : World) (a : Option Addr) (l : List UInt8) : Prop := ∀ j, j < l.length → ∃ b o, a = some ⟨b, o, none⟩ ∧ ∀ i (hi : i < l.length), w.cell? ⟨b, o + i, none⟩ = some (.int .u8 (l[i].toNat : Int))
theorem intsAt.below {w w' : World} {a : Option Addr} {xs : List Int} (h : intsAt w a xs) (hb : Below w.heap.size w w') : intsAt w' a xs := fun j hj => by
  obtain ⟨b, o, e, hc⟩ := h j hj
  exact ⟨b, o, e, fun i hi => by rw [hb.cell (p := ⟨b, o + i, none⟩) (World.block_lt_of_cell? w _ (hc i hi))]; exact hc i hi⟩
theorem bytesIn.below {w w' : World} {a : Option Addr} {l : List UInt8} (h : bytesIn w a l) (hb : Below w.heap.size w w') : bytesIn w' a l := fun j hj => by
  obtain ⟨b, o, e, hc⟩ := h j hj
  exact ⟨b, o, e, fun i hi => by rw [hb.cell (p := ⟨b, o + i, none⟩) (World.block_lt_of_cell? w _ (hc i hi))]; exact hc i hi⟩
/-- A row of numbers of one's own. -/
theorem ints_of_row {w : World} {base : Nat} {e : TypeId} {v : Value} {xs : List Int} (h : w.ownsRow base e 1 v xs.length (xs.map encZ)) : ∃ a c, v = .slice a xs.length c ∧ intsAt w a xs := by
  obtain ⟨sa, cap, rfl, hs⟩ := row_slice h
  refine ⟨sa, cap, rfl, fun j hj => ?_⟩
  obtain ⟨g, e, _, _, hc⟩ := hs j hj
  exact ⟨g, 0, e, fun i hi => by rw [Nat.zero_add, hc i hi]; simp [hi]⟩
theorem take_next {α : Type} {a b : List α} {k : Nat} (ha : k < a.length) (hb : k < b.length) (h : a.take k = b.take k) (hx : a[k] = b[k]) : a.take (k + 1) = b.take (k + 1) := by
  rw [List.take_succ_eq_append_getElem ha, List.take_succ_eq_append_getElem hb, h, hx]
theorem toNat_u8_inj {x y : UInt8} (h : (x.toNat : Int) = (y.toNat : Int)) : x = y := UInt8.toNat_inj.1 (by omega)
end Go.Proofs.YtkkmbgjlmdddoabGreat
/- disk.Same: are two disks read alike? -/
namespace Go.Proofs.YtkkmbgjlmdddoabGreat
open Go.RowKit
theorem toList_ne {s t : ByteArray} (h : ¬ s = t) : (s.toList == t.toList) = false := by
  rw [beq_eq_false_iff_ne]
  intro e
  rw [ByteArray.toList_eq, ByteArray.toList_eq] at e
  exact h (WideShapes.bytes_inj e)
/-- All sectors as they are read. -/
def imgS (S : DiskS) : List ByteArray := (List.range S.safe.length).map (fun n : Nat => seenS S.safe S.waits (n : Int))
theorem length_imgS (S : DiskS) : (imgS S).length = S.safe.length := by simp [imgS]
theorem imgS_at (S : DiskS) (k : Nat) (h : k < (imgS S).length) : (imgS S)[k] = seenS S.safe S.waits (k : Int) := by simp [imgS]
end Go.Proofs.YtkkmbgjlmdddoabGreat
/- Two disks beside one another, and two variables: what is written to one disk leaves all else alone. Writes to unlike sectors may be done in any order. -/
namespace Go.Proofs.YtkkmbgjlmdddoabGreat
open Go.RowKit
theorem DiskIn.fv_lt {w : World} {d : DL} {S : DiskS} (h : DiskIn w d S) {i : Nat} (hi : d.fv.ownBlock = some i) : i < w.heap.size := by
  obtain ⟨ad, c, e, hc, _⟩ := h.first
  have hpos : 0 < S.first.length := by rw [h.flen]; exact h.plates.pos
  have := World.block_lt_of_cell? w _ (hc 0 (S.first[0]) (by simp [hpos]))
  rw [add_block] at this
  rw [e] at hi
  obtain rfl : ad.block = i := Option.some.inj hi
  exact this
theorem below_undrew {K : Nat} {w w' : World} (h : Below K w.drew w') : Below K w w' := ⟨h.os, h.tape, h.output, h.size, h.block⟩
variable {w0 w wa wb : World} {bx bY : Nat} {X Y : Array Value} {d1 d2 d1' : DL} {S1 S2 S1' : DiskS}
theorem upd_comm (f : Int → List ByteArray) {n m : Int} (h : n ≠ m) (a b : List ByteArray) : upd (upd f n a) m b = upd (upd f m b) n a := by
  funext k
  unfold upd
  by_cases h1 : k = m
  · have h2 : ¬ k = n := fun e => h (e.symm.trans h1)
    simp [h1, Ne.symm h]
  · simp [h1]
theorem errW_put (S : DiskS) (n m : Int) (a b : List UInt8) : errW (S.put n a) m b = errW S m b := by unfold errW; rw [put_safe]
theorem put_waits (S : DiskS) (n : Int) (a : List UInt8) : (S.put n a).waits = if errW S n a = 0 then upd S.waits n (S.waits n ++ [⟨a.toArray⟩]) else S.waits := by
  unfold DiskS.put; split <;> rfl
/-- Writes to unlike sectors may be done in any order. -/
theorem put_comm (S : DiskS) {n m : Int} (h : n ≠ m) (a b : List UInt8) : ((S.put n a).put m b).waits = ((S.put m b).put n a).waits ∧ ((S.put n a).put m b).safe = ((S.put m b).put n a).safe := by
  refine ⟨?_, by simp only [put_safe]⟩
  rw [put_waits, put_waits, put_waits, put_waits, errW_put, errW_put]
  by_cases e1 : errW S n a = 0 <;> by_cases e2 : errW S m b = 0
  · simp only [e1, e2, if_true]
    rw [upd_other _ _ (Ne.symm h), upd_other _ _ h]
    exact upd_comm _ h _ _
  · simp [e1, e2]
  · simp [e1, e2]
  · simp [e1, e2]
theorem put_comm_told (S : DiskS) {n m : Int} (h : n ≠ m) (a b : List UInt8) : imgS ((S.put n a).put m b) = imgS ((S.put m b).put n a) ∧
    waitKeys ((S.put n a).put m b).waits ((S.put n a).put m b).safe.length = waitKeys ((S.put m b).put n a).waits ((S.put m b).put n a).safe.length ∧
    waitCounts ((S.put n a).put m b).waits ((S.put n a).put m b).safe.length = waitCounts ((S.put m b).put n a).waits ((S.put m b).put n a).safe.length := by
  obtain ⟨h1, h2⟩ := put_comm S h a b
  refine ⟨?_, ?_, ?_⟩
  · unfold imgS; rw [h1, h2]
  · rw [h1, h2]
  · rw [h1, h2]
end Go.Proofs.YtkkmbgjlmdddoabGreat
/- disk.Disk.Image, Safe: all sectors as they are read, and as they were flushed. -/
namespace Go.Proofs.YtkkmbgjlmdddoabGreat
open Go.RowKit
/-- Rows of bytes lie where the slice points. -/
def rowsAt (w : World) (a : Option Addr) (L : List (List UInt8)) : Prop := ∀ j, j < L.length → ∃ b o, a = some ⟨b, o, none⟩ ∧ ∀ i (hi : i < L.length), ∃ a' c', w.cell? ⟨b, o + i, none⟩ = some (.slice a' (L[i]).length c') ∧ bytesIn w a' L[i]
theorem rowsAt.below {w w' : World} {a : Option Addr} {L : List (List UInt8)} (h : rowsAt w a L) (hb : Below w.heap.size w w') : rowsAt w' a L := fun j hj => by
  obtain ⟨b, o, e, hc⟩ := h j hj
  refine ⟨b, o, e, fun i hi => ?_⟩
  obtain ⟨a', c', h1, h2⟩ := hc i hi
  exact ⟨a', c', by rw [hb.cell (p := ⟨b, o + i, none⟩) (World.block_lt_of_cell? w _ h1)]; exact h1, h2.below hb⟩
/-- Such rows, whose blocks were made since lo. -/
def rowsFrom (w : World) (lo : Nat) (a : Option Addr) (L : List (List UInt8)) : Prop := ∀ j, j < L.length → ∃ b o, a = some ⟨b, o, none⟩ ∧ lo ≤ b ∧ ∀ i (hi : i < L.length), ∃ a' c', w.cell? ⟨b, o + i, none⟩ = some (.slice a' (L[i]).length c') ∧ bytesIn w a' L[i] ∧ ∀ ad, a' = some ad → lo ≤ ad.block
theorem rowsFrom.at {w : World} {lo : Nat} {a : Option Addr} {L : List (List UInt8)} (h : rowsFrom w lo a L) : rowsAt w a L := fun j hj => by
  obtain ⟨b, o, e, _, hc⟩ := h j hj
  exact ⟨b, o, e, fun i hi => by obtain ⟨a', c', h1, h2, _⟩ := hc i hi; exact ⟨a', c', h1, h2⟩⟩
theorem rowsFrom.keep {w w' : World} {lo : Nat} {a : Option Addr} {L : List (List UInt8)} {G : Nat → Prop} (h : rowsFrom w lo a L) (k : Keeps G w w') (hG : ∀ i, G i → i < lo) : rowsFrom w' lo a L := fun j hj => by
  obtain ⟨b, o, e, hb, hc⟩ := h j hj
  refine ⟨b, o, e, hb, fun i hi => ?_⟩
  obtain ⟨a', c', h1, h2, h3⟩ := hc i hi
  refine ⟨a', c', k.cell h1 (fun e => by have e2 := hG b e; omega), fun q hq => ?_, h3⟩
  obtain ⟨b2, o2, e2, hc2⟩ := h2 q hq
  exact ⟨b2, o2, e2, fun z hz => k.cell (hc2 z hz) (fun e => by have := hG b2 e; have := h3 _ e2; simp at this; omega)⟩
theorem rowsFrom.below {w w' : World} {lo : Nat} {a : Option Addr} {L : List (List UInt8)} (h : rowsFrom w lo a L) (hb : Below w.heap.size w w') : rowsFrom w' lo a L := h.keep (G := fun _ => False) (Keeps.of_below hb) (fun _ e => e.elim)
theorem bytesIn_of_at {w : World} {b : Nat} {l : List UInt8} (h : bytesAt w ⟨b, 0, none⟩ l) : bytesIn w (some ⟨b, 0, none⟩) l := fun _ _ => ⟨b, 0, rfl, fun i hi => by
  have := h i hi
  rwa [Addr.add_mid] at this⟩
/-- The bytes of sectors. -/
def bytesOf (L : List ByteArray) : List (List UInt8) := L.map (fun s => s.data.toList)
theorem length_bytesOf (L : List ByteArray) : (bytesOf L).length = L.length := by simp [bytesOf]
theorem infoRow : (Tryz.prog.info? 57).map (fun i => (i.zero, i.size, i.bytes)) = some (some (.slice none 0 0), 1, 24) := by kernel_rfl
theorem madeRow (n : Nat) : madeCells (Value.slice none 0 0).cells (n * 1) = (List.replicate n (Value.slice none 0 0)).toArray := by
  apply Array.ext
  · simp [madeCells]
  · intro i h1 h2
    simp [madeCells, Value.cells, Nat.mod_one]
/-- The first k rows have been laid. -/
def rowsTo (w : World) (g : Nat) (L : List ByteArray) (k : Nat) (vs : List Value) : Prop := vs.length = L.length ∧ w.heap[g]? = some (.cells vs.toArray 57 (0, 0)) ∧
  ∀ i (hi : i < L.length), i < k → ∃ bi c, vs[i]? = some (.slice (some ⟨bi, 0, none⟩) (L[i]).size c) ∧ g < bi ∧ bytesAt w ⟨bi, 0, none⟩ (L[i]).data.toList
theorem rowsTo_end {w : World} {g : Nat} {L : List ByteArray} {vs : List Value} (h : rowsTo w g L L.length vs) : rowsFrom w g (some ⟨g, 0, none⟩) (bytesOf L) := fun j hj => ⟨g, 0, rfl, Nat.le_refl _, fun i hi => by
  have hi' : i < L.length := by simpa [bytesOf] using hi
  obtain ⟨bi, c, h1, hgb, h3⟩ := h.2.2 i hi' hi'
  refine ⟨some ⟨bi, 0, none⟩, c, ?_, ?_, fun ad e => by rw [← Option.some.inj e]; exact Nat.le_of_lt hgb⟩
  · rw [Nat.zero_add, cell_of_block h.2.1, List.getElem?_toArray, h1]
    simp [bytesOf]
  · have := bytesIn_of_at h3
    simpa [bytesOf] using this⟩
/-- One row more: its bytes lie in a new block. -/
theorem rowsTo_step {w : World} {g : Nat} {L : List ByteArray} {k c : Nat} {vs : List Value} (h : rowsTo w g L k vs) (hk : k < L.length) (fr : Nat × Nat) (C : Array Value) (hC : ∀ j (hj : j < (L[k]).data.toList.length), C[j]? = some (.int .u8 ((L[k]).data.toList[j].toNat : Int))) :
    rowsTo ((w.setCell ⟨g, k, none⟩ (.slice (some ⟨w.heap.size, 0, none⟩) (L[k]).size c)).alloc (.cells C 5 fr)) g L (k + 1) (vs.set k (.slice (some ⟨w.heap.size, 0, none⟩) (L[k]).size c)) := by
  have hg := lt_of_heap h.2.1
  have hsz : (w.setCell ⟨g, k, none⟩ (.slice (some ⟨w.heap.size, 0, none⟩) (L[k]).size c)).heap.size = w.heap.size := by simp [World.setCell]
  refine ⟨by simpa using h.1, ?_, fun i hi hik => ?_⟩
  · have := block_alloc (block_setCell h.2.1 k (.slice (some ⟨w.heap.size, 0, none⟩) (L[k]).size c)) (.cells C 5 fr)
    rwa [List.setIfInBounds_toArray] at this
  · by_cases e : i = k
    · subst e
      refine ⟨w.heap.size, c, by simp [h.1, hi], hg, fun j hj => ?_⟩
      rw [Addr.add_mid, Nat.zero_add]
      have hn := block_new (w.setCell ⟨g, i, none⟩ (.slice (some ⟨w.heap.size, 0, none⟩) (L[i]).size c)) (.cells C 5 fr)
      rw [hsz] at hn
      rw [cell_of_block hn]
      exact hC j hj
    · obtain ⟨bi, c', h1, h2, h3⟩ := h.2.2 i hi (by omega)
      refine ⟨bi, c', by rw [List.getElem?_set_ne (by omega)]; exact h1, h2, fun j hj => ?_⟩
      have h4 := h3 j hj
      rw [Addr.add_mid] at h4 ⊢
      have hlt := World.block_lt_of_cell? w _ h4
      refine (World.cell?_of_block (w := w) ?_).trans h4
      rw [Below.heap_alloc _ _ _ (by rw [hsz]; exact hlt), block_setCell_other _ _ (show bi ≠ g by omega)]
theorem bytesRow_cells (s : ByteArray) (cap : Nat) : ∀ j (hj : j < s.data.toList.length), (bytesRow s cap)[j]? = some (.int .u8 (s.data.toList[j].toNat : Int)) := fun j hj => by
  rw [bytesRow_at s cap j (by simpa using hj)]; simp
end Go.Proofs.YtkkmbgjlmdddoabGreat
/- plates.do at a flush, disk.Disk.Flush: what is read is safe, nothing waits. -/
namespace Go.Proofs.YtkkmbgjlmdddoabGreat
open Go.RowKit Go.Maps
/-- What is safe when some sectors are still to come. -/
def mixS (safe : List ByteArray) (waits : Int → List ByteArray) (left : Lit → Bool) : List ByteArray :=
  (List.range safe.length).map (fun n : Nat => if left (.int .i64 (n : Int)) then safe.getD n ⟨#[]⟩ else seenS safe waits (n : Int))
theorem length_mixS (safe : List ByteArray) (waits : Int → List ByteArray) (left : Lit → Bool) : (mixS safe waits left).length = safe.length := by simp [mixS]
theorem mixS_start {w : World} {L : PL} {safe : List ByteArray} {waits : Int → List ByteArray} {B : Nat} (h : PlatesIn w L safe waits B) : mixS safe waits (Maps.has L.D) = safe := by
  apply List.ext_getElem (length_mixS _ _ _)
  intro n h1 h2
  simp only [mixS, List.getElem_map, List.getElem_range]
  by_cases hw : waits (n : Int) = []
  · rw [h.absent _ hw]; simp [seenS, hw, h2]
  · rw [h.there _ hw]; simp [h2]
theorem mixS_end (safe : List ByteArray) (waits : Int → List ByteArray) (left : Lit → Bool) (h : ∀ kl, left kl = false) : mixS safe waits left = (List.range safe.length).map (fun n : Nat => seenS safe waits (n : Int)) := by
  unfold mixS
  refine List.map_congr_left (fun n _ => ?_)
  rw [h]; rfl
theorem mixS_step (safe : List ByteArray) (waits : Int → List ByteArray) (left : Lit → Bool) (x : Int) (h0 : 0 ≤ x) :
    mixS safe waits (fun z => left z && !z.sameKey (.int .i64 x)) = (mixS safe waits left).set x.toNat (seenS safe waits x) := by
  apply List.ext_getElem (by simp [length_mixS])
  intro n h1 h2
  rw [List.getElem_set]
  simp only [mixS, List.getElem_map, List.getElem_range]
  by_cases e : x.toNat = n
  · have ex : (n : Int) = x := by omega
    rw [if_pos e, ex]
    simp [Lit.sameKey]
  · have ex : ¬ (n : Int) = x := by omega
    rw [if_neg e]
    simp [Lit.sameKey, ex]
theorem seen_mix (safe : List ByteArray) (waits : Int → List ByteArray) (other : List ByteArray) (x : Int) (h : waits x ≠ []) : seenS other waits x = seenS safe waits x := by
  simp [seenS, h]
theorem PlatesIn.store {w : World} {L : PL} {safe : List ByteArray} {waits : Int → List ByteArray} {B : Nat} (h : PlatesIn w L safe waits B) (k : Nat) (s : ByteArray) : PlatesIn (w.setCell ⟨L.g, k, none⟩ (.string s)) L (safe.set k s) waits B := by
  obtain ⟨es, mc, hmb⟩ := map_block h.mapOwn
  obtain ⟨gc, hgb, _⟩ := row_block h.safeRow
  have hmg : L.m ≠ L.g := fun e => by rw [e, hgb] at hmb; cases hmb
  obtain ⟨h1, h2⟩ := h.safeRow.stored k (.string s)
  have K : Keeps (fun i => i = L.g) w (w.setCell ⟨L.g, k, none⟩ (.string s)) := Keeps.of_grown h2 (fun i e => (Option.some.inj e).symm)
  have hl : (safe.set k s).length = safe.length := by simp
  refine ⟨?_, K.map h.mapOwn hmg, h.absent, h.there, h.held, fun n hn => K.row (h.rows n hn) (fun i hi => by rw [← Option.some.inj hi]; exact h.off n hn), h.off, h.apart, h.len, fun n hn => by rw [hl]; exact h.dom n hn, by rw [hl]; exact h.pos, by rw [hl]; exact h.most⟩
  rw [hl]
  simpa [strs, List.map_set] using h1
theorem PlatesIn.moreB {w : World} {L : PL} {safe : List ByteArray} {waits : Int → List ByteArray} {B B' : Nat} (h : PlatesIn w L safe waits B) (hB : B ≤ B') : PlatesIn w L safe waits B' :=
  ⟨h.safeRow, h.mapOwn.mono hB, h.absent, h.there, h.held, h.rows, h.off, h.apart, fun n => Nat.le_trans (h.len n) hB, h.dom, h.pos, h.most⟩
theorem run_clear {w : World} {m : Nat} {es : Array MapEntry} {clock : Nat} (hb : w.heap[m]? = some (.map es clock)) : ∃ w', (∀ ty, (Builtin.clear_ #[148] ty #[.map (some m)]).run Tryz.prog w = .ok (.tuple #[]) w') ∧ w'.heap[m]? = some (.map #[] clock) ∧ w.grownBy w' (some m) := by
  refine ⟨{ w with heap := w.heap.setIfInBounds m (.map #[] clock) }, fun ty => ?_, ?_, ⟨rfl, rfl, rfl, by simp, fun k _ hk => ?_⟩⟩
  · simp [Builtin.clear_, run_underlying Tryz.underlying148, MapKept.run_getObj_map hb, MapKept.run_setObj_map _ hb, Result.andThen]
  · simp [lt_of_heap hb]
  · have hne : m ≠ k := fun e => hk (by rw [e])
    simp [hne]
theorem PlatesIn.cleared {w w' : World} {L : PL} {safe : List ByteArray} {waits : Int → List ByteArray} {B clock : Nat} (h : PlatesIn w L safe waits B) (hm : w'.heap[L.m]? = some (.map #[] clock)) (hg : w.grownBy w' (some L.m)) : PlatesIn w' { L with D := .map [] } safe (fun _ => []) 0 := by
  obtain ⟨es, mc, hmb⟩ := map_block h.mapOwn
  obtain ⟨gc, hgb, _⟩ := row_block h.safeRow
  have hmg : L.g ≠ L.m := fun e => by rw [← e, hgb] at hmb; cases hmb
  exact ⟨h.safeRow.kept hg (.inr (fun e => hmg (by simpa [Value.ownBlock] using e))), ⟨#[], clock, hm, ⟨by simp, MapKept.stamped_empty _, by simp⟩, Nat.le_refl _, rfl⟩, fun _ _ => rfl, fun n hn => absurd rfl hn, fun n hn => absurd rfl hn, fun n hn => absurd rfl hn, fun n hn => absurd rfl hn, fun n n' hn => absurd rfl hn, fun n => Nat.le_refl _, fun n hn => absurd rfl hn, h.pos, h.most⟩
theorem assert_flush_no (W : World) (v : Value) : (Instr.typeAssert (.iface 175 v) 183 173 true).run Tryz.prog W = .ok (.tuple #[.agg #[.int .i64 0, .string ⟨#[]⟩], .bool false]) W := by kernel_rfl
theorem assert_flush (W : World) (v : Value) : (Instr.typeAssert (.iface 175 v) 183 175 true).run Tryz.prog W = .ok (.tuple #[v, .bool true]) W := by kernel_rfl
set_option maxRecDepth 100000 in
set_option maxHeartbeats 2000000 in
theorem do_flush (p : Nat) (fv ov : Value) (L : PL) (safe : List ByteArray) (waits : Int → List ByteArray) (B : Nat) (w : World)
    (hp : w.heap[p]? = some (.cells #[fv, ov, .slice (some ⟨L.g, 0, none⟩) safe.length L.cap, .map (some L.m)] 154 (0, 0))) (h : PlatesIn w L safe waits B) :
    Calls Tryz.prog 128 #[.pointer (some ⟨p, 2, none⟩), .iface 175 (.agg #[])] w fun e w' => e = .returned (.tuple #[]) ∧
      PlatesIn w' { L with D := .map [] } ((List.range safe.length).map (fun n : Nat => seenS safe waits (n : Int))) (fun _ => []) 0 ∧ Keeps (L.foot waits) w w' := by
  have c3 : w.cell? ⟨p, 3, none⟩ = some (.map (some L.m)) := by rw [cell_of_block hp]; rfl
  have hta := assert_flush_no
  have htb := assert_flush
  have HP := hid hp
  have H := hid h
  have hplt := lt_of_heap hp
  clear hp h
  go_enter Tryz.func128, Tryz.ntmps128
  go_wp2_with (first
    | (at_range; refine wpList_range_own _ rfl (.tmp 34) 148 rfl 3 119 (int_keyed Tryz.underlying3) Tryz.underlying148 selfElem L.m B L.D rfl (H.out.mapOwn.alloc _) ?_; intro w0 hrg0 hg0 hs0)
    | go_in)
  go_frame
  have HFt : Hid (∀ i, L.foot waits i → i < w.heap.size) := fun i hi => H.out.foot_lt hi
  have HPF := hid (H.out.foot_other HP.out (by decide))
  have hKa : Keeps (fun i => i = L.g) w w0 := (Keeps.of_below ((Below.refl _ _).alloc (Nat.le_refl _) _)).grown hg0 (fun i e => by cases e)
  have HK0 := hid hKa
  have HPl0 : Hid (PlatesIn w0 L (mixS safe waits (Maps.has L.D)) waits B) := by
    have h1 : PlatesIn w0 L safe waits B := H.out.keep (G := fun _ => False) ((Keeps.of_below ((Below.refl _ _).alloc (Nat.le_refl _) _)).grown hg0 (fun i e => by cases e)) (fun _ _ e => e)
    show PlatesIn w0 L _ waits B
    rw [mixS_start H.out]; exact h1
  have HRg0 := hid hrg0
  have hr0 : (w.alloc (.cells #[] 175)).heap.size = w.heap.size + 1 := by simp
  rw [hr0] at HRg0 ⊢
  clear hrg0 hg0 hs0 hKa hr0 hta htb c3
  have HHas : Hid (∀ x, Maps.has L.D (.int .i64 x) = true → waits x ≠ []) := fun x hx e => by rw [H.out.absent x e] at hx; cases hx
  have HDom := hid H.out.dom
  have HMost := hid H.out.most
  clear H
  go_loopw [6] (fun _ wr => ∃ (left : Lit → Bool) (cnt : Nat), Hid (wr.ranges Tryz.prog 3 selfElem L.m (w.heap.size + 1) B L.D left cnt) ∧ Hid (PlatesIn wr L (mixS safe waits left) waits B) ∧ Hid (Keeps (fun i => i = L.g) w wr)) (fun _ wr => wr.rangeLeft L.m (w.heap.size + 1))
  case atStart => exact ⟨_, _, HRg0, HPl0, HK0⟩
  case round =>
    obtain ⟨left, cnt, hrg, hPl, hK⟩ := hrel
    clear HRg0 HPl0 HK0
    have hpr := hK.out.heap HP.out (fun e => HPF.out (.inl e))
    have HPr := hid hpr
    clear hpr
    go_wp2_with (first
      | (at_next; refine wpList_next_ranges _ rfl (.tmp 35) rfl 3 (int_keyed Tryz.underlying3) selfElem encZ id (fun key kl hk => by obtain ⟨x, hx, _⟩ := Maps.keyOf_i64 Tryz.underlying3 hk; exact ⟨x, hx⟩) (fun v _ _ => ⟨v, rfl⟩) L.m (w.heap.size + 1) B _ _ _ rfl hrg.out ?_ ?_)
      | go_in)
    · -- nothing is left
      intro hc0 hl0
      obtain ⟨es, clock, hmb⟩ := map_block hPl.out.mapOwn
      obtain ⟨w9, hclear, hm9, hg9⟩ := run_clear hmb
      have c3 : wr.cell? ⟨p, 3, none⟩ = some (.map (some L.m)) := by rw [cell_of_block HPr.out]; rfl
      have HC := hid (hPl.out.cleared hm9 hg9)
      have HM := hid (mixS_end safe waits left hl0)
      have HKe : Hid (Keeps (L.foot waits) w w9) := (hK.out.mono (fun i e => .inl e)).grown hg9 (fun i e => .inl (.inr (.inl (Option.some.inj e).symm)))
      clear hm9 hg9 hmb hl0 hc0 hrg hPl hK HPr
      go_wp2
      go_end0
      refine ⟨rfl, ?_, HKe.out⟩
      have := HC.out
      rwa [HM.out] at this
    · -- a sector has come
      intro x c kl yd yp w2 cnt2 hkey hlk hv hat hrg2 hlt hg2 hs2 hen
      obtain ⟨x', ex, rfl, _⟩ := Maps.keyOf_i64 Tryz.underlying3 hkey
      obtain rfl : x = x' := encZ_inj ex
      have hne : waits x ≠ [] := HHas.out x (has_true_of_atKey hat)
      obtain ⟨hx0, hx1⟩ := HDom.out x hne
      have hPl2 : PlatesIn w2 L (mixS safe waits left) waits B := hPl.out.keep (Keeps.of_grown hg2 (fun i e => e)) (fun i hi e => by have := HFt.out i hi; have := Option.some.inj e; omega)
      have hK2 : Keeps (fun i => i = L.g) w w2 := hK.out.grown hg2 (fun i e => .inr (by have := Option.some.inj e; omega))
      have hp2 := hK2.heap HP.out (fun e => HPF.out (.inl e))
      have HP2 := hid hp2
      have hml := length_mixS safe waits left
      have hmx := HMost.out
      have HSeen := hid (seen_any p L (mixS safe waits left) waits B x w2.drew (by rw [hml]; exact cell_of_block hp2 2) (cell_of_block hp2 3) (hPl2.keep (G := fun _ => False) (Keeps.refl _ _).drew (fun _ _ e => e)) hx0 (by rw [hml]; exact hx1))
      rw [seen_mix safe waits (mixS safe waits left) x hne] at HSeen
      have HSt := hid (fun s => hPl2.store x.toNat s)
      have HPl2 := hid hPl2
      have HK2 := hid hK2
      have HRg := hid hrg2
      have HMs := hid (mixS_step safe waits left x hx0)
      have HLt : Hid (cnt2 < cnt) := hlt
      have HGm : Hid (L.m ≠ L.g) := fun e => by
        obtain ⟨es, mc, hmb⟩ := map_block hPl2.mapOwn
        obtain ⟨gc, hgb, _⟩ := row_block hPl2.safeRow
        rw [e, hgb] at hmb; cases hmb
      have HGl : Hid (L.g < w.heap.size) := HFt.out _ (.inl rfl)
      have hxt : x.toNat < (mixS safe waits left).length := by rw [hml]; omega
      obtain ⟨old, cl⟩ : ∃ o, w2.cell? ⟨L.g, x.toNat, none⟩ = some o := ⟨.string ((mixS safe waits left)[x.toNat]), by
        rw [hPl2.safeRow.cellAt _ (by omega)]; simp [hxt]⟩
      have fl : w2.frozen? ⟨L.g, x.toNat, none⟩ = false := hPl2.safeRow.frozenAt _
      clear hPl2 hK2 hp2 hrg2 hkey hlk hv hat hlt hs2 hne hPl HPr hxt ex
      generalize seenS safe waits x = s at *
      go_wp2
      refine wp_region_noPanic ?_
      refine wp_region_held_drew (S := fun W => W.cell? ⟨p, 2, none⟩ = some (.slice (some ⟨L.g, 0, none⟩) safe.length L.cap)) (by kernel_rfl) (cell_of_block HP2.out 2) (fun hHeld => ?_)
      refine wpAnyH_take (i := 0) (v := ?_) rfl (by kernel_rfl) (by kernel_rfl) (by kernel_rfl) (fun _ _ _ h => h) (Or.inl ⟨by rfl, ?_⟩) (by assumption) ?_
      rotate_left
      · (intro W hSw; (try dsimp only at hSw); go_simp; try with_reducible rfl)
      try simp only [List.getElem_toArray, List.getElem_cons_zero, Act.put, List.setIfInBounds_toArray, List.set_cons_zero, List.set_cons_succ]
      refine wpAnyH_take (i := 1) (v := ?_) rfl (by kernel_rfl) (by kernel_rfl) (by kernel_rfl) (fun _ _ _ h => h) (Or.inl ⟨by rfl, ?_⟩) (by assumption) ?_
      rotate_left
      · (intro W hSw; (try dsimp only at hSw); go_simp; try with_reducible rfl)
      try simp only [List.getElem_toArray, List.getElem_cons_succ, List.getElem_cons_zero, Act.put, List.setIfInBounds_toArray, List.set_cons_zero, List.set_cons_succ]
      refine wpAnyH_take (i := 2) (v := ?_) rfl (by kernel_rfl) (by kernel_rfl) (by kernel_rfl) (fun _ _ _ h => h) (Or.inl ⟨by rfl, ?_⟩) (by assumption) ?_
      rotate_left
      · (intro W hSw; (try dsimp only at hSw); go_simp; try with_reducible rfl)
      try simp only [List.getElem_toArray, List.getElem_cons_succ, List.getElem_cons_zero, Act.put, List.setIfInBounds_toArray, List.set_cons_zero, List.set_cons_succ]
      refine wpAnyH_take (i := 3) (v := ?_) rfl (by kernel_rfl) (by kernel_rfl) (by kernel_rfl) (fun _ _ _ h => h) (Or.inl ⟨by rfl, ?_⟩) (by assumption) ?_
      rotate_left
      · (intro W hSw; (try dsimp only at hSw); go_simp; try with_reducible rfl)
      try simp only [List.getElem_toArray, List.getElem_cons_succ, List.getElem_cons_zero, Act.put, List.setIfInBounds_toArray, List.set_cons_zero, List.set_cons_succ]
      refine wpAnyH_take (i := 4) (v := ?_) rfl (by kernel_rfl) (by kernel_rfl) (by kernel_rfl) (fun _ _ _ h => h) (Or.inl ⟨by rfl, ?_⟩) (by assumption) ?_
      rotate_left
      · (intro W hSw; (try dsimp only at hSw); go_simp; try with_reducible rfl)
      try simp only [List.getElem_toArray, List.getElem_cons_succ, List.getElem_cons_zero, Act.put, List.setIfInBounds_toArray, List.set_cons_zero, List.set_cons_succ]
      refine wpAnyH_take (i := 5) (v := ?_) rfl (by kernel_rfl) (by kernel_rfl) (by kernel_rfl) (fun _ _ _ h => h) (Or.inl ⟨by rfl, ?_⟩) (by assumption) ?_
      rotate_left
      · (intro W hSw; (try dsimp only at hSw); go_simp; try with_reducible rfl)
      try simp only [List.getElem_toArray, List.getElem_cons_succ, List.getElem_cons_zero, Act.put, List.setIfInBounds_toArray, List.set_cons_zero, List.set_cons_succ]
      refine wpAnyH_take (i := 6) (v := ?_) rfl (by kernel_rfl) (by kernel_rfl) (by kernel_rfl) (fun _ _ _ h => h) (Or.inl ⟨by rfl, ?_⟩) (by assumption) ?_
      rotate_left
      · (intro W hSw; (try dsimp only at hSw); go_simp; try with_reducible rfl)
      try simp only [List.getElem_toArray, List.getElem_cons_succ, List.getElem_cons_zero, Act.put, List.setIfInBounds_toArray, List.set_cons_zero, List.set_cons_succ]
      refine wpAnyH_ready (rs := [7]) (by kernel_rfl) (by simp) (AllReadyH.cons rfl (fun K hK => ?_) AllReadyH.nil)
      rw [if_pos (by rfl)]
      go_simp
      refine HSeen.out.mono ?_
      clear HSeen
      rintro e w9 ⟨rfl, h9⟩
      obtain rfl := h9.symm
      go_wp2_with fail
      refine hK.out _ _ hHeld (fun hHeld => ?_)
      clear hK K
      try simp only [List.getElem_toArray, List.getElem_cons_succ, List.getElem_cons_zero, Act.put, List.setIfInBounds_toArray, List.set_cons_zero, List.set_cons_succ]
      refine wpAnyH_take (i := 8) (v := ?_) rfl (by kernel_rfl) (by kernel_rfl) (by kernel_rfl) (fun _ _ _ h => h) (Or.inl ⟨by rfl, ?_⟩) (by assumption) ?_
      rotate_left
      · (intro W hSw; (try dsimp only at hSw); go_simp; try with_reducible rfl)
      try simp only [List.getElem_toArray, List.getElem_cons_succ, List.getElem_cons_zero, Act.put, List.setIfInBounds_toArray, List.set_cons_zero, List.set_cons_succ]
      refine wpAnyH_ready (rs := [9]) (by kernel_rfl) (by simp) (AllReadyH.cons rfl (fun K hK => ?_) AllReadyH.nil)
      rw [if_pos (by rfl)]
      unfold Oper.wp
      go_simp
      have HPg : Hid (p ≠ L.g) := fun e => HPF.out (.inl e)
      have hgs := grown_setCell (grown_refl w2 (some L.g)) x.toNat (.string s)
      have HR3 := hid (HRg.out.kept hgs (fun e => HGm.out (Option.some.inj e)) (fun e => by have := HGl.out; have := Option.some.inj e; omega))
      have HP3 : Hid (PlatesIn (w2.setCell ⟨L.g, x.toNat, none⟩ (.string s)) L (mixS safe waits (fun z => left z && !z.sameKey (.int .i64 x))) waits B) := by
        show PlatesIn _ L _ waits B
        rw [HMs.out]; exact HSt.out s
      have HK3 := hid (HK2.out.grown hgs (fun i e => .inl (Option.some.inj e).symm))
      clear hgs HSt HMs HK2 HPl2 cl fl
      have hp3 : (w2.setCell ⟨L.g, x.toNat, none⟩ (.string s)).heap[p]? = some (.cells #[fv, ov, .slice (some ⟨L.g, 0, none⟩) safe.length L.cap, .map (some L.m)] 154 (0, 0)) := by rw [block_setCell_other _ _ HPg.out]; exact HP2.out
      have hq3 : (w2.setCell ⟨L.g, x.toNat, none⟩ (.string s)).drew.cell? ⟨p, 2, none⟩ = some (.slice (some ⟨L.g, 0, none⟩) safe.length L.cap) := cell_of_block hp3 2
      refine hK.out _ _ hq3 (fun hHeld => ?_)
      clear hp3 hq3
      clear hK K hHeld
      generalize w2.setCell ⟨L.g, x.toNat, none⟩ (.string s) = w3 at *
      refine wpAnyH_done (by kernel_rfl) ?_ _
      refine NoPanic.normal ?_
      go_wp2
      refine ⟨⟨(fun z => left z && !z.sameKey (.int .i64 x)), cnt2, HR3.out, HP3.out.keep (G := fun _ => False) (Keeps.refl _ _).drew (fun _ _ e => e), HK3.out.drew⟩, ?_⟩
      have h1 : w3.drew.rangeLeft L.m (w.heap.size + 1) = cnt2 := HR3.out.left_eq
      rw [h1, hrg.out.left_eq]
      exact HLt.out
end Go.Proofs.YtkkmbgjlmdddoabGreat
/- disk.Disk.Flush: what is read is safe, nothing waits. -/
namespace Go.Proofs.YtkkmbgjlmdddoabGreat
open Go.RowKit Go.Maps
/-- A disk behind a flush. -/
def DiskS.flushed (S : DiskS) : DiskS := { S with ops := S.ops ++ [.flush], safe := imgS S, waits := fun _ => [] }
set_option maxRecDepth 100000 in
set_option maxHeartbeats 1000000 in
theorem note_flush (d : DL) (S : DiskS) (w : World) (h : DiskIn w d S) (hB : S.ops.length < opsMax) :
    Calls Tryz.prog 121 #[.pointer (some ⟨d.p, 0, none⟩), .iface 175 (.agg #[])] w fun e w' => e = .returned (.tuple #[]) ∧
      ∃ d', DiskIn w' d' (S.flushed) ∧ d'.p = d.p ∧ d'.fv = d.fv ∧ (∀ i, d'.foot (S.flushed).waits i → d.foot S.waits i ∨ w.heap.size ≤ i) ∧ Keeps (d.foot S.waits) w w' := by
  have c1 : w.cell? ⟨d.p, 1, none⟩ = some d.ov := by rw [cell_of_block h.heap]; rfl
  have hlt := lt_of_heap h.heap
  obtain ⟨i0, hi, hz0, hz1, hz2⟩ := info_parts infoOp
  have HI := hid hi
  have H := hid h
  have HL := hid (opsMax_len hB)
  clear hi h
  go_enter Tryz.func121, Tryz.ntmps121
  go_wp2_with (refine wpList_append_lies _ rfl (.tmp 8) (.tmp 10) 152 rfl 0 183 i0 .nilIface 1 16 Tryz.underlying152 HI.out hz0 hz1 hz2 rfl (by omega) d.ov S.ops.length (S.ops.map encOp) rfl (H.out.ops.alloc _) ⟨w.heap.size, 0, none⟩ 1 1 [encOp .flush] rfl rfl (World.news_of_block (cs := #[encOp .flush]) (block_new w _)) (by intro u hu; rw [List.mem_singleton.1 hu]; rfl) (by omega) HL.out.1 HL.out.2.1 (Nat.zero_le _) (w.heap.size + 1) (by simp) ?_; intro g cap w1 hown hgr hat hlt1; have HO := hid hown; have HG := hid hgr; have HA := hid hat; have HP1 := hid ((hgr.block d.p (by simp; omega) (fun e => (H.out.ops_off e.symm).2 rfl)).trans (block_alloc H.out.heap _)); have f1 : w1.cell? ⟨d.p, 1, none⟩ = some d.ov := cell_of_block HP1.out 1; have f2 : w1.frozen? ⟨d.p, 1, none⟩ = false := frozen_of_block HP1.out 1; clear hown hgr hat hlt1)
  have K1 : Keeps (fun i => d.ov.ownBlock = some i) w w1 := (Keeps.of_below ((Below.refl _ _).alloc (Nat.le_refl _) _)).trans (Keeps.of_grown HG.out (fun i e => e)) (fun i e => .inl e)
  have K2 : Keeps (fun i => d.ov.ownBlock = some i ∨ i = d.p) w (w1.setCell ⟨d.p, 1, none⟩ (.slice (some ⟨g, 0, none⟩) (S.ops.length + 1) cap)) :=
    (K1.mono (fun _ => .inl)).grown (grown_setCell (grown_refl w1 (some d.p)) 1 _) (fun i e => .inl (.inr (Option.some.inj e).symm))
  have HK2 := hid K2
  have hP2 := block_setCell HP1.out 1 (.slice (some ⟨g, 0, none⟩) (S.ops.length + 1) cap)
  have HP2 := hid hP2
  have hgp : g ≠ d.p := by
    obtain ⟨cur, hc⟩ := row_type HO.out rfl
    refine ne_of_heap hc HP1.out (fun e => ?_)
    simp only [Obj.cells.injEq] at e
    exact absurd e.2.1 (by decide)
  have HO2 := hid (HO.out.kept (grown_setCell (grown_refl w1 (some d.p)) 1 (.slice (some ⟨g, 0, none⟩) (S.ops.length + 1) cap)) (.inr (fun e => hgp (by simpa [Value.ownBlock] using e))))
  have HPL := hid (H.out.plates.keep HK2.out (fun i hi e => by
    rcases e with e | e
    · exact (H.out.ops_off e).1 hi
    · exact H.out.p_off (e ▸ hi)))
  clear K1 K2 hP2 f1 f2 HO hgp
  generalize hW : w1.setCell ⟨d.p, 1, none⟩ (.slice (some ⟨g, 0, none⟩) (S.ops.length + 1) cap) = w2 at *
  clear hW
  refine (do_flush d.p d.fv (.slice (some ⟨g, 0, none⟩) (S.ops.length + 1) cap) d.L S.safe S.waits S.ops.length w2 HP2.out HPL.out).mono ?_
  rintro e w3 ⟨rfl, hP3, hK3⟩
  have HP3 := hid hP3
  have HK3 := hid hK3
  clear hP3 hK3
  have HFoot : Hid (∀ i, (DL.foot ⟨d.p, d.fv, .slice (some ⟨g, 0, none⟩) (S.ops.length + 1) cap, { d.L with D := .map [] }⟩ (S.flushed).waits i) → d.foot S.waits i ∨ w.heap.size ≤ i) := by
    rintro i (e | e | e)
    · exact .inl (.inl e)
    · obtain rfl : g = i := Option.some.inj e
      rcases HA.out with e | e
      · exact .inl (.inr (.inl e))
      · exact .inr (by omega)
    · rcases e with e | e | ⟨n, hn, _⟩
      · exact .inl (.inr (.inr (.inl e)))
      · exact .inl (.inr (.inr (.inr (.inl e))))
      · exact absurd rfl hn
  have HKall : Hid (Keeps (d.foot S.waits) w w3) := (HK2.out.mono (fun i e => by rcases e with e | e; exact .inr (.inl e); exact .inl e)).trans HK3.out (fun i e => .inl (.inr (.inr e)))
  go_wp2
  go_end0
  refine ⟨rfl, ⟨d.p, d.fv, .slice (some ⟨g, 0, none⟩) (S.ops.length + 1) cap, { d.L with D := .map [] }⟩, ⟨?_, ?_, ?_, ?_, ?_⟩, rfl, rfl, ?_, ?_⟩
  · have h3 := HK3.out.heap HP2.out H.out.p_off
    simpa [DiskS.flushed, length_imgS] using h3
  · have h2 := HK3.out.row HO2.out (fun i hi => by
      obtain ⟨cur, hc⟩ := row_type HO2.out hi
      exact HPL.out.foot_other hc (by decide))
    simpa [DiskS.flushed] using h2
  · exact HP3.out.moreB (Nat.zero_le _)
  · obtain ⟨ad, c, e, hc, hn⟩ := H.out.first
    refine ⟨ad, c, e, fun j u hj => ?_, fun hf => ?_⟩
    · refine HK3.out.cell (HK2.out.cell (hc j u hj) ?_) ?_
      · rw [add_block]; rintro (e | e)
        · exact hn (.inr (.inl e))
        · exact hn (.inl e)
      · rw [add_block]; exact fun e => hn (.inr (.inr e))
    · have hlt0 : S.first.length ≠ 0 := by have := H.out.flen; have := H.out.plates.pos; omega
      have hltad : ad.block < w.heap.size := by
        have h00 := hc 0 (S.first[0]'(by omega)) (by simp)
        have := World.block_lt_of_cell? w _ h00
        rwa [add_block] at this
      exact hn (by rcases HFoot.out _ hf with e | e; exact e; omega)
  · have := H.out.flen; simpa [DiskS.flushed, length_imgS] using this
  · exact HFoot.out
  · exact HKall.out
set_option maxRecDepth 100000 in
theorem flush_disk (d : DL) (S : DiskS) (w : World) (h : DiskIn w d S) (hB : S.ops.length < opsMax) :
    Calls Tryz.prog 107 #[.pointer (some ⟨d.p, 0, none⟩)] w fun e w' => e = .returned (.int .i64 0) ∧
      ∃ d', DiskIn w' d' S.flushed ∧ d'.p = d.p ∧ d'.fv = d.fv ∧ (∀ i, d'.foot S.flushed.waits i → d.foot S.waits i ∨ w.heap.size ≤ i) ∧ Keeps (d.foot S.waits) w w' := by
  have HN := hid (note_flush d S w h hB)
  clear h
  go_enter Tryz.func107, Tryz.ntmps107
  go_wp2_with fail
  refine HN.out.mono ?_
  rintro e w1 ⟨rfl, hq⟩
  have HQ := hid hq
  clear hq
  go_wp2
  go_ret
  exact ⟨rfl, HQ.out⟩
end Go.Proofs.YtkkmbgjlmdddoabGreat
/- disk.Disk.Ops, Sectors. -/
namespace Go.Proofs.YtkkmbgjlmdddoabGreat
open Go.RowKit
set_option maxRecDepth 100000 in
theorem sectors_disk_rd (d : DL) (S : DiskS) (w : World) (h : DiskRd w d S) : Calls Tryz.prog 73 #[.pointer (some ⟨d.p, 0, none⟩)] w fun e w' => e = .returned (.int .i64 S.safe.length) ∧ w' = w := by
  have c2 : w.cell? ⟨d.p, 2, none⟩ = some (.slice (some ⟨d.L.g, 0, none⟩) S.safe.length d.L.cap) := by rw [cell_of_block h.heap]; rfl
  clear h
  go_enter Tryz.func73, Tryz.ntmps73
  go_wp2
  go_ret
  exact ⟨rfl, rfl⟩
theorem sectors_disk (d : DL) (S : DiskS) (w : World) (h : DiskIn w d S) : Calls Tryz.prog 73 #[.pointer (some ⟨d.p, 0, none⟩)] w fun e w' => e = .returned (.int .i64 S.safe.length) ∧ w' = w :=
  sectors_disk_rd d S w h.rd
end Go.Proofs.YtkkmbgjlmdddoabGreat
