/- AllocBack's map beside its rows of numbers and bools. -/
import Derived.Test.YtkkmbgjlmdddoaaGreatABackP
import Derived.Test.YtkkmbgjlmdddoaaGreatAlApp
namespace Go.Proofs.YtkkmbgjlmdddoaaGreat
open Go.RowKit
/-- A block of bools. -/
def ownBl (w : World) (b : Nat) (L : List Bool) : Prop := w.heap[b]? = some (.cells (L.map Value.bool).toArray 4 (0, 0))
theorem ownBl.cell {w : World} {b : Nat} {L : List Bool} (h : ownBl w b L) (j : Nat) (hj : j < L.length) : w.cell? ⟨b, j, none⟩ = some (.bool L[j]) := by
  rw [cell_of_block h]; simp [hj]
theorem ownBl.set {w : World} {b : Nat} {L : List Bool} (h : ownBl w b L) (j : Nat) (x : Bool) : ownBl (w.setCell ⟨b, j, none⟩ (.bool x)) b (L.set j x) := by
  have h1 := block_setCell h j (.bool x)
  rw [List.setIfInBounds_toArray] at h1
  unfold ownBl
  rw [h1, List.map_set]
theorem infoBl : (Tryz.prog.info? 4).map (fun i => (i.zero, i.size, i.bytes)) = some (some (.bool false), 1, 1) := by kernel_rfl
theorem madeBl (n : Nat) : madeCells (Value.bool false).cells (n * 1) = (List.replicate n (Value.bool false)).toArray := by
  apply Array.ext
  · simp [madeCells]
  · intro i h1 h2
    simp [madeCells, Value.cells, Nat.mod_one]
theorem wpList_make_bls {w : World} {ops : Array Oper} {rest : List Oper} {o : Oper} {a : Act} {Q : Exit → Act → World → Prop} (hg : o.guard = none) (l c : Operand) (hop : o.op = Op.makeSlice 53 l c)
    (n : Nat) (hl : a.eval l = .int .i64 n) (hc : a.eval c = .int .i64 n) (hm : n ≤ 4096)
    (h : ∀ w1 : World, Below w.heap.size w w1 → ownBl w1 w.heap.size (List.replicate n false) → w1.heap.size = w.heap.size + 1 →
      wpList Tryz.prog ops Q rest (a.put o.dst (.slice (some ⟨w.heap.size, 0, none⟩) n n)) w1) : wpList Tryz.prog ops Q (o :: rest) a w := by
  obtain ⟨i, hi, hz, hs, hb⟩ := info_parts infoBl
  refine wpList_plain hg fun K hK' => ?_
  have hrun := run_make (P := Tryz.prog) w 53 4 i (.bool false) Tryz.underlying53 hi hz .i64 .i64 n n (by omega) (by omega) (by rw [hb]; omega) (by omega)
  unfold Oper.wp
  have hown : ownBl (w.alloc (.cells (List.replicate n (Value.bool false)).toArray 4)) w.heap.size (List.replicate n false) := by
    unfold ownBl
    rw [List.map_replicate]; exact block_new _ _
  simp only [Int.toNat_natCast, hs, madeBl] at hrun
  generalize (List.replicate n (Value.bool false)).toArray = Z at *
  simp [execOp, hop, hl, hc, hrun, Result.andThen]
  exact hK' _ _ (h _ ((Below.refl _ _).alloc (Nat.le_refl _) _) hown (by simp))
/-- Numbers from a on. -/
def stretch (a j : Nat) : List Int := (List.range j).map (fun i => ((a + i : Nat) : Int))
theorem length_stretch (a j : Nat) : (stretch a j).length = j := by simp [stretch]
theorem stretch_succ (a j : Nat) : stretch a (j + 1) = stretch a j ++ [((a + j : Nat) : Int)] := by simp [stretch, List.range_succ]
theorem stretch_at (a j i : Nat) (h : i < (stretch a j).length) : (stretch a j)[i] = ((a + i : Nat) : Int) := by simp [stretch]
/-- Which pages were seen. -/
def seenB : Nat → List Bool
  | 0 => List.replicate 200 false
  | j + 1 => (seenB j).set (6 + j) true
theorem length_seenB : ∀ j, (seenB j).length = 200
  | 0 => by rw [seenB, List.length_replicate]
  | j + 1 => by rw [seenB, List.length_set, length_seenB j]
theorem seenB_at : ∀ (j n : Nat) (h : n < (seenB j).length), 6 + j ≤ n → (seenB j)[n] = false
  | 0, _, h, _ => List.eq_of_mem_replicate (List.getElem_mem h)
  | j + 1, n, h, hn => by
    have h1 : n < (seenB j).length := by rw [length_seenB] at h ⊢; exact h
    have h2 := seenB_at j n h1 (by omega)
    simp only [seenB]
    rw [List.getElem_set_ne (by omega)]
    exact h2
theorem BkAt.keepY {w wr w' : World} {c m : Nat} {F : Nat → Prop} {l1 h1 l2 h2 : Nat} {sm : Bool} {t b : Nat} (h : BkAt w wr c m F l1 h1 l2 h2 sm t) (hb : offN wr b) (hF : ¬ F b) (hw : w.heap.size ≤ b) (k : Keeps (fun i => i = b) wr w') : BkAt w w' c m F l1 h1 l2 h2 sm t := by
  obtain ⟨Pg, Cm, D, o, u, h⟩ := h
  refine ⟨Pg, Cm, D, o, u, h.out.trans (k.below h.out.size (fun i e => by have e' : i = b := e; omega)), h.new, h.off, k.heap h.map (fun e => ?_), h.pc.keepY hb hF k, h.b1, h.b2, h.i1, h.i2, h.few, h.ops, h.uses⟩
  have e' : m = b := e
  have h1 := h.map
  unfold mapB at h1
  rw [e'] at h1
  exact absurd (hb.type h1) (by decide)
theorem BkAt.lt {w wr : World} {c m : Nat} {F : Nat → Prop} {l1 h1 l2 h2 : Nat} {sm : Bool} {t : Nat} (h : BkAt w wr c m F l1 h1 l2 h2 sm t) (i : Nat) (hi : F i) : i < wr.heap.size := by
  obtain ⟨Pg, Cm, D, o, u, h⟩ := h
  exact h.pc.lt i hi
theorem BkAt.size {w wr : World} {c m : Nat} {F : Nat → Prop} {l1 h1 l2 h2 : Nat} {sm : Bool} {t : Nat} (h : BkAt w wr c m F l1 h1 l2 h2 sm t) : w.heap.size ≤ wr.heap.size := by
  obtain ⟨Pg, Cm, D, o, u, h⟩ := h
  exact h.out.size
structure BwIn (w wr : World) (c m sg : Nat) (pv iv : Value) (px ix : List Int) (S : List Bool) (l1 h1 l2 h2 : Nat) (sm : Bool) (t : Nat) (F : Nat → Prop) : Prop where
  bk : BkAt w wr c m F l1 h1 l2 h2 sm t
  p : rowN wr w.heap.size pv px
  i : rowN wr w.heap.size iv ix
  s : ownBl wr sg S
  sb : w.heap.size ≤ sg
  sF : ¬ F sg
  pF : ∀ j, pv.ownBlock = some j → ¬ F j ∧ j ≠ sg
  iF : ∀ j, iv.ownBlock = some j → ¬ F j ∧ j ≠ sg
  pi : ∀ j, pv.ownBlock = some j → iv.ownBlock ≠ some j
def Bw (w wr : World) (c m sg : Nat) (pv iv : Value) (px ix : List Int) (S : List Bool) (l1 h1 l2 h2 : Nat) (sm : Bool) (t : Nat) : Prop := ∃ F, BwIn w wr c m sg pv iv px ix S l1 h1 l2 h2 sm t F
section
variable {w wr w' : World} {c m sg : Nat} {pv iv : Value} {px ix : List Int} {S : List Bool} {l1 h1 l2 h2 l1' h1' l2' h2' : Nat} {sm sm' : Bool} {t t' : Nat}
theorem rowN.lt {base : Nat} {v : Value} {xs : List Int} (h : rowN w base v xs) (j : Nat) (hj : v.ownBlock = some j) : base ≤ j ∧ j < w.heap.size := h.1.lt j hj
theorem Bw.below (h : Bw w wr c m sg pv iv px ix S l1 h1 l2 h2 sm t) (hb : Below wr.heap.size wr w') : Bw w w' c m sg pv iv px ix S l1 h1 l2 h2 sm t := by
  obtain ⟨F, h⟩ := h
  exact ⟨F, h.bk.below hb, h.p.below hb, h.i.below hb, below_block hb h.s (lt_of_heap h.s), h.sb, h.sF, h.pF, h.iF, h.pi⟩
theorem Bw.call {f : Nat} {args : Array Value} {E : Ending} (h : Bw w wr c m sg pv iv px ix S l1 h1 l2 h2 sm t)
    (k : ∀ F, BkAt w wr c m F l1 h1 l2 h2 sm t → Calls Tryz.prog f args wr fun e w' => e = E ∧ Keeps F wr w' ∧ BkAt w w' c m F l1' h1' l2' h2' sm' t') :
    Calls Tryz.prog f args wr fun e w' => e = E ∧ Bw w w' c m sg pv iv px ix S l1' h1' l2' h2' sm' t' := by
  obtain ⟨F, h⟩ := h
  refine (k F h.bk).mono ?_
  rintro e w' ⟨rfl, hk, hb⟩
  exact ⟨rfl, F, hb, h.p.keep hk (fun i hi => (h.pF i hi).1), h.i.keep hk (fun i hi => (h.iF i hi).1), hk.heap h.s h.sF, h.sb, h.sF, h.pF, h.iF, h.pi⟩
theorem Bw.commit (h : Bw w wr c m sg pv iv px ix S l1 h1 l2 h2 sm t) (ht : t ≤ 2000) :
    Calls Tryz.prog 13 #[.pointer (some ⟨c, 0, none⟩)] wr fun e w' => e = .returned (.int .i64 0) ∧ Bw w w' c m sg pv iv px ix S l1 h1 l2 h2 true (t + 1) := by
  obtain ⟨F, h⟩ := h
  refine (h.bk.commit ht).mono ?_
  rintro e w' ⟨rfl, hk, F', hF, hb⟩
  have hn : ∀ j, ¬ F j → j < wr.heap.size → ¬ F' j := fun j h1 h2 h3 => by
    rcases hF j h3 with h4 | h4
    · exact h1 h4
    · omega
  exact ⟨rfl, F', hb, h.p.keep hk (fun i hi => (h.pF i hi).1), h.i.keep hk (fun i hi => (h.iF i hi).1), hk.heap h.s h.sF, h.sb, hn _ h.sF (lt_of_heap h.s), fun j hj => ⟨hn _ (h.pF j hj).1 (h.p.lt j hj).2, (h.pF j hj).2⟩, fun j hj => ⟨hn _ (h.iF j hj).1 (h.i.lt j hj).2, (h.iF j hj).2⟩, h.pi⟩
theorem Bw.seen (h : Bw w wr c m sg pv iv px ix S l1 h1 l2 h2 sm t) (n : Nat) : Bw w (wr.setCell ⟨sg, n, none⟩ (.bool true)) c m sg pv iv px ix (S.set n true) l1 h1 l2 h2 sm t := by
  obtain ⟨F, h⟩ := h
  have k : Keeps (fun i => i = sg) wr (wr.setCell ⟨sg, n, none⟩ (.bool true)) := (Keeps.refl _ wr).grown (grown_setCell (grown_refl _ _) _ _) (fun i e => .inl (Option.some.inj e).symm)
  exact ⟨F, h.bk.keepY (offN_bools h.s) h.sF h.sb k, h.p.keep k (fun i hi => (h.pF i hi).2), h.i.keep k (fun i hi => (h.iF i hi).2), h.s.set n true, h.sb, h.sF, h.pF, h.iF, h.pi⟩
theorem grown_keeps {b : Option Nat} (hg : wr.grownBy w' b) : Keeps (fun i => b = some i) wr w' := Keeps.of_grown hg (fun _ e => e)
theorem Bw.appP (h : Bw w wr c m sg pv iv px ix S l1 h1 l2 h2 sm t) {g n cap : Nat} {y : Int} (hr : rowN w' w.heap.size (.slice (some ⟨g, 0, none⟩) n cap) (px ++ [y])) (hg : wr.grownBy w' pv.ownBlock) (hat : pv.ownBlock = some g ∨ g = wr.heap.size) :
    Bw w w' c m sg (.slice (some ⟨g, 0, none⟩) n cap) iv (px ++ [y]) ix S l1 h1 l2 h2 sm t := by
  obtain ⟨F, h⟩ := h
  have k := grown_keeps hg
  have hbk : BkAt w w' c m F l1 h1 l2 h2 sm t := by
    cases hp : pv.ownBlock with
    | none =>
      rw [hp] at k
      exact h.bk.below (k.below (Nat.le_refl _) (fun i e => by cases e))
    | some g0 =>
      rw [hp] at k
      exact h.bk.keepY (h.p.2 g0 hp) (h.pF g0 hp).1 (h.p.lt g0 hp).1 (k.mono (fun i e => (Option.some.inj e).symm))
  have hgF : ¬ F g ∧ g ≠ sg := by
    rcases hat with e | e
    · exact h.pF g e
    · have h1 := lt_of_heap h.s
      exact ⟨fun hf => by have := h.bk.lt g hf; omega, by omega⟩
  refine ⟨F, hbk, hr, h.i.keep k (fun i hi e => h.pi i e hi), k.heap h.s (fun e => (h.pF sg e).2 rfl), h.sb, h.sF, fun j hj => ?_, h.iF, fun j hj => ?_⟩
  · obtain rfl : g = j := by simpa [Value.ownBlock] using hj
    exact hgF
  · obtain rfl : g = j := by simpa [Value.ownBlock] using hj
    rcases hat with e | e
    · exact h.pi g e
    · intro hi
      have := (h.i.lt g hi).2
      omega
theorem Bw.appI (h : Bw w wr c m sg pv iv px ix S l1 h1 l2 h2 sm t) {g n cap : Nat} {y : Int} (hr : rowN w' w.heap.size (.slice (some ⟨g, 0, none⟩) n cap) (ix ++ [y])) (hg : wr.grownBy w' iv.ownBlock) (hat : iv.ownBlock = some g ∨ g = wr.heap.size) :
    Bw w w' c m sg pv (.slice (some ⟨g, 0, none⟩) n cap) px (ix ++ [y]) S l1 h1 l2 h2 sm t := by
  obtain ⟨F, h⟩ := h
  have k := grown_keeps hg
  have hbk : BkAt w w' c m F l1 h1 l2 h2 sm t := by
    cases hp : iv.ownBlock with
    | none =>
      rw [hp] at k
      exact h.bk.below (k.below (Nat.le_refl _) (fun i e => by cases e))
    | some g0 =>
      rw [hp] at k
      exact h.bk.keepY (h.i.2 g0 hp) (h.iF g0 hp).1 (h.i.lt g0 hp).1 (k.mono (fun i e => (Option.some.inj e).symm))
  have hgF : ¬ F g ∧ g ≠ sg := by
    rcases hat with e | e
    · exact h.iF g e
    · have h1 := lt_of_heap h.s
      exact ⟨fun hf => by have := h.bk.lt g hf; omega, by omega⟩
  refine ⟨F, hbk, h.p.keep k (fun i hi e => h.pi i hi e), hr, k.heap h.s (fun e => (h.iF sg e).2 rfl), h.sb, h.sF, h.pF, fun j hj => ?_, fun j hj hi => ?_⟩
  · obtain rfl : g = j := by simpa [Value.ownBlock] using hj
    exact hgF
  · have e0 : g = j := by simpa [Value.ownBlock] using hi
    subst e0
    rcases hat with e | e
    · exact h.pi g hj e
    · have := (h.p.lt g hj).2
      omega
theorem Bw.more (h : Bw w wr c m sg pv iv px ix S l1 h1 l2 h2 sm t) (ht : t ≤ t') : Bw w wr c m sg pv iv px ix S l1 h1 l2 h2 sm t' := by
  obtain ⟨F, h⟩ := h
  obtain ⟨Pg, Cm, D, o, u, hb⟩ := h.bk
  have h3 := hb.ops
  have h4 := hb.uses
  exact ⟨F, ⟨Pg, Cm, D, o, u, hb.out, hb.new, hb.off, hb.map, hb.pc, hb.b1, hb.b2, hb.i1, hb.i2, hb.few, by omega, by omega⟩, h.p, h.i, h.s, h.sb, h.sF, h.pF, h.iF, h.pi⟩
theorem rowN.at {base : Nat} {a : Option Addr} {n cap : Nat} {xs : List Int} (h : rowN w base (.slice a n cap) xs) (hn : 0 < xs.length) : ∃ g, a = some ⟨g, 0, none⟩ ∧ ∀ j (hj : j < xs.length), w.cell? ⟨g, j, none⟩ = some (.int .i64 xs[j]) := by
  obtain ⟨g, cap', e, -⟩ := h.cell 0 hn
  simp only [Value.slice.injEq] at e
  refine ⟨g, e.1, fun j hj => ?_⟩
  obtain ⟨g2, cap2, e2, hc⟩ := h.cell j hj
  simp only [Value.slice.injEq] at e2
  have e3 := e.1.symm.trans e2.1
  simp only [Option.some.injEq, Addr.mk.injEq] at e3
  rw [e3.1]
  exact hc
theorem Bw.pAt {a : Option Addr} {n cap : Nat} (h : Bw w wr c m sg (.slice a n cap) iv px ix S l1 h1 l2 h2 sm t) (hn : 0 < px.length) : ∃ g, a = some ⟨g, 0, none⟩ ∧ ∀ j (hj : j < px.length), wr.cell? ⟨g, j, none⟩ = some (.int .i64 px[j]) := by
  obtain ⟨F, h⟩ := h
  exact h.p.at hn
theorem Bw.iAt {a : Option Addr} {n cap : Nat} (h : Bw w wr c m sg pv (.slice a n cap) px ix S l1 h1 l2 h2 sm t) (hn : 0 < ix.length) : ∃ g, a = some ⟨g, 0, none⟩ ∧ ∀ j (hj : j < ix.length), wr.cell? ⟨g, j, none⟩ = some (.int .i64 ix[j]) := by
  obtain ⟨F, h⟩ := h
  exact h.i.at hn
end
end Go.Proofs.YtkkmbgjlmdddoaaGreat
