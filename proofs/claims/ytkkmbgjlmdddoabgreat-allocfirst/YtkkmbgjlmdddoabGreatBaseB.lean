/- Several of my texts in one: Ref, Ref2, Ref3, RefNew, CopyAll, SameAll, Ref4, RAt, RImage, RWaits, RWaiting, Pair, Play, AlonePlain, CrashesPlain, PlaysPlain, RRead, CutPlain. -/
import Derived.Test.YtkkmbgjlmdddoabGreatBaseA
/- The reference disk: how it lies in memory; look, Copy, do, Write, Flush. -/
namespace Go.Proofs.YtkkmbgjlmdddoabGreat
open Go.RowKit
/-- An op of the reference. -/
structure ROp where
  flush : Bool
  n : Int
  b : List UInt8
/-- The reference disk. -/
structure RefS where
  first : List (List UInt8)
  l : List ROp
/-- Where a slice points lies in Rd. -/
def inRd (Rd : Nat → Prop) (a : Option Addr) : Prop := ∀ ad, a = some ad → Rd ad.block
/-- The cells of ops, whose bytes are the slices vs. -/
def opCells (l : List ROp) (vs : List Value) : List Value := (l.zip vs).flatMap (fun p => [.bool p.1.flush, .int .i64 p.1.n, p.2])
theorem opCells_snoc (l : List ROp) (vs : List Value) (h : l.length = vs.length) (o : ROp) (v : Value) : opCells (l ++ [o]) (vs ++ [v]) = opCells l vs ++ [.bool o.flush, .int .i64 o.n, v] := by
  unfold opCells
  rw [List.zip_append h]
  simp
theorem length_opCells (l : List ROp) (vs : List Value) (h : l.length = vs.length) : (opCells l vs).length = l.length * 3 := by
  unfold opCells
  rw [List.length_flatMap]
  simp [h, List.map_const', List.sum_replicate_nat]
theorem bytesIn.keep {w w' : World} {a : Option Addr} {l : List UInt8} {G Rd : Nat → Prop} (h : bytesIn w a l) (k : Keeps G w w') (hr : inRd Rd a) (hG : ∀ i, Rd i → ¬ G i) : bytesIn w' a l := fun j hj => by
  obtain ⟨b, o, e, hc⟩ := h j hj
  exact ⟨b, o, e, fun i hi => k.cell (hc i hi) (hG b (hr _ e))⟩
/-- What look answers. -/
def lookR (R : RefS) (n : Int) : Int := if 0 ≤ n ∧ n < R.first.length then 0 else 2
theorem cells_of_bytes {w : World} {b o : Nat} {l : List UInt8} (h : ∀ i (hi : i < l.length), w.cell? ⟨b, o + i, none⟩ = some (.int .u8 (l[i].toNat : Int))) : ∀ j u, (l.map (fun x : UInt8 => Value.int .u8 (x.toNat : Int)))[j]? = some u → w.cell? ((⟨b, o, none⟩ : Addr).add j) = some u := fun j u hu => by
  have hj : j < l.length := by have := (List.getElem?_eq_some_iff.1 hu).1; simpa using this
  rw [Addr.add_mid, h j hj]
  simpa [hj] using hu
end Go.Proofs.YtkkmbgjlmdddoabGreat
/- The reference disk: do, Write, Flush. -/
namespace Go.Proofs.YtkkmbgjlmdddoabGreat
open Go.RowKit
/-- What the reference may look at, with the blocks that were made meanwhile. -/
abbrev moreOf (Rd : Nat → Prop) (w w' : World) : Nat → Prop := fun i => Rd i ∨ (w.heap.size ≤ i ∧ i < w'.heap.size)
/-- The reference behind one op more. -/
def RefS.did (R : RefS) (o : ROp) : RefS := { R with l := R.l ++ [o] }
end Go.Proofs.YtkkmbgjlmdddoabGreat
/- The reference disk: Write, Flush. -/
namespace Go.Proofs.YtkkmbgjlmdddoabGreat
open Go.RowKit
/-- What the reference's Write answers. -/
def errR (R : RefS) (n : Int) (l : List UInt8) : Int := if ¬ (0 ≤ n ∧ n < R.first.length) then 2 else if l.length ≠ 512 then 3 else 0
def RefS.put (R : RefS) (n : Int) (l : List UInt8) : RefS := if errR R n l = 0 then R.did ⟨false, n, l⟩ else R
end Go.Proofs.YtkkmbgjlmdddoabGreat
/- The reference's New. -/
namespace Go.Proofs.YtkkmbgjlmdddoabGreat
open Go.RowKit
/-- A sector of noughts. -/
def zeros : List UInt8 := List.replicate 512 0
def rfresh (n : Nat) : RefS := ⟨List.replicate n zeros, []⟩
theorem length_zeros : zeros.length = 512 := List.length_replicate
theorem zeros_at (z : Nat) (h : z < zeros.length) : zeros[z] = 0 := List.getElem_replicate h
theorem rfresh_length (n : Nat) : (rfresh n).first.length = n := List.length_replicate
theorem rfresh_at (n i : Nat) (h : i < (rfresh n).first.length) : (rfresh n).first[i] = zeros := List.getElem_replicate h
theorem wp_make_u8 {w : World} {o : Oper} {a : Act} {K : Act → World → Prop} {Q : Exit → Act → World → Prop} (l c : Operand) (hop : o.op = Op.makeSlice 57 l c) (n : Nat) (hl : a.eval l = .int .i64 n) (hc : a.eval c = .int .i64 n) (hm : n ≤ 4096) (B : Nat) (hB : w.heap.size = B)
    (h : K (a.put o.dst (.slice (some ⟨B, 0, none⟩) n n)) (w.alloc (.cells (List.replicate n (Value.int .u8 0)).toArray 5))) : o.wp Tryz.prog a w K Q := by
  subst hB
  obtain ⟨i, hi, hz, hs, hb⟩ := info_parts infoU8
  have hrun := run_make (P := Tryz.prog) w 57 5 i (.int .u8 0) Tryz.underlying57 hi hz .i64 .i64 n n (by omega) (by omega) (by rw [hb]; omega) (by omega)
  unfold Oper.wp
  simp only [Int.toNat_natCast, hs, madeU8] at hrun
  generalize (List.replicate n (Value.int .u8 0)).toArray = Z at *
  simp [execOp, hop, hl, hc, hrun, Result.andThen]
  exact h
/-- The cells of a sector of noughts. -/
def zrow : Array Value := (List.replicate 512 (Value.int .u8 0)).toArray
theorem zrow_at (z : Nat) (h : z < 512) : zrow[z]? = some (.int .u8 0) := by
  unfold zrow; rw [List.getElem?_toArray, List.getElem?_replicate, if_pos h]
theorem wp_make_sector {w : World} {o : Oper} {a : Act} {K : Act → World → Prop} {Q : Exit → Act → World → Prop} (l c : Operand) (hop : o.op = Op.makeSlice 57 l c) (hl : a.eval l = .int .i64 512) (hc : a.eval c = .int .i64 512) (B : Nat) (hB : w.heap.size = B)
    (h : K (a.put o.dst (.slice (some ⟨B, 0, none⟩) 512 512)) (w.alloc (.cells zrow 5))) : o.wp Tryz.prog a w K Q := wp_make_u8 l c hop 512 hl hc (by omega) B hB h
end Go.Proofs.YtkkmbgjlmdddoabGreat
/- dunnageref01.CopyAll. -/
namespace Go.Proofs.YtkkmbgjlmdddoabGreat
open Go.RowKit
/-- The first k rows have been copied. -/
def copiedTo (w : World) (lo : Nat) (v : Value) (vs : List Value) (L : List (List UInt8)) (k : Nat) : Prop :=
  w.ownsRow lo 57 1 v k vs ∧ ∀ i (_ : i < L.length), i < k → ∃ g cap, vs[i]? = some (.slice (some ⟨g, 0, none⟩) (L[i]).length cap) ∧ lo ≤ g ∧ g < w.heap.size ∧ v.ownBlock ≠ some g ∧ bytesIn w (some ⟨g, 0, none⟩) L[i]
theorem copiedTo_step {w w1 w3 : World} {lo : Nat} {v : Value} {vs : List Value} {L : List (List UInt8)} {k g cap g3 cap3 : Nat} {o : Obj} (h : copiedTo w lo v vs L k) (hk : k < L.length) (hlo : lo ≤ w.heap.size) (hB : Below w.heap.size w w1)
    (hg1 : w.heap.size ≤ g) (hg2 : g < w1.heap.size) (hb : bytesIn w1 (some ⟨g, 0, none⟩) L[k])
    (hown : w3.ownsRow lo 57 1 (.slice (some ⟨g3, 0, none⟩) (k + 1) cap3) (k + 1) (vs ++ [.slice (some ⟨g, 0, none⟩) (L[k]).length cap]))
    (hgr : (w1.alloc o).grownBy w3 v.ownBlock) (hat : v.ownBlock = some g3 ∨ g3 = w1.heap.size + 1) : copiedTo w3 lo (.slice (some ⟨g3, 0, none⟩) (k + 1) cap3) (vs ++ [.slice (some ⟨g, 0, none⟩) (L[k]).length cap]) L (k + 1) := by
  have hl : vs.length = k := by have := h.1.1; omega
  have hv : ∀ i, v.ownBlock = some i → i < w.heap.size := fun i e => (h.1.lt i e).2
  have hs1 := hB.size
  have hs3 := hgr.size
  have hsa : (w1.alloc o).heap.size = w1.heap.size + 1 := by simp
  have hK : Keeps (fun i => v.ownBlock = some i) w1 w3 := (Keeps.alloc (Keeps.refl _ w1) o).grown hgr (fun i e => .inl e)
  have hown3 : ∀ x, (Value.slice (some ⟨g3, 0, none⟩) (k + 1) cap3).ownBlock = some x → x = g3 := fun x e => (Option.some.inj e).symm
  refine ⟨hown, fun i hi hik => ?_⟩
  by_cases e : i = k
  · subst e
    refine ⟨g, cap, by simp [hl], by omega, by omega, fun e => ?_, hb.keep (Rd := fun i => i = g) hK (fun ad e => by rw [← Option.some.inj e]) (fun i e hn => by have := hv i hn; omega)⟩
    have e2 := hown3 _ e
    rcases hat with h1 | h1
    · have := hv _ h1; omega
    · omega
  · obtain ⟨gi, ci, h1, h2, h3, h4, h5⟩ := h.2 i hi (by omega)
    refine ⟨gi, ci, by rw [List.getElem?_append_left (by omega)]; exact h1, h2, by omega, fun e => ?_, (h5.below hB).keep (Rd := fun i => i = gi) hK (fun ad e => by rw [← Option.some.inj e]) (fun i e hn => by subst e; exact h4 hn)⟩
    have e2 := hown3 _ e
    rcases hat with h6 | h6
    · subst e2; exact h4 h6
    · omega
theorem copiedTo_end {w : World} {lo : Nat} {v : Value} {vs : List Value} {L : List (List UInt8)} (h : copiedTo w lo v vs L L.length) : ∃ a c, v = .slice a L.length c ∧ rowsFrom w lo a L := by
  obtain ⟨sa, c, rfl, hr⟩ := row_slice h.1
  refine ⟨sa, c, rfl, fun j hj => ?_⟩
  obtain ⟨g, rfl, _, hg, hc⟩ := hr j hj
  refine ⟨g, 0, rfl, hg, fun i hi => ?_⟩
  obtain ⟨gi, ci, h1, h2, _, _, h5⟩ := h.2 i hi hi
  exact ⟨some ⟨gi, 0, none⟩, ci, by rw [Nat.zero_add, hc i hi]; exact h1, h5, fun ad e => by rw [← Option.some.inj e]; exact h2⟩
end Go.Proofs.YtkkmbgjlmdddoabGreat
/- dunnageref01.SameAll: do two lists of rows of bytes hold the same? -/
namespace Go.Proofs.YtkkmbgjlmdddoabGreat
open Go.RowKit
end Go.Proofs.YtkkmbgjlmdddoabGreat
/- The reference's Ops, Sectors, flushed. -/
namespace Go.Proofs.YtkkmbgjlmdddoabGreat
open Go.RowKit
theorem opCells_cons (o : ROp) (l : List ROp) (v : Value) (vs : List Value) : opCells (o :: l) (v :: vs) = .bool o.flush :: .int .i64 o.n :: v :: opCells l vs := by simp [opCells]
theorem opCells_at : ∀ (l : List ROp) (vs : List Value) (_ : l.length = vs.length) (i : Nat) (hi : i < l.length) (hi' : i < vs.length),
    (opCells l vs)[i * 3]? = some (.bool l[i].flush) ∧ (opCells l vs)[i * 3 + 1]? = some (.int .i64 l[i].n) ∧ (opCells l vs)[i * 3 + 2]? = some vs[i]
  | [], _, _, i, hi, _ => by simp at hi
  | o :: l, [], h, _, _, _ => by simp at h
  | o :: l, v :: vs, h, 0, _, _ => by rw [opCells_cons]; simp
  | o :: l, v :: vs, h, i + 1, hi, hi' => by
    obtain ⟨h1, h2, h3⟩ := opCells_at l vs (by simpa using h) i (by simpa using hi) (by simpa using hi')
    rw [opCells_cons, show (i + 1) * 3 = i * 3 + 3 by omega]
    refine ⟨by simpa using h1, ?_, ?_⟩
    · rw [show i * 3 + 3 + 1 = (i * 3 + 1) + 3 by omega]; simpa using h2
    · rw [show i * 3 + 3 + 2 = (i * 3 + 2) + 3 by omega]; simpa using h3
/-- Behind which op the last flush of the first k is. -/
def flushedTo (l : List ROp) : Nat → Nat
  | 0 => 0
  | k + 1 => if h : k < l.length then (if l[k].flush then k + 1 else flushedTo l k) else flushedTo l k
theorem flushedTo_le (l : List ROp) : ∀ k, flushedTo l k ≤ k
  | 0 => Nat.le_refl _
  | k + 1 => by
    have := flushedTo_le l k
    unfold flushedTo
    split
    · split <;> omega
    · omega
end Go.Proofs.YtkkmbgjlmdddoabGreat
/- The reference's at, Image, Safe. -/
namespace Go.Proofs.YtkkmbgjlmdddoabGreat
open Go.RowKit
/-- The sectors behind the first k ops. -/
def atL (R : RefS) : Nat → List (List UInt8)
  | 0 => R.first
  | k + 1 => if h : k < R.l.length then (if R.l[k].flush then atL R k else (atL R k).set R.l[k].n.toNat R.l[k].b) else atL R k
/-- Sectors of 512 bytes, ops within them. -/
def okR (R : RefS) : Prop := R.first.length ≤ 4096 ∧ (∀ l ∈ R.first, l.length = 512) ∧ ∀ o ∈ R.l, o.flush = false → 0 ≤ o.n ∧ o.n < R.first.length ∧ o.b.length = 512
theorem length_atL (R : RefS) : ∀ k, (atL R k).length = R.first.length
  | 0 => rfl
  | k + 1 => by
    have := length_atL R k
    unfold atL
    split
    · split <;> simp [this]
    · exact this
/-- One row is another now. -/
theorem copiedTo_set {w w1 : World} {lo go N c i g cap : Nat} {vs : List Value} {L : List (List UInt8)} {b : List UInt8} (h : copiedTo w lo (.slice (some ⟨go, 0, none⟩) N c) vs L N) (hlo : lo ≤ w.heap.size) (hB : Below w.heap.size w w1)
    (hg1 : w.heap.size ≤ g) (hg2 : g < w1.heap.size) (hb : bytesIn w1 (some ⟨g, 0, none⟩) b) (hi : i < N) (hL : L.length = N) :
    copiedTo (w1.setCell ⟨go, i, none⟩ (.slice (some ⟨g, 0, none⟩) b.length cap)) lo (.slice (some ⟨go, 0, none⟩) N c) (vs.set i (.slice (some ⟨g, 0, none⟩) b.length cap)) (L.set i b) N := by
  have hrow := (Keeps.of_below (F := fun _ => False) hB).row h.1 (fun _ _ e => e)
  have hgo := (h.1.lt go rfl).2
  have hl : vs.length = N := by have := h.1.1; omega
  have hK : Keeps (fun i => i = go) w1 (w1.setCell ⟨go, i, none⟩ (.slice (some ⟨g, 0, none⟩) b.length cap)) := Keeps.of_grown (r := some go) (grown_setCell (grown_refl _ _) _ _) (fun i e => (Option.some.inj e).symm)
  have hs1 := hB.size
  have hs2 := hK.size
  refine ⟨(hrow.stored i _).1, fun j hj hjN => ?_⟩
  by_cases e : j = i
  · subst e
    refine ⟨g, cap, ?_, by omega, by omega, fun e => ?_, ?_⟩
    · rw [List.getElem?_set_self (by omega), List.getElem_set_self]
    · have e2 : go = g := Option.some.inj e
      omega
    · rw [List.getElem_set_self]
      exact hb.keep (Rd := fun i => i = g) hK (fun ad e => by rw [← Option.some.inj e]) (fun i e hn => by omega)
  · have hj' : j < L.length := by simpa using hj
    obtain ⟨gi, ci, h1, h2, h3, h4, h5⟩ := h.2 j hj' hjN
    have e3 : (L.set i b)[j] = L[j] := List.getElem_set_ne (by omega) _
    refine ⟨gi, ci, by rw [List.getElem?_set_ne (by omega), e3]; exact h1, h2, by omega, h4, ?_⟩
    rw [e3]
    exact (h5.below hB).keep (Rd := fun i => i = gi) hK (fun ad e => by rw [← Option.some.inj e]) (fun i e hn => by subst e hn; exact h4 rfl)
end Go.Proofs.YtkkmbgjlmdddoabGreat
/- The reference's Image and Safe, whatever was done. -/
namespace Go.Proofs.YtkkmbgjlmdddoabGreat
open Go.RowKit
end Go.Proofs.YtkkmbgjlmdddoabGreat
/- The reference's waits. -/
namespace Go.Proofs.YtkkmbgjlmdddoabGreat
open Go.RowKit
/-- How many of the ops from f to k are of sector n. -/
def waitsIn (l : List ROp) (n : Int) (f : Nat) : Nat → Nat
  | 0 => 0
  | k + 1 => if h : k < l.length then (if f ≤ k ∧ l[k].n = n then waitsIn l n f k + 1 else waitsIn l n f k) else waitsIn l n f k
theorem waitsIn_le (l : List ROp) (n : Int) (f : Nat) : ∀ k, waitsIn l n f k ≤ k
  | 0 => Nat.le_refl _
  | k + 1 => by
    have := waitsIn_le l n f k
    unfold waitsIn
    split
    · split <;> omega
    · omega
theorem waitsIn_low (l : List ROp) (n : Int) (f : Nat) : ∀ k, k ≤ f → waitsIn l n f k = 0
  | 0, _ => rfl
  | k + 1, h => by
    have := waitsIn_low l n f k (by omega)
    unfold waitsIn
    split
    · rw [if_neg (by omega)]; exact this
    · exact this
end Go.Proofs.YtkkmbgjlmdddoabGreat
/- The reference's Waiting. -/
namespace Go.Proofs.YtkkmbgjlmdddoabGreat
open Go.RowKit
/-- The first k sectors' that wait. -/
def rKeys (f : Nat → Nat) (k : Nat) : List Int := ((List.range k).filter (fun n : Nat => decide (0 < f n))).map (fun n : Nat => (n : Int))
def rCounts (f : Nat → Nat) (k : Nat) : List Int := ((List.range k).filter (fun n : Nat => decide (0 < f n))).map (fun n : Nat => (f n : Int))
theorem rKeys_step (f : Nat → Nat) (k : Nat) : rKeys f (k + 1) = if 0 < f k then rKeys f k ++ [(k : Int)] else rKeys f k := by
  unfold rKeys
  rw [List.range_succ, List.filter_append]
  by_cases h : 0 < f k <;> simp [h]
theorem rCounts_step (f : Nat → Nat) (k : Nat) : rCounts f (k + 1) = if 0 < f k then rCounts f k ++ [(f k : Int)] else rCounts f k := by
  unfold rCounts
  rw [List.range_succ, List.filter_append]
  by_cases h : 0 < f k <;> simp [h]
theorem length_rKeys (f : Nat → Nat) (k : Nat) : (rKeys f k).length ≤ k := by
  unfold rKeys
  rw [List.length_map]
  exact Nat.le_trans (List.length_filter_le _ _) (by simp)
theorem length_rCounts (f : Nat → Nat) (k : Nat) : (rCounts f k).length = (rKeys f k).length := by simp [rKeys, rCounts]
/-- How many writes of sector n wait. -/
def rWait (R : RefS) (n : Nat) : Nat := waitsIn R.l (n : Int) (flushedTo R.l R.l.length) R.l.length
end Go.Proofs.YtkkmbgjlmdddoabGreat
/- A disk and the reference beside one another; deeds done on both. -/
namespace Go.Proofs.YtkkmbgjlmdddoabGreat
open Go.RowKit
variable {w0 wa wb : World} {d d' : DL} {S S' : DiskS} {r : Nat} {fv lv lv' : Value} {vs vs' : List Value} {Rd : Nat → Prop} {R R' : RefS}
/-- A block of bytes is none that a disk writes. -/
theorem DiskIn.foot_u8 {w : World} (h : DiskIn w d S) {i : Nat} {cs : Array Value} {fr : Nat × Nat} (hi : w.heap[i]? = some (.cells cs 5 fr)) : ¬ d.foot S.waits i := by
  rintro (e | e | e)
  · rw [e, h.heap] at hi
    simp only [Option.some.injEq, Obj.cells.injEq] at hi
    exact absurd hi.2.1 (by decide)
  · obtain ⟨cur, hc⟩ := row_type h.ops e
    rw [hc] at hi
    simp only [Option.some.injEq, Obj.cells.injEq] at hi
    exact absurd hi.2.1 (by decide)
  · exact h.plates.foot_other hi (by decide) e
/-- A deed. -/
structure DeedS where
  f : Bool
  n : Int
  l : Int
  x : Int
def DeedS.bytes (D : DeedS) : List UInt8 := fullS (deedLen D.l) D.x
def stepS (S : DiskS) (D : DeedS) : DiskS := if D.f then S.flushed else S.put D.n D.bytes
def stepR (R : RefS) (D : DeedS) : RefS := if D.f then R.did ⟨true, 0, []⟩ else R.put D.n D.bytes
/-- Both behind the first k deeds. -/
def playS (n : Nat) (ds : List DeedS) (k : Nat) : DiskS := (ds.take k).foldl stepS (freshS (List.replicate n blankS))
def playR (n : Nat) (ds : List DeedS) (k : Nat) : RefS := (ds.take k).foldl stepR (rfresh n)
theorem playS_step (n : Nat) (ds : List DeedS) (k : Nat) (h : k < ds.length) : playS n ds (k + 1) = stepS (playS n ds k) ds[k] := by
  unfold playS; rw [List.take_succ_eq_append_getElem h, List.foldl_append]; rfl
theorem playR_step (n : Nat) (ds : List DeedS) (k : Nat) (h : k < ds.length) : playR n ds (k + 1) = stepR (playR n ds k) ds[k] := by
  unfold playR; rw [List.take_succ_eq_append_getElem h, List.foldl_append]; rfl
theorem stepS_length (S : DiskS) (D : DeedS) : (stepS S D).safe.length = S.safe.length := by
  unfold stepS; split
  · simp [DiskS.flushed, length_imgS]
  · rw [put_safe]
theorem stepS_ops (S : DiskS) (D : DeedS) : (stepS S D).ops.length ≤ S.ops.length + 1 := by
  unfold stepS; split
  · simp [DiskS.flushed]
  · exact put_ops _ _ _
theorem rput_first (R : RefS) (n : Int) (l : List UInt8) : (R.put n l).first = R.first := by unfold RefS.put; split <;> rfl
theorem stepR_first (R : RefS) (D : DeedS) : (stepR R D).first = R.first := by
  unfold stepR; split
  · rfl
  · exact rput_first _ _ _
theorem stepR_ops (R : RefS) (D : DeedS) : (stepR R D).l.length ≤ R.l.length + 1 := by
  unfold stepR; split
  · simp [RefS.did]
  · unfold RefS.put; split <;> simp [RefS.did]
theorem play_sizes (n : Nat) (ds : List DeedS) : ∀ k, k ≤ ds.length → (playS n ds k).safe.length = n ∧ (playR n ds k).first.length = n ∧ (playS n ds k).ops.length ≤ k ∧ (playR n ds k).l.length ≤ k
  | 0, _ => ⟨by simp [playS, freshS], by simp [playR, rfresh_length], by simp [playS, freshS], by simp [playR, rfresh]⟩
  | k + 1, h => by
    obtain ⟨h1, h2, h3, h4⟩ := play_sizes n ds k (by omega)
    rw [playS_step n ds k (by omega), playR_step n ds k (by omega), stepS_length, stepR_first]
    have a := stepS_ops (playS n ds k) ds[k]
    have b := stepR_ops (playR n ds k) ds[k]
    exact ⟨h1, h2, by omega, by omega⟩
theorem err_same {S : DiskS} {R : RefS} (h : S.safe.length = R.first.length) (n : Int) (l : List UInt8) : errW S n l = errR R n l := by
  unfold errW errR; rw [h]
/-- Deeds lie where the slice points. -/
def deedsAt (w : World) (a : Option Addr) (ds : List DeedS) : Prop := ∀ j, j < ds.length → ∃ b o, a = some ⟨b, o, none⟩ ∧ ∀ i (hi : i < ds.length),
  w.cell? ⟨b, o + i * 4, none⟩ = some (.bool (ds[i]).f) ∧ w.cell? ⟨b, o + i * 4 + 1, none⟩ = some (.int .i64 (ds[i]).n) ∧ w.cell? ⟨b, o + i * 4 + 2, none⟩ = some (.int .i64 (ds[i]).l) ∧ w.cell? ⟨b, o + i * 4 + 3, none⟩ = some (.int .u8 (ds[i]).x) ∧ 0 ≤ (ds[i]).x ∧ (ds[i]).x ≤ 255
end Go.Proofs.YtkkmbgjlmdddoabGreat
/- play: deeds done on the disk and on the reference; both answer alike. -/
namespace Go.Proofs.YtkkmbgjlmdddoabGreat
open Go.RowKit
end Go.Proofs.YtkkmbgjlmdddoabGreat
/- A crash that keeps more of one sector: plain facts. -/
namespace Go.Proofs.YtkkmbgjlmdddoabGreat
open Go.RowKit
theorem crashL_zeros (waits : Int → List ByteArray) (left : List ByteArray) : ∀ (ks : List Int) (n : Nat), crashL waits left (ks.zip (List.replicate n 0)) = left
  | [], n => by simp [crashL]
  | k :: ks, 0 => by simp [crashL]
  | k :: ks, n + 1 => by
    have := crashL_zeros waits left ks n
    simpa [crashL, List.replicate_succ] using this
/-- Only the one sector changes. -/
theorem crashL_at (waits : Int → List ByteArray) : ∀ (ks keep : List Int) (left : List ByteArray) (n : Nat), (∀ j (h : j < (ks.zip keep).length), (ks.zip keep)[j].1.toNat = n → (ks.zip keep)[j].2 ≤ 0) → (crashL waits left (ks.zip keep))[n]? = left[n]?
  | [], _, left, n, _ => by simp [crashL]
  | k :: ks, [], left, n, _ => by simp [crashL]
  | k :: ks, x :: xs, left, n, h => by
    have ih := crashL_at waits ks xs (if 0 < x then left.set k.toNat ((waits k).getD (x.toNat - 1) ⟨#[]⟩) else left) n (fun j hj => by
      have := h (j + 1) (by simpa using hj)
      simpa using this)
    have e : crashL waits left ((k :: ks).zip (x :: xs)) = crashL waits (if 0 < x then left.set k.toNat ((waits k).getD (x.toNat - 1) ⟨#[]⟩) else left) (ks.zip xs) := rfl
    rw [e, ih]
    have h0 := h 0 (by simp)
    simp only [List.zip_cons_cons, List.getElem_cons_zero] at h0
    by_cases hx : 0 < x
    · rw [if_pos hx]
      have hne : k.toNat ≠ n := fun e => by have := h0 e; omega
      rw [List.getElem?_set_ne hne]
    · rw [if_neg hx]
theorem good_zeros (waits : Int → List ByteArray) (N : Nat) : goodKeep waits N (List.replicate (waitKeys waits N).length 0) := by
  rw [goodKeep_iff]
  refine ⟨by simp, fun j hj hj' => ?_⟩
  simp
theorem good_one (waits : Int → List ByteArray) (N at' : Nat) (x : Int) (h : at' < (waitKeys waits N).length) (h0 : 0 ≤ x) (h1 : x ≤ (waits (waitKeys waits N)[at']).length) : goodKeep waits N ((List.replicate (waitKeys waits N).length 0).set at' x) := by
  rw [goodKeep_iff]
  refine ⟨by simp, fun j hj hj' => ?_⟩
  rw [List.getElem_set]
  split
  · rename_i e; subst e; exact ⟨h0, h1⟩
  · simp
/-- All sectors but the one are as they were. -/
theorem crash_alone (waits : Int → List ByteArray) (safe : List ByteArray) (N at' : Nat) (x : Int) (h : at' < (waitKeys waits N).length) (n : Nat) (hn : (n : Int) ≠ (waitKeys waits N)[at']) :
    (crashL waits safe ((waitKeys waits N).zip ((List.replicate (waitKeys waits N).length 0).set at' x)))[n]? = safe[n]? := by
  refine crashL_at waits _ _ safe n (fun j hj e => ?_)
  rw [List.getElem_zip] at e ⊢
  have hjl : j < (waitKeys waits N).length := by simp at hj; omega
  have hm := (mem_waitKeys.1 (List.getElem_mem hjl)).1
  simp only at e ⊢
  rw [List.getElem_set]
  split
  · rename_i e2; subst e2; exact absurd (by omega) hn
  · simp
/-- All sectors have 512 bytes. -/
def okS (S : DiskS) : Prop := (∀ s ∈ S.safe, s.size = 512) ∧ ∀ n, ∀ s ∈ S.waits n, s.size = 512
theorem blank_size : blankS.size = 512 := by
  show (Lib.repeatL [0] 512).toArray.size = 512
  decide +kernel
theorem ok_seen {S : DiskS} (h : okS S) (k : Nat) (hk : k < S.safe.length) : (seenS S.safe S.waits (k : Int)).size = 512 := by
  unfold seenS
  split
  · rw [Int.toNat_natCast, List.getD_eq_getElem?_getD, List.getElem?_eq_getElem hk]
    exact h.1 _ (List.getElem_mem hk)
  · rename_i hne
    refine h.2 (k : Int) _ ?_
    rw [List.getLastD_eq_getLast?, List.getLast?_eq_some_getLast hne]
    exact List.getLast_mem hne
theorem ok_step {S : DiskS} (h : okS S) (D : DeedS) : okS (stepS S D) := by
  unfold stepS
  split
  · refine ⟨fun s hs => ?_, fun n s hs => by simp [DiskS.flushed] at hs⟩
    obtain ⟨k, hk, rfl⟩ := List.mem_map.1 hs
    exact ok_seen h k (List.mem_range.1 hk)
  · unfold DiskS.put
    split
    · rename_i e
      refine ⟨h.1, fun n s hs => ?_⟩
      have hl : D.bytes.length = 512 := by
        unfold errW at e
        split at e
        · cases e
        · split at e
          · cases e
          · rename_i h2; exact Decidable.of_not_not h2
      simp only [DiskS.wrote] at hs
      by_cases hn : n = D.n
      · subst hn
        rw [upd_same, List.mem_append] at hs
        rcases hs with hs | hs
        · exact h.2 _ _ hs
        · rw [List.mem_singleton.1 hs]; show D.bytes.toArray.size = 512; simpa using hl
      · rw [upd_other _ _ hn] at hs; exact h.2 n s hs
    · exact h
theorem ok_play (n : Nat) (ds : List DeedS) : ∀ k, k ≤ ds.length → okS (playS n ds k)
  | 0, _ => ⟨fun s hs => by
      have : s ∈ List.replicate n blankS := by simpa [playS, freshS] using hs
      rw [List.eq_of_mem_replicate this]; exact blank_size, fun m s hs => by simp [playS, freshS] at hs⟩
  | k + 1, h => by rw [playS_step n ds k (by omega)]; exact ok_step (ok_play n ds k (by omega)) _
theorem imgS_fresh (xs : List ByteArray) : imgS (freshS xs) = xs := by
  apply List.ext_getElem (by simp [imgS, freshS])
  intro n h1 h2
  simp [imgS, freshS, seenS, h2]
theorem infoIntZ (n : Nat) : madeCells (Value.int .i64 0).cells (n * 1) = (List.replicate n (Value.int .i64 0)).toArray := by
  apply Array.ext
  · simp [madeCells]
  · intro i h1 h2
    simp [madeCells, Value.cells, Nat.mod_one]
theorem wpList_make_ints {w : World} {ops : Array Oper} {rest : List Oper} {o : Oper} {a : Act} {Q : Exit → Act → World → Prop} (hg : o.guard = none) (l c : Operand) (hop : o.op = Op.makeSlice 89 l c)
    (n : Nat) (hl : a.eval l = .int .i64 n) (hc : a.eval c = .int .i64 n) (hm : n ≤ 4096)
    (h : ∀ w1 : World, Below w.heap.size w w1 → w1.heap[w.heap.size]? = some (.cells (List.replicate n (Value.int .i64 0)).toArray 3 (0, 0)) → w1.heap.size = w.heap.size + 1 →
      wpList Tryz.prog ops Q rest (a.put o.dst (.slice (some ⟨w.heap.size, 0, none⟩) n n)) w1) : wpList Tryz.prog ops Q (o :: rest) a w := by
  obtain ⟨i, hi, hz, hs, hb⟩ := info_parts infoInt
  refine wpList_plain hg fun K hK' => ?_
  have hrun := run_make (P := Tryz.prog) w 89 3 i (.int .i64 0) Tryz.underlying89 hi hz .i64 .i64 n n (by omega) (by omega) (by rw [hb]; omega) (by omega)
  unfold Oper.wp
  simp only [Int.toNat_natCast, hs, infoIntZ] at hrun
  generalize (List.replicate n (Value.int .i64 0)).toArray = Z at *
  simp [execOp, hop, hl, hc, hrun, Result.andThen]
  exact hK' _ _ (h _ ((Below.refl _ _).alloc (Nat.le_refl _) _) (block_new _ _) (by simp))
/-- Numbers that fill a block. -/
theorem ints_of_block {w : World} {b : Nat} {xs : List Int} {t : TypeId} {fr : Nat × Nat} (h : w.heap[b]? = some (.cells (xs.map encZ).toArray t fr)) : intsAt w (some ⟨b, 0, none⟩) xs := fun j hj => ⟨b, 0, rfl, fun i hi => by
  rw [Nat.zero_add, cell_of_block h]; simp [hi]⟩
end Go.Proofs.YtkkmbgjlmdddoabGreat
/- What DiskCrashes needs: a crash that keeps all, and one that keeps some. Plain facts. -/
namespace Go.Proofs.YtkkmbgjlmdddoabGreat
open Go.RowKit
/-- A crash that keeps all writes of the sectors named, each of them but once. -/
theorem crashL_all (waits : Int → List ByteArray) : ∀ (ks : List Int) (left : List ByteArray) (n : Nat), (∀ k ∈ ks, 0 ≤ k ∧ waits k ≠ []) → ks.Pairwise (fun a b => a < b) → n < left.length →
    (crashL waits left (ks.zip (ks.map (fun k => ((waits k).length : Int)))))[n]? = if (n : Int) ∈ ks then some ((waits n).getLastD ⟨#[]⟩) else left[n]?
  | [], left, n, _, _, _ => by simp [crashL]
  | k :: ks, left, n, h, hp, hn => by
    obtain ⟨hk0, hk1⟩ := h k (by simp)
    have hl : 0 < (waits k).length := List.length_pos_iff.2 hk1
    have ih := crashL_all waits ks (left.set k.toNat ((waits k).getD ((waits k).length - 1) ⟨#[]⟩)) n (fun x hx => h x (by simp [hx])) (List.pairwise_cons.1 hp).2 (by simpa using hn)
    have e : crashL waits left ((k :: ks).zip ((k :: ks).map (fun k => ((waits k).length : Int)))) = crashL waits (left.set k.toNat ((waits k).getD ((waits k).length - 1) ⟨#[]⟩)) (ks.zip (ks.map (fun k => ((waits k).length : Int)))) := by
      simp [crashL, hl]
    rw [e, ih]
    by_cases hm : (n : Int) ∈ ks
    · rw [if_pos hm, if_pos (by simp [hm])]
    · rw [if_neg hm]
      by_cases he : (n : Int) = k
      · rw [if_pos (by simp [he])]
        subst he
        have hnn : ((n : Int)).toNat = n := by omega
        rw [hnn, List.getElem?_set_self hn, List.getLastD_eq_getLast?, List.getLast?_eq_getElem?, List.getD_eq_getElem?_getD]
      · rw [if_neg (by simp [he, hm]), List.getElem?_set_ne (by omega)]
/-- All kept: what was read. -/
theorem crash_all (S : DiskS) : crashL S.waits S.safe ((waitKeys S.waits S.safe.length).zip (waitCounts S.waits S.safe.length)) = imgS S := by
  apply List.ext_getElem?
  intro n
  by_cases hn : n < S.safe.length
  · unfold waitCounts
    rw [crashL_all S.waits _ S.safe n (fun k hk => ⟨(mem_waitKeys.1 hk).1, (mem_waitKeys.1 hk).2.2⟩) (sorted_waitKeys _ _) hn]
    have hi : n < (imgS S).length := by rw [length_imgS]; exact hn
    rw [List.getElem?_eq_getElem hi, imgS_at S n hi]
    by_cases hm : (n : Int) ∈ waitKeys S.waits S.safe.length
    · have hne := (mem_waitKeys.1 hm).2.2
      rw [if_pos hm]
      simp [seenS, hne]
      
    · have hne : S.waits n = [] := by
        refine Classical.byContradiction fun hne => hm (mem_waitKeys.2 ⟨by omega, by omega, hne⟩)
      rw [if_neg hm]
      simp [seenS, hne, hn]
  · rw [List.getElem?_eq_none (by rw [length_crashL]; omega), List.getElem?_eq_none (by rw [length_imgS]; omega)]
/-- A sector that does not wait, or of which none is kept. -/
theorem crash_some (waits : Int → List ByteArray) (safe : List ByteArray) (N : Nat) (keep : List Int) (n : Nat) (h : ∀ j (hj : j < (waitKeys waits N).length) (hj' : j < keep.length), (waitKeys waits N)[j] = (n : Int) → keep[j] = 0) :
    (crashL waits safe ((waitKeys waits N).zip keep))[n]? = safe[n]? := by
  refine crashL_at waits _ _ safe n (fun j hj e => ?_)
  rw [List.getElem_zip] at e ⊢
  simp only [List.length_zip] at hj
  have hm := (mem_waitKeys.1 (List.getElem_mem (show j < (waitKeys waits N).length by omega))).1
  simp only at e ⊢
  rw [h j (by omega) (by omega) (by omega)]
  exact Int.le_refl _
theorem good_counts (waits : Int → List ByteArray) (N : Nat) : goodKeep waits N (waitCounts waits N) := by
  rw [goodKeep_iff]
  refine ⟨by simp [waitCounts], fun j hj hj' => ?_⟩
  simp [waitCounts]
theorem good_nil (waits : Int → List ByteArray) (N : Nat) : goodKeep waits N [] := by
  rw [goodKeep_iff]
  exact ⟨by simp, fun j hj => by simp at hj⟩
/-- What DiskCrashes keeps of the sector at j. -/
def keepAt (choice : List UInt8) (cs : List Int) (j : Nat) : Int := if h : j < choice.length then (choice[j].toNat : Int) % (cs.getD j 0 + 1) else 0
def keepL (choice : List UInt8) (cs : List Int) : List Int := (List.range cs.length).map (keepAt choice cs)
theorem length_keepL (choice : List UInt8) (cs : List Int) : (keepL choice cs).length = cs.length := by simp [keepL]
theorem keepL_at (choice : List UInt8) (cs : List Int) (j : Nat) (h : j < (keepL choice cs).length) : (keepL choice cs)[j] = keepAt choice cs j := by simp [keepL]
theorem keepL_step (choice : List UInt8) (cs : List Int) (k : Nat) (hk : k < cs.length) : ((keepL choice cs).take k).map encZ ++ [.int .i64 (keepAt choice cs k)] = ((keepL choice cs).take (k + 1)).map encZ := by
  have hk' : k < (keepL choice cs).length := by rw [length_keepL]; exact hk
  rw [List.take_succ_eq_append_getElem hk', keepL_at]
  simp
theorem good_keepL (choice : List UInt8) (waits : Int → List ByteArray) (N : Nat) : goodKeep waits N (keepL choice (waitCounts waits N)) := by
  rw [goodKeep_iff]
  have hl : (waitCounts waits N).length = (waitKeys waits N).length := by simp [waitCounts]
  refine ⟨by rw [length_keepL, hl]; exact Nat.le_refl _, fun j hj hj' => ?_⟩
  rw [keepL_at]
  unfold keepAt
  split
  · have e : (waitCounts waits N).getD j 0 = ((waits (waitKeys waits N)[j]).length : Int) := by
      simp [waitCounts, hj']
    rw [e]
    have h0 := Int.emod_nonneg (choice[j].toNat : Int) (show ((waits (waitKeys waits N)[j]).length : Int) + 1 ≠ 0 by omega)
    have h1 := Int.emod_lt_of_pos (choice[j].toNat : Int) (show (0 : Int) < ((waits (waitKeys waits N)[j]).length : Int) + 1 by omega)
    exact ⟨h0, by omega⟩
  · exact ⟨Int.le_refl _, by omega⟩
theorem imgS_flushed (S : DiskS) : imgS S.flushed = imgS S := by
  apply List.ext_getElem (by simp [length_imgS, DiskS.flushed])
  intro n h1 h2
  rw [imgS_at]
  simp [seenS, DiskS.flushed, h2]
theorem keys_none (N : Nat) : waitKeys (fun _ => []) N = [] := by simp [waitKeys]
/-- Where the next sector that waits is. -/
theorem at_hit {ks : List Int} (hs : ks.Pairwise (fun a b => a < b)) {t : Nat} {j : Int} (hi : ∀ m (hm : m < ks.length), m < t ↔ ks[m] < j) (ht : t < ks.length) (he : ks[t] = j) :
    (∀ m (hm : m < ks.length), m < t + 1 ↔ ks[m] < j + 1) ∧ ∀ m (hm : m < ks.length), ks[m] = j → m = t := by
  have lt := List.pairwise_iff_getElem.1 hs
  constructor
  · intro m hm
    have h1 := hi m hm
    rcases Nat.lt_trichotomy m t with h | h | h
    · have := h1.1 h; constructor <;> intro _ <;> omega
    · subst h; constructor <;> intro _ <;> omega
    · have := lt t m ht hm h; constructor <;> intro _ <;> omega
  · intro m hm e
    have h1 := hi m hm
    rcases Nat.lt_trichotomy m t with h | h | h
    · have := h1.1 h; omega
    · exact h
    · have := lt t m ht hm h; omega
theorem at_miss {ks : List Int} (hs : ks.Pairwise (fun a b => a < b)) {t : Nat} {j : Int} (hi : ∀ m (hm : m < ks.length), m < t ↔ ks[m] < j) (hn : ∀ ht : t < ks.length, ks[t] ≠ j) :
    (∀ m (hm : m < ks.length), m < t ↔ ks[m] < j + 1) ∧ ∀ m (hm : m < ks.length), ks[m] ≠ j := by
  have lt := List.pairwise_iff_getElem.1 hs
  have ne : ∀ m (hm : m < ks.length), ks[m] ≠ j := fun m hm e => by
    have h1 := hi m hm
    rcases Nat.lt_trichotomy m t with h | h | h
    · have := h1.1 h; omega
    · subst h; exact hn hm e
    · have h2 := lt t m (by omega) hm h
      have := (hi t (by omega)).2 (by omega)
      omega
  refine ⟨fun m hm => ?_, ne⟩
  have h1 := hi m hm
  have h2 := ne m hm
  constructor
  · intro h; have := h1.1 h; omega
  · intro h; exact h1.2 (by omega)
end Go.Proofs.YtkkmbgjlmdddoabGreat
/- The disk and the reference tell the same, whatever was done on both: plain facts. -/
namespace Go.Proofs.YtkkmbgjlmdddoabGreat
open Go.RowKit
theorem atL_succ (R : RefS) (k : Nat) : atL R (k + 1) = match R.l[k]? with | some o => if o.flush then atL R k else (atL R k).set o.n.toNat o.b | none => atL R k := by
  rw [atL]
  split
  · rename_i h; rw [List.getElem?_eq_getElem h]
  · rename_i h; rw [List.getElem?_eq_none (by omega)]
theorem flushedTo_succ (l : List ROp) (k : Nat) : flushedTo l (k + 1) = match l[k]? with | some o => if o.flush then k + 1 else flushedTo l k | none => flushedTo l k := by
  rw [flushedTo]
  split
  · rename_i h; rw [List.getElem?_eq_getElem h]
  · rename_i h; rw [List.getElem?_eq_none (by omega)]
/-- Those of the ops from f to k that are of sector n: their bytes. -/
def waitsL (l : List ROp) (n : Int) (f : Nat) : Nat → List (List UInt8)
  | 0 => []
  | k + 1 => match l[k]? with | some o => if f ≤ k ∧ o.n = n then waitsL l n f k ++ [o.b] else waitsL l n f k | none => waitsL l n f k
theorem length_waitsL (l : List ROp) (n : Int) (f : Nat) : ∀ k, (waitsL l n f k).length = waitsIn l n f k
  | 0 => rfl
  | k + 1 => by
    have ih := length_waitsL l n f k
    rw [waitsL, waitsIn]
    by_cases h : k < l.length
    · rw [List.getElem?_eq_getElem h, dif_pos h]
      by_cases h2 : f ≤ k ∧ l[k].n = n
      · simp only [if_pos h2, List.length_append, List.length_cons, List.length_nil, ih]
      · simp only [if_neg h2, ih]
    · rw [List.getElem?_eq_none (by omega), dif_neg h]; exact ih
theorem waitsL_low (l : List ROp) (n : Int) (f : Nat) : ∀ k, k ≤ f → waitsL l n f k = []
  | 0, _ => rfl
  | k + 1, h => by
    have ih := waitsL_low l n f k (by omega)
    rw [waitsL]
    split
    · rw [if_neg (by omega)]; exact ih
    · exact ih
/-- Only the ops ahead count. -/
theorem atL_congr (R R' : RefS) (hf : R.first = R'.first) : ∀ k, (∀ i, i < k → R.l[i]? = R'.l[i]?) → atL R k = atL R' k
  | 0, _ => hf
  | k + 1, h => by rw [atL_succ, atL_succ, h k (by omega), atL_congr R R' hf k (fun i hi => h i (by omega))]
theorem flushedTo_congr (l l' : List ROp) : ∀ k, (∀ i, i < k → l[i]? = l'[i]?) → flushedTo l k = flushedTo l' k
  | 0, _ => rfl
  | k + 1, h => by rw [flushedTo_succ, flushedTo_succ, h k (by omega), flushedTo_congr l l' k (fun i hi => h i (by omega))]
theorem waitsL_congr (l l' : List ROp) (n : Int) (f : Nat) : ∀ k, (∀ i, i < k → l[i]? = l'[i]?) → waitsL l n f k = waitsL l' n f k
  | 0, _ => rfl
  | k + 1, h => by rw [waitsL, waitsL, h k (by omega), waitsL_congr l l' n f k (fun i hi => h i (by omega))]
theorem snoc_low (l : List ROp) (o : ROp) (i : Nat) (h : i < l.length) : (l ++ [o])[i]? = l[i]? := List.getElem?_append_left h
/-- The disk and the reference tell the same. -/
structure Alike (S : DiskS) (R : RefS) : Prop where
  len : S.safe.length = R.first.length
  ok : okR R
  img : bytesOf (imgS S) = atL R R.l.length
  safe : bytesOf S.safe = atL R (flushedTo R.l R.l.length)
  waits : ∀ n : Int, bytesOf (S.waits n) = waitsL R.l n (flushedTo R.l R.l.length) R.l.length
  ops : S.ops.length = R.l.length
theorem bytesOf_set (L : List ByteArray) (i : Nat) (s : ByteArray) : bytesOf (L.set i s) = (bytesOf L).set i s.data.toList := by simp [bytesOf, List.map_set]
theorem imgS_wrote (S : DiskS) (n : Int) (s : ByteArray) (h0 : 0 ≤ n) : imgS (S.wrote n s) = (imgS S).set n.toNat s := by
  apply List.ext_getElem (by simp [length_imgS, DiskS.wrote])
  intro k h1 h2
  have h3 : k < (imgS S).length := by simpa using h2
  rw [imgS_at, List.getElem_set]
  by_cases e : n.toNat = k
  · have e2 : (k : Int) = n := by omega
    rw [if_pos e, e2]
    simp [seenS, DiskS.wrote, upd_same]
  · have e2 : (k : Int) ≠ n := by omega
    rw [if_neg e, imgS_at S k h3]
    simp [seenS, DiskS.wrote, upd_other _ _ e2]
theorem Alike.write {S : DiskS} {R : RefS} (h : Alike S R) {n : Int} {b : List UInt8} (h0 : 0 ≤ n) (h1 : n < R.first.length) (hb : b.length = 512) : Alike (S.wrote n ⟨b.toArray⟩) (R.did ⟨false, n, b⟩) := by
  have hlen : (R.did ⟨false, n, b⟩).l.length = R.l.length + 1 := by simp [RefS.did]
  have hat : (R.did ⟨false, n, b⟩).l[R.l.length]? = some ⟨false, n, b⟩ := by simp [RefS.did]
  have hlow : ∀ i, i < R.l.length → (R.did ⟨false, n, b⟩).l[i]? = R.l[i]? := fun i hi => snoc_low _ _ _ hi
  have hfl : flushedTo (R.did ⟨false, n, b⟩).l (R.did ⟨false, n, b⟩).l.length = flushedTo R.l R.l.length := by
    rw [hlen, flushedTo_succ, hat]; exact flushedTo_congr _ _ _ hlow
  have hle := flushedTo_le R.l R.l.length
  refine ⟨h.len, ⟨h.ok.1, h.ok.2.1, fun o ho hf => ?_⟩, ?_, ?_, fun m => ?_, by rw [hlen, ← h.ops]; simp [DiskS.wrote]⟩
  · rcases List.mem_append.1 ho with ho | ho
    · exact h.ok.2.2 o ho hf
    · rw [List.mem_singleton.1 ho]; exact ⟨h0, h1, hb⟩
  · rw [hlen, atL_succ, hat, imgS_wrote S n _ h0, bytesOf_set, h.img, atL_congr (R.did ⟨false, n, b⟩) R rfl R.l.length hlow]
    rfl
  · rw [hfl, atL_congr (R.did ⟨false, n, b⟩) R rfl _ (fun i hi => hlow i (by omega))]
    exact h.safe
  · rw [hfl, hlen, waitsL, hat, waitsL_congr _ _ _ _ _ hlow, ← h.waits m]
    by_cases e : m = n
    · subst e
      simp [DiskS.wrote, upd_same, hle, bytesOf]
    · have e2 : ¬ (flushedTo R.l R.l.length ≤ R.l.length ∧ n = m) := fun h => e h.2.symm
      simp only [if_neg e2]
      simp [DiskS.wrote, upd_other _ _ e]
theorem Alike.flush {S : DiskS} {R : RefS} (h : Alike S R) : Alike S.flushed (R.did ⟨true, 0, []⟩) := by
  have hlen : (R.did ⟨true, 0, []⟩).l.length = R.l.length + 1 := by simp [RefS.did]
  have hat : (R.did ⟨true, 0, []⟩).l[R.l.length]? = some ⟨true, 0, []⟩ := by simp [RefS.did]
  have hlow : ∀ i, i < R.l.length → (R.did ⟨true, 0, []⟩).l[i]? = R.l[i]? := fun i hi => snoc_low _ _ _ hi
  have hfl : flushedTo (R.did ⟨true, 0, []⟩).l (R.did ⟨true, 0, []⟩).l.length = R.l.length + 1 := by
    rw [hlen, flushedTo_succ, hat]; rfl
  have him : atL (R.did ⟨true, 0, []⟩) (R.l.length + 1) = atL R R.l.length := by
    rw [atL_succ, hat]
    exact atL_congr (R.did ⟨true, 0, []⟩) R rfl R.l.length hlow
  refine ⟨by simpa [DiskS.flushed, length_imgS, RefS.did] using h.len, ⟨h.ok.1, h.ok.2.1, fun o ho hf => ?_⟩, ?_, ?_, fun m => ?_, by rw [hlen, ← h.ops]; simp [DiskS.flushed]⟩
  · rcases List.mem_append.1 ho with ho | ho
    · exact h.ok.2.2 o ho hf
    · rw [List.mem_singleton.1 ho] at hf; cases hf
  · rw [hlen, him, imgS_flushed, h.img]
  · rw [hfl, him, ← h.img]; rfl
  · rw [hfl, hlen, waitsL_low _ _ _ _ (Nat.le_refl _)]; rfl
theorem Alike.put {S : DiskS} {R : RefS} (h : Alike S R) (n : Int) (b : List UInt8) : Alike (S.put n b) (R.put n b) := by
  have e := err_same h.len n b
  unfold DiskS.put RefS.put
  rw [e]
  by_cases h0 : errR R n b = 0
  · rw [if_pos h0, if_pos h0]
    unfold errR at h0
    by_cases h1 : 0 ≤ n ∧ n < R.first.length
    · rw [if_neg (fun h => h h1)] at h0
      by_cases h2 : b.length = 512
      · exact h.write h1.1 h1.2 h2
      · rw [if_pos h2] at h0; cases h0
    · rw [if_pos h1] at h0; cases h0
  · rw [if_neg h0, if_neg h0]; exact h
theorem Alike.step {S : DiskS} {R : RefS} (h : Alike S R) (D : DeedS) : Alike (stepS S D) (stepR R D) := by
  unfold stepS stepR
  split
  · exact h.flush
  · exact h.put _ _
theorem blank_zeros : blankS.data.toList = zeros := by
  show (Lib.repeatL [0] 512).toArray.toList = List.replicate 512 0
  decide +kernel
theorem alike_fresh (n : Nat) (hn : n ≤ 4096) : Alike (freshS (List.replicate n blankS)) (rfresh n) := by
  have hb : bytesOf (List.replicate n blankS) = List.replicate n zeros := by rw [bytesOf, List.map_replicate, blank_zeros]
  refine ⟨by simp [freshS, rfresh], ⟨by rw [rfresh_length]; exact hn, fun l hl => by rw [List.eq_of_mem_replicate hl]; exact length_zeros, fun o ho => by simp [rfresh] at ho⟩, ?_, ?_, fun m => rfl, rfl⟩
  · rw [imgS_fresh]; exact hb
  · exact hb
theorem alike_play (n : Nat) (hn : n ≤ 4096) (ds : List DeedS) : ∀ k, k ≤ ds.length → Alike (playS n ds k) (playR n ds k)
  | 0, _ => alike_fresh n hn
  | k + 1, h => by rw [playS_step n ds k (by omega), playR_step n ds k (by omega)]; exact (alike_play n hn ds k (by omega)).step _
/-- What waits is told alike. -/
theorem Alike.count {S : DiskS} {R : RefS} (h : Alike S R) (n : Nat) : (S.waits n).length = rWait R n := by
  have := congrArg List.length (h.waits n)
  rw [length_bytesOf, length_waitsL] at this
  exact this
theorem Alike.keys {S : DiskS} {R : RefS} (h : Alike S R) : waitKeys S.waits S.safe.length = rKeys (rWait R) R.first.length := by
  unfold waitKeys rKeys
  rw [h.len, List.filter_map]
  congr 1
  apply List.filter_congr
  intro n _
  have := h.count n
  simp only [Function.comp]
  cases hw : S.waits n with
  | nil => rw [hw] at this; simp at this; simp [← this]
  | cons a l => rw [hw] at this; simp at this; simp [← this]
theorem Alike.counts {S : DiskS} {R : RefS} (h : Alike S R) : waitCounts S.waits S.safe.length = rCounts (rWait R) R.first.length := by
  unfold waitCounts
  rw [h.keys]
  unfold rKeys rCounts
  rw [List.map_map]
  apply List.map_congr_left
  intro n _
  simp only [Function.comp]
  rw [h.count n]
theorem Alike.read {S : DiskS} {R : RefS} (h : Alike S R) (n : Nat) (hn : n < R.first.length) : (atL R R.l.length)[n]? = some (seenS S.safe S.waits n).data.toList := by
  have h1 : n < (imgS S).length := by rw [length_imgS, h.len]; exact hn
  rw [← h.img, bytesOf, List.getElem?_map, List.getElem?_eq_getElem h1, imgS_at S n h1]
  rfl
end Go.Proofs.YtkkmbgjlmdddoabGreat
/- The reference's Read. -/
namespace Go.Proofs.YtkkmbgjlmdddoabGreat
open Go.RowKit
end Go.Proofs.YtkkmbgjlmdddoabGreat
/- A disk is what its ops made of its first sectors; the same of the first k of them. Plain facts. -/
namespace Go.Proofs.YtkkmbgjlmdddoabGreat
open Go.RowKit
/-- One op. -/
def doOp (S : DiskS) : OpS → DiskS
  | .write n s => S.wrote n s
  | .flush => S.flushed
/-- An op as the reference has it. -/
def ropOf : OpS → ROp
  | .write n s => ⟨false, n, s.data.toList⟩
  | .flush => ⟨true, 0, []⟩
/-- A write within N sectors, of 512 bytes. -/
def okOp (N : Nat) : OpS → Prop
  | .write n s => 0 ≤ n ∧ n < N ∧ s.size = 512
  | .flush => True
def doOps (S : DiskS) (l : List OpS) : DiskS := l.foldl doOp S
theorem doOps_snoc (S : DiskS) (l : List OpS) (o : OpS) : doOps S (l ++ [o]) = doOp (doOps S l) o := by simp [doOps]
theorem doOp_first (S : DiskS) (o : OpS) : (doOp S o).first = S.first := by cases o <;> rfl
theorem doOp_len (S : DiskS) (o : OpS) : (doOp S o).safe.length = S.safe.length := by cases o <;> simp [doOp, DiskS.wrote, DiskS.flushed, length_imgS]
theorem doOp_ops (S : DiskS) (o : OpS) : (doOp S o).ops = S.ops ++ [o] := by cases o <;> rfl
theorem doOps_facts (S : DiskS) : ∀ l : List OpS, (doOps S l).first = S.first ∧ (doOps S l).safe.length = S.safe.length ∧ (doOps S l).ops = S.ops ++ l := by
  intro l
  induction l generalizing S with
  | nil => simp [doOps]
  | cons o l ih =>
    obtain ⟨h1, h2, h3⟩ := ih (doOp S o)
    refine ⟨by rw [show doOps S (o :: l) = doOps (doOp S o) l from rfl, h1, doOp_first], by rw [show doOps S (o :: l) = doOps (doOp S o) l from rfl, h2, doOp_len], ?_⟩
    rw [show doOps S (o :: l) = doOps (doOp S o) l from rfl, h3, doOp_ops]; simp
/-- A disk is what its ops made. -/
structure Told (S : DiskS) (R : RefS) : Prop where
  made : S = doOps (freshS S.first) S.ops
  ops : R.l = S.ops.map ropOf
  first : R.first = bytesOf S.first
  ok : ∀ o ∈ S.ops, okOp S.first.length o
  most : S.first.length ≤ 4096
  size : ∀ s ∈ S.first, s.size = 512
/-- The disk behind the first k ops. -/
def cutS (S : DiskS) (k : Nat) : DiskS := doOps (freshS S.first) (S.ops.take k)
def cutR (R : RefS) (k : Nat) : RefS := ⟨R.first, R.l.take k⟩
theorem cutS_facts (S : DiskS) (k : Nat) : (cutS S k).first = S.first ∧ (cutS S k).safe.length = S.first.length ∧ (cutS S k).ops = S.ops.take k := by
  obtain ⟨h1, h2, h3⟩ := doOps_facts (freshS S.first) (S.ops.take k)
  exact ⟨h1, h2, h3.trans (List.nil_append _)⟩
theorem cutS_step (S : DiskS) (k : Nat) (h : k < S.ops.length) : cutS S (k + 1) = doOp (cutS S k) S.ops[k] := by
  unfold cutS; rw [List.take_succ_eq_append_getElem h, doOps_snoc]
theorem doOps_alike (F : List ByteArray) (hF : F.length ≤ 4096) (hs : ∀ s ∈ F, s.size = 512) (l : List OpS) (hl : ∀ o ∈ l, okOp F.length o) : Alike (doOps (freshS F) l) ⟨bytesOf F, l.map ropOf⟩ := by
  have key : ∀ k, k ≤ l.length → Alike (doOps (freshS F) (l.take k)) ⟨bytesOf F, (l.take k).map ropOf⟩ := by
    intro k
    induction k with
    | zero =>
      intro _
      refine ⟨by simp [doOps, freshS, length_bytesOf], ⟨by simpa [length_bytesOf] using hF, fun b hb => ?_, fun o ho => by simp at ho⟩, ?_, ?_, fun m => rfl, rfl⟩
      · obtain ⟨s, h1, rfl⟩ := List.mem_map.1 hb
        simpa using hs s h1
      · show bytesOf (imgS (freshS F)) = bytesOf F
        rw [imgS_fresh]
      · rfl
    | succ k ih =>
      intro hk
      have ih := ih (by omega)
      rw [List.take_succ_eq_append_getElem (by omega), doOps_snoc, List.map_append]
      have ho := hl l[k] (List.getElem_mem (by omega))
      generalize l[k] = o at *
      generalize doOps (freshS F) (l.take k) = S at *
      cases o with
      | write n s =>
        obtain ⟨h0, h1, h2⟩ := ho
        have := ih.write (n := n) (b := s.data.toList) h0 (by simpa [length_bytesOf] using h1) (by simpa using h2)
        exact this
      | flush => exact ih.flush
  have := key l.length (Nat.le_refl _)
  rwa [List.take_length] at this
theorem Told.alike {S : DiskS} {R : RefS} (h : Told S R) : Alike S R := by
  have := doOps_alike S.first h.most h.size S.ops h.ok
  rw [← h.made, ← h.first, ← h.ops] at this
  exact this
theorem Told.cut {S : DiskS} {R : RefS} (h : Told S R) (k : Nat) : Told (cutS S k) (cutR R k) := by
  obtain ⟨h1, h2, h3⟩ := cutS_facts S k
  refine ⟨by rw [h1, h3]; rfl, by rw [h3, List.map_take, ← h.ops]; rfl, by rw [h1]; exact h.first, fun o ho => ?_, by rw [h1]; exact h.most, by rw [h1]; exact h.size⟩
  rw [h3] at ho
  rw [h1]
  exact h.ok o (List.mem_of_mem_take ho)
theorem Told.op {S : DiskS} {R : RefS} (h : Told S R) (o : OpS) (ho : okOp S.first.length o) : Told (doOp S o) (R.did (ropOf o)) := by
  refine ⟨?_, ?_, by rw [doOp_first]; exact h.first, fun o' ho' => ?_, by rw [doOp_first]; exact h.most, by rw [doOp_first]; exact h.size⟩
  · rw [doOp_first, doOp_ops, doOps_snoc, ← h.made]
  · rw [doOp_ops, List.map_append, ← h.ops]; rfl
  · rw [doOp_first]
    rw [doOp_ops, List.mem_append] at ho'
    rcases ho' with h1 | h1
    · exact h.ok o' h1
    · rw [List.mem_singleton.1 h1]; exact ho
theorem Told.step {S : DiskS} {R : RefS} (h : Told S R) (D : DeedS) : Told (stepS S D) (stepR R D) := by
  have hl : S.safe.length = R.first.length := h.alike.len
  have hf : S.first.length = R.first.length := by rw [h.first, length_bytesOf]
  unfold stepS stepR
  split
  · exact h.op .flush trivial
  · have e := err_same hl D.n D.bytes
    unfold DiskS.put RefS.put
    rw [e]
    by_cases h0 : errR R D.n D.bytes = 0
    · rw [if_pos h0, if_pos h0]
      unfold errR at h0
      by_cases h1 : 0 ≤ D.n ∧ D.n < R.first.length
      · rw [if_neg (fun h => h h1)] at h0
        by_cases h2 : D.bytes.length = 512
        · exact h.op (.write D.n ⟨D.bytes.toArray⟩) ⟨h1.1, by rw [hf]; exact h1.2, by show D.bytes.toArray.size = 512; simpa using h2⟩
        · rw [if_pos h2] at h0; cases h0
      · rw [if_pos h1] at h0; cases h0
    · rw [if_neg h0, if_neg h0]; exact h
theorem told_play (n : Nat) (hn : n ≤ 4096) (ds : List DeedS) : ∀ k, k ≤ ds.length → Told (playS n ds k) (playR n ds k)
  | 0, _ => by
    have hb : bytesOf (List.replicate n blankS) = List.replicate n zeros := by rw [bytesOf, List.map_replicate, blank_zeros]
    exact ⟨rfl, rfl, hb.symm, fun o ho => by simp [playS, freshS] at ho, by simp [playS, freshS]; exact hn, fun s hs => by
      have : s ∈ List.replicate n blankS := hs
      rw [List.eq_of_mem_replicate this]; exact blank_size⟩
  | k + 1, h => by rw [playS_step n ds k (by omega), playR_step n ds k (by omega)]; exact (told_play n hn ds k (by omega)).step _
end Go.Proofs.YtkkmbgjlmdddoabGreat
