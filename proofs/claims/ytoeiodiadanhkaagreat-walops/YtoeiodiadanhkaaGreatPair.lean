/- A disk and the reference beside one another; deeds done on both. -/
import Derived.Test.YtoeiodiadanhkaaGreatJoined2
namespace Go.Proofs.YtoeiodiadanhkaaGreat
open Go.RowKit
/-- A disk and the reference that lie apart, made since w0. -/
structure Pair (w0 w : World) (d : DL) (S : DiskS) (r : Nat) (fv lv : Value) (vs : List Value) (Rd : Nat → Prop) (R : RefS) : Prop where
  below : Below w0.heap.size w0 w
  D : DiskIn w d S
  Rf : RefIn w r fv lv vs Rd R
  fd : ∀ i, d.foot S.waits i → w0.heap.size ≤ i ∧ ¬ Rd i ∧ i ≠ r
  fr : w0.heap.size ≤ r
  fvr : d.fv.ownBlock ≠ some r
  rdlt : ∀ i, Rd i → i < w.heap.size
variable {w0 wa wb : World} {d d' : DL} {S S' : DiskS} {r : Nat} {fv lv lv' : Value} {vs vs' : List Value} {Rd : Nat → Prop} {R R' : RefS}
theorem Pair.grow (h : Pair w0 wa d S r fv lv vs Rd R) (hb : Below wa.heap.size wa wb) : Pair w0 wb d S r fv lv vs Rd R :=
  ⟨h.below.trans (hb.mono h.below.size), h.D.below hb, h.Rf.below hb, h.fd, h.fr, h.fvr, fun i hi => Nat.lt_of_lt_of_le (h.rdlt i hi) hb.size⟩
theorem Pair.disk (h : Pair w0 wa d S r fv lv vs Rd R) (hD : DiskIn wb d' S') (e2 : d'.fv = d.fv) (hf : ∀ i, d'.foot S'.waits i → d.foot S.waits i ∨ wa.heap.size ≤ i) (hK : Keeps (d.foot S.waits) wa wb) : Pair w0 wb d' S' r fv lv vs Rd R := by
  have hr := lt_of_heap h.Rf.heap
  have hsz := h.below.size
  refine ⟨h.below.trans (hK.below hsz (fun i hi => (h.fd i hi).1)), hD, h.Rf.keep hK (fun i hi hn => (h.fd i hn).2.1 hi) (fun hn => (h.fd r hn).2.2 rfl), fun i hi => ?_, h.fr, by rw [e2]; exact h.fvr, fun i hi => Nat.lt_of_lt_of_le (h.rdlt i hi) hK.size⟩
  rcases hf i hi with e | e
  · exact h.fd i e
  · exact ⟨by omega, fun hn => by have := h.rdlt i hn; omega, by omega⟩
theorem Pair.ref (h : Pair w0 wa d S r fv lv vs Rd R) (hR : RefIn wb r fv lv' vs' (moreOf Rd wa wb) R') (hK : Keeps (fun i => i = r) wa wb) : Pair w0 wb d S r fv lv' vs' (moreOf Rd wa wb) R' := by
  refine ⟨h.below.trans (hK.below h.below.size (fun i e => by rw [e]; exact h.fr)), h.D.keep hK (fun i hi e => (h.fd i hi).2.2 e) (fun i hi e => h.fvr (by rw [← e]; exact hi)), hR, fun i hi => ?_, h.fr, h.fvr, fun i hi => ?_⟩
  · obtain ⟨a1, a2, a3⟩ := h.fd i hi
    refine ⟨a1, fun hn => ?_, a3⟩
    rcases hn with hn | hn
    · exact a2 hn
    · have := h.D.foot_lt hi; omega
  · rcases hi with hi | hi
    · exact Nat.lt_of_lt_of_le (h.rdlt i hi) hK.size
    · exact hi.2
theorem Pair.other (h : Pair w0 wa d S r fv lv vs Rd R) {g : Nat} (hK : Keeps (fun i => i = g) wa wb) (g0 : w0.heap.size ≤ g) (g1 : ¬ d.foot S.waits g) (g2 : d.fv.ownBlock ≠ some g) (g3 : ¬ Rd g) (g4 : g ≠ r) : Pair w0 wb d S r fv lv vs Rd R :=
  ⟨h.below.trans (hK.below h.below.size (fun i e => by rw [e]; exact g0)), h.D.keep hK (fun i hi e => g1 (by rw [← e]; exact hi)) (fun i hi e => g2 (by rw [← e]; exact hi)), h.Rf.keep hK (fun i hi e => g3 (by rw [← e]; exact hi)) (fun e => g4 e.symm), h.fd, h.fr, h.fvr, fun i hi => Nat.lt_of_lt_of_le (h.rdlt i hi) hK.size⟩
/-- A block of bytes is none that a disk writes. -/
theorem DiskIn.foot_u8 {w : World} (h : DiskIn w d S) {i : Nat} {cs : Array Value} {fr : Nat × Nat} (hi : w.heap[i]? = some (.cells cs 5 fr)) : ¬ d.foot S.waits i := by
  rintro (e | e | e)
  · rw [e, h.heap] at hi
    simp only [Option.some.injEq, Obj.cells.injEq] at hi
    exact absurd hi.2.1 (by decide)
  · obtain ⟨cur, hc⟩ := row_type h.ops e
    rw [hc] at hi
    simp only [Option.some.injEq, Obj.cells.injEq] at hi
    exact absurd hi.2.1 (by decide)
  · exact h.plates.foot_other hi (by decide) e
/-- A deed. -/
structure DeedS where
  f : Bool
  n : Int
  l : Int
  x : Int
def DeedS.bytes (D : DeedS) : List UInt8 := fullS (deedLen D.l) D.x
def stepS (S : DiskS) (D : DeedS) : DiskS := if D.f then S.flushed else S.put D.n D.bytes
def stepR (R : RefS) (D : DeedS) : RefS := if D.f then R.did ⟨true, 0, []⟩ else R.put D.n D.bytes
/-- Both behind the first k deeds. -/
def playS (n : Nat) (ds : List DeedS) (k : Nat) : DiskS := (ds.take k).foldl stepS (freshS (List.replicate n blankS))
def playR (n : Nat) (ds : List DeedS) (k : Nat) : RefS := (ds.take k).foldl stepR (rfresh n)
theorem playS_step (n : Nat) (ds : List DeedS) (k : Nat) (h : k < ds.length) : playS n ds (k + 1) = stepS (playS n ds k) ds[k] := by
  unfold playS; rw [List.take_succ_eq_append_getElem h, List.foldl_append]; rfl
theorem playR_step (n : Nat) (ds : List DeedS) (k : Nat) (h : k < ds.length) : playR n ds (k + 1) = stepR (playR n ds k) ds[k] := by
  unfold playR; rw [List.take_succ_eq_append_getElem h, List.foldl_append]; rfl
theorem stepS_length (S : DiskS) (D : DeedS) : (stepS S D).safe.length = S.safe.length := by
  unfold stepS; split
  · simp [DiskS.flushed, length_imgS]
  · rw [put_safe]
theorem stepS_ops (S : DiskS) (D : DeedS) : (stepS S D).ops.length ≤ S.ops.length + 1 := by
  unfold stepS; split
  · simp [DiskS.flushed]
  · exact put_ops _ _ _
theorem rput_first (R : RefS) (n : Int) (l : List UInt8) : (R.put n l).first = R.first := by unfold RefS.put; split <;> rfl
theorem stepR_first (R : RefS) (D : DeedS) : (stepR R D).first = R.first := by
  unfold stepR; split
  · rfl
  · exact rput_first _ _ _
theorem stepR_ops (R : RefS) (D : DeedS) : (stepR R D).l.length ≤ R.l.length + 1 := by
  unfold stepR; split
  · simp [RefS.did]
  · unfold RefS.put; split <;> simp [RefS.did]
theorem play_sizes (n : Nat) (ds : List DeedS) : ∀ k, k ≤ ds.length → (playS n ds k).safe.length = n ∧ (playR n ds k).first.length = n ∧ (playS n ds k).ops.length ≤ k ∧ (playR n ds k).l.length ≤ k
  | 0, _ => ⟨by simp [playS, freshS], by simp [playR, rfresh_length], by simp [playS, freshS], by simp [playR, rfresh]⟩
  | k + 1, h => by
    obtain ⟨h1, h2, h3, h4⟩ := play_sizes n ds k (by omega)
    rw [playS_step n ds k (by omega), playR_step n ds k (by omega), stepS_length, stepR_first]
    have a := stepS_ops (playS n ds k) ds[k]
    have b := stepR_ops (playR n ds k) ds[k]
    exact ⟨h1, h2, by omega, by omega⟩
theorem err_same {S : DiskS} {R : RefS} (h : S.safe.length = R.first.length) (n : Int) (l : List UInt8) : errW S n l = errR R n l := by
  unfold errW errR; rw [h]
/-- Deeds lie where the slice points. -/
def deedsAt (w : World) (a : Option Addr) (ds : List DeedS) : Prop := ∀ j, j < ds.length → ∃ b o, a = some ⟨b, o, none⟩ ∧ ∀ i (hi : i < ds.length),
  w.cell? ⟨b, o + i * 4, none⟩ = some (.bool (ds[i]).f) ∧ w.cell? ⟨b, o + i * 4 + 1, none⟩ = some (.int .i64 (ds[i]).n) ∧ w.cell? ⟨b, o + i * 4 + 2, none⟩ = some (.int .i64 (ds[i]).l) ∧ w.cell? ⟨b, o + i * 4 + 3, none⟩ = some (.int .u8 (ds[i]).x) ∧ 0 ≤ (ds[i]).x ∧ (ds[i]).x ≤ 255
end Go.Proofs.YtoeiodiadanhkaaGreat
