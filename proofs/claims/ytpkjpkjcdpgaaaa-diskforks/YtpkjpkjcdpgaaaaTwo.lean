/- Two disks beside one another, and two variables: what is written to one disk leaves all else alone. Writes to unlike sectors may be done in any order. -/
import Derived.Test.YtpkjpkjcdpgaaaaSame
namespace Go.Proofs.Ytpkjpkjcdpgaaaa
open Go.RowKit
theorem DiskIn.fv_lt {w : World} {d : DL} {S : DiskS} (h : DiskIn w d S) {i : Nat} (hi : d.fv.ownBlock = some i) : i < w.heap.size := by
  obtain ⟨ad, c, e, hc, _⟩ := h.first
  have hpos : 0 < S.first.length := by rw [h.flen]; exact h.plates.pos
  have := World.block_lt_of_cell? w _ (hc 0 (S.first[0]) (by simp [hpos]))
  rw [add_block] at this
  rw [e] at hi
  obtain rfl : ad.block = i := Option.some.inj hi
  exact this
theorem below_undrew {K : Nat} {w w' : World} (h : Below K w.drew w') : Below K w w' := ⟨h.os, h.tape, h.output, h.size, h.block⟩
/-- Two disks and two variables that lie apart, all made since w0. -/
structure Two (w0 w : World) (bx bY : Nat) (X Y : Array Value) (d1 d2 : DL) (S1 S2 : DiskS) : Prop where
  below : Below w0.heap.size w0 w
  hx : w.heap[bx]? = some (.cells X 51 (0, 0))
  hy : w.heap[bY]? = some (.cells Y 51 (0, 0))
  D1 : DiskIn w d1 S1
  D2 : DiskIn w d2 S2
  f1 : ∀ i, d1.foot S1.waits i → w0.heap.size ≤ i ∧ i ≠ bx ∧ i ≠ bY ∧ ¬ d2.foot S2.waits i ∧ d2.fv.ownBlock ≠ some i
  f2 : ∀ i, d2.foot S2.waits i → w0.heap.size ≤ i ∧ i ≠ bx ∧ i ≠ bY ∧ ¬ d1.foot S1.waits i ∧ d1.fv.ownBlock ≠ some i
variable {w0 w wa wb : World} {bx bY : Nat} {X Y : Array Value} {d1 d2 d1' : DL} {S1 S2 S1' : DiskS}
theorem Two.swap (h : Two w0 w bx bY X Y d1 d2 S1 S2) : Two w0 w bx bY X Y d2 d1 S2 S1 := ⟨h.below, h.hx, h.hy, h.D2, h.D1, h.f2, h.f1⟩
theorem Two.grow (h : Two w0 w bx bY X Y d1 d2 S1 S2) (hb : Below w.heap.size w wa) : Two w0 wa bx bY X Y d1 d2 S1 S2 :=
  ⟨h.below.trans (hb.mono h.below.size), below_block hb h.hx (lt_of_heap h.hx), below_block hb h.hy (lt_of_heap h.hy), h.D1.below hb, h.D2.below hb, h.f1, h.f2⟩
/-- One disk has been written. -/
theorem Two.put (h : Two w0 wa bx bY X Y d1 d2 S1 S2) (hD : DiskIn wb d1' S1') (e2 : d1'.fv = d1.fv) (hf : ∀ i, d1'.foot S1'.waits i → d1.foot S1.waits i ∨ wa.heap.size ≤ i) (hK : Keeps (d1.foot S1.waits) wa wb) : Two w0 wb bx bY X Y d1' d2 S1' S2 := by
  have hbx := lt_of_heap h.hx
  have hby := lt_of_heap h.hy
  have hsz := h.below.size
  refine ⟨h.below.trans (hK.below hsz (fun i hi => (h.f1 i hi).1)), hK.heap h.hx (fun hi => (h.f1 _ hi).2.1 rfl), hK.heap h.hy (fun hi => (h.f1 _ hi).2.2.1 rfl), hD, ?_, ?_, ?_⟩
  · exact h.D2.keep hK (fun i hi hn => (h.f1 i hn).2.2.2.1 hi) (fun i hi hn => (h.f1 i hn).2.2.2.2 hi)
  · intro i hi
    rcases hf i hi with e | e
    · exact h.f1 i e
    · refine ⟨by omega, by omega, by omega, fun hn => ?_, fun hn => ?_⟩
      · have := h.D2.foot_lt hn; omega
      · have := h.D2.fv_lt hn; omega
  · intro i hi
    obtain ⟨a1, a2, a3, a4, a5⟩ := h.f2 i hi
    refine ⟨a1, a2, a3, fun hn => ?_, by rw [e2]; exact a5⟩
    rcases hf i hn with e | e
    · exact a4 e
    · have := h.D2.foot_lt hi; omega
theorem upd_comm (f : Int → List ByteArray) {n m : Int} (h : n ≠ m) (a b : List ByteArray) : upd (upd f n a) m b = upd (upd f m b) n a := by
  funext k
  unfold upd
  by_cases h1 : k = m
  · have h2 : ¬ k = n := fun e => h (e.symm.trans h1)
    simp [h1, Ne.symm h]
  · simp [h1]
theorem errW_put (S : DiskS) (n m : Int) (a b : List UInt8) : errW (S.put n a) m b = errW S m b := by unfold errW; rw [put_safe]
theorem put_waits (S : DiskS) (n : Int) (a : List UInt8) : (S.put n a).waits = if errW S n a = 0 then upd S.waits n (S.waits n ++ [⟨a.toArray⟩]) else S.waits := by
  unfold DiskS.put; split <;> rfl
/-- Writes to unlike sectors may be done in any order. -/
theorem put_comm (S : DiskS) {n m : Int} (h : n ≠ m) (a b : List UInt8) : ((S.put n a).put m b).waits = ((S.put m b).put n a).waits ∧ ((S.put n a).put m b).safe = ((S.put m b).put n a).safe := by
  refine ⟨?_, by simp only [put_safe]⟩
  rw [put_waits, put_waits, put_waits, put_waits, errW_put, errW_put]
  by_cases e1 : errW S n a = 0 <;> by_cases e2 : errW S m b = 0
  · simp only [e1, e2, if_true]
    rw [upd_other _ _ (Ne.symm h), upd_other _ _ h]
    exact upd_comm _ h _ _
  · simp [e1, e2]
  · simp [e1, e2]
  · simp [e1, e2]
theorem put_comm_told (S : DiskS) {n m : Int} (h : n ≠ m) (a b : List UInt8) : imgS ((S.put n a).put m b) = imgS ((S.put m b).put n a) ∧
    waitKeys ((S.put n a).put m b).waits ((S.put n a).put m b).safe.length = waitKeys ((S.put m b).put n a).waits ((S.put m b).put n a).safe.length ∧
    waitCounts ((S.put n a).put m b).waits ((S.put n a).put m b).safe.length = waitCounts ((S.put m b).put n a).waits ((S.put m b).put n a).safe.length := by
  obtain ⟨h1, h2⟩ := put_comm S h a b
  refine ⟨?_, ?_, ?_⟩
  · unfold imgS; rw [h1, h2]
  · rw [h1, h2]
  · rw [h1, h2]
end Go.Proofs.Ytpkjpkjcdpgaaaa
