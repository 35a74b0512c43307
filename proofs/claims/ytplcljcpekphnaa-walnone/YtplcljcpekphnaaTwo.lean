/- Two disks beside one another, and two variables: what is written to one disk leaves all else alone. Writes to unlike sectors may be done in any order. -/
import Derived.Test.YtplcljcpekphnaaSame
namespace Go.Proofs.Ytplcljcpekphnaa
open Go.RowKit
theorem DiskIn.fv_lt {w : World} {d : DL} {S : DiskS} (h : DiskIn w d S) {i : Nat} (hi : d.fv.ownBlock = some i) : i < w.heap.size := by
  obtain ⟨ad, c, e, hc, _⟩ := h.first
  have hpos : 0 < S.first.length := by rw [h.flen]; exact h.plates.pos
  have := World.block_lt_of_cell? w _ (hc 0 (S.first[0]) (by simp [hpos]))
  rw [add_block] at this
  rw [e] at hi
  obtain rfl : ad.block = i := Option.some.inj hi
  exact this
theorem below_undrew {K : Nat} {w w' : World} (h : Below K w.drew w') : Below K w w' := ⟨h.os, h.tape, h.output, h.size, h.block⟩
variable {w0 w wa wb : World} {bx bY : Nat} {X Y : Array Value} {d1 d2 d1' : DL} {S1 S2 S1' : DiskS}
theorem upd_comm (f : Int → List ByteArray) {n m : Int} (h : n ≠ m) (a b : List ByteArray) : upd (upd f n a) m b = upd (upd f m b) n a := by
  funext k
  unfold upd
  by_cases h1 : k = m
  · have h2 : ¬ k = n := fun e => h (e.symm.trans h1)
    simp [h1, Ne.symm h]
  · simp [h1]
theorem errW_put (S : DiskS) (n m : Int) (a b : List UInt8) : errW (S.put n a) m b = errW S m b := by unfold errW; rw [put_safe]
theorem put_waits (S : DiskS) (n : Int) (a : List UInt8) : (S.put n a).waits = if errW S n a = 0 then upd S.waits n (S.waits n ++ [⟨a.toArray⟩]) else S.waits := by
  unfold DiskS.put; split <;> rfl
/-- Writes to unlike sectors may be done in any order. -/
theorem put_comm (S : DiskS) {n m : Int} (h : n ≠ m) (a b : List UInt8) : ((S.put n a).put m b).waits = ((S.put m b).put n a).waits ∧ ((S.put n a).put m b).safe = ((S.put m b).put n a).safe := by
  refine ⟨?_, by simp only [put_safe]⟩
  rw [put_waits, put_waits, put_waits, put_waits, errW_put, errW_put]
  by_cases e1 : errW S n a = 0 <;> by_cases e2 : errW S m b = 0
  · simp only [e1, e2, if_true]
    rw [upd_other _ _ (Ne.symm h), upd_other _ _ h]
    exact upd_comm _ h _ _
  · simp [e1, e2]
  · simp [e1, e2]
  · simp [e1, e2]
theorem put_comm_told (S : DiskS) {n m : Int} (h : n ≠ m) (a b : List UInt8) : imgS ((S.put n a).put m b) = imgS ((S.put m b).put n a) ∧
    waitKeys ((S.put n a).put m b).waits ((S.put n a).put m b).safe.length = waitKeys ((S.put m b).put n a).waits ((S.put m b).put n a).safe.length ∧
    waitCounts ((S.put n a).put m b).waits ((S.put n a).put m b).safe.length = waitCounts ((S.put m b).put n a).waits ((S.put m b).put n a).safe.length := by
  obtain ⟨h1, h2⟩ := put_comm S h a b
  refine ⟨?_, ?_, ?_⟩
  · unfold imgS; rw [h1, h2]
  · rw [h1, h2]
  · rw [h1, h2]
end Go.Proofs.Ytplcljcpekphnaa
