/- The reference's Ops, Sectors, flushed. -/
import Derived.Test.YtoeiodiadanhkaaGreatJoined2
namespace Go.Proofs.YtoeiodiadanhkaaGreat
open Go.RowKit
theorem opCells_cons (o : ROp) (l : List ROp) (v : Value) (vs : List Value) : opCells (o :: l) (v :: vs) = .bool o.flush :: .int .i64 o.n :: v :: opCells l vs := by simp [opCells]
theorem opCells_at : ∀ (l : List ROp) (vs : List Value) (_ : l.length = vs.length) (i : Nat) (hi : i < l.length) (hi' : i < vs.length),
    (opCells l vs)[i * 3]? = some (.bool l[i].flush) ∧ (opCells l vs)[i * 3 + 1]? = some (.int .i64 l[i].n) ∧ (opCells l vs)[i * 3 + 2]? = some vs[i]
  | [], _, _, i, hi, _ => by simp at hi
  | o :: l, [], h, _, _, _ => by simp at h
  | o :: l, v :: vs, h, 0, _, _ => by rw [opCells_cons]; simp
  | o :: l, v :: vs, h, i + 1, hi, hi' => by
    obtain ⟨h1, h2, h3⟩ := opCells_at l vs (by simpa using h) i (by simpa using hi) (by simpa using hi')
    rw [opCells_cons, show (i + 1) * 3 = i * 3 + 3 by omega]
    refine ⟨by simpa using h1, ?_, ?_⟩
    · rw [show i * 3 + 3 + 1 = (i * 3 + 1) + 3 by omega]; simpa using h2
    · rw [show i * 3 + 3 + 2 = (i * 3 + 2) + 3 by omega]; simpa using h3
/-- The field of the ops, as a slice. -/
theorem RefIn.slice {w : World} {r : Nat} {fv lv : Value} {vs : List Value} {Rd : Nat → Prop} {R : RefS} (h : RefIn w r fv lv vs Rd R) : ∃ sa cap, lv = .slice sa R.l.length cap ∧ ∀ i (hi : i < R.l.length) (hi' : i < vs.length), ∃ g, sa = some ⟨g, 0, none⟩ ∧
    w.cell? ⟨g, i * 3, none⟩ = some (.bool R.l[i].flush) ∧ w.cell? ⟨g, i * 3 + 1, none⟩ = some (.int .i64 R.l[i].n) ∧ w.cell? ⟨g, i * 3 + 2, none⟩ = some vs[i] := by
  rcases Nat.eq_zero_or_pos R.l.length with h0 | hp
  · exact ⟨none, 0, by rw [h.nilv (List.length_eq_zero_iff.1 h0), h0], fun i hi => by omega⟩
  · obtain ⟨g, cap, rfl, h1, h2⟩ := h.ops.form hp
    refine ⟨some ⟨g, 0, none⟩, cap, rfl, fun i hi hi' => ⟨g, rfl, ?_⟩⟩
    obtain ⟨e1, e2, e3⟩ := opCells_at R.l vs h.len i hi hi'
    exact ⟨by rw [h.ops.cellAt (i * 3) (by omega)]; exact e1, by rw [h.ops.cellAt (i * 3 + 1) (by omega)]; exact e2, by rw [h.ops.cellAt (i * 3 + 2) (by omega)]; exact e3⟩
set_option maxRecDepth 100000 in
theorem rops_any (r : Nat) (fv lv : Value) (vs : List Value) (Rd : Nat → Prop) (R : RefS) (w : World) (h : RefIn w r fv lv vs Rd R) :
    Calls Tryz.prog 54 #[.pointer (some ⟨r, 0, none⟩)] w fun e w' => e = .returned (.int .i64 R.l.length) ∧ w' = w := by
  obtain ⟨sa, cap, rfl, _⟩ := h.slice
  have c1 : w.cell? ⟨r, 1, none⟩ = some (.slice sa R.l.length cap) := by rw [cell_of_block h.heap]; rfl
  clear h
  go_enter Tryz.func54, Tryz.ntmps54
  go_wp2
  go_ret
  exact ⟨rfl, rfl⟩
set_option maxRecDepth 100000 in
theorem rsectors_any (r : Nat) (fv lv : Value) (vs : List Value) (Rd : Nat → Prop) (R : RefS) (w : World) (h : RefIn w r fv lv vs Rd R) :
    Calls Tryz.prog 46 #[.pointer (some ⟨r, 0, none⟩)] w fun e w' => e = .returned (.int .i64 R.first.length) ∧ w' = w := by
  obtain ⟨a, c, rfl, _⟩ := h.first
  have c0 : w.cell? ⟨r, 0, none⟩ = some (.slice a R.first.length c) := by rw [cell_of_block h.heap]; rfl
  clear h
  go_enter Tryz.func46, Tryz.ntmps46
  go_wp2
  go_ret
  exact ⟨rfl, rfl⟩
/-- Behind which op the last flush of the first k is. -/
def flushedTo (l : List ROp) : Nat → Nat
  | 0 => 0
  | k + 1 => if h : k < l.length then (if l[k].flush then k + 1 else flushedTo l k) else flushedTo l k
theorem flushedTo_le (l : List ROp) : ∀ k, flushedTo l k ≤ k
  | 0 => Nat.le_refl _
  | k + 1 => by
    have := flushedTo_le l k
    unfold flushedTo
    split
    · split <;> omega
    · omega
set_option maxRecDepth 100000 in
set_option maxHeartbeats 1000000 in
theorem rflushed_any (r : Nat) (fv lv : Value) (vs : List Value) (Rd : Nat → Prop) (R : RefS) (w : World) (h : RefIn w r fv lv vs Rd R) (hm : R.l.length ≤ 1000000) :
    Calls Tryz.prog 85 #[.pointer (some ⟨r, 0, none⟩)] w fun e w' => e = .returned (.int .i64 (flushedTo R.l R.l.length)) ∧ w' = w := by
  obtain ⟨sa, cap, rfl, hs⟩ := h.slice
  have c1 : w.cell? ⟨r, 1, none⟩ = some (.slice sa R.l.length cap) := by rw [cell_of_block h.heap]; rfl
  have HS := hid hs
  have HL := hid h.len
  clear h hs
  go_enter Tryz.func85, Tryz.ntmps85
  go_wp2
  go_loopw [3, 4] (fun v i wr => ∃ k : Nat, k ≤ R.l.length ∧ i = .int .i64 k ∧ v = .int .i64 (flushedTo R.l k) ∧ wr = w) (fun _ i _ => R.l.length - (intOf i).toNat)
  case atStart => exact ⟨0, by omega, rfl, rfl, rfl⟩
  case round =>
    obtain ⟨k, hk, rfl, rfl, rfl⟩ := hrel
    by_cases hlt : k < R.l.length
    · have hk0 : (0 : Int) ≤ (k : Int) := by omega
      have hk1 : (k : Int) < (R.l.length : Int) := by omega
      obtain ⟨g, rfl, q0, -, -⟩ := HS.out k hlt (by rw [← HL.out]; exact hlt)
      have HF : Hid (flushedTo R.l (k + 1) = if R.l[k].flush then k + 1 else flushedTo R.l k) := by simp [Hid, flushedTo, hlt]
      cases hf : R.l[k].flush
      · rw [hf] at q0
        simp only [hf, Bool.false_eq_true, if_false] at HF
        go_wp2
        exact ⟨⟨k + 1, by omega, by go_num, by rw [HF.out], trivial⟩, by simp [intOf]; omega⟩
      · rw [hf] at q0
        simp only [hf, if_true] at HF
        go_wp2
        exact ⟨⟨k + 1, by omega, by go_num, by rw [HF.out]; go_num, trivial⟩, by simp [intOf]; omega⟩
    · obtain rfl : k = R.l.length := by omega
      have hge : ¬ ((R.l.length : Int) < (R.l.length : Int)) := by omega
      go_wp2
      go_ret
      exact ⟨rfl, rfl⟩
end Go.Proofs.YtoeiodiadanhkaaGreat
