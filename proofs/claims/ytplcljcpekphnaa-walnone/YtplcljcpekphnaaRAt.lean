/- The reference's at, Image, Safe. -/
import Derived.Test.YtplcljcpekphnaaCopyAll
import Derived.Test.YtplcljcpekphnaaRef4
namespace Go.Proofs.Ytplcljcpekphnaa
open Go.RowKit
/-- The sectors behind the first k ops. -/
def atL (R : RefS) : Nat → List (List UInt8)
  | 0 => R.first
  | k + 1 => if h : k < R.l.length then (if R.l[k].flush then atL R k else (atL R k).set R.l[k].n.toNat R.l[k].b) else atL R k
/-- Sectors of 512 bytes, ops within them. -/
def okR (R : RefS) : Prop := R.first.length ≤ 4096 ∧ (∀ l ∈ R.first, l.length = 512) ∧ ∀ o ∈ R.l, o.flush = false → 0 ≤ o.n ∧ o.n < R.first.length ∧ o.b.length = 512
theorem length_atL (R : RefS) : ∀ k, (atL R k).length = R.first.length
  | 0 => rfl
  | k + 1 => by
    have := length_atL R k
    unfold atL
    split
    · split <;> simp [this]
    · exact this
/-- One row is another now. -/
theorem copiedTo_set {w w1 : World} {lo go N c i g cap : Nat} {vs : List Value} {L : List (List UInt8)} {b : List UInt8} (h : copiedTo w lo (.slice (some ⟨go, 0, none⟩) N c) vs L N) (hlo : lo ≤ w.heap.size) (hB : Below w.heap.size w w1)
    (hg1 : w.heap.size ≤ g) (hg2 : g < w1.heap.size) (hb : bytesIn w1 (some ⟨g, 0, none⟩) b) (hi : i < N) (hL : L.length = N) :
    copiedTo (w1.setCell ⟨go, i, none⟩ (.slice (some ⟨g, 0, none⟩) b.length cap)) lo (.slice (some ⟨go, 0, none⟩) N c) (vs.set i (.slice (some ⟨g, 0, none⟩) b.length cap)) (L.set i b) N := by
  have hrow := (Keeps.of_below (F := fun _ => False) hB).row h.1 (fun _ _ e => e)
  have hgo := (h.1.lt go rfl).2
  have hl : vs.length = N := by have := h.1.1; omega
  have hK : Keeps (fun i => i = go) w1 (w1.setCell ⟨go, i, none⟩ (.slice (some ⟨g, 0, none⟩) b.length cap)) := Keeps.of_grown (r := some go) (grown_setCell (grown_refl _ _) _ _) (fun i e => (Option.some.inj e).symm)
  have hs1 := hB.size
  have hs2 := hK.size
  refine ⟨(hrow.stored i _).1, fun j hj hjN => ?_⟩
  by_cases e : j = i
  · subst e
    refine ⟨g, cap, ?_, by omega, by omega, fun e => ?_, ?_⟩
    · rw [List.getElem?_set_self (by omega), List.getElem_set_self]
    · have e2 : go = g := Option.some.inj e
      omega
    · rw [List.getElem_set_self]
      exact hb.keep (Rd := fun i => i = g) hK (fun ad e => by rw [← Option.some.inj e]) (fun i e hn => by omega)
  · have hj' : j < L.length := by simpa using hj
    obtain ⟨gi, ci, h1, h2, h3, h4, h5⟩ := h.2 j hj' hjN
    have e3 : (L.set i b)[j] = L[j] := List.getElem_set_ne (by omega) _
    refine ⟨gi, ci, by rw [List.getElem?_set_ne (by omega), e3]; exact h1, h2, by omega, h4, ?_⟩
    rw [e3]
    exact (h5.below hB).keep (Rd := fun i => i = gi) hK (fun ad e => by rw [← Option.some.inj e]) (fun i e hn => by subst e hn; exact h4 rfl)
end Go.Proofs.Ytplcljcpekphnaa
