/- dunnageref01.CopyAll. -/
import Derived.Test.YtplcljcpekphnaaRefNew
namespace Go.Proofs.Ytplcljcpekphnaa
open Go.RowKit
/-- The first k rows have been copied. -/
def copiedTo (w : World) (lo : Nat) (v : Value) (vs : List Value) (L : List (List UInt8)) (k : Nat) : Prop :=
  w.ownsRow lo 26 1 v k vs ∧ ∀ i (_ : i < L.length), i < k → ∃ g cap, vs[i]? = some (.slice (some ⟨g, 0, none⟩) (L[i]).length cap) ∧ lo ≤ g ∧ g < w.heap.size ∧ v.ownBlock ≠ some g ∧ bytesIn w (some ⟨g, 0, none⟩) L[i]
theorem copiedTo_step {w w1 w3 : World} {lo : Nat} {v : Value} {vs : List Value} {L : List (List UInt8)} {k g cap g3 cap3 : Nat} {o : Obj} (h : copiedTo w lo v vs L k) (hk : k < L.length) (hlo : lo ≤ w.heap.size) (hB : Below w.heap.size w w1)
    (hg1 : w.heap.size ≤ g) (hg2 : g < w1.heap.size) (hb : bytesIn w1 (some ⟨g, 0, none⟩) L[k])
    (hown : w3.ownsRow lo 26 1 (.slice (some ⟨g3, 0, none⟩) (k + 1) cap3) (k + 1) (vs ++ [.slice (some ⟨g, 0, none⟩) (L[k]).length cap]))
    (hgr : (w1.alloc o).grownBy w3 v.ownBlock) (hat : v.ownBlock = some g3 ∨ g3 = w1.heap.size + 1) : copiedTo w3 lo (.slice (some ⟨g3, 0, none⟩) (k + 1) cap3) (vs ++ [.slice (some ⟨g, 0, none⟩) (L[k]).length cap]) L (k + 1) := by
  have hl : vs.length = k := by have := h.1.1; omega
  have hv : ∀ i, v.ownBlock = some i → i < w.heap.size := fun i e => (h.1.lt i e).2
  have hs1 := hB.size
  have hs3 := hgr.size
  have hsa : (w1.alloc o).heap.size = w1.heap.size + 1 := by simp
  have hK : Keeps (fun i => v.ownBlock = some i) w1 w3 := (Keeps.alloc (Keeps.refl _ w1) o).grown hgr (fun i e => .inl e)
  have hown3 : ∀ x, (Value.slice (some ⟨g3, 0, none⟩) (k + 1) cap3).ownBlock = some x → x = g3 := fun x e => (Option.some.inj e).symm
  refine ⟨hown, fun i hi hik => ?_⟩
  by_cases e : i = k
  · subst e
    refine ⟨g, cap, by simp [hl], by omega, by omega, fun e => ?_, hb.keep (Rd := fun i => i = g) hK (fun ad e => by rw [← Option.some.inj e]) (fun i e hn => by have := hv i hn; omega)⟩
    have e2 := hown3 _ e
    rcases hat with h1 | h1
    · have := hv _ h1; omega
    · omega
  · obtain ⟨gi, ci, h1, h2, h3, h4, h5⟩ := h.2 i hi (by omega)
    refine ⟨gi, ci, by rw [List.getElem?_append_left (by omega)]; exact h1, h2, by omega, fun e => ?_, (h5.below hB).keep (Rd := fun i => i = gi) hK (fun ad e => by rw [← Option.some.inj e]) (fun i e hn => by subst e; exact h4 hn)⟩
    have e2 := hown3 _ e
    rcases hat with h6 | h6
    · subst e2; exact h4 h6
    · omega
theorem copiedTo_end {w : World} {lo : Nat} {v : Value} {vs : List Value} {L : List (List UInt8)} (h : copiedTo w lo v vs L L.length) : ∃ a c, v = .slice a L.length c ∧ rowsFrom w lo a L := by
  obtain ⟨sa, c, rfl, hr⟩ := row_slice h.1
  refine ⟨sa, c, rfl, fun j hj => ?_⟩
  obtain ⟨g, rfl, _, hg, hc⟩ := hr j hj
  refine ⟨g, 0, rfl, hg, fun i hi => ?_⟩
  obtain ⟨gi, ci, h1, h2, _, _, h5⟩ := h.2 i hi hi
  exact ⟨some ⟨gi, 0, none⟩, ci, by rw [Nat.zero_add, hc i hi]; exact h1, h5, fun ad e => by rw [← Option.some.inj e]; exact h2⟩
end Go.Proofs.Ytplcljcpekphnaa
