/- The reference's Image and Safe, whatever was done. -/
import Derived.Test.YtoeiodiadanhkaaGreatRAt
namespace Go.Proofs.YtoeiodiadanhkaaGreat
open Go.RowKit
set_option maxRecDepth 100000 in
set_option maxHeartbeats 2000000 in
theorem rimage_any (r : Nat) (fv lv : Value) (vs : List Value) (Rd : Nat → Prop) (R : RefS) (w : World) (h : RefIn w r fv lv vs Rd R) (hR : okR R) (hm : R.l.length ≤ 1000000) :
    Calls Tryz.prog 32 #[.pointer (some ⟨r, 0, none⟩)] w fun e w' => ∃ a' c', e = .returned (.slice a' R.first.length c') ∧ rowsFrom w' w.heap.size a' (atL R R.l.length) ∧ Below w.heap.size w w' := by
  obtain ⟨sa, cap, hlv, _⟩ := h.slice
  have c1 : w.cell? ⟨r, 1, none⟩ = some (.slice sa R.l.length cap) := by rw [cell_of_block h.heap, ← hlv]; rfl
  have HC := hid (rat_any r fv lv vs Rd R R.l.length w h hR (Nat.le_refl _) hm)
  clear h hlv
  go_enter Tryz.func32, Tryz.ntmps32
  go_wp2_with fail
  refine HC.out.mono ?_
  clear HC
  rintro e w1 ⟨a', c', rfl, hrows, hB⟩
  have HR := hid hrows
  have HB := hid hB
  clear hrows hB
  go_wp2
  go_ret
  first | exact ⟨a', c', rfl, HR.out, HB.out⟩ | exact ⟨a', ⟨c', rfl⟩, HR.out, HB.out⟩
set_option maxRecDepth 100000 in
set_option maxHeartbeats 2000000 in
theorem rsafe_own (r : Nat) (fv lv : Value) (vs : List Value) (Rd : Nat → Prop) (R : RefS) (w : World) (h : RefIn w r fv lv vs Rd R) (hR : okR R) (hm : R.l.length ≤ 1000000) :
    Calls Tryz.prog 57 #[.pointer (some ⟨r, 0, none⟩)] w fun e w' => Below w.heap.size w w' ∧ ∃ a' c' vk, e = .returned (.slice a' R.first.length c') ∧ copiedTo w' w.heap.size (.slice a' R.first.length c') vk (atL R (flushedTo R.l R.l.length)) R.first.length := by
  have HF := hid (rflushed_any r fv lv vs Rd R w h hm)
  have HC := hid (rat_own r fv lv vs Rd R (flushedTo R.l R.l.length) w h hR (flushedTo_le _ _) hm)
  clear h
  go_enter Tryz.func57, Tryz.ntmps57
  go_wp2_with fail
  refine HF.out.mono ?_
  clear HF
  rintro e w9 ⟨rfl, h9⟩
  obtain rfl := h9.symm
  go_wp2_with fail
  refine HC.out.mono ?_
  clear HC
  rintro e w1 ⟨hB, a', c', vk, rfl, hrows⟩
  have HR := hid hrows
  have HB := hid hB
  clear hrows hB
  go_wp2
  go_ret
  first | exact ⟨HB.out, a', c', vk, rfl, HR.out⟩ | exact ⟨HB.out, a', c', rfl, vk, HR.out⟩
theorem rsafe_any (r : Nat) (fv lv : Value) (vs : List Value) (Rd : Nat → Prop) (R : RefS) (w : World) (h : RefIn w r fv lv vs Rd R) (hR : okR R) (hm : R.l.length ≤ 1000000) :
    Calls Tryz.prog 57 #[.pointer (some ⟨r, 0, none⟩)] w fun e w' => ∃ a' c', e = .returned (.slice a' R.first.length c') ∧ rowsFrom w' w.heap.size a' (atL R (flushedTo R.l R.l.length)) ∧ Below w.heap.size w w' := by
  refine (rsafe_own r fv lv vs Rd R w h hR hm).mono ?_
  rintro e w' ⟨hB, a', c', vk, rfl, hM⟩
  rw [← length_atL R (flushedTo R.l R.l.length)] at hM
  obtain ⟨a2, c2, e2, hrows⟩ := copiedTo_end hM
  rw [length_atL] at e2
  simp only [Value.slice.injEq, true_and] at e2
  obtain ⟨rfl, rfl⟩ := e2
  exact ⟨a', c', rfl, hrows, hB⟩
end Go.Proofs.YtoeiodiadanhkaaGreat
