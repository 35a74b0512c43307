/- numbers, texts of a header. -/
import Derived.Test.YtdfnhgkabaikaaaTCut
import Derived.Test.YtdfnhgkabaikaaaTText
namespace Go.Proofs.Ytdfnhgkabaikaaa
open Go.RowKit
def offN : Nat → Nat | 0 => 100 | 1 => 108 | 2 => 116 | 3 => 124 | 4 => 136 | 5 => 329 | _ => 337
def lenN : Nat → Nat | 3 => 11 | 4 => 11 | _ => 7
def offT : Nat → Nat | 0 => 0 | 1 => 157 | 2 => 265 | 3 => 297 | _ => 345
def lenT : Nat → Nat | 0 => 100 | 1 => 100 | 2 => 32 | 3 => 32 | _ => 155
def numsA (b o : Nat) : Array Value := #[sl b (o + 100) 8, sl b (o + 108) 8, sl b (o + 116) 8, sl b (o + 124) 12, sl b (o + 136) 12, sl b (o + 329) 8, sl b (o + 337) 8]
def textsA (b o : Nat) : Array Value := #[sl b o 100, sl b (o + 157) 100, sl b (o + 265) 32, sl b (o + 297) 32, sl b (o + 345) 155]
theorem numsA_at (b o k : Nat) (hk : k < 7) : (numsA b o)[k]? = some (sl b (o + offN k) (lenN k + 1)) := by
  unfold numsA
  rcases k with _ | _ | _ | _ | _ | _ | _ | k <;> first | rfl | omega
theorem textsA_at (b o k : Nat) (hk : k < 5) : (textsA b o)[k]? = some (sl b (o + offT k) (lenT k)) := by
  unfold textsA
  rcases k with _ | _ | _ | _ | _ | k <;> first | rfl | omega
set_option maxHeartbeats 1000000 in
theorem numbers_any (b o : Nat) (w : World) : Calls Try.prog 41 #[hdV b o] w fun e w' => e = .returned (.slice (some ⟨w.heap.size + 1, 0, none⟩) 7 7) ∧ w'.heap[w.heap.size + 1]? = some (.cells (numsA b o) 23 (0, 0)) ∧ Below w.heap.size w w' := by
  obtain ⟨n1, n2, n3, n4⟩ := new2 w (.cells (hdA b o) 53) (.cells (numsA b o) 23)
  have H2 := hid n2
  have H3 := hid n3
  clear n1 n2 n3 n4
  unfold hdV
  unfold hdA at *
  go_enter Try.func41, Try.ntmps41
  go_wp2
  go_ret
  exact ⟨rfl, H2.out, H3.out⟩
set_option maxHeartbeats 1000000 in
theorem texts_any (b o : Nat) (w : World) : Calls Try.prog 50 #[hdV b o] w fun e w' => e = .returned (.slice (some ⟨w.heap.size + 1, 0, none⟩) 5 5) ∧ w'.heap[w.heap.size + 1]? = some (.cells (textsA b o) 23 (0, 0)) ∧ Below w.heap.size w w' := by
  obtain ⟨n1, n2, n3, n4⟩ := new2 w (.cells (hdA b o) 53) (.cells (textsA b o) 23)
  have H2 := hid n2
  have H3 := hid n3
  clear n1 n2 n3 n4
  unfold hdV
  unfold hdA at *
  go_enter Try.func50, Try.ntmps50
  go_wp2
  go_ret
  exact ⟨rfl, H2.out, H3.out⟩
end Go.Proofs.Ytdfnhgkabaikaaa
