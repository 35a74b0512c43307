/- Right of the manifest's package. -/
import Derived.Test.YtkmmeokccmppbaaDoorMWord
namespace Go.Proofs.YtkmmeokccmppbaaDoor
open Go.RowKit
def rightE (os ar : List UInt8) (n : Nat) : Int := if (wordOk os && wordOk ar) = true then (if 8 < n then 6 else 0) else 8
theorem err_right (m : MS) : m.err = rightE m.os m.arch m.ls.length := rfl
/-- A new block, and what stays of it. -/
theorem box_cell {w w1 : World} {C : Array Value} {t : TypeId} (hB : Below (w.alloc (.cells C t)).heap.size (w.alloc (.cells C t)) w1) (k : Nat) : w1.cell? ⟨w.heap.size, k, none⟩ = C[k]? := by
  rw [World.cell?_of_block (w := w.alloc (.cells C t)) (hB.block _ (by simp)), cell_of_block (block_new w _)]
set_option maxHeartbeats 1000000 in
theorem right_any (os ar : List UInt8) (la : Option Addr) (n lc : Nat) (hn : n ≤ 9223372036854775807) (w : World) : Calls Tryd.prog 10 #[.agg #[str os, str ar, .slice la n lc]] w fun e w' => e = .returned (.int .i64 (rightE os ar n)) ∧ Below w.heap.size w w' := by
  have HB := hid ((Below.refl w.heap.size w).alloc (Nat.le_refl _) (.cells #[str os, str ar, .slice la n lc] 24))
  cases ho : wordOk os with
  | false =>
    have HE : Hid (rightE os ar n = 8) := by unfold Hid rightE; simp [ho]
    go_enter Tryd.func10, Tryd.ntmps10
    go_wp2_with fail
    refine (isWord_any os _).mono ?_
    rintro e w1 ⟨rfl, hB⟩
    rw [ho]
    have HB1 := hid (HB.out.trans (hB.mono HB.out.size))
    clear hB
    go_wp2
    go_ret
    exact ⟨by rw [HE.out]; rfl, HB1.out⟩
  | true =>
    go_enter Tryd.func10, Tryd.ntmps10
    go_wp2_with fail
    refine (isWord_any os _).mono ?_
    rintro e w1 ⟨rfl, hB⟩
    rw [ho]
    have HB1 := hid (HB.out.trans (hB.mono HB.out.size))
    have c1 : w1.cell? ⟨w.heap.size, 1, none⟩ = some (str ar) := box_cell hB 1
    have c2 : w1.cell? ⟨w.heap.size, 2, none⟩ = some (.slice la n lc) := box_cell hB 2
    have hlt := lt_of_cell c2
    clear hB
    go_wp2_with fail
    refine (isWord_any ar _).mono ?_
    rintro e w2 ⟨rfl, hB⟩
    have d2 : w2.cell? ⟨w.heap.size, 2, none⟩ = some (.slice la n lc) := (World.cell?_of_block (w := w1) (hB.block _ hlt)).trans c2
    have HB2 := hid (HB1.out.trans (hB.mono HB1.out.size))
    clear hB c1 c2
    cases ha : wordOk ar with
    | false =>
      have HE : Hid (rightE os ar n = 8) := by unfold Hid rightE; simp [ho, ha]
      go_wp2
      go_ret
      exact ⟨by rw [HE.out]; rfl, HB2.out⟩
    | true =>
      by_cases h8 : 8 < n
      · have HE : Hid (rightE os ar n = 6) := by unfold Hid rightE; simp [ho, ha, h8]
        have q : (n : Int) > 8 := by omega
        go_wp2
        go_ret
        exact ⟨by rw [HE.out]; rfl, HB2.out⟩
      · have HE : Hid (rightE os ar n = 0) := by unfold Hid rightE; simp [ho, ha, h8]
        have q : ¬ ((n : Int) > 8) := by omega
        go_wp2
        go_ret
        exact ⟨by rw [HE.out]; rfl, HB2.out⟩
end Go.Proofs.YtkmmeokccmppbaaDoor
