/- IsWord and Right of the manifest's package, and of the reference. -/
import Derived.Test.YtkmmeokccmppbaaDoorMPlain
import Derived.Test.YtkmmeokccmppbaaDoorSum
import Derived.Deep.QuietTactic
import Derived.BigQuiet
namespace Go.Proofs.YtkmmeokccmppbaaDoor
open Go.RowKit
/-- A text as a value. -/
abbrev str (s : List UInt8) : Value := .string ⟨s.toArray⟩
theorem bytesRow_at (s : List UInt8) (cap k : Nat) (hk : k < s.length) : (bytesRow ⟨s.toArray⟩ cap)[k]? = some (B (s.getD k 0)) := by
  unfold bytesRow
  rw [Array.getElem?_append_left (by simpa using hk)]
  simp only [List.map_toArray, List.getElem?_toArray, List.getElem?_map, get_some (d := (0 : UInt8)) hk]
  rfl
theorem all_take_next {s : List UInt8} {k : Nat} (hk : k < s.length) (h : (s.take k).all okByte = true) (hx : okByte (s.getD k 0) = true) : (s.take (k + 1)).all okByte = true := by
  rw [List.take_succ_eq_append_getElem hk, List.all_append, h]
  rw [List.getD_eq_getElem?_getD, List.getElem?_eq_getElem hk] at hx
  simpa using hx
theorem not_word {s : List UInt8} {k : Nat} (hk : k < s.length) (hx : okByte (s.getD k 0) = false) : wordOk s = false := by
  have : s.all okByte = false := by
    rw [List.all_eq_false]
    refine ⟨s.getD k 0, ?_, by rw [hx]; simp⟩
    rw [List.getD_eq_getElem?_getD, List.getElem?_eq_getElem hk]
    exact List.getElem_mem hk
  unfold wordOk
  rw [this, Bool.and_false]
theorem okByte_cases (x : UInt8) : (okByte x = true ∧ ((97 ≤ V x ∧ V x ≤ 122) ∨ (48 ≤ V x ∧ V x ≤ 57) ∨ V x = 45)) ∨ (okByte x = false ∧ ¬ (97 ≤ V x ∧ V x ≤ 122) ∧ ¬ (48 ≤ V x ∧ V x ≤ 57) ∧ V x ≠ 45) := by
  unfold okByte V
  cases h1 : decide (97 ≤ x.toNat) <;> cases h2 : decide (x.toNat ≤ 122) <;> cases h3 : decide (48 ≤ x.toNat) <;> cases h4 : decide (x.toNat ≤ 57) <;> cases h5 : decide (x.toNat = 45) <;> simp only [decide_eq_true_eq, decide_eq_false_iff_not] at h1 h2 h3 h4 h5 <;> simp <;> omega
/-- The world behind '[]byte(s)'. -/
def bytesW (w : World) (s : List UInt8) : World := w.drew.alloc (.cells (bytesRow ⟨s.toArray⟩ (grownCap w s.length 0 5)) 5 ((bytesRow ⟨s.toArray⟩ (grownCap w s.length 0 5)).size, (bytesRow ⟨s.toArray⟩ (grownCap w s.length 0 5)).size + 1))
theorem size_str (s : List UInt8) : (⟨s.toArray⟩ : ByteArray).size = s.length := by simp [ByteArray.size]
theorem run_bytes_str (w : World) (s : List UInt8) : (convert 9 27 (str s)).run Tryd.prog w = .ok (.slice (some ⟨w.heap.size, 0, none⟩) s.length (grownCap w s.length 0 5)) (bytesW w s) := by
  have := run_bytes_of_string (P := Tryd.prog) w 9 27 5 ⟨s.toArray⟩ Tryd.underlying9 Tryd.underlying27 Tryd.underlying5
  rw [size_str] at this
  exact this
theorem bytesW_below (w : World) (s : List UInt8) : Below w.heap.size w (bytesW w s) := (Below.refl _ _).drew.alloc (by simp) _
theorem bytesW_cell (w : World) (s : List UInt8) (k : Nat) (hk : k < s.length) : (bytesW w s).cell? ⟨w.heap.size, k, none⟩ = some (B (s.getD k 0)) := by
  unfold bytesW
  rw [show w.heap.size = w.drew.heap.size from rfl, cell_of_block (block_new w.drew _)]
  exact bytesRow_at s _ k hk
set_option maxHeartbeats 1000000 in
theorem isWord_any (s : List UInt8) (w : World) : Calls Tryd.prog 14 #[str s] w fun e w' => e = .returned (.bool (wordOk s)) ∧ Below w.heap.size w w' := by
  have hcv := run_bytes_str w s
  have hsz := size_str s
  by_cases h1 : s.length < 1
  · have hf : Hid (wordOk s = false) := by unfold Hid wordOk; simp [show ¬ (1 ≤ s.length) by omega]
    have q : (s.length : Int) < 1 := by omega
    go_enter Tryd.func14, Tryd.ntmps14
    go_wp2
    go_ret
    exact ⟨by rw [hf.out]; rfl, Below.refl _ _⟩
  · by_cases h2 : s.length > 24
    · have hf : Hid (wordOk s = false) := by unfold Hid wordOk; simp [show ¬ (s.length ≤ 24) by omega]
      have q : ¬ ((s.length : Int) < 1) := by omega
      have q2 : (s.length : Int) > 24 := by omega
      go_enter Tryd.func14, Tryd.ntmps14
      go_wp2
      go_ret
      exact ⟨by rw [hf.out]; rfl, Below.refl _ _⟩
    · have q : ¬ ((s.length : Int) < 1) := by omega
      have q2 : ¬ ((s.length : Int) > 24) := by omega
      have hW : Hid (wordOk s = s.all okByte) := by unfold Hid wordOk; simp [show 1 ≤ s.length by omega, show s.length ≤ 24 by omega]
      have HC := hid (bytesW_cell w s)
      have HB := hid (bytesW_below w s)
      generalize bytesW w s = w1 at *
      generalize grownCap w s.length 0 5 = cap at *
      generalize w.heap.size = g at *
      go_enter Tryd.func14, Tryd.ntmps14
      go_wp2
      go_loopw [16] (fun i wr => ∃ k : Nat, k ≤ s.length ∧ i = .int .i64 k ∧ Hid ((s.take k).all okByte = true) ∧ wr = w1) (fun i _ => s.length - (intOf i).toNat)
      case atStart => exact ⟨0, by omega, rfl, rfl, rfl⟩
      case round =>
        obtain ⟨k, hk, rfl, hA, rfl⟩ := hrel
        by_cases hlt : k < s.length
        · have c1 := HC.out k hlt
          have hk0 : (0 : Int) ≤ (k : Int) := by omega
          have hk1 : (k : Int) < (s.length : Int) := by omega
          have hk2 : (k : Int) < 24 := by omega
          have HT := hid (all_take_next hlt hA.out)
          have HN := hid (not_word hlt)
          generalize s.getD k 0 = x at *
          clear hcv hA
          have x0 : 0 ≤ V x := V_nonneg x
          rcases okByte_cases x with ⟨hx, hx2⟩ | ⟨hx, n1, n2, n3⟩
          · have HA := hid (HT.out hx)
            clear HT HN hx
            rcases hx2 with ⟨y1, y2⟩ | ⟨y1, y2⟩ | y1
            all_goals
              go_wp2
              exact ⟨⟨k + 1, by omega, by go_num, HA, trivial⟩, by simp [intOf]; omega⟩
          · have HA := hid (HN.out hx)
            clear HT HN hx
            have hcase : V x < 45 ∨ (45 < V x ∧ V x < 48) ∨ (57 < V x ∧ V x < 97) ∨ 122 < V x := by omega
            have hne : (V x != 45) = true := bne_iff_ne.2 n3
            clear n1 n2 n3
            rcases hcase with y1 | ⟨y1, y2⟩ | ⟨y1, y2⟩ | y1
            all_goals
              go_wp2
              go_ret
              exact ⟨by rw [HA.out]; rfl, HB.out⟩
        · have hge : ¬ ((k : Int) < (s.length : Int)) := by omega
          have HA : Hid (wordOk s = true) := by
            unfold Hid
            rw [hW.out]
            have := hA.out
            rwa [List.take_of_length_le (by omega)] at this
          go_wp2
          go_ret
          exact ⟨by rw [HA.out]; rfl, HB.out⟩
end Go.Proofs.YtkmmeokccmppbaaDoor
