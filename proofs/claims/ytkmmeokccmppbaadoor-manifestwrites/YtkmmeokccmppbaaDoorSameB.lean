/- dunnageref01.SameBytes tells whether two slices hold the same bytes. -/
import Derived.Test.YtkmmeokccmppbaaDoorSum
import Derived.Test.YtkmmeokccmppbaaDoorEq32
import Derived.Deep.QuietTactic
namespace Go.Proofs.YtkmmeokccmppbaaDoor
open Go.RowKit
set_option maxRecDepth 100000 in
theorem take_next_eq {a b : List UInt8} {k : Nat} (ha : k < a.length) (hb : k < b.length) (h : a.take k = b.take k) (hx : a.getD k 0 = b.getD k 0) : a.take (k + 1) = b.take (k + 1) := by
  rw [List.take_succ_eq_append_getElem ha, List.take_succ_eq_append_getElem hb, h]
  rw [List.getD_eq_getElem?_getD, List.getElem?_eq_getElem ha, List.getD_eq_getElem?_getD, List.getElem?_eq_getElem hb] at hx
  have hx' : a[k] = b[k] := by simpa using hx
  rw [hx']
set_option maxRecDepth 100000 in
set_option maxHeartbeats 1000000 in
theorem same_bytes (a b : List UInt8) (u v : Value) (w : World) (ha : Bytes w u a) (hb : Bytes w v b) (hn : a.length < 4611686018427387904) :
    Calls Tryd.prog 9 #[u, v] w fun e w' => e = .returned (.bool (decide (a = b))) ∧ Below w.heap.size w w' := by
  obtain ⟨pa, ca, rfl, _, hxa⟩ := ha
  obtain ⟨pb, cb, rfl, _, hxb⟩ := hb
  have HA := hid hxa
  have HB := hid hxb
  clear hxa hxb
  by_cases hl : a.length = b.length
  · have hne : ((a.length : Int) != (b.length : Int)) = false := by rw [bne_eq_false_iff_eq]; omega
    have HL := hid hl
    go_enter Tryd.func9, Tryd.ntmps9
    go_wp2
    go_loopw [5] (fun i wr => ∃ k : Nat, k ≤ a.length ∧ i = .int .i64 k ∧ Hid (a.take k = b.take k) ∧ Below w.heap.size w wr) (fun i _ => a.length - (intOf i).toNat)
    case atStart => exact ⟨0, by omega, rfl, rfl, Below.refl _ _⟩
    case round =>
      obtain ⟨k, hk, rfl, ht, hB⟩ := hrel
      by_cases hlt : k < a.length
      · obtain ⟨b0, o0, rfl, hc0⟩ := HA.out k _ (get_some (d := 0) hlt)
        obtain ⟨b1, o1, rfl, hc1⟩ := HB.out k _ (get_some (d := 0) (show k < b.length by rw [← HL.out]; exact hlt))
        have d0 : wr.cell? ⟨b0, o0 + k, none⟩ = some (B (a.getD k 0)) := (World.cell?_of_block (w := w) (hB.block b0 (lt_of_cell hc0))).trans hc0
        have d1 : wr.cell? ⟨b1, o1 + k, none⟩ = some (B (b.getD k 0)) := (World.cell?_of_block (w := w) (hB.block b1 (lt_of_cell hc1))).trans hc1
        have hi0 : (0 : Int) ≤ (k : Int) := by omega
        have hi1 : (k : Int) < (a.length : Int) := by omega
        have hi2 : (k : Int) < (b.length : Int) := by rw [← HL.out]; omega
        by_cases hx : a.getD k 0 = b.getD k 0
        · have HT := hid (take_next_eq hlt (by rw [← HL.out]; exact hlt) ht.out hx)
          rw [← hx] at d1
          generalize a.getD k 0 = x at *
          clear hc0 hc1 hx
          have hq : (V x != V x) = false := by simp
          go_wp2
          go_quiet (fail)
          go_wp2
          go_roundw
          case rel => exact ⟨k + 1, by omega, by go_num, HT, by first | exact hB.drew | exact below_drewN hB _⟩
          case measure => simp [intOf]; omega
        · have HF : Hid (decide (a = b) = false) := decide_eq_false (fun e => hx (by rw [e]))
          have hq : (V (a.getD k 0) != V (b.getD k 0)) = true := by rw [bne_iff_ne]; exact fun e => hx (V_inj e)
          generalize a.getD k 0 = x at *
          generalize b.getD k 0 = y at *
          clear hc0 hc1 hx
          go_wp2
          go_quiet (fail)
          go_wp2
          go_ret
          exact ⟨by rw [HF.out]; rfl, by first | exact hB.drew | exact below_drewN hB _⟩
      · have hge : ¬ ((k : Int) < (a.length : Int)) := by omega
        have HF : Hid (decide (a = b) = true) := decide_eq_true (by
          have := ht.out
          rwa [List.take_of_length_le (by omega), List.take_of_length_le (by rw [← HL.out]; omega)] at this)
        go_wp2
        go_ret
        exact ⟨by rw [HF.out]; rfl, hB⟩
  · have hne : ((a.length : Int) != (b.length : Int)) = true := by rw [bne_iff_ne]; omega
    have HF : Hid (decide (a = b) = false) := decide_eq_false (fun e => hl (by rw [e]))
    go_enter Tryd.func9, Tryd.ntmps9
    go_wp2
    go_ret
    exact ⟨by rw [HF.out]; rfl, Below.refl _ _⟩
end Go.Proofs.YtkmmeokccmppbaaDoor
