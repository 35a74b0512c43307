/- dunnageref01.SameInts, SameBytes: do two lists hold the same? -/
import Derived.Test.YtpkjpkjcdpgaaaaLive
import Derived.Deep.QuietTactic
namespace Go.Proofs.Ytpkjpkjcdpgaaaa
open Go.RowKit
theorem below_drewN' {K : Nat} {w w' : World} (h : Below K w w') (n : Nat) : Below K w (w'.drewN n) := ⟨h.os, h.tape, h.output, h.size, h.block⟩
/-- The numbers xs lie where the slice points. -/
def intsAt (w : World) (a : Option Addr) (xs : List Int) : Prop := ∀ j, j < xs.length → ∃ b o, a = some ⟨b, o, none⟩ ∧ ∀ i (hi : i < xs.length), w.cell? ⟨b, o + i, none⟩ = some (.int .i64 xs[i])
/-- The bytes l lie where the slice points. -/
def bytesIn (w : World) (a : Option Addr) (l : List UInt8) : Prop := ∀ j, j < l.length → ∃ b o, a = some ⟨b, o, none⟩ ∧ ∀ i (hi : i < l.length), w.cell? ⟨b, o + i, none⟩ = some (.int .u8 (l[i].toNat : Int))
theorem intsAt.below {w w' : World} {a : Option Addr} {xs : List Int} (h : intsAt w a xs) (hb : Below w.heap.size w w') : intsAt w' a xs := fun j hj => by
  obtain ⟨b, o, e, hc⟩ := h j hj
  exact ⟨b, o, e, fun i hi => by rw [hb.cell (p := ⟨b, o + i, none⟩) (World.block_lt_of_cell? w _ (hc i hi))]; exact hc i hi⟩
theorem bytesIn.below {w w' : World} {a : Option Addr} {l : List UInt8} (h : bytesIn w a l) (hb : Below w.heap.size w w') : bytesIn w' a l := fun j hj => by
  obtain ⟨b, o, e, hc⟩ := h j hj
  exact ⟨b, o, e, fun i hi => by rw [hb.cell (p := ⟨b, o + i, none⟩) (World.block_lt_of_cell? w _ (hc i hi))]; exact hc i hi⟩
/-- A row of numbers of one's own. -/
theorem ints_of_row {w : World} {base : Nat} {e : TypeId} {v : Value} {xs : List Int} (h : w.ownsRow base e 1 v xs.length (xs.map encZ)) : ∃ a c, v = .slice a xs.length c ∧ intsAt w a xs := by
  obtain ⟨sa, cap, rfl, hs⟩ := row_slice h
  refine ⟨sa, cap, rfl, fun j hj => ?_⟩
  obtain ⟨g, e, _, _, hc⟩ := hs j hj
  exact ⟨g, 0, e, fun i hi => by rw [Nat.zero_add, hc i hi]; simp [hi]⟩
theorem take_next {α : Type} {a b : List α} {k : Nat} (ha : k < a.length) (hb : k < b.length) (h : a.take k = b.take k) (hx : a[k] = b[k]) : a.take (k + 1) = b.take (k + 1) := by
  rw [List.take_succ_eq_append_getElem ha, List.take_succ_eq_append_getElem hb, h, hx]
theorem toNat_u8_inj {x y : UInt8} (h : (x.toNat : Int) = (y.toNat : Int)) : x = y := UInt8.toNat_inj.1 (by omega)
set_option maxHeartbeats 1000000 in
theorem same_ints (xs ys : List Int) (u v : Option Addr) (c c' : Nat) (w : World) (ha : intsAt w u xs) (hb : intsAt w v ys) (hn : xs.length < 4611686018427387904) :
    Calls Try.prog 41 #[.slice u xs.length c, .slice v ys.length c'] w fun e w' => e = .returned (.bool (decide (xs = ys))) ∧ Below w.heap.size w w' := by
  have HA := hid ha
  have HB := hid hb
  clear ha hb
  by_cases hl : xs.length = ys.length
  · have hne : ((xs.length : Int) != (ys.length : Int)) = false := by rw [bne_eq_false_iff_eq]; omega
    have HL := hid hl
    go_enter Try.func41, Try.ntmps41
    go_wp2
    go_loopw [5] (fun i wr => ∃ k : Nat, k ≤ xs.length ∧ i = .int .i64 k ∧ Hid (xs.take k = ys.take k) ∧ Hid (Below w.heap.size w wr)) (fun i _ => xs.length - (intOf i).toNat)
    case atStart => exact ⟨0, by omega, rfl, rfl, Below.refl _ _⟩
    case round =>
      obtain ⟨k, hk, rfl, ht, hB⟩ := hrel
      by_cases hlt : k < xs.length
      · have hlt2 : k < ys.length := by rw [← HL.out]; exact hlt
        obtain ⟨b0, o0, rfl, hc0⟩ := HA.out k hlt
        obtain ⟨b1, o1, rfl, hc1⟩ := HB.out k hlt2
        have d0 : wr.cell? ⟨b0, o0 + k, none⟩ = some (.int .i64 xs[k]) := (World.cell?_of_block (w := w) (hB.out.block b0 (World.block_lt_of_cell? w _ (hc0 k hlt)))).trans (hc0 k hlt)
        have d1 : wr.cell? ⟨b1, o1 + k, none⟩ = some (.int .i64 ys[k]) := (World.cell?_of_block (w := w) (hB.out.block b1 (World.block_lt_of_cell? w _ (hc1 k hlt2)))).trans (hc1 k hlt2)
        have hi0 : (0 : Int) ≤ (k : Int) := by omega
        have hi1 : (k : Int) < (xs.length : Int) := by omega
        have hi2 : (k : Int) < (ys.length : Int) := by rw [← HL.out]; omega
        by_cases hx : xs[k] = ys[k]
        · have HT := hid (take_next hlt hlt2 ht.out hx)
          rw [← hx] at d1
          generalize xs[k] = x at *
          clear hc0 hc1 hx
          have hq : ((x : Int) != (x : Int)) = false := by simp
          go_wp2
          go_quiet (fail)
          go_wp2
          go_roundw
          case rel => exact ⟨k + 1, by omega, by go_num, HT, by first | exact hB.out.drew | exact below_drewN' hB.out _⟩
          case measure => simp [intOf]; omega
        · have HF : Hid (decide (xs = ys) = false) := decide_eq_false (fun e => hx (by subst e; rfl))
          have hq : ((xs[k] : Int) != (ys[k] : Int)) = true := by rw [bne_iff_ne]; exact fun e => hx e
          generalize xs[k] = x at *
          generalize ys[k] = y at *
          clear hc0 hc1 hx
          go_wp2
          go_quiet (fail)
          go_wp2
          go_ret
          exact ⟨by rw [HF.out]; rfl, by first | exact hB.out.drew | exact below_drewN' hB.out _⟩
      · have hge : ¬ ((k : Int) < (xs.length : Int)) := by omega
        have HF : Hid (decide (xs = ys) = true) := decide_eq_true (by
          have := ht.out
          rwa [List.take_of_length_le (by omega), List.take_of_length_le (by rw [← HL.out]; omega)] at this)
        go_wp2
        go_ret
        exact ⟨by rw [HF.out]; rfl, hB.out⟩
  · have hne : ((xs.length : Int) != (ys.length : Int)) = true := by rw [bne_iff_ne]; omega
    have HF : Hid (decide (xs = ys) = false) := decide_eq_false (fun e => hl (by rw [e]))
    go_enter Try.func41, Try.ntmps41
    go_wp2
    go_ret
    exact ⟨by rw [HF.out]; rfl, Below.refl _ _⟩
set_option maxHeartbeats 1000000 in
theorem same_bytes (xs ys : List UInt8) (u v : Option Addr) (c c' : Nat) (w : World) (ha : bytesIn w u xs) (hb : bytesIn w v ys) (hn : xs.length < 4611686018427387904) :
    Calls Try.prog 13 #[.slice u xs.length c, .slice v ys.length c'] w fun e w' => e = .returned (.bool (decide (xs = ys))) ∧ Below w.heap.size w w' := by
  have HA := hid ha
  have HB := hid hb
  clear ha hb
  by_cases hl : xs.length = ys.length
  · have hne : ((xs.length : Int) != (ys.length : Int)) = false := by rw [bne_eq_false_iff_eq]; omega
    have HL := hid hl
    go_enter Try.func13, Try.ntmps13
    go_wp2
    go_loopw [5] (fun i wr => ∃ k : Nat, k ≤ xs.length ∧ i = .int .i64 k ∧ Hid (xs.take k = ys.take k) ∧ Hid (Below w.heap.size w wr)) (fun i _ => xs.length - (intOf i).toNat)
    case atStart => exact ⟨0, by omega, rfl, rfl, Below.refl _ _⟩
    case round =>
      obtain ⟨k, hk, rfl, ht, hB⟩ := hrel
      by_cases hlt : k < xs.length
      · have hlt2 : k < ys.length := by rw [← HL.out]; exact hlt
        obtain ⟨b0, o0, rfl, hc0⟩ := HA.out k hlt
        obtain ⟨b1, o1, rfl, hc1⟩ := HB.out k hlt2
        have d0 : wr.cell? ⟨b0, o0 + k, none⟩ = some (.int .u8 (xs[k].toNat : Int)) := (World.cell?_of_block (w := w) (hB.out.block b0 (World.block_lt_of_cell? w _ (hc0 k hlt)))).trans (hc0 k hlt)
        have d1 : wr.cell? ⟨b1, o1 + k, none⟩ = some (.int .u8 (ys[k].toNat : Int)) := (World.cell?_of_block (w := w) (hB.out.block b1 (World.block_lt_of_cell? w _ (hc1 k hlt2)))).trans (hc1 k hlt2)
        have hi0 : (0 : Int) ≤ (k : Int) := by omega
        have hi1 : (k : Int) < (xs.length : Int) := by omega
        have hi2 : (k : Int) < (ys.length : Int) := by rw [← HL.out]; omega
        by_cases hx : xs[k] = ys[k]
        · have HT := hid (take_next hlt hlt2 ht.out hx)
          rw [← hx] at d1
          generalize xs[k] = x at *
          clear hc0 hc1 hx
          have hq : ((x.toNat : Int) != (x.toNat : Int)) = false := by simp
          go_wp2
          go_quiet (fail)
          go_wp2
          go_roundw
          case rel => exact ⟨k + 1, by omega, by go_num, HT, by first | exact hB.out.drew | exact below_drewN' hB.out _⟩
          case measure => simp [intOf]; omega
        · have HF : Hid (decide (xs = ys) = false) := decide_eq_false (fun e => hx (by subst e; rfl))
          have hq : ((xs[k].toNat : Int) != (ys[k].toNat : Int)) = true := by rw [bne_iff_ne]; exact fun e => hx (toNat_u8_inj e)
          generalize xs[k] = x at *
          generalize ys[k] = y at *
          clear hc0 hc1 hx
          go_wp2
          go_quiet (fail)
          go_wp2
          go_ret
          exact ⟨by rw [HF.out]; rfl, by first | exact hB.out.drew | exact below_drewN' hB.out _⟩
      · have hge : ¬ ((k : Int) < (xs.length : Int)) := by omega
        have HF : Hid (decide (xs = ys) = true) := decide_eq_true (by
          have := ht.out
          rwa [List.take_of_length_le (by omega), List.take_of_length_le (by rw [← HL.out]; omega)] at this)
        go_wp2
        go_ret
        exact ⟨by rw [HF.out]; rfl, hB.out⟩
  · have hne : ((xs.length : Int) != (ys.length : Int)) = true := by rw [bne_iff_ne]; omega
    have HF : Hid (decide (xs = ys) = false) := decide_eq_false (fun e => hl (by rw [e]))
    go_enter Try.func13, Try.ntmps13
    go_wp2
    go_ret
    exact ⟨by rw [HF.out]; rfl, Below.refl _ _⟩
end Go.Proofs.Ytpkjpkjcdpgaaaa
