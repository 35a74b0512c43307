/- The manifest's reader: next and word. -/
import Derived.Test.YtkmmeokccmppbaaMEnc
import Derived.Laws.IdiomStrings
import Derived.Lib.BufferRead
namespace Go.Proofs.Ytkmmeokccmppbaa
open Go.RowKit
/-- A slice of bytes that can be read, with what is known of its room. -/
def Rd (w : World) (v : Value) (bs : List UInt8) : Prop :=
  ∃ ao cap, v = .slice ao bs.length cap ∧ bs.length ≤ cap ∧ cap ≤ 9223372036854775807 ∧ (ao = none → cap = 0) ∧ ∀ ad, ao = some ad → ∀ j x, bs[j]? = some x → ∃ b o, ad = ⟨b, o, none⟩ ∧ b < w.heap.size ∧ w.cell? ⟨b, o + j, none⟩ = some (B x)
theorem Rd.up {w w' : World} {v : Value} {bs : List UInt8} (h : Rd w v bs) (hB : Below w.heap.size w w') : Rd w' v bs := by
  obtain ⟨ao, cap, e, h1, h2, h3, h4⟩ := h
  refine ⟨ao, cap, e, h1, h2, h3, fun ad ha j x hj => ?_⟩
  obtain ⟨b, o, ha2, hb, hc⟩ := h4 ad ha j x hj
  exact ⟨b, o, ha2, Nat.lt_of_lt_of_le hb hB.size, (World.cell?_of_block (w := w) (hB.block b hb)).trans hc⟩
theorem Rd.bytes {w : World} {v : Value} {bs : List UInt8} (h : Rd w v bs) : Bytes w v bs := by
  obtain ⟨ao, cap, e, h1, h2, h3, h4⟩ := h
  refine ⟨ao, cap, e, h1, fun j x hj => ?_⟩
  cases ao with
  | none =>
    have := (List.getElem?_eq_some_iff.1 hj).1
    have := h3 rfl
    omega
  | some ad =>
    obtain ⟨b, o, rfl, _, hc⟩ := h4 ad rfl j x hj
    exact ⟨b, o, rfl, hc⟩
theorem Rd.nil (w : World) : Rd w (.slice none 0 0) [] := ⟨none, 0, rfl, by simp, by omega, fun _ => rfl, fun ad h => by cases h⟩
theorem Rd.of_buf {K : Nat} {w0 w : World} {v : Value} {bs : List UInt8} (h : Buf K w0 w v bs) : Rd w v bs := by
  rcases h.1.2 with ⟨e, h0⟩ | ⟨g, cap, cur, fz, e, hg, hh, _, hle, hm, _, hx⟩
  · have : bs = [] := List.length_eq_zero_iff.1 h0
    subst this
    rw [e]
    exact Rd.nil w
  · refine ⟨_, cap, e, hle, hm, (fun h => by cases h), fun ad ha j x hj => ?_⟩
    cases ha
    refine ⟨g, 0, rfl, lt_of_heap hh, ?_⟩
    have hlt := (List.getElem?_eq_some_iff.1 hj).1
    have h2 : cur.toList[j]? = some (B x) := by
      have : (cur.toList.take (bs.length * 1))[j]? = some (B x) := by rw [hx, List.getElem?_map, hj]; rfl
      rwa [List.getElem?_take_of_lt (by omega)] at this
    rw [Nat.zero_add, cell_of_block hh]
    simpa using h2
theorem run_str {w : World} {v : Value} {bs : List UInt8} (h : Rd w v bs) : (convert 22 9 v).run Try.prog w = .ok (str bs) w := by
  obtain ⟨ao, cap, rfl, h1, h2, h3, h4⟩ := h
  cases ao with
  | none =>
    have : cap = 0 := h3 rfl
    have hl : bs = [] := List.length_eq_zero_iff.1 (by omega)
    subst hl
    have := Lib.run_convert_nil_bytes (P := Try.prog) w 22 9 5 cap Try.underlying22 Try.underlying5 Try.underlying9
    simpa using this
  | some ad =>
    refine run_convert_bytes_back w _ _ _ ad cap bs Try.underlying22 Try.underlying5 Try.underlying9 (fun j hj => ?_)
    obtain ⟨b, o, rfl, _, hc⟩ := h4 ad rfl j bs[j] (List.getElem?_eq_getElem hj)
    rw [Addr.add_mid]
    exact hc
theorem Rd.take {w : World} {ao : Option Addr} {cap : Nat} {bs : List UInt8} {n : Nat} (h : Rd w (.slice ao bs.length cap) bs) (hn : n ≤ bs.length) : Rd w (.slice ao n cap) (bs.take n) := by
  obtain ⟨ao', cap', e, h1, h2, h3, h4⟩ := h
  simp only [Value.slice.injEq, true_and] at e
  obtain ⟨rfl, rfl⟩ := e
  refine ⟨ao, cap, by rw [List.length_take, Nat.min_eq_left hn], by rw [List.length_take]; omega, h2, h3, fun ad ha j x hj => ?_⟩
  have hlt : j < n := by have := (List.getElem?_eq_some_iff.1 hj).1; rw [List.length_take] at this; omega
  rw [List.getElem?_take_of_lt hlt] at hj
  exact h4 ad ha j x hj
theorem Rd.drop {w : World} {ad : Addr} {cap : Nat} {bs : List UInt8} {n : Nat} (h : Rd w (.slice (some ad) bs.length cap) bs) (hn : n ≤ bs.length) : Rd w (.slice (some (ad.add n)) (bs.length - n) (cap - n)) (bs.drop n) := by
  obtain ⟨ao', cap', e, h1, h2, h3, h4⟩ := h
  simp only [Value.slice.injEq, true_and] at e
  obtain ⟨rfl, rfl⟩ := e
  refine ⟨_, cap - n, by rw [List.length_drop], by rw [List.length_drop]; omega, by omega, (fun h => by cases h), fun ad' ha j x hj => ?_⟩
  cases ha
  rw [List.getElem?_drop] at hj
  obtain ⟨b, o, rfl, hb, hc⟩ := h4 ad rfl (n + j) x hj
  refine ⟨b, o + n, Addr.add_mid _ _ _, hb, ?_⟩
  rw [Nat.add_assoc]
  exact hc
theorem Rd.drop_all {w : World} {ad : Addr} {cap : Nat} {bs : List UInt8} {n : Nat} (h : Rd w (.slice (some ad) bs.length cap) bs) (hn : n ≤ bs.length) (hc : cap = n) : Rd w (.slice (some ad) (bs.length - n) 0) (bs.drop n) := by
  obtain ⟨ao', cap', e, h1, h2, h3, h4⟩ := h
  simp only [Value.slice.injEq, true_and] at e
  obtain ⟨rfl, rfl⟩ := e
  have hl : bs.length = n := by omega
  refine ⟨_, 0, by rw [List.length_drop], by rw [List.length_drop]; omega, by omega, (fun h => by cases h), fun ad' ha j x hj => ?_⟩
  rw [List.drop_of_length_le (by omega)] at hj
  simp at hj
/-- What next answers. -/
def NextTo (w0 w w' : World) (g : Nat) (bs : List UInt8) (n : Nat) (e : Ending) : Prop :=
  (n ≤ bs.length ∧ ∃ v1 v2, e = .returned (.tuple #[v1, .bool true]) ∧ Rd w0 v1 (bs.take n) ∧ Rd w0 v2 (bs.drop n) ∧ w' = w.setCell ⟨g, 0, none⟩ v2) ∨ (bs.length < n ∧ e = .returned (.tuple #[.slice none 0 0, .bool false]) ∧ w' = w)
set_option maxHeartbeats 1000000 in
theorem next_any (w0 w : World) (g : Nat) (v : Value) (bs : List UInt8) (n : Nat) (hn : n ≤ 1000) (hr : Rd w0 v bs) (hg : w.heap[g]? = some (.cells #[v] 50 (0, 0))) :
    Calls Try.prog 20 #[.pointer (some ⟨g, 0, none⟩), .int .i64 n] w fun e w' => NextTo w0 w w' g bs n e := by
  have HR := hid hr
  obtain ⟨ao, cap, rfl, h1, h2, h3, _⟩ := hr
  have c0 : w.cell? ⟨g, 0, none⟩ = some (.slice ao bs.length cap) := cell_of_block hg 0
  have f0 := frozen_of_block hg 0
  by_cases hlt : bs.length < n
  · have q1 : (n : Int) > (bs.length : Int) := by omega
    have HL := hid hlt
    go_enter Try.func20, Try.ntmps20
    go_wp2
    go_ret2
    exact .inr ⟨HL.out, rfl, rfl⟩
  · have hle : n ≤ bs.length := by omega
    have HLe := hid hle
    cases ao with
    | none =>
      have hc0 : cap = 0 := h3 rfl
      subst hc0
      have hl : bs = [] := List.length_eq_zero_iff.1 (by omega)
      subst hl
      have hn0 : n = 0 := by simpa using hle
      subst hn0
      clear hlt hle h1 h2 h3
      go_enter Try.func20, Try.ntmps20
      go_wp2
      go_ret2
      exact .inl ⟨HLe.out, _, _, rfl, Rd.nil _, Rd.nil _, rfl⟩
    | some ad =>
      have q1 : ¬ ((n : Int) > (bs.length : Int)) := by omega
      have q2 : (0 : Int) ≤ (n : Int) := by omega
      have q3 : (n : Int) ≤ (cap : Int) := by omega
      have q4 : (n : Int) ≤ (bs.length : Int) := by omega
      have q5 : (bs.length : Int) ≤ (cap : Int) := by omega
      have HT := hid (HR.out.take hle)
      have HD := hid (HR.out.drop hle)
      have HDA := hid (HR.out.drop_all hle)
      by_cases hcn : cap = n
      · have HDB := hid (HDA.out hcn)
        clear HDA HD
        rw [show bs.length - n = 0 by omega] at HDB
        subst hcn
        go_enter Try.func20, Try.ntmps20
        go_wp2
        go_ret2
        exact .inl ⟨HLe.out, _, _, rfl, HT.out, HDB.out, rfl⟩
      · clear HDA
        go_enter Try.func20, Try.ntmps20
        go_wp2
        go_ret2
        exact .inl ⟨HLe.out, _, _, rfl, HT.out, HD.out, rfl⟩
/-- What word answers. -/
def WordTo (w0 w w' : World) (g : Nat) (bs : List UInt8) (e : Ending) : Prop :=
  ((pWord bs = none ∧ e = .returned (.tuple #[str [], .bool false])) ∨ ∃ s t, pWord bs = some (s, t) ∧ e = .returned (.tuple #[str s, .bool true]) ∧ ∃ v2, Rd w0 v2 t ∧ w'.heap[g]? = some (.cells #[v2] 50 (0, 0))) ∧ Below g w w'
theorem set_reader {w : World} {g : Nat} {v v2 : Value} {t : TypeId} (hg : w.heap[g]? = some (.cells #[v] t (0, 0))) : (w.setCell ⟨g, 0, none⟩ v2).heap[g]? = some (.cells #[v2] t (0, 0)) := by
  rw [block_setCell hg]; rfl
set_option maxHeartbeats 1000000 in
theorem word_any (w0 w : World) (g : Nat) (v : Value) (bs : List UInt8) (hr : Rd w0 v bs) (hg : w.heap[g]? = some (.cells #[v] 50 (0, 0))) (hB : Below w0.heap.size w0 w) (h0 : w0.heap.size ≤ g) :
    Calls Try.prog 21 #[.pointer (some ⟨g, 0, none⟩)] w fun e w' => WordTo w0 w w' g bs e := by
  have HN := hid (next_any w0 w g v bs 1 (by omega) hr hg)
  have HG := hid hg
  have HB := hid hB
  clear hg hr hB
  go_enter Try.func21, Try.ntmps21
  go_wp2_with fail
  refine HN.out.mono ?_
  rintro e w1 (⟨hle, v1, v2, rfl, r1, r2, rfl⟩ | ⟨hlt, rfl, rfl⟩)
  · cases bs with
    | nil => simp at hle
    | cons n t =>
      simp only [List.take_succ_cons, List.take_zero, List.drop_succ_cons, List.drop_zero] at r1 r2
      have HG1 := hid (set_reader (v2 := v2) HG.out)
      have HB1 := hid (HB.out.setCell (p := ⟨g, 0, none⟩) h0 v2)
      have HB2 := hid ((Below.refl g w).setCell (p := ⟨g, 0, none⟩) (Nat.le_refl g) v2)
      generalize w.setCell ⟨g, 0, none⟩ v2 = w1 at *
      obtain ⟨ao, cap, hv1, q1, q2, q3, q4⟩ := r1.up HB1.out
      have hv1' : v1 = .slice ao 1 cap := hv1
      clear hv1
      subst hv1'
      cases ao with
      | none => simp at q1; have := q3 rfl; omega
      | some ad =>
        obtain ⟨b, o, rfl, _, c0⟩ := q4 ad rfl 0 n rfl
        rw [Nat.add_zero] at c0
        have hx0 := V_nonneg n
        have hx1 := V_lt n
        have hlen : n.toNat ≤ 1000 := by have := n.toNat_lt; omega
        have HN2 := hid (next_any w0 w1 g v2 t n.toNat hlen r2 HG1.out)
        clear q1 q2 q3 q4 HN hle hlen r2
        go_wp2_with fail
        refine HN2.out.mono ?_
        rintro e w2 (⟨hle, v3, v4, rfl, r3, r4, rfl⟩ | ⟨hlt, rfl, rfl⟩)
        · have hp : Hid (pWord (n :: t) = some (t.take n.toNat, t.drop n.toNat)) := if_pos hle
          have HB3 := hid (HB1.out.setCell (p := ⟨g, 0, none⟩) h0 v4)
          have HB4 := hid (HB2.out.setCell (p := ⟨g, 0, none⟩) (Nat.le_refl g) v4)
          have HG2 := hid (set_reader (v2 := v4) HG1.out)
          have HR4 := hid r4
          have hcv := run_str (r3.up HB3.out)
          generalize w1.setCell ⟨g, 0, none⟩ v4 = w2 at *
          clear r3 r4 HN2 hle c0
          go_wp2
          go_ret2
          exact ⟨.inr ⟨_, _, hp.out, rfl, _, HR4.out, HG2.out⟩, HB4.out⟩
        · have hp : Hid (pWord (n :: t) = none) := if_neg (by omega)
          have hcv := fun W => run_str (Rd.nil W)
          clear HN2 hlt c0
          go_wp2
          go_ret2
          exact ⟨.inl ⟨hp.out, rfl⟩, HB2.out⟩
  · have hp : Hid (pWord bs = none) := by
      have : bs = [] := List.length_eq_zero_iff.1 (by omega)
      subst this; rfl
    go_wp2
    go_ret2
    exact ⟨.inl ⟨hp.out, rfl⟩, Below.refl _ _⟩
end Go.Proofs.Ytkmmeokccmppbaa
