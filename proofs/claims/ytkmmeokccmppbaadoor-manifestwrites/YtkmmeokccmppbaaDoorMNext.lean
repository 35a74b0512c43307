/- The manifest's reader: next and word. -/
import Derived.Test.YtkmmeokccmppbaaDoorMEnc
import Derived.Laws.IdiomStrings
import Derived.Lib.BufferRead
namespace Go.Proofs.YtkmmeokccmppbaaDoor
open Go.RowKit
/-- A slice of bytes that can be read, with what is known of its room. -/
def Rd (w : World) (v : Value) (bs : List UInt8) : Prop :=
  ∃ ao cap, v = .slice ao bs.length cap ∧ bs.length ≤ cap ∧ cap ≤ 9223372036854775807 ∧ (ao = none → cap = 0) ∧ ∀ ad, ao = some ad → ∀ j x, bs[j]? = some x → ∃ b o, ad = ⟨b, o, none⟩ ∧ b < w.heap.size ∧ w.cell? ⟨b, o + j, none⟩ = some (B x)
theorem Rd.up {w w' : World} {v : Value} {bs : List UInt8} (h : Rd w v bs) (hB : Below w.heap.size w w') : Rd w' v bs := by
  obtain ⟨ao, cap, e, h1, h2, h3, h4⟩ := h
  refine ⟨ao, cap, e, h1, h2, h3, fun ad ha j x hj => ?_⟩
  obtain ⟨b, o, ha2, hb, hc⟩ := h4 ad ha j x hj
  exact ⟨b, o, ha2, Nat.lt_of_lt_of_le hb hB.size, (World.cell?_of_block (w := w) (hB.block b hb)).trans hc⟩
theorem Rd.bytes {w : World} {v : Value} {bs : List UInt8} (h : Rd w v bs) : Bytes w v bs := by
  obtain ⟨ao, cap, e, h1, h2, h3, h4⟩ := h
  refine ⟨ao, cap, e, h1, fun j x hj => ?_⟩
  cases ao with
  | none =>
    have := (List.getElem?_eq_some_iff.1 hj).1
    have := h3 rfl
    omega
  | some ad =>
    obtain ⟨b, o, rfl, _, hc⟩ := h4 ad rfl j x hj
    exact ⟨b, o, rfl, hc⟩
theorem Rd.nil (w : World) : Rd w (.slice none 0 0) [] := ⟨none, 0, rfl, by simp, by omega, fun _ => rfl, fun ad h => by cases h⟩
theorem Rd.of_buf {K : Nat} {w0 w : World} {v : Value} {bs : List UInt8} (h : Buf K w0 w v bs) : Rd w v bs := by
  rcases h.1.2 with ⟨e, h0⟩ | ⟨g, cap, cur, fz, e, hg, hh, _, hle, hm, _, hx⟩
  · have : bs = [] := List.length_eq_zero_iff.1 h0
    subst this
    rw [e]
    exact Rd.nil w
  · refine ⟨_, cap, e, hle, hm, (fun h => by cases h), fun ad ha j x hj => ?_⟩
    cases ha
    refine ⟨g, 0, rfl, lt_of_heap hh, ?_⟩
    have hlt := (List.getElem?_eq_some_iff.1 hj).1
    have h2 : cur.toList[j]? = some (B x) := by
      have : (cur.toList.take (bs.length * 1))[j]? = some (B x) := by rw [hx, List.getElem?_map, hj]; rfl
      rwa [List.getElem?_take_of_lt (by omega)] at this
    rw [Nat.zero_add, cell_of_block hh]
    simpa using h2
theorem run_str {w : World} {v : Value} {bs : List UInt8} (h : Rd w v bs) : (convert 27 9 v).run Tryd.prog w = .ok (str bs) w := by
  obtain ⟨ao, cap, rfl, h1, h2, h3, h4⟩ := h
  cases ao with
  | none =>
    have : cap = 0 := h3 rfl
    have hl : bs = [] := List.length_eq_zero_iff.1 (by omega)
    subst hl
    have := Lib.run_convert_nil_bytes (P := Tryd.prog) w 27 9 5 cap Tryd.underlying27 Tryd.underlying5 Tryd.underlying9
    simpa using this
  | some ad =>
    refine run_convert_bytes_back w _ _ _ ad cap bs Tryd.underlying27 Tryd.underlying5 Tryd.underlying9 (fun j hj => ?_)
    obtain ⟨b, o, rfl, _, hc⟩ := h4 ad rfl j bs[j] (List.getElem?_eq_getElem hj)
    rw [Addr.add_mid]
    exact hc
theorem Rd.take {w : World} {ao : Option Addr} {cap : Nat} {bs : List UInt8} {n : Nat} (h : Rd w (.slice ao bs.length cap) bs) (hn : n ≤ bs.length) : Rd w (.slice ao n cap) (bs.take n) := by
  obtain ⟨ao', cap', e, h1, h2, h3, h4⟩ := h
  simp only [Value.slice.injEq, true_and] at e
  obtain ⟨rfl, rfl⟩ := e
  refine ⟨ao, cap, by rw [List.length_take, Nat.min_eq_left hn], by rw [List.length_take]; omega, h2, h3, fun ad ha j x hj => ?_⟩
  have hlt : j < n := by have := (List.getElem?_eq_some_iff.1 hj).1; rw [List.length_take] at this; omega
  rw [List.getElem?_take_of_lt hlt] at hj
  exact h4 ad ha j x hj
theorem Rd.drop {w : World} {ad : Addr} {cap : Nat} {bs : List UInt8} {n : Nat} (h : Rd w (.slice (some ad) bs.length cap) bs) (hn : n ≤ bs.length) : Rd w (.slice (some (ad.add n)) (bs.length - n) (cap - n)) (bs.drop n) := by
  obtain ⟨ao', cap', e, h1, h2, h3, h4⟩ := h
  simp only [Value.slice.injEq, true_and] at e
  obtain ⟨rfl, rfl⟩ := e
  refine ⟨_, cap - n, by rw [List.length_drop], by rw [List.length_drop]; omega, by omega, (fun h => by cases h), fun ad' ha j x hj => ?_⟩
  cases ha
  rw [List.getElem?_drop] at hj
  obtain ⟨b, o, rfl, hb, hc⟩ := h4 ad rfl (n + j) x hj
  refine ⟨b, o + n, Addr.add_mid _ _ _, hb, ?_⟩
  rw [Nat.add_assoc]
  exact hc
theorem Rd.drop_all {w : World} {ad : Addr} {cap : Nat} {bs : List UInt8} {n : Nat} (h : Rd w (.slice (some ad) bs.length cap) bs) (hn : n ≤ bs.length) (hc : cap = n) : Rd w (.slice (some ad) (bs.length - n) 0) (bs.drop n) := by
  obtain ⟨ao', cap', e, h1, h2, h3, h4⟩ := h
  simp only [Value.slice.injEq, true_and] at e
  obtain ⟨rfl, rfl⟩ := e
  have hl : bs.length = n := by omega
  refine ⟨_, 0, by rw [List.length_drop], by rw [List.length_drop]; omega, by omega, (fun h => by cases h), fun ad' ha j x hj => ?_⟩
  rw [List.drop_of_length_le (by omega)] at hj
  simp at hj
/-- What next answers. -/
def NextTo (w0 w w' : World) (g : Nat) (bs : List UInt8) (n : Nat) (e : Ending) : Prop :=
  (n ≤ bs.length ∧ ∃ v1 v2, e = .returned (.tuple #[v1, .bool true]) ∧ Rd w0 v1 (bs.take n) ∧ Rd w0 v2 (bs.drop n) ∧ w' = w.setCell ⟨g, 0, none⟩ v2) ∨ (bs.length < n ∧ e = .returned (.tuple #[.slice none 0 0, .bool false]) ∧ w' = w)
theorem set_reader {w : World} {g : Nat} {v v2 : Value} {t : TypeId} (hg : w.heap[g]? = some (.cells #[v] t (0, 0))) : (w.setCell ⟨g, 0, none⟩ v2).heap[g]? = some (.cells #[v2] t (0, 0)) := by
  rw [block_setCell hg]; rfl
end Go.Proofs.YtkmmeokccmppbaaDoor
