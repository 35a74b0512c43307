/- Bytes in memory, of one's own and to be read; copies of them. -/
import Derived.Test.YtdfnhgkabaikaaaKitB
import Derived.Test.YtdfnhgkabaikaaaProg
import Derived.Lib.BufSteps
import Derived.Lib.BufferRead
import Derived.Laws.IdiomStrings
import Derived.Deep.QuietTactic
import Derived.BigQuiet
namespace Go.Proofs.Ytdfnhgkabaikaaa
open Go.RowKit
theorem lt_of_cell {w : World} {b o : Nat} {x : Value} (h : w.cell? ⟨b, o, none⟩ = some x) : b < w.heap.size := by
  unfold World.cell? at h
  cases hq : w.heap[b]? with
  | none => rw [hq] at h; simp at h
  | some o => exact lt_of_heap hq
/-- A text as a value. -/
abbrev str (s : List UInt8) : Value := .string ⟨s.toArray⟩
theorem size_str (s : List UInt8) : (⟨s.toArray⟩ : ByteArray).size = s.length := by simp [ByteArray.size]
theorem infoU : (Try.prog.info? 5).map (fun i => (i.zero, i.size, i.bytes)) = some (some (.int .u8 0), 1, 1) := by kernel_rfl
/-- A slice of bytes of one's own. -/
def Buf (K : Nat) (w0 w : World) (v : Value) (bs : List UInt8) : Prop := Lib.OwnBuf K 5 v bs.length (bs.map B) w0 w
theorem strCells_str (s : List UInt8) : Lib.strCells ⟨s.toArray⟩ = s.map B := by
  simp [Lib.strCells]
  intro a _; rfl
theorem Buf.outer {K K0 : Nat} {w00 w0 w : World} {v : Value} {bs : List UInt8} (h : Buf K w0 w v bs) (hK : K0 ≤ K) (hB : Below K0 w00 w0) : Buf K0 w00 w v bs := by
  obtain ⟨h1, h2, h3⟩ := h
  refine ⟨?_, hB.trans (h2.mono hK), Nat.le_trans hK h3⟩
  refine ⟨h1.1, ?_⟩
  rcases h1.2 with h | ⟨g, cap, cur, fz, e, hg, r⟩
  · exact .inl h
  · exact .inr ⟨g, cap, cur, fz, e, Nat.le_trans hK hg, r⟩
theorem ownBuf_of {K K' : Nat} {w w1 : World} {v : Value} {n : Nat} {xs : List Value} (h : w1.ownsRow K' 5 1 v n xs) (hK : K ≤ K') (hB : Below K w w1) (hs : K ≤ w1.heap.size) : Lib.OwnBuf K 5 v n xs w w1 := by
  refine ⟨?_, hB, hs⟩
  have h1 := World.ownsRowF_of h
  refine ⟨h1.1, ?_⟩
  rcases h1.2 with h | ⟨g, cap, cur, fz, e, hg, r⟩
  · exact .inl h
  · exact .inr ⟨g, cap, cur, fz, e, Nat.le_trans hK hg, r⟩
/-- A slice of bytes that can be read, with what is known of its room. -/
def Rd (w : World) (v : Value) (bs : List UInt8) : Prop :=
  ∃ ao cap, v = .slice ao bs.length cap ∧ bs.length ≤ cap ∧ cap ≤ 9223372036854775807 ∧ (ao = none → cap = 0) ∧ ∀ ad, ao = some ad → ∀ j x, bs[j]? = some x → ∃ b o, ad = ⟨b, o, none⟩ ∧ b < w.heap.size ∧ w.cell? ⟨b, o + j, none⟩ = some (B x)
theorem Rd.up {w w' : World} {v : Value} {bs : List UInt8} (h : Rd w v bs) (hB : Below w.heap.size w w') : Rd w' v bs := by
  obtain ⟨ao, cap, e, h1, h2, h3, h4⟩ := h
  refine ⟨ao, cap, e, h1, h2, h3, fun ad ha j x hj => ?_⟩
  obtain ⟨b, o, ha2, hb, hc⟩ := h4 ad ha j x hj
  exact ⟨b, o, ha2, Nat.lt_of_lt_of_le hb hB.size, (World.cell?_of_block (w := w) (hB.block b hb)).trans hc⟩
theorem Rd.nil (w : World) : Rd w (.slice none 0 0) [] := ⟨none, 0, rfl, by simp, by omega, fun _ => rfl, fun ad h => by cases h⟩
theorem Rd.of_buf {K : Nat} {w0 w : World} {v : Value} {bs : List UInt8} (h : Buf K w0 w v bs) : Rd w v bs := by
  rcases h.1.2 with ⟨e, h0⟩ | ⟨g, cap, cur, fz, e, hg, hh, _, hle, hm, _, hx⟩
  · have : bs = [] := List.length_eq_zero_iff.1 h0
    subst this
    rw [e]
    exact Rd.nil w
  · refine ⟨_, cap, e, hle, hm, (fun h => by cases h), fun ad ha j x hj => ?_⟩
    cases ha
    refine ⟨g, 0, rfl, lt_of_heap hh, ?_⟩
    have hlt := (List.getElem?_eq_some_iff.1 hj).1
    have h2 : cur.toList[j]? = some (B x) := by
      have : (cur.toList.take (bs.length * 1))[j]? = some (B x) := by rw [hx, List.getElem?_map, hj]; rfl
      rwa [List.getElem?_take_of_lt (by omega)] at this
    rw [Nat.zero_add, cell_of_block hh]
    simpa using h2
theorem run_str {w : World} {v : Value} {bs : List UInt8} (h : Rd w v bs) : (convert 23 9 v).run Try.prog w = .ok (str bs) w := by
  obtain ⟨ao, cap, rfl, h1, h2, h3, h4⟩ := h
  cases ao with
  | none =>
    have : cap = 0 := h3 rfl
    have hl : bs = [] := List.length_eq_zero_iff.1 (by omega)
    subst hl
    have := Lib.run_convert_nil_bytes (P := Try.prog) w 23 9 5 cap Try.underlying23 Try.underlying5 Try.underlying9
    simpa using this
  | some ad =>
    refine run_convert_bytes_back w _ _ _ ad cap bs Try.underlying23 Try.underlying5 Try.underlying9 (fun j hj => ?_)
    obtain ⟨b, o, rfl, _, hc⟩ := h4 ad rfl j bs[j] (List.getElem?_eq_getElem hj)
    rw [Addr.add_mid]
    exact hc
theorem Rd.take {w : World} {ao : Option Addr} {cap : Nat} {bs : List UInt8} {n : Nat} (h : Rd w (.slice ao bs.length cap) bs) (hn : n ≤ bs.length) : Rd w (.slice ao n cap) (bs.take n) := by
  obtain ⟨ao', cap', e, h1, h2, h3, h4⟩ := h
  simp only [Value.slice.injEq, true_and] at e
  obtain ⟨rfl, rfl⟩ := e
  refine ⟨ao, cap, by rw [List.length_take, Nat.min_eq_left hn], by rw [List.length_take]; omega, h2, h3, fun ad ha j x hj => ?_⟩
  have hlt : j < n := by have := (List.getElem?_eq_some_iff.1 hj).1; rw [List.length_take] at this; omega
  rw [List.getElem?_take_of_lt hlt] at hj
  exact h4 ad ha j x hj
theorem Rd.drop {w : World} {ad : Addr} {cap : Nat} {bs : List UInt8} {n : Nat} (h : Rd w (.slice (some ad) bs.length cap) bs) (hn : n ≤ bs.length) : Rd w (.slice (some (ad.add n)) (bs.length - n) (cap - n)) (bs.drop n) := by
  obtain ⟨ao', cap', e, h1, h2, h3, h4⟩ := h
  simp only [Value.slice.injEq, true_and] at e
  obtain ⟨rfl, rfl⟩ := e
  refine ⟨_, cap - n, by rw [List.length_drop], by rw [List.length_drop]; omega, by omega, (fun h => by cases h), fun ad' ha j x hj => ?_⟩
  cases ha
  rw [List.getElem?_drop] at hj
  obtain ⟨b, o, rfl, hb, hc⟩ := h4 ad rfl (n + j) x hj
  refine ⟨b, o + n, Addr.add_mid _ _ _, hb, ?_⟩
  rw [Nat.add_assoc]
  exact hc
theorem Rd.drop_all {w : World} {ad : Addr} {cap : Nat} {bs : List UInt8} {n : Nat} (h : Rd w (.slice (some ad) bs.length cap) bs) (hn : n ≤ bs.length) (hc : cap = n) : Rd w (.slice (some ad) (bs.length - n) 0) (bs.drop n) := by
  obtain ⟨ao', cap', e, h1, h2, h3, h4⟩ := h
  simp only [Value.slice.injEq, true_and] at e
  obtain ⟨rfl, rfl⟩ := e
  have hl : bs.length = n := by omega
  refine ⟨_, 0, by rw [List.length_drop], by rw [List.length_drop]; omega, by omega, (fun h => by cases h), fun ad' ha j x hj => ?_⟩
  rw [List.drop_of_length_le (by omega)] at hj
  simp at hj
set_option maxHeartbeats 1000000 in
theorem copy_buf (bs : List UInt8) (v : Value) (w : World) (hr : Rd w v bs) (hlen : bs.length ≤ 140737488351232) :
    Calls Try.prog 19 #[v] w fun e w' => ∃ v', e = .returned v' ∧ Buf w.heap.size w w' v' bs := by
  obtain ⟨a, cap, rfl, hcap, _, hnone, hx⟩ := hr
  by_cases h0 : bs = []
  · subst h0
    have hz : ([] : List UInt8).length = 0 := rfl
    cases a with
    | none =>
      go_enter Try.func19, Try.ntmps19
      go_wp2
      go_ret
      exact ⟨_, rfl, World.ownsRowF_nil _ _ _ _, Below.refl _ _, Nat.le_refl _⟩
    | some ad =>
      go_enter Try.func19, Try.ntmps19
      go_wp2
      go_ret
      exact ⟨_, rfl, World.ownsRowF_nil _ _ _ _, Below.refl _ _, Nat.le_refl _⟩
  · have hpos : 0 < bs.length := List.length_pos_iff.2 h0
    cases a with
    | none => have := hnone rfl; omega
    | some ad =>
      obtain ⟨b, off, rfl, _⟩ := hx ad rfl 0 bs[0] (List.getElem?_eq_getElem hpos)
      have hcell : ∀ (j : Nat) (u : Value), (bs.map B)[j]? = some u → w.cell? ((⟨b, off, none⟩ : Addr).add j) = some u := by
        intro j u hu
        rw [List.getElem?_map] at hu
        obtain ⟨x, hxj, rfl⟩ := Option.map_eq_some_iff.1 hu
        obtain ⟨b', off', he, _, hc⟩ := hx _ rfl j x hxj
        simp only [Addr.mk.injEq, and_true] at he
        obtain ⟨rfl, rfl⟩ := he
        rw [Addr.add_mid]; exact hc
      have HC := hid hcell
      obtain ⟨i0, hi, hz0, hz1, hz2⟩ := info_parts infoU
      have HI := hid hi
      clear hx hcell hi
      go_enter Try.func19, Try.ntmps19
      go_wp2_with (refine wpList_append_lies _ rfl (.tmp 4) (.tmp 5) 23 rfl w.heap.size 5 i0 (.int .u8 0) 1 1 Try.underlying23 HI.out hz0 hz1 hz2 rfl (by omega) (.slice none 0 0) 0 [] rfl (World.ownsRow_nil _ _ _ _) ⟨b, off, none⟩ bs.length cap (bs.map B) rfl (by simp) HC.out (B_one _) hpos (by unfold maxLen; omega) (by omega) (Nat.le_refl _) w.heap.size rfl ?_; intro g cap' w1 hown hgr hat hlt)
      go_ret
      rw [List.nil_append, Nat.zero_add] at hown
      refine ⟨_, rfl, ownBuf_of hown (Nat.le_refl _) ?_ hgr.size⟩
      exact ⟨hgr.os, hgr.tape, hgr.output, hgr.size, fun k hk => hgr.block k hk (by simp [Value.ownBlock])⟩
end Go.Proofs.Ytdfnhgkabaikaaa
