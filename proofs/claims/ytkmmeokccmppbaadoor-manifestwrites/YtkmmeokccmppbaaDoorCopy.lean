/- dunnageref01.Copy returns the same bytes in a slice of its own (nil, where there are none). -/
import Derived.Test.YtkmmeokccmppbaaDoorSum
namespace Go.Proofs.YtkmmeokccmppbaaDoor
open Go.RowKit
/-- A slice of one's own, from block K on, that holds the bytes bs. -/
def OwnBytes (w : World) (v : Value) (bs : List UInt8) (K : Nat) : Prop :=
  (bs = [] ∧ v = .slice none 0 0) ∨ ∃ g cap rest, v = .slice (some ⟨g, 0, none⟩) bs.length cap ∧ bs.length ≤ cap ∧ K ≤ g ∧ w.heap[g]? = some (.cells (bs.map B ++ rest).toArray 5 (0, 0))
set_option maxRecDepth 100000 in
theorem OwnBytes.bytes {w : World} {v : Value} {bs : List UInt8} {K : Nat} (h : OwnBytes w v bs K) : Bytes w v bs := by
  rcases h with ⟨rfl, rfl⟩ | ⟨g, cap, rest, rfl, hc, _, hb⟩
  · exact ⟨none, 0, rfl, by simp, fun j x hj => by simp at hj⟩
  · refine ⟨_, cap, rfl, hc, fun j x hj => ⟨g, 0, rfl, ?_⟩⟩
    have hlt := (List.getElem?_eq_some_iff.1 hj).1
    rw [Nat.zero_add, cell_of_block hb, List.getElem?_toArray, List.getElem?_append_left (by simpa using hlt), List.getElem?_map, hj]; rfl
set_option maxRecDepth 100000 in
theorem own_of_row {w : World} {K g n cap : Nat} {bs : List UInt8} (h : w.ownsRow K 5 1 (.slice (some ⟨g, 0, none⟩) n cap) n (bs.map B)) (hn : n = bs.length) : OwnBytes w (.slice (some ⟨g, 0, none⟩) n cap) bs K := by
  subst hn
  obtain ⟨h1, h2⟩ := h
  rcases h2 with ⟨hv, _⟩ | ⟨g', cap', cur, hv, hb, hg, hle, hm, hs, hx⟩
  · simp at hv
  · simp only [Value.slice.injEq, Option.some.injEq, Addr.mk.injEq, and_true, true_and] at hv
    obtain ⟨rfl, rfl⟩ := hv
    refine .inr ⟨g, cap, cur.toList.drop bs.length, rfl, hle, hb, ?_⟩
    rw [hg]
    congr 2
    rw [← hx, Nat.mul_one, List.take_append_drop]
end Go.Proofs.YtkmmeokccmppbaaDoor
