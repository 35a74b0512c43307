/- dunnageref01.Copy returns the same bytes in a slice of its own (nil, where there are none). -/
import Derived.Test.YtkmmeokccmppbaaSum
namespace Go.Proofs.Ytkmmeokccmppbaa
open Go.RowKit
/-- A slice of one's own, from block K on, that holds the bytes bs. -/
def OwnBytes (w : World) (v : Value) (bs : List UInt8) (K : Nat) : Prop :=
  (bs = [] ∧ v = .slice none 0 0) ∨ ∃ g cap rest, v = .slice (some ⟨g, 0, none⟩) bs.length cap ∧ bs.length ≤ cap ∧ K ≤ g ∧ w.heap[g]? = some (.cells (bs.map B ++ rest).toArray 5 (0, 0))
theorem OwnBytes.bytes {w : World} {v : Value} {bs : List UInt8} {K : Nat} (h : OwnBytes w v bs K) : Bytes w v bs := by
  rcases h with ⟨rfl, rfl⟩ | ⟨g, cap, rest, rfl, hc, _, hb⟩
  · exact ⟨none, 0, rfl, by simp, fun j x hj => by simp at hj⟩
  · refine ⟨_, cap, rfl, hc, fun j x hj => ⟨g, 0, rfl, ?_⟩⟩
    have hlt := (List.getElem?_eq_some_iff.1 hj).1
    rw [Nat.zero_add, cell_of_block hb, List.getElem?_toArray, List.getElem?_append_left (by simpa using hlt), List.getElem?_map, hj]; rfl
theorem own_of_row {w : World} {K g n cap : Nat} {bs : List UInt8} (h : w.ownsRow K 5 1 (.slice (some ⟨g, 0, none⟩) n cap) n (bs.map B)) (hn : n = bs.length) : OwnBytes w (.slice (some ⟨g, 0, none⟩) n cap) bs K := by
  subst hn
  obtain ⟨h1, h2⟩ := h
  rcases h2 with ⟨hv, _⟩ | ⟨g', cap', cur, hv, hb, hg, hle, hm, hs, hx⟩
  · simp at hv
  · simp only [Value.slice.injEq, Option.some.injEq, Addr.mk.injEq, and_true, true_and] at hv
    obtain ⟨rfl, rfl⟩ := hv
    refine .inr ⟨g, cap, cur.toList.drop bs.length, rfl, hle, hb, ?_⟩
    rw [hg]
    congr 2
    rw [← hx, Nat.mul_one, List.take_append_drop]
set_option maxHeartbeats 1000000 in
theorem copy_any (bs : List UInt8) (v : Value) (w : World) (hb : Bytes w v bs) (hlen : bs.length ≤ 140737488351232) :
    Calls Try.prog 8 #[v] w fun e w' => ∃ v', e = .returned v' ∧ OwnBytes w' v' bs w.heap.size ∧ Below w.heap.size w w' := by
  obtain ⟨a, cap, rfl, hcap, hx⟩ := hb
  by_cases h0 : bs = []
  · subst h0
    have hz : ([] : List UInt8).length = 0 := rfl
    cases a with
    | none =>
      go_enter Try.func8, Try.ntmps8
      go_wp2
      go_ret
      exact ⟨_, rfl, .inl ⟨rfl, rfl⟩, Below.refl _ _⟩
    | some ad =>
      go_enter Try.func8, Try.ntmps8
      go_wp2
      go_ret
      exact ⟨_, rfl, .inl ⟨rfl, rfl⟩, Below.refl _ _⟩
  · have hpos : 0 < bs.length := List.length_pos_iff.2 h0
    obtain ⟨b, off, rfl, _⟩ := hx 0 bs[0] (List.getElem?_eq_getElem hpos)
    have hcell : ∀ (j : Nat) (u : Value), (bs.map B)[j]? = some u → w.cell? ((⟨b, off, none⟩ : Addr).add j) = some u := by
      intro j u hu
      rw [List.getElem?_map] at hu
      obtain ⟨x, hxj, rfl⟩ := Option.map_eq_some_iff.1 hu
      obtain ⟨b', off', he, hc⟩ := hx j x hxj
      simp only [Option.some.injEq, Addr.mk.injEq, and_true] at he
      obtain ⟨rfl, rfl⟩ := he
      rw [Addr.add_mid]; exact hc
    have HC := hid hcell
    obtain ⟨i0, hi, hz0, hz1, hz2⟩ := info_parts infoB
    have HI := hid hi
    clear hx hcell hi
    go_enter Try.func8, Try.ntmps8
    go_wp2_with (refine wpList_append_lies _ rfl (.tmp 4) (.tmp 5) 22 rfl w.heap.size 5 i0 (.int .u8 0) 1 1 Try.underlying22 HI.out hz0 hz1 hz2 rfl (by omega) (.slice none 0 0) 0 [] rfl (World.ownsRow_nil _ _ _ _) ⟨b, off, none⟩ bs.length cap (bs.map B) rfl (by simp) HC.out (B_one _) hpos (by unfold maxLen; omega) (by omega) (Nat.le_refl _) w.heap.size rfl ?_; intro g cap' w1 hown hgr hat hlt)
    go_ret
    rw [List.nil_append, Nat.zero_add] at hown
    refine ⟨_, rfl, own_of_row hown (by simp), ?_⟩
    exact ⟨hgr.os, hgr.tape, hgr.output, hgr.size, fun k hk => hgr.block k hk (by simp [Value.ownBlock])⟩
end Go.Proofs.Ytkmmeokccmppbaa
