/- Bytes appended to nothing. -/
import Derived.Test.YtdfnhgkabaikaaaTLast
import Derived.Test.YtdfnhgkabaikaaaTPlain
namespace Go.Proofs.Ytdfnhgkabaikaaa
open Go.RowKit
/-- Data in a block of its own. -/
def DataU (W : World) (K : Nat) (dv : Value) (data : List UInt8) : Prop :=
  (dv = .slice none 0 0 ∧ data = []) ∨ ∃ g cap C fr, dv = .slice (some ⟨g, 0, none⟩) data.length cap ∧ K ≤ g ∧ W.heap[g]? = some (.cells C 5 fr) ∧ C.toList.take data.length = data.map B ∧ data.length ≤ cap ∧ cap ≤ 9223372036854775807
theorem DataU.up {W W' : World} {K : Nat} {dv : Value} {data : List UInt8} (h : DataU W K dv data) (hB : Below W.heap.size W W') : DataU W' K dv data := by
  rcases h with h | ⟨g, cap, C, fr, h1, h2, h3, h4⟩
  · exact .inl h
  · exact .inr ⟨g, cap, C, fr, h1, h2, (hB.block g (lt_of_heap h3)).trans h3, h4⟩
theorem DataU.down {W : World} {K K' : Nat} {dv : Value} {data : List UInt8} (h : DataU W K dv data) (hk : K' ≤ K) : DataU W K' dv data := by
  rcases h with h | ⟨g, cap, C, fr, h1, h2, h3, h4⟩
  · exact .inl h
  · exact .inr ⟨g, cap, C, fr, h1, Nat.le_trans hk h2, h3, h4⟩
theorem DataU.set {W : World} {K : Nat} {dv : Value} {data : List UInt8} {g0 i : Nat} {u : Value} {C0 : Array Value} {t : TypeId} {fr0 : Nat × Nat} (h : DataU W K dv data) (hb : W.heap[g0]? = some (.cells C0 t fr0)) (ht : t ≠ 5) : DataU (W.setCell ⟨g0, i, none⟩ u) K dv data := by
  rcases h with h | ⟨g, cap, C, fr, h1, h2, h3, h4⟩
  · exact .inl h
  · refine .inr ⟨g, cap, C, fr, h1, h2, (block_setCell_other _ _ (fun e => ?_)).trans h3, h4⟩
    subst e
    rw [h3] at hb
    injection hb with hb
    injection hb with _ hb _
    exact ht hb.symm
theorem DataU.rd {W : World} {K : Nat} {dv : Value} {data : List UInt8} (h : DataU W K dv data) : Rd W dv data := by
  rcases h with ⟨rfl, rfl⟩ | ⟨g, cap, C, fr, rfl, h2, h3, h4, h5, h6⟩
  · exact Rd.nil W
  · refine ⟨_, _, rfl, h5, h6, (fun h => by cases h), fun ad ha j x hj => ?_⟩
    cases ha
    refine ⟨g, 0, rfl, lt_of_heap h3, ?_⟩
    have hlt := (List.getElem?_eq_some_iff.1 hj).1
    have h7 : C.toList[j]? = some (B x) := by
      have : (C.toList.take data.length)[j]? = some (B x) := by rw [h4, List.getElem?_map, hj]; rfl
      rwa [List.getElem?_take_of_lt hlt] at this
    rw [Nat.zero_add, cell_of_block h3]
    simpa using h7
theorem run_append_none {P : Program} {w : World} (t ty e : TypeId) (i : TypeInfo) (ht : P.underlying t = some (.slice e)) (hi : P.info? e = some i) (a : Option Addr) (c : Nat) :
    (Builtin.append_ #[t, t] ty #[.slice none 0 0, .slice a 0 c]).run P w = .ok (.slice none 0 0) w := by
  cases a <;> simp [Builtin.append_, run_underlying ht, sizeOf, typeInfo, Builtin.lenOf, Builtin.firstCells, loadCells, loadCellsFrom, hi]
theorem wp_append_bytes {w : World} {o : Oper} {a : Act} {K : Act → World → Prop} {Q : Exit → Act → World → Prop} (s x : Operand)
    (ho : o.op = .call { callee := .builtin .append, args := #[s, x], argTypes := #[23, 23] }) (xv : Value) (data : List UInt8)
    (hs : a.eval s = .slice none 0 0) (hx : a.eval x = xv) (hr : Rd w xv data) (hm : data.length ≤ 1000000)
    (h : ∀ dv w', DataU w' w.heap.size dv data → Below w.heap.size w w' → K (a.put o.dst dv) w') : Oper.wp Try.prog o a w K Q := by
  obtain ⟨i0, hi, hz0, hz1, hz2⟩ := info_parts infoU
  obtain ⟨ao, cap, rfl, r1, r2, r3, r4⟩ := hr
  by_cases h0 : data = []
  · subst h0
    have hrun := run_append_none (P := Try.prog) (w := w) 23 o.type 5 i0 Try.underlying23 hi ao cap
    unfold Oper.wp
    simp [execOp, ho, resolve, invoke, builtin, hs, hx, hrun, Result.andThen]
    exact h _ w (.inl ⟨rfl, rfl⟩) (Below.refl _ _)
  · have hpos : 0 < data.length := List.length_pos_iff.2 h0
    cases ao with
    | none => have := r3 rfl; omega
    | some ad =>
      have hcell : ∀ (j : Nat) (u : Value), (data.map B)[j]? = some u → w.cell? (ad.add j) = some u := by
        intro j u hu
        rw [List.getElem?_map] at hu
        obtain ⟨y, hy, rfl⟩ := Option.map_eq_some_iff.1 hu
        obtain ⟨b, off, rfl, _, hc⟩ := r4 _ rfl j y hy
        rw [Addr.add_mid]; exact hc
      refine wp_append_lies _ s x 23 ho w.heap.size 5 i0 (.int .u8 0) 1 1 Try.underlying23 hi hz0 hz1 hz2 rfl (by omega) (.slice none 0 0) 0 [] hs (World.ownsRow_nil _ _ _ _) ad data.length cap (data.map B) hx (by simp) hcell (B_one _) hpos (by unfold maxLen; omega) (by omega) (Nat.le_refl _) w.heap.size rfl ?_
      intro g cap' w1 hown hgr _ _
      rw [Nat.zero_add, List.nil_append] at hown
      rw [Nat.zero_add]
      refine h _ w1 ?_ ⟨hgr.os, hgr.tape, hgr.output, hgr.size, fun k hk => hgr.block k hk (by simp [Value.ownBlock])⟩
      rcases hown.2 with ⟨e, h00⟩ | ⟨g', cap2, cur, e, hg, hh, hle, hmx, _, hxx⟩
      · cases e
      · simp only [Value.slice.injEq, Option.some.injEq, Addr.mk.injEq, and_true, true_and] at e
        obtain ⟨rfl, rfl⟩ := e
        exact .inr ⟨g, cap', cur, _, rfl, hg, hh, by simpa using hxx, hle, by unfold maxLen at hmx; omega⟩
end Go.Proofs.Ytdfnhgkabaikaaa
