/- append of pages, of any number. -/
import Derived.Test.YtkkmbgjlmdddoabGreatBaseD
import Derived.Test.YtkkmbgjlmdddoabGreatRSort
namespace Go.Proofs.YtkkmbgjlmdddoabGreat
open Go.RowKit
theorem run_append_noneP {P : Program} {w : World} (t ty e : TypeId) (i : TypeInfo) (ht : P.underlying t = some (.slice e)) (hi : P.info? e = some i) (a : Option Addr) (c : Nat) :
    (Builtin.append_ #[t, t] ty #[.slice none 0 0, .slice a 0 c]).run P w = .ok (.slice none 0 0) w := by
  cases a <;> simp [Builtin.append_, run_underlying ht, sizeOf, typeInfo, Builtin.lenOf, Builtin.firstCells, loadCells, loadCellsFrom, hi]
theorem run_append_more {P : Program} {w : World} (t ty e : TypeId) (i : TypeInfo) (ht : P.underlying t = some (.slice e)) (hi : P.info? e = some i) (d : Addr) (n cap : Nat) (hn : n ≤ cap) (a : Option Addr) (c : Nat) :
    (Builtin.append_ #[t, t] ty #[.slice (some d) n cap, .slice a 0 c]).run P w = .ok (.slice (some d) n cap) w := by
  cases a <;> simp [Builtin.append_, run_underlying ht, sizeOf, typeInfo, Builtin.lenOf, Builtin.firstCells, loadCells, loadCellsFrom, hi, hn, storeCells]
/-- append of m pages, be it none, to a row of one's own. -/
theorem wpList_append_pages {w : World} {ops : Array Oper} {rest : List Oper} {o : Oper} {a : Act} {Q : Exit → Act → World → Prop} (hgd : o.guard = none) (s x : Operand)
    (ho : o.op = .call { callee := .builtin .append, args := #[s, x], argTypes := #[55, 55] }) (base : Nat) (v : Value) (n : Nat) (xs : List Value) (hs : a.eval s = v) (hown : w.ownsRow base 63 2 v n xs)
    (sa : Option Addr) (m c : Nat) (news : List Value) (hx : a.eval x = .slice sa m c) (hl : news.length = m * 2) (hc : 0 < m → ∃ ad, sa = some ad ∧ ∀ j u, news[j]? = some u → w.cell? (ad.add j) = some u) (h1 : ∀ u ∈ news, u.oneCell' = true)
    (hn : n + m ≤ 4096) (hbase : base ≤ w.heap.size)
    (h : ∀ v' w', w'.ownsRow base 63 2 v' (n + m) (xs ++ news) → w.grownBy w' v.ownBlock → (v'.ownBlock = v.ownBlock ∨ v'.ownBlock = some w.heap.size) → wpList Tryz.prog ops Q rest (a.put o.dst v') w') : wpList Tryz.prog ops Q (o :: rest) a w := by
  obtain ⟨i0, hi, hz0, hz1, hz2⟩ := info_parts infoPage
  rcases Nat.eq_zero_or_pos m with rfl | hpos
  · obtain rfl : news = [] := List.eq_nil_of_length_eq_zero (by simpa using hl)
    rw [List.append_nil, Nat.add_zero] at h
    have hrun : (Builtin.append_ #[55, 55] o.type #[v, .slice sa 0 c]).run Tryz.prog w = .ok v w := by
      rcases hown.2 with ⟨rfl, -⟩ | ⟨g, cap, cur, rfl, -, -, hle, -⟩
      · exact run_append_noneP 55 o.type 63 i0 Tryz.underlying55 hi sa c
      · exact run_append_more 55 o.type 63 i0 Tryz.underlying55 hi _ n cap hle sa c
    refine wpList_plain hgd fun K hK => ?_
    unfold Oper.wp
    simp [execOp, ho, resolve, invoke, builtin, hs, hx, hrun, Result.andThen]
    exact hK _ _ (h v w hown (grown_refl _ _) (.inl rfl))
  · obtain ⟨ad, rfl, hcell⟩ := hc hpos
    refine wpList_append_lies _ hgd s x 55 ho base 63 i0 (.agg #[.int .i64 0, .slice none 0 0]) 2 32 Tryz.underlying55 hi hz0 hz1 hz2 rfl (by omega) v n xs hs hown ad m c news hx hl hcell h1 hpos (by unfold maxLen; omega) (by omega) hbase w.heap.size rfl ?_
    intro g cap w1 hown1 hgr hat _
    refine h _ w1 hown1 hgr ?_
    rcases hat with e | e
    · exact .inl e.symm
    · exact .inr (by rw [e]; rfl)
end Go.Proofs.YtkkmbgjlmdddoabGreat
