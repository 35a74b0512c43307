/- append of a number to a row of numbers, whose block holds numbers alone. -/
import Derived.Test.YtkkmbgjlmdddoaaGreatAlOff
import Derived.Test.YtkkmbgjlmdddoaaGreatBinS
namespace Go.Proofs.YtkkmbgjlmdddoaaGreat
open Go.RowKit
def numsI (xs : List Int) : List Value := xs.map (fun n => Value.int .i64 n)
/-- A row of numbers of one's own. -/
def rowN (w : World) (base : Nat) (v : Value) (xs : List Int) : Prop := w.ownsRow base 3 1 v xs.length (numsI xs) ∧ ∀ g, v.ownBlock = some g → offN w g
theorem zero_cells (n : Nat) : ∀ v ∈ (Builtin.zeroCells (Value.int .i64 0).cells n).toList, ∃ k, v = .int .i64 k := by
  intro v hv
  simp only [Builtin.zeroCells, Value.cells, Array.toList_map, List.mem_map] at hv
  obtain ⟨i, -, rfl⟩ := hv
  exact ⟨0, by simp [Nat.mod_one]⟩
theorem numsI_int {xs : List Int} : ∀ v ∈ numsI xs, ∃ k, v = .int .i64 k := fun v hv => by
  obtain ⟨n, -, rfl⟩ := List.mem_map.1 hv
  exact ⟨n, rfl⟩
section
variable {w w' : World} {base : Nat} {v : Value} {xs : List Int} {F : Nat → Prop}
theorem rowN.keep (h : rowN w base v xs) (k : Keeps F w w') (hF : ∀ i, v.ownBlock = some i → ¬ F i) : rowN w' base v xs := by
  refine ⟨k.row h.1 hF, fun g hg => ?_⟩
  obtain ⟨cs, t, fr, hb, ht, hk⟩ := h.2 g hg
  exact ⟨cs, t, fr, k.heap hb (hF g hg), ht, hk⟩
theorem rowN.below (h : rowN w base v xs) (k : Below w.heap.size w w') : rowN w' base v xs := h.keep (F := fun _ => False) (Keeps.of_below k) (fun _ _ h => h)
theorem rowN_nil (w : World) (base : Nat) : rowN w base (.slice none 0 0) [] := ⟨World.ownsRow_nil _ _ _ _, fun g hg => by cases hg⟩
theorem rowN.form (h : rowN w base v xs) : ∃ a cap, v = .slice a xs.length cap := by
  rcases h.1.2 with ⟨e, h0⟩ | ⟨g, cap, cur, e, -⟩
  · exact ⟨none, 0, by rw [e, h0]⟩
  · exact ⟨_, cap, e⟩
theorem rowN.cell (h : rowN w base v xs) (j : Nat) (hj : j < xs.length) : ∃ g cap, v = .slice (some ⟨g, 0, none⟩) xs.length cap ∧ w.cell? ⟨g, j, none⟩ = some (.int .i64 xs[j]) := by
  rcases h.1.2 with ⟨e, h0⟩ | ⟨g, cap, cur, e, -⟩
  · omega
  · refine ⟨g, cap, e, ?_⟩
    have h2 : w.ownsRow base 3 1 (.slice (some ⟨g, 0, none⟩) xs.length cap) xs.length (numsI xs) := by rw [← e]; exact h.1
    rw [h2.cellAt j (by simpa using hj), numsI, List.getElem?_map, List.getElem?_eq_getElem hj]; rfl
/-- append of one number. -/
theorem run_append_int (h : rowN w base v xs) (x : Int) (ab : Nat) (hc : w.cell? ⟨ab, 0, none⟩ = some (.int .i64 x)) (hn : xs.length < 4096) (hbase : base ≤ w.heap.size) (ty : TypeId) (c : Nat) :
    ∃ g cap w', (Builtin.append_ #[54, 54] ty #[v, .slice (some ⟨ab, 0, none⟩) 1 c]).run Tryz.prog w = .ok (.slice (some ⟨g, 0, none⟩) (xs.length + 1) cap) w' ∧ rowN w' base (.slice (some ⟨g, 0, none⟩) (xs.length + 1) cap) (xs ++ [x]) ∧ w.grownBy w' v.ownBlock ∧ (v.ownBlock = some g ∨ g = w.heap.size) := by
  obtain ⟨i0, hi, hz0, hz1, hz2⟩ := info_parts infoInt
  have hnews : ∀ j u, [Value.int .i64 x][j]? = some u → w.cell? ((⟨ab, 0, none⟩ : Addr).add j) = some u := fun j u hu => by
    obtain ⟨h1, h2⟩ := List.getElem?_eq_some_iff.1 hu
    have h0 : j = 0 := by simp at h1; omega
    subst h0
    rw [← h2]
    rw [Addr.add_mid]
    exact hc
  have h1 : ∀ u ∈ [Value.int .i64 x], u.oneCell' = true := fun u hu => by
    rw [List.mem_singleton.1 hu]; rfl
  obtain ⟨g, cap, w', hr, h2, h3, h4, h5⟩ := run_append_lies (P := Tryz.prog) w 54 ty base 3 i0 (.int .i64 0) 1 8 Tryz.underlying54 hi hz0 hz1 hz2 rfl (by omega) v xs.length (numsI xs) h.1 ⟨ab, 0, none⟩ 1 c [.int .i64 x] rfl hnews h1 (by omega) (by unfold maxLen; omega) (by omega) hbase w.heap.size rfl
  refine ⟨g, cap, w', hr, ⟨?_, fun g' hg' => ?_⟩, h3, h4⟩
  · have e : numsI (xs ++ [x]) = numsI xs ++ [.int .i64 x] := by simp [numsI]
    rw [e, List.length_append]; exact h2
  · obtain rfl : g = g' := by simpa [Value.ownBlock] using hg'
    have hnew : ∀ (cs : List Value), (∀ v ∈ cs, ∃ k, v = .int .i64 k) → w'.heap[g]? = some (.cells cs.toArray 3 (0, 0)) → offN w' g := fun cs hcs hb => ⟨_, _, _, hb, .inl rfl, fun v hv => .inl (hcs v (by simpa using hv))⟩
    have hxn : ∀ v ∈ [Value.int .i64 x], ∃ k, v = .int .i64 k := fun v hv => ⟨x, List.mem_singleton.1 hv⟩
    rcases h.1.2 with ⟨e, h0⟩ | ⟨g0, cap0, cur, e, -, hg, hnc, -, hcs, -⟩
    · subst e
      have hr' := run_append_nil (P := Tryz.prog) w 54 ty 3 i0 (.int .i64 0) Tryz.underlying54 hi hz0 ⟨ab, 0, none⟩ 1 c [.int .i64 x] (by rw [hz1]; rfl) hnews (by omega) (by omega) (by rw [hz2]; omega)
      rw [hr'] at hr
      simp only [Result.ok.injEq, Value.slice.injEq] at hr
      obtain ⟨⟨e1, -⟩, e2⟩ := hr
      have e3 : w.heap.size = g := by simpa using e1
      refine hnew ([Value.int .i64 x] ++ (Builtin.zeroCells (Value.int .i64 0).cells (grownCap w 1 0 3 - 1)).toList) (fun v hv => ?_) ?_
      · rcases List.mem_append.1 hv with hv | hv
        · exact hxn v hv
        · exact zero_cells _ v hv
      · rw [← e2, ← e3]
        refine (block_new w.drew _).trans ?_
        simp
    · subst e
      by_cases hroom : xs.length + 1 ≤ cap0
      · have hr' := run_append_room (P := Tryz.prog) w 54 ty 3 i0 Tryz.underlying54 hi g0 xs.length cap0 cur hg ⟨ab, 0, none⟩ 1 c [.int .i64 x] (by rw [hz1]; rfl) hnews h1 hroom (by rw [hz1]; simp; omega)
        rw [hr'] at hr
        simp only [Result.ok.injEq, Value.slice.injEq] at hr
        obtain ⟨⟨e1, -⟩, e2⟩ := hr
        have e3 : g0 = g := by simpa using e1
        obtain ⟨cs1, t1, fr1, hb1, -, hk1⟩ := h.2 g0 rfl
        rw [hg] at hb1
        simp only [Option.some.injEq, Obj.cells.injEq] at hb1
        obtain ⟨rfl, rfl, -⟩ := hb1
        refine ⟨_, _, _, by rw [← e2, ← e3]; exact setRow_heap w g0 cur _ _ _ hg, .inl rfl, fun v hv => ?_⟩
        simp only [List.append_assoc, List.mem_append] at hv
        rcases hv with hv | hv | hv
        · exact hk1 v (List.mem_of_mem_take hv)
        · exact .inl (hxn v hv)
        · exact hk1 v (List.mem_of_mem_drop hv)
      · have holds : ∀ j u, (numsI xs)[j]? = some u → w.cell? ((⟨g0, 0, none⟩ : Addr).add j) = some u := h.1.cells (g := g0) rfl
        have hr' := run_append_grow (P := Tryz.prog) w 54 ty 3 i0 (.int .i64 0) Tryz.underlying54 hi hz0 ⟨g0, 0, none⟩ xs.length cap0 (numsI xs) (by rw [hz1]; exact h.1.1) holds ⟨ab, 0, none⟩ 1 c [.int .i64 x] (by rw [hz1]; rfl) hnews (by omega) (by omega) (growslice_fits (by omega) (by rw [hz2]; omega))
        rw [hr'] at hr
        simp only [Result.ok.injEq, Value.slice.injEq] at hr
        obtain ⟨⟨e1, -⟩, e2⟩ := hr
        have e3 : w.heap.size = g := by simpa using e1
        refine hnew (numsI xs ++ [Value.int .i64 x] ++ (Builtin.zeroCells (Value.int .i64 0).cells (grownCap w (xs.length + 1) cap0 3 - (xs.length + 1))).toList) (fun v hv => ?_) ?_
        · rcases List.mem_append.1 hv with hv | hv
          · rcases List.mem_append.1 hv with hv | hv
            · exact numsI_int v hv
            · exact hxn v hv
          · exact zero_cells _ v hv
        · rw [← e2, ← e3]
          refine (block_new w.drew _).trans ?_
          simp
theorem wpList_append_int {ops : Array Oper} {rest : List Oper} {o : Oper} {a : Act} {Q : Exit → Act → World → Prop} (hgd : o.guard = none) (s x : Operand)
    (ho : o.op = .call { callee := .builtin .append, args := #[s, x], argTypes := #[54, 54] }) (hs : a.eval s = v) (y : Int) (ab c : Nat) (hx : a.eval x = .slice (some ⟨ab, 0, none⟩) 1 c)
    (h : rowN w base v xs) (hc : w.cell? ⟨ab, 0, none⟩ = some (.int .i64 y)) (hn : xs.length < 4096) (hbase : base ≤ w.heap.size)
    (k : ∀ g cap w', rowN w' base (.slice (some ⟨g, 0, none⟩) (xs.length + 1) cap) (xs ++ [y]) → w.grownBy w' v.ownBlock → (v.ownBlock = some g ∨ g = w.heap.size) → wpList Tryz.prog ops Q rest (a.put o.dst (.slice (some ⟨g, 0, none⟩) (xs.length + 1) cap)) w') : wpList Tryz.prog ops Q (o :: rest) a w := by
  obtain ⟨g, cap, w', hr, h1, h2, h3⟩ := run_append_int h y ab hc hn hbase o.type c
  refine wpList_plain hgd fun K hK => ?_
  unfold Oper.wp
  simp [execOp, ho, resolve, invoke, builtin, hs, hx, hr, Result.andThen]
  exact hK _ _ (k g cap w' h1 h2 h3)
end
end Go.Proofs.YtkkmbgjlmdddoaaGreat
