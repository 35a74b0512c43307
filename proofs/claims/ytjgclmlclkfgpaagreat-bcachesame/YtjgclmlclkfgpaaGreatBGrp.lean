/- Maps from numbers: what stands for a number; how many there are; delete, clear. -/
import Derived.Test.YtjgclmlclkfgpaaGreatBaseD
namespace Go.Proofs.YtjgclmlclkfgpaaGreat
open Go.RowKit Go.Maps Go.Sort Go.Shelf
section
variable {w w' : World} {m B : Nat} {D : DataW Value} {N : Nat} {val : Int → Option Value}
theorem GrpIn.perm (h : GrpIn w m B D N val) : (grpKeys val N).Perm (intKeys D) := by
  have hk : ∀ x, x ∈ grpKeys val N ↔ Maps.has D (.int .i64 x) = true := fun x => by
    rw [mem_grpKeys]
    constructor
    · rintro ⟨_, _, hx⟩
      obtain ⟨v, hv⟩ := Option.isSome_iff_exists.1 hx
      exact h.there x v hv
    · intro hx
      cases hv : val x with
      | none => rw [h.absent x hv] at hx; cases hx
      | some v => exact ⟨(h.dom x v hv).1, (h.dom x v hv).2, rfl⟩
  obtain ⟨es, hD, hpw, _⟩ := h.mapOwn.entries (int_keyed Tryz.underlying3)
  obtain ⟨es', hD', hko⟩ := h.mapOwn.keysOf
  obtain rfl : es = es' := by rw [hD] at hD'; simpa using hD'
  rw [hD] at hk ⊢
  exact perm_intKeys hpw (fun p hp => by obtain ⟨v, hv⟩ := hko p hp; obtain ⟨x, _, hx, _⟩ := Maps.keyOf_i64 Tryz.underlying3 hv; exact ⟨x, hx⟩) ((sorted_grpKeys _ _).imp (fun h => by omega)) hk
theorem length_intKeys_le {es : List (Lit × DataW Value)} (hk : ∀ p ∈ es, ∃ x, p.1 = .int .i64 x) : (intKeys (.map es)).length = es.length := by
  induction es with
  | nil => rfl
  | cons p es ih =>
    obtain ⟨x, hx⟩ := hk p (by simp)
    have ih := ih (fun q hq => hk q (by simp [hq]))
    simp only [intKeys] at ih ⊢
    simp [hx, ih]
theorem GrpIn.size (h : GrpIn w m B D N val) : Maps.size D = (grpKeys val N).length := by
  rw [h.perm.length_eq]
  obtain ⟨es', hD', hko⟩ := h.mapOwn.keysOf
  rw [hD', length_intKeys_le (fun p hp => by obtain ⟨v, hv⟩ := hko p hp; obtain ⟨x, _, hx, _⟩ := Maps.keyOf_i64 Tryz.underlying3 hv; exact ⟨x, hx⟩)]
  rfl
theorem length_grpKeys_le (val : Int → Option Value) (N : Nat) : (grpKeys val N).length ≤ N := by
  have := List.length_filter_le (fun k => (val k).isSome) ((List.range N).map (fun k : Nat => (k : Int)))
  simpa [grpKeys] using this
theorem ownsMap_tight {P : Program} {k : TypeId} (h : w.ownsMap P k selfElem m B D) {C : Nat} (hC : Maps.size D ≤ C) : w.ownsMap P k selfElem m C D := by
  obtain ⟨es, clock, h1, h2, h3, h4⟩ := h
  refine ⟨es, clock, h1, h2, ?_, h4⟩
  have e1 : Maps.size D = es.size := by rw [h4]; simp [Maps.size, length_sorted]
  omega
theorem GrpIn.norm (h : GrpIn w m B D N val) (hN : N ≤ 4096) : GrpIn w m 4096 D N val :=
  ⟨ownsMap_tight h.mapOwn (by rw [h.size]; exact Nat.le_trans (length_grpKeys_le _ _) hN), h.absent, h.there, h.held, h.dom⟩
/-- A map of nothing. -/
theorem grpIn_empty (hm : w.ownsMap Tryz.prog 3 selfElem m B (.map [])) (N : Nat) : GrpIn w m B (.map []) N (fun _ => none) :=
  ⟨hm, fun _ _ => rfl, fun n v hv => (by cases hv), fun n v hv => (by cases hv), fun n v hv => (by cases hv)⟩
/-- One number less. -/
def delV (f : Int → Option Value) (n : Int) : Int → Option Value := fun k => if k = n then none else f k
theorem GrpIn.del (h : GrpIn w m B D N val) (n : Int) (hm : w'.ownsMap Tryz.prog 3 selfElem m B (D.del (.int .i64 n))) : GrpIn w' m B (D.del (.int .i64 n)) N (delV val n) where
  mapOwn := hm
  absent := fun k hk => by
    by_cases e : k = n
    · subst e; exact has_del_same
    · rw [has_del_other (by simpa using e)]; exact h.absent k (by simpa [delV, e] using hk)
  there := fun k u hk => by
    by_cases e : k = n
    · subst e; simp [delV] at hk
    · rw [has_del_other (by simpa using e)]; exact h.there k u (by simpa [delV, e] using hk)
  held := fun k u hk z => by
    by_cases e : k = n
    · subst e; simp [delV] at hk
    · rw [atKey_del_other (by simpa using e)]; exact h.held k u (by simpa [delV, e] using hk) z
  dom := fun k u hk => by
    by_cases e : k = n
    · subst e; simp [delV] at hk
    · exact h.dom k u (by simpa [delV, e] using hk)
/-- 'v, ok := m[n]'. -/
theorem wpList_lookup_grp {ops : Array Oper} {rest : List Oper} {o : Oper} {a : Act} {Q : Exit → Act → World → Prop} (hg : o.guard = none) (mo x : Operand) (t : TypeId) (hop : o.op = Op.lookup t mo x true) (e : TypeId) (ht : Tryz.prog.underlying t = some (.map 3 e)) {z : Value} (hz : (zeroValue e).run Tryz.prog w = .ok z w)
    (hm : a.eval mo = .map (some m)) (h : GrpIn w m B D N val) (n : Int) (hx : a.eval x = .int .i64 n) (hn0 : -9223372036854775808 ≤ n) (hn1 : n < 9223372036854775808) (u : Value) (q : Bool) (hu : (val n).getD z = u) (hq : (val n).isSome = q)
    (hK : wpList Tryz.prog ops Q rest (a.put o.dst (.tuple #[u, .bool q])) w) : wpList Tryz.prog ops Q (o :: rest) a w := by
  refine wpList_lookup_own_ok w hg mo x t hop 3 e (int_keyed Tryz.underlying3) ht selfElem hz (.held z) [] rfl m B D hm h.mapOwn (.int .i64 n) (.int .i64 n) hx (keyI hn0 hn1) (fun v ps hv => ?_)
  have e1 := selfElem_inv hv
  cases hval : val n with
  | none =>
    rw [hval] at hu hq
    rw [h.absent n hval]
    rw [atKey_of_not_has (h.absent n hval)] at e1
    obtain rfl := DataW.held.inj e1
    subst hu hq
    exact hK
  | some s =>
    rw [hval] at hu hq
    rw [h.there n s hval]
    rw [h.held n s hval] at e1
    obtain rfl := DataW.held.inj e1
    subst hu hq
    exact hK
/-- 'm[n] = v'. -/
theorem wpList_update_grp {ops : Array Oper} {rest : List Oper} {o : Oper} {a : Act} {Q : Exit → Act → World → Prop} (hg : o.guard = none) (mo x v : Operand) (t : TypeId) (hop : o.op = Op.mapUpdate t mo x v) (e : TypeId) (ht : Tryz.prog.underlying t = some (.map 3 e))
    (hm : a.eval mo = .map (some m)) (h : GrpIn w m 4096 D N val) (hN : N ≤ 4096) (n : Int) (hx : a.eval x = .int .i64 n) (hn0 : 0 ≤ n) (hn1 : n < N) (u : Value) (hv : a.eval v = u)
    (hK : ∀ w' D', GrpIn w' m 4096 D' N (updV val n u) → w.grownBy w' (some m) → wpList Tryz.prog ops Q rest (a.put o.dst undef) w') : wpList Tryz.prog ops Q (o :: rest) a w :=
  wpList_mapUpdate_self hg mo x v t hop 3 e (int_keyed Tryz.underlying3) ht m 4096 D hm h.mapOwn (by unfold maxLen; omega) (.int .i64 n) u (.int .i64 n) hx hv (keyI (by omega) (by omega)) (fun w' hm' hg' => hK w' _ ((h.put hn0 hn1 hm').norm hN) hg')
/-- 'delete(m, n)'. -/
theorem wpList_delete_grp {ops : Array Oper} {rest : List Oper} {o : Oper} {a : Act} {Q : Exit → Act → World → Prop} (hg : o.guard = none) (mo x : Operand) (t : TypeId) (hop : o.op = Op.call { callee := Callee.builtin Builtin.delete, args := #[mo, x], argTypes := #[t, 3] }) (e : TypeId) (ht : Tryz.prog.underlying t = some (.map 3 e))
    (hm : a.eval mo = .map (some m)) (h : GrpIn w m B D N val) (n : Int) (hx : a.eval x = .int .i64 n) (hn0 : -9223372036854775808 ≤ n) (hn1 : n < 9223372036854775808)
    (hK : ∀ w' D', GrpIn w' m B D' N (delV val n) → w.grownBy w' (some m) → wpList Tryz.prog ops Q rest (a.put o.dst (.tuple #[])) w') : wpList Tryz.prog ops Q (o :: rest) a w :=
  wpList_delete_own w hg mo x t 3 hop e (int_keyed Tryz.underlying3) ht selfElem m B D hm h.mapOwn (.int .i64 n) (.int .i64 n) hx (keyI hn0 hn1) (fun w' hm' ht' => hK w' _ (h.del n hm') ht'.grown)
/-- 'len(m)'. -/
theorem wpList_len_grp {ops : Array Oper} {rest : List Oper} {o : Oper} {a : Act} {Q : Exit → Act → World → Prop} (hg : o.guard = none) (mo : Operand) (t : TypeId) (hop : o.op = Op.call { callee := Callee.builtin Builtin.len, args := #[mo], argTypes := #[t] }) (e : TypeId) (ht : Tryz.prog.underlying t = some (.map 3 e))
    (hm : a.eval mo = .map (some m)) (h : GrpIn w m B D N val) (L : Nat) (hL : (grpKeys val N).length = L)
    (hK : wpList Tryz.prog ops Q rest (a.put o.dst (.int .i64 (L : Int))) w) : wpList Tryz.prog ops Q (o :: rest) a w :=
  wpList_len_own w hg mo t hop 3 e ht selfElem m B D hm h.mapOwn (by rw [h.size, hL]; exact hK)
end
end Go.Proofs.YtjgclmlclkfgpaaGreat
