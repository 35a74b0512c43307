/- Several of my texts in one: BGrp, BKit, BMem, BCalls, KeepN, BRead, BCom, BOne, BOpen, BPlain, BErr, BLive. -/
import Derived.Test.YtkkmbgjlmdddoabGreatBaseD
import Derived.Test.YtkkmbgjlmdddoabGreatCommitA
import Derived.Test.YtkkmbgjlmdddoabGreatWMade
import Derived.Test.YtkkmbgjlmdddoabGreatBaseA
import Derived.Test.YtkkmbgjlmdddoabGreatBaseC
import Derived.Test.YtkkmbgjlmdddoabGreatLogNo
import Derived.Test.YtkkmbgjlmdddoabGreatRAppend
import Derived.Test.YtkkmbgjlmdddoabGreatWPlain
import Derived.Test.YtkkmbgjlmdddoabGreatWRef
import Derived.Test.YtkkmbgjlmdddoabGreatWMid
/- Maps from numbers: what stands for a number; how many there are; delete, clear. -/
namespace Go.Proofs.YtkkmbgjlmdddoabGreat
open Go.RowKit Go.Maps Go.Sort Go.Shelf
section
variable {w w' : World} {m B : Nat} {D : DataW Value} {N : Nat} {val : Int → Option Value}
theorem GrpIn.perm (h : GrpIn w m B D N val) : (grpKeys val N).Perm (intKeys D) := by
  have hk : ∀ x, x ∈ grpKeys val N ↔ Maps.has D (.int .i64 x) = true := fun x => by
    rw [mem_grpKeys]
    constructor
    · rintro ⟨_, _, hx⟩
      obtain ⟨v, hv⟩ := Option.isSome_iff_exists.1 hx
      exact h.there x v hv
    · intro hx
      cases hv : val x with
      | none => rw [h.absent x hv] at hx; cases hx
      | some v => exact ⟨(h.dom x v hv).1, (h.dom x v hv).2, rfl⟩
  obtain ⟨es, hD, hpw, _⟩ := h.mapOwn.entries (int_keyed Tryz.underlying3)
  obtain ⟨es', hD', hko⟩ := h.mapOwn.keysOf
  obtain rfl : es = es' := by rw [hD] at hD'; simpa using hD'
  rw [hD] at hk ⊢
  exact perm_intKeys hpw (fun p hp => by obtain ⟨v, hv⟩ := hko p hp; obtain ⟨x, _, hx, _⟩ := Maps.keyOf_i64 Tryz.underlying3 hv; exact ⟨x, hx⟩) ((sorted_grpKeys _ _).imp (fun h => by omega)) hk
theorem length_intKeys_le {es : List (Lit × DataW Value)} (hk : ∀ p ∈ es, ∃ x, p.1 = .int .i64 x) : (intKeys (.map es)).length = es.length := by
  induction es with
  | nil => rfl
  | cons p es ih =>
    obtain ⟨x, hx⟩ := hk p (by simp)
    have ih := ih (fun q hq => hk q (by simp [hq]))
    simp only [intKeys] at ih ⊢
    simp [hx, ih]
theorem GrpIn.size (h : GrpIn w m B D N val) : Maps.size D = (grpKeys val N).length := by
  rw [h.perm.length_eq]
  obtain ⟨es', hD', hko⟩ := h.mapOwn.keysOf
  rw [hD', length_intKeys_le (fun p hp => by obtain ⟨v, hv⟩ := hko p hp; obtain ⟨x, _, hx, _⟩ := Maps.keyOf_i64 Tryz.underlying3 hv; exact ⟨x, hx⟩)]
  rfl
theorem length_grpKeys_le (val : Int → Option Value) (N : Nat) : (grpKeys val N).length ≤ N := by
  have := List.length_filter_le (fun k => (val k).isSome) ((List.range N).map (fun k : Nat => (k : Int)))
  simpa [grpKeys] using this
theorem ownsMap_tight {P : Program} {k : TypeId} (h : w.ownsMap P k selfElem m B D) {C : Nat} (hC : Maps.size D ≤ C) : w.ownsMap P k selfElem m C D := by
  obtain ⟨es, clock, h1, h2, h3, h4⟩ := h
  refine ⟨es, clock, h1, h2, ?_, h4⟩
  have e1 : Maps.size D = es.size := by rw [h4]; simp [Maps.size, length_sorted]
  omega
theorem GrpIn.norm (h : GrpIn w m B D N val) (hN : N ≤ 4096) : GrpIn w m 4096 D N val :=
  ⟨ownsMap_tight h.mapOwn (by rw [h.size]; exact Nat.le_trans (length_grpKeys_le _ _) hN), h.absent, h.there, h.held, h.dom⟩
/-- A map of nothing. -/
theorem grpIn_empty (hm : w.ownsMap Tryz.prog 3 selfElem m B (.map [])) (N : Nat) : GrpIn w m B (.map []) N (fun _ => none) :=
  ⟨hm, fun _ _ => rfl, fun n v hv => (by cases hv), fun n v hv => (by cases hv), fun n v hv => (by cases hv)⟩
/-- One number less. -/
def delV (f : Int → Option Value) (n : Int) : Int → Option Value := fun k => if k = n then none else f k
theorem GrpIn.del (h : GrpIn w m B D N val) (n : Int) (hm : w'.ownsMap Tryz.prog 3 selfElem m B (D.del (.int .i64 n))) : GrpIn w' m B (D.del (.int .i64 n)) N (delV val n) where
  mapOwn := hm
  absent := fun k hk => by
    by_cases e : k = n
    · subst e; exact has_del_same
    · rw [has_del_other (by simpa using e)]; exact h.absent k (by simpa [delV, e] using hk)
  there := fun k u hk => by
    by_cases e : k = n
    · subst e; simp [delV] at hk
    · rw [has_del_other (by simpa using e)]; exact h.there k u (by simpa [delV, e] using hk)
  held := fun k u hk z => by
    by_cases e : k = n
    · subst e; simp [delV] at hk
    · rw [atKey_del_other (by simpa using e)]; exact h.held k u (by simpa [delV, e] using hk) z
  dom := fun k u hk => by
    by_cases e : k = n
    · subst e; simp [delV] at hk
    · exact h.dom k u (by simpa [delV, e] using hk)
/-- 'v, ok := m[n]'. -/
theorem wpList_lookup_grp {ops : Array Oper} {rest : List Oper} {o : Oper} {a : Act} {Q : Exit → Act → World → Prop} (hg : o.guard = none) (mo x : Operand) (t : TypeId) (hop : o.op = Op.lookup t mo x true) (e : TypeId) (ht : Tryz.prog.underlying t = some (.map 3 e)) {z : Value} (hz : (zeroValue e).run Tryz.prog w = .ok z w)
    (hm : a.eval mo = .map (some m)) (h : GrpIn w m B D N val) (n : Int) (hx : a.eval x = .int .i64 n) (hn0 : -9223372036854775808 ≤ n) (hn1 : n < 9223372036854775808) (u : Value) (q : Bool) (hu : (val n).getD z = u) (hq : (val n).isSome = q)
    (hK : wpList Tryz.prog ops Q rest (a.put o.dst (.tuple #[u, .bool q])) w) : wpList Tryz.prog ops Q (o :: rest) a w := by
  refine wpList_lookup_own_ok w hg mo x t hop 3 e (int_keyed Tryz.underlying3) ht selfElem hz (.held z) [] rfl m B D hm h.mapOwn (.int .i64 n) (.int .i64 n) hx (keyI hn0 hn1) (fun v ps hv => ?_)
  have e1 := selfElem_inv hv
  cases hval : val n with
  | none =>
    rw [hval] at hu hq
    rw [h.absent n hval]
    rw [atKey_of_not_has (h.absent n hval)] at e1
    obtain rfl := DataW.held.inj e1
    subst hu hq
    exact hK
  | some s =>
    rw [hval] at hu hq
    rw [h.there n s hval]
    rw [h.held n s hval] at e1
    obtain rfl := DataW.held.inj e1
    subst hu hq
    exact hK
/-- 'm[n] = v'. -/
theorem wpList_update_grp {ops : Array Oper} {rest : List Oper} {o : Oper} {a : Act} {Q : Exit → Act → World → Prop} (hg : o.guard = none) (mo x v : Operand) (t : TypeId) (hop : o.op = Op.mapUpdate t mo x v) (e : TypeId) (ht : Tryz.prog.underlying t = some (.map 3 e))
    (hm : a.eval mo = .map (some m)) (h : GrpIn w m 4096 D N val) (hN : N ≤ 4096) (n : Int) (hx : a.eval x = .int .i64 n) (hn0 : 0 ≤ n) (hn1 : n < N) (u : Value) (hv : a.eval v = u)
    (hK : ∀ w' D', GrpIn w' m 4096 D' N (updV val n u) → w.grownBy w' (some m) → wpList Tryz.prog ops Q rest (a.put o.dst undef) w') : wpList Tryz.prog ops Q (o :: rest) a w :=
  wpList_mapUpdate_self hg mo x v t hop 3 e (int_keyed Tryz.underlying3) ht m 4096 D hm h.mapOwn (by unfold maxLen; omega) (.int .i64 n) u (.int .i64 n) hx hv (keyI (by omega) (by omega)) (fun w' hm' hg' => hK w' _ ((h.put hn0 hn1 hm').norm hN) hg')
/-- 'delete(m, n)'. -/
theorem wpList_delete_grp {ops : Array Oper} {rest : List Oper} {o : Oper} {a : Act} {Q : Exit → Act → World → Prop} (hg : o.guard = none) (mo x : Operand) (t : TypeId) (hop : o.op = Op.call { callee := Callee.builtin Builtin.delete, args := #[mo, x], argTypes := #[t, 3] }) (e : TypeId) (ht : Tryz.prog.underlying t = some (.map 3 e))
    (hm : a.eval mo = .map (some m)) (h : GrpIn w m B D N val) (n : Int) (hx : a.eval x = .int .i64 n) (hn0 : -9223372036854775808 ≤ n) (hn1 : n < 9223372036854775808)
    (hK : ∀ w' D', GrpIn w' m B D' N (delV val n) → w.grownBy w' (some m) → wpList Tryz.prog ops Q rest (a.put o.dst (.tuple #[])) w') : wpList Tryz.prog ops Q (o :: rest) a w :=
  wpList_delete_own w hg mo x t 3 hop e (int_keyed Tryz.underlying3) ht selfElem m B D hm h.mapOwn (.int .i64 n) (.int .i64 n) hx (keyI hn0 hn1) (fun w' hm' ht' => hK w' _ (h.del n hm') ht'.grown)
/-- 'len(m)'. -/
theorem wpList_len_grp {ops : Array Oper} {rest : List Oper} {o : Oper} {a : Act} {Q : Exit → Act → World → Prop} (hg : o.guard = none) (mo : Operand) (t : TypeId) (hop : o.op = Op.call { callee := Callee.builtin Builtin.len, args := #[mo], argTypes := #[t] }) (e : TypeId) (ht : Tryz.prog.underlying t = some (.map 3 e))
    (hm : a.eval mo = .map (some m)) (h : GrpIn w m B D N val) (L : Nat) (hL : (grpKeys val N).length = L)
    (hK : wpList Tryz.prog ops Q rest (a.put o.dst (.int .i64 (L : Int))) w) : wpList Tryz.prog ops Q (o :: rest) a w :=
  wpList_len_own w hg mo t hop 3 e ht selfElem m B D hm h.mapOwn (by rw [h.size, hL]; exact hK)
end
end Go.Proofs.YtkkmbgjlmdddoabGreat
/- A cache in memory. -/
namespace Go.Proofs.YtkkmbgjlmdddoabGreat
open Go.RowKit
/-- A cache: its disk, the pages that were written, the pages that were used. -/
structure CS where
  S : DiskS
  size : Nat
  N : Nat
  dirty : Int → Option (List UInt8)
  most : Nat
  uses : Nat
  used : Int → Option Nat
/-- Where a cache lies. -/
structure CLay where
  p : Nat
  dm : Nat
  um : Nat
  d : DL
  Dd : DataW Value
  Du : DataW Value
  dv : Int → Option Value
  F : Nat → Prop
def usedV (f : Int → Option Nat) : Int → Option Value := fun n => (f n).map (fun u => .int .i64 (u : Int))
/-- The blocks that a cache writes. -/
def CLay.foot (L : CLay) (c : Nat) (i : Nat) : Prop := L.F i ∨ i = c ∨ i = L.dm ∨ i = L.um
structure CacheAt (w : World) (c : Nat) (L : CLay) (C : CS) : Prop where
  heap : w.heap[c]? = some (.cells #[.pointer (some ⟨L.p, 0, none⟩), .map (some L.dm), .int .i64 C.most, .int .i64 C.uses, .map (some L.um)] 96 (0, 0))
  log : LogIn w L.p L.d C.S C.size 0 L.F
  lt : ∀ i, L.F i → i < w.heap.size
  dirty : GrpIn w L.dm 4096 L.Dd C.N L.dv
  bytes : ∀ n v, L.dv n = some v → ∃ g cap bs, C.dirty n = some bs ∧ v = .slice (some ⟨g, 0, none⟩) 512 cap ∧ bytesAt w ⟨g, 0, none⟩ bs ∧ bs.length = 512 ∧ ¬ L.F g
  clean : ∀ n, L.dv n = none → C.dirty n = none
  used : GrpIn w L.um 4096 L.Du C.N (usedV C.used)
  offc : ¬ L.F c
  offd : ¬ L.F L.dm
  offu : ¬ L.F L.um
  ne : L.dm ≠ L.um
  pages : C.N = pagesS C.S C.size
  fits : C.size + 1 ≤ C.S.safe.length
  few : C.uses ≤ 1000000
  ub : ∀ n u, C.used n = some u → u ≤ C.uses
section
variable {w w' : World} {c : Nat} {L : CLay} {C : CS}
theorem CacheAt.four (h : CacheAt w c L C) : C.S.safe.length ≤ 4096 := h.log.disk.rd.plates.most
theorem CacheAt.pagesLe (h : CacheAt w c L C) : C.N ≤ 4096 := by have := h.four; rw [h.pages]; unfold pagesS; omega
theorem CacheAt.dmap (h : CacheAt w c L C) : ∃ es k, w.heap[L.dm]? = some (.map es k) := map_block h.dirty.mapOwn
theorem CacheAt.umap (h : CacheAt w c L C) : ∃ es k, w.heap[L.um]? = some (.map es k) := map_block h.used.mapOwn
theorem CacheAt.cd (h : CacheAt w c L C) : c ≠ L.dm := fun e => by
  obtain ⟨es, k, hm⟩ := h.dmap
  have := h.heap
  rw [e, hm] at this
  cases this
theorem CacheAt.cu (h : CacheAt w c L C) : c ≠ L.um := fun e => by
  obtain ⟨es, k, hm⟩ := h.umap
  have := h.heap
  rw [e, hm] at this
  cases this
theorem CacheAt.below (h : CacheAt w c L C) (k : Below w.heap.size w w') : CacheAt w' c L C :=
  ⟨below_block k h.heap (lt_of_heap h.heap), h.log.below k, fun i hi => Nat.lt_of_lt_of_le (h.lt i hi) k.size, h.dirty.below k, fun n v hv => by
    obtain ⟨g, cap, bs, h1, h2, h3, h4, h5⟩ := h.bytes n v hv
    exact ⟨g, cap, bs, h1, h2, fun j hj => (k.cell (World.block_lt_of_cell? w _ (h3 j hj))).trans (h3 j hj), h4, h5⟩, h.clean, h.used.below k, h.offc, h.offd, h.offu, h.ne, h.pages, h.fits, h.few, h.ub⟩
/-- The cells of a cache. -/
theorem CacheAt.cells (h : CacheAt w c L C) : w.cell? ⟨c, 0, none⟩ = some (.pointer (some ⟨L.p, 0, none⟩)) ∧ w.cell? ⟨c, 1, none⟩ = some (.map (some L.dm)) ∧ w.cell? ⟨c, 2, none⟩ = some (.int .i64 C.most) ∧ w.cell? ⟨c, 3, none⟩ = some (.int .i64 C.uses) ∧ w.cell? ⟨c, 4, none⟩ = some (.map (some L.um)) :=
  ⟨cell_of_block h.heap 0, cell_of_block h.heap 1, cell_of_block h.heap 2, cell_of_block h.heap 3, cell_of_block h.heap 4⟩
/-- How many pages were written. -/
def CS.dirtyKeys (C : CS) : List Int := ((List.range C.N).map (fun k : Nat => (k : Int))).filter (fun k => (C.dirty k).isSome)
theorem CacheAt.some_iff (h : CacheAt w c L C) (n : Int) : (L.dv n).isSome = (C.dirty n).isSome := by
  cases hv : L.dv n with
  | none => rw [h.clean n hv]; rfl
  | some v => obtain ⟨_, _, bs, h1, _⟩ := h.bytes n v hv; rw [h1]; rfl
theorem CacheAt.keys (h : CacheAt w c L C) : grpKeys L.dv C.N = C.dirtyKeys := by
  unfold grpKeys CS.dirtyKeys
  exact List.filter_congr (fun n _ => h.some_iff n)
end
end Go.Proofs.YtkkmbgjlmdddoabGreat
/- The parts of a cache: slices.Clone of bytes; what was used, and the oldest of it. -/
namespace Go.Proofs.YtkkmbgjlmdddoabGreat
open Go.RowKit Go.Maps
set_option maxRecDepth 100000 in
set_option maxHeartbeats 1000000 in
theorem bclone_any (l : List UInt8) (ad : Addr) (c : Nat) (w : World) (hpos : 0 < l.length) (hn : l.length ≤ 4096) (hb : bytesAt w ad l) :
    Calls Tryz.prog 58 #[.slice (some ad) l.length c] w fun e w' => ∃ g cap, e = .returned (.slice (some ⟨g, 0, none⟩) l.length cap) ∧ w'.ownsRow w.heap.size 5 1 (.slice (some ⟨g, 0, none⟩) l.length cap) l.length (l.map U8) ∧ Below w.heap.size w w' := by
  obtain ⟨i0, hi, hz0, hz1, hz2⟩ := info_parts infoU8
  have HI := hid hi
  have HX : Hid (∀ j u, (l.map U8)[j]? = some u → w.cell? (ad.add j) = some u) := fun j u hu => by
    have hj : j < l.length := by simpa using (List.getElem?_eq_some_iff.1 hu).1
    rw [hb j hj]
    rw [List.getElem?_map, List.getElem?_eq_getElem hj] at hu
    exact hu
  clear hi hb
  go_enter Tryz.func58, Tryz.ntmps58
  have hq := fun W => run_slice_nil 57 _ ad l.length c Tryz.underlying57 W
  go_wp2_with (refine wpList_append_lies _ rfl (.tmp 5) (.tmp 6) 57 rfl w.heap.size 5 i0 (.int .u8 0) 1 1 Tryz.underlying57 HI.out hz0 hz1 hz2 rfl (by omega) (.slice (some ⟨w.heap.size, 0, none⟩) 0 0) 0 [] rfl (World.ownsRow_lit w #[] 0 (Nat.le_refl _) (by simp) rfl) ad l.length c (l.map U8) rfl (by simp) (fun j u hu => by rw [World.cell?_alloc_lt _ _ _ (World.block_lt_of_cell? w _ (HX.out j u hu))]; exact HX.out j u hu) (by intro u hu; obtain ⟨x, _, rfl⟩ := List.mem_map.1 hu; rfl) hpos (by unfold maxLen; omega) (by omega) (by simp) (w.heap.size + 1) (by simp) ?_; intro g cap w1 hown hgr hat hlt)
  go_ret
  rw [List.nil_append, Nat.zero_add] at hown
  refine ⟨g, cap, by simp, hown, ?_⟩
  exact ((Below.refl _ _).alloc (Nat.le_refl _) _).trans ⟨hgr.os, hgr.tape, hgr.output, hgr.size, fun k hk => hgr.block k (by simp; omega) (by simp [Value.ownBlock]; omega)⟩
theorem row_bytesAt {w : World} {lo g n cap : Nat} {l : List UInt8} (h : w.ownsRow lo 5 1 (.slice (some ⟨g, 0, none⟩) n cap) n (l.map U8)) (hl : l.length = n) : bytesAt w ⟨g, 0, none⟩ l := fun j hj => by
  rw [Addr.add_mid, Nat.zero_add, h.cellAt j (by omega), List.getElem?_map, List.getElem?_eq_getElem hj]; rfl
section
variable {c um : Nat} {D : DataW Value} {N : Nat}
set_option maxRecDepth 100000 in
theorem bdrop_any (val : Int → Option Value) (n : Int) (hn0 : -9223372036854775808 ≤ n) (hn1 : n < 9223372036854775808) (w : World) (c4 : w.cell? ⟨c, 4, none⟩ = some (.map (some um))) (h : GrpIn w um 4096 D N val) :
    Calls Tryz.prog 87 #[.pointer (some ⟨c, 2, none⟩), .int .i64 n] w fun e w' => e = .returned (.tuple #[]) ∧ ∃ D', GrpIn w' um 4096 D' N (delV val n) ∧ w.grownBy w' (some um) := by
  have H := hid h
  clear h
  go_enter Tryz.func87, Tryz.ntmps87
  go_wp2_with (refine wpList_delete_grp rfl (.tmp 7) (.tmp 8) 92 rfl 3 Tryz.underlying92 rfl H.out n rfl hn0 hn1 ?_; intro w1 D1 hG1 hg1; have HG1 := hid hG1; have Hg1 := hid hg1; clear hG1 hg1)
  go_end0
  first | exact ⟨rfl, D1, HG1.out, Hg1.out⟩ | exact ⟨rfl, ⟨D1, HG1.out⟩, Hg1.out⟩
/-- The one that was used longest ago. -/
def OldestAt (u : Int → Option Nat) (x : Int) : Prop := ∃ k, u x = some k ∧ ∀ y j, u y = some j → k ≤ j
theorem usedV_some {u : Int → Option Nat} {n : Int} {v : Value} (h : usedV u n = some v) : ∃ k : Nat, u n = some k ∧ v = .int .i64 (k : Int) := by
  unfold usedV at h
  cases hu : u n with
  | none => rw [hu] at h; cases h
  | some k => rw [hu] at h; exact ⟨k, rfl, (Option.some.inj h).symm⟩
/-- The oldest of those that have come. -/
def OldTo (u : Int → Option Nat) (uses : Nat) (left : Lit → Bool) (pg : Int) (fi : Nat) : Prop :=
  (∀ y j, u y = some j → left (.int .i64 y) = false → fi ≤ j) ∧ (fi = uses + 1 ∨ u pg = some fi)
set_option maxRecDepth 100000 in
set_option maxHeartbeats 2000000 in
theorem boldest_any (u : Int → Option Nat) (uses : Nat) (hu : uses ≤ 1000000) (hub : ∀ n k, u n = some k → k ≤ uses) (n0 : Int) (hn0 : (u n0).isSome) (w : World) (c3 : w.cell? ⟨c, 3, none⟩ = some (.int .i64 uses)) (c4 : w.cell? ⟨c, 4, none⟩ = some (.map (some um))) (h : GrpIn w um 4096 D N (usedV u)) :
    Calls Tryz.prog 92 #[.pointer (some ⟨c, 2, none⟩)] w fun e w' => ∃ x, e = .returned (.int .i64 x) ∧ OldestAt u x ∧ Below w.heap.size w w' := by
  have H := hid h
  have HUb := hid hub
  have Hn0 := hid hn0
  clear h hub hn0
  have e1 : IntKind.i64.wrap ((uses : Int) + 1) = (uses : Int) + 1 := IntWalk.i64_in _ (by omega)
  go_enter Tryz.func92, Tryz.ntmps92
  go_wp2
  refine wp_region_noPanic ?_
  refine wp_region_held_drew (S := fun W => W.cell? ⟨c, 3, none⟩ = some (.int .i64 uses)) (by kernel_rfl) c3 (fun hHeld => ?_)
  refine wpAnyH_take (i := 0) (v := ?_) rfl (by kernel_rfl) (by kernel_rfl) (by kernel_rfl) (fun _ _ _ h => h) (Or.inl ⟨by rfl, ?_⟩) (by assumption) ?_
  rotate_left
  · (intro W hSw; (try dsimp only at hSw); obtain s1 := hSw; go_simp; try with_reducible rfl)
  try simp only [List.getElem_toArray, List.getElem_cons_zero, Act.put, List.setIfInBounds_toArray, List.set_cons_zero, List.set_cons_succ]
  refine wpAnyH_take (i := 1) (v := ?_) rfl (by kernel_rfl) (by kernel_rfl) (by kernel_rfl) (fun _ _ _ h => h) (Or.inl ⟨by rfl, ?_⟩) (by assumption) ?_
  rotate_left
  · (intro W hSw; (try dsimp only at hSw); obtain s1 := hSw; go_simp; try with_reducible rfl)
  try simp only [List.getElem_toArray, List.getElem_cons_succ, List.getElem_cons_zero, Act.put, List.setIfInBounds_toArray, List.set_cons_zero, List.set_cons_succ]
  refine wpAnyH_take (i := 2) (v := ?_) rfl (by kernel_rfl) (by kernel_rfl) (by kernel_rfl) (fun _ _ _ h => h) (Or.inl ⟨by rfl, ?_⟩) (by assumption) ?_
  rotate_left
  · (intro W hSw; (try dsimp only at hSw); obtain s1 := hSw; go_simp; try with_reducible rfl)
  try simp only [List.getElem_toArray, List.getElem_cons_succ, List.getElem_cons_zero, Act.put, List.setIfInBounds_toArray, List.set_cons_zero, List.set_cons_succ]
  refine wpAnyH_take (i := 3) (v := ?_) rfl (by kernel_rfl) (by kernel_rfl) (by kernel_rfl) (fun _ _ _ h => h) (Or.inl ⟨by rfl, ?_⟩) (by assumption) ?_
  rotate_left
  · (intro W hSw; (try dsimp only at hSw); obtain s1 := hSw; go_simp; try with_reducible rfl)
  try simp only [List.getElem_toArray, List.getElem_cons_succ, List.getElem_cons_zero, Act.put, List.setIfInBounds_toArray, List.set_cons_zero, List.set_cons_succ]
  refine wpAnyH_take (i := 4) (v := .int .i64 ((uses : Int) + 1)) rfl (by kernel_rfl) (by kernel_rfl) (by kernel_rfl) (fun _ _ _ h => h) (Or.inl ⟨by rfl, ?_⟩) (by assumption) ?_
  · (intro W hSw; (try dsimp only at hSw); obtain s1 := hSw; go_simp; try first | with_reducible rfl | go_num | (rw [if_pos (by assumption)]; simp only [*]) | simp only [*])
  try simp only [List.getElem_toArray, List.getElem_cons_succ, List.getElem_cons_zero, Act.put, List.setIfInBounds_toArray, List.set_cons_zero, List.set_cons_succ]
  refine wpAnyH_take (i := 5) (v := ?_) rfl (by kernel_rfl) (by kernel_rfl) (by kernel_rfl) (fun _ _ _ h => h) (Or.inl ⟨by rfl, ?_⟩) (by assumption) ?_
  rotate_left
  · (intro W hSw; (try dsimp only at hSw); obtain s1 := hSw; go_simp; try with_reducible rfl)
  try simp only [List.getElem_toArray, List.getElem_cons_succ, List.getElem_cons_zero, Act.put, List.setIfInBounds_toArray, List.set_cons_zero, List.set_cons_succ]
  refine wpAnyH_take (i := 6) (v := ?_) rfl (by kernel_rfl) (by kernel_rfl) (by kernel_rfl) (fun _ _ _ h => h) (Or.inl ⟨by rfl, ?_⟩) (by assumption) ?_
  rotate_left
  · (intro W hSw; (try dsimp only at hSw); obtain s1 := hSw; go_simp; try with_reducible rfl)
  try simp only [List.getElem_toArray, List.getElem_cons_succ, List.getElem_cons_zero, Act.put, List.setIfInBounds_toArray, List.set_cons_zero, List.set_cons_succ]
  refine wpAnyH_done (by kernel_rfl) ?_ _
  refine NoPanic.normal ?_
  clear hHeld c3
  have c4d : w.drew.cell? ⟨c, 4, none⟩ = some (.map (some um)) := c4
  have HD := hid (H.out.below (Below.refl _ w).drew)
  have HBd : Hid (Below w.heap.size w w.drew) := (Below.refl _ w).drew
  clear c4
  generalize w.drew = wd at *
  go_wp2_with (first
    | (at_range; refine wpList_range_own _ rfl (.tmp 15) 92 rfl 3 3 (int_keyed Tryz.underlying3) Tryz.underlying92 selfElem um 4096 D rfl HD.out.mapOwn ?_; intro w0 hrg0 hg0 hs0)
    | go_in)
  go_frame
  have hBg : Below wd.heap.size wd w0 := ⟨hg0.os, hg0.tape, hg0.output, hg0.size, fun k hk => hg0.block k hk (by simp)⟩
  have HB0 : Hid (Below w.heap.size w w0) := HBd.out.trans (hBg.mono HBd.out.size)
  have HRg0 := hid hrg0
  have HOl0 : Hid (OldTo u uses (Maps.has D) 0 (uses + 1)) := ⟨fun y j hy hl => (by
    have := H.out.there y (.int .i64 (j : Int)) (by simp [usedV, hy])
    rw [this] at hl
    cases hl), .inl rfl⟩
  have hri0 : w.heap.size ≤ wd.heap.size := HBd.out.size
  clear hrg0 hg0 hs0 hBg HD
  generalize hri : wd.heap.size = ri at *
  clear hri c4d
  go_loopw [3, 4] (fun a b wr => ∃ (left : Lit → Bool) (cnt : Nat) (pg : Int) (fi : Nat), a = .int .i64 pg ∧ b = .int .i64 (fi : Int) ∧ fi ≤ 1000001 ∧ Hid (wr.ranges Tryz.prog 3 selfElem um ri 4096 D left cnt) ∧ Hid (OldTo u uses left pg fi) ∧ Hid (Below w.heap.size w wr)) (fun _ _ wr => wr.rangeLeft um ri)
  case atStart => exact ⟨_, _, 0, uses + 1, rfl, by simp, by omega, HRg0, HOl0, HB0⟩
  case round =>
    obtain ⟨left, cnt, pg, fi, rfl, rfl, hfi, hrg, hOl, hBr⟩ := hrel
    clear HRg0 HOl0 HB0
    go_wp2_with (first
      | (at_next; refine wpList_next_ranges _ rfl (.tmp 16) rfl 3 (int_keyed Tryz.underlying3) selfElem encZ id (fun key kl hk => by obtain ⟨x, hx, _⟩ := Maps.keyOf_i64 Tryz.underlying3 hk; exact ⟨x, hx⟩) (fun v _ _ => ⟨v, rfl⟩) um ri 4096 _ _ _ rfl hrg.out ?_ ?_)
      | go_in)
    · -- nothing is left
      intro hc0 hl0
      have HOa : Hid (OldestAt u pg) := by
        obtain ⟨k0, hk0⟩ := Option.isSome_iff_exists.1 Hn0.out
        have h1 := hOl.out.1 n0 k0 hk0 (hl0 _)
        have h2 := HUb.out n0 k0 hk0
        rcases hOl.out.2 with e | e
        · omega
        · exact ⟨fi, e, fun y j hy => hOl.out.1 y j hy (hl0 _)⟩
      clear hc0 hl0 hrg
      go_wp2
      go_ret
      exact ⟨pg, rfl, HOa.out, hBr.out⟩
    · -- one has come
      intro x cv kl yd yp w2 cnt2 hkey hlk hv hat hrg2 hlt hg2 hs2 hen
      obtain ⟨x', ex, rfl, _⟩ := Maps.keyOf_i64 Tryz.underlying3 hkey
      obtain rfl : x = x' := encZ_inj ex
      have hsome : ∃ v, usedV u x = some v := by
        cases hv0 : usedV u x with
        | some v => exact ⟨v, rfl⟩
        | none =>
          have h1 := H.out.absent x hv0
          rw [has_true_of_atKey hat] at h1
          cases h1
      obtain ⟨v, hvx⟩ := hsome
      obtain ⟨k, hk, rfl⟩ := usedV_some hvx
      have hcv : cv = .int .i64 (k : Int) := by
        have e1 := selfElem_inv hv
        have e2 := hat (.held cv)
        rw [H.out.held x _ hvx] at e2
        rw [e1] at e2
        exact (DataW.held.inj e2).symm
      subst hcv
      have hku := HUb.out x k hk
      have HRg2 := hid hrg2
      have hKn : Keeps (fun i => i = ri) wr w2 := Keeps.of_grown hg2 (fun i e => (Option.some.inj e).symm)
      have HBr2 : Hid (Below w.heap.size w w2) := hBr.out.trans (hKn.below hBr.out.size (fun i e => by omega))
      have HLt := hid hlt
      have hsk : ∀ y, y ≠ x → (Lit.int .i64 y).sameKey (.int .i64 x) = false := fun y e => by simp [Lit.sameKey, e]
      by_cases hkf : k < fi
      · have HO2 : Hid (OldTo u uses (fun z => left z && !z.sameKey (.int .i64 x)) x k) := ⟨fun y j hy hl => (by
          by_cases e : y = x
          · subst e; rw [hk] at hy; have := Option.some.inj hy; omega
          · have := hOl.out.1 y j hy (by simpa [hsk y e] using hl); omega), .inr hk⟩
        have hkf' : (k : Int) < (fi : Int) := by omega
        clear hv hat hrg2 hg2 hs2 hKn hsk hvx hkf
        go_wp2
        refine ⟨⟨_, cnt2, x, k, rfl, rfl, by omega, HRg2, HO2, HBr2⟩, ?_⟩
        have h1 : w2.rangeLeft um ri = cnt2 := HRg2.out.left_eq
        rw [h1, hrg.out.left_eq]
        exact HLt.out
      · have HO2 : Hid (OldTo u uses (fun z => left z && !z.sameKey (.int .i64 x)) pg fi) := ⟨fun y j hy hl => (by
          by_cases e : y = x
          · subst e; rw [hk] at hy; have := Option.some.inj hy; omega
          · exact hOl.out.1 y j hy (by simpa [hsk y e] using hl)), hOl.out.2⟩
        have hkf' : ¬ ((k : Int) < (fi : Int)) := by omega
        clear hv hat hrg2 hg2 hs2 hKn hsk hvx hkf
        go_wp2
        refine ⟨⟨_, cnt2, pg, fi, rfl, rfl, hfi, HRg2, HO2, HBr2⟩, ?_⟩
        have h1 : w2.rangeLeft um ri = cnt2 := HRg2.out.left_eq
        rw [h1, hrg.out.left_eq]
        exact HLt.out
/-- One more is used. -/
def updN (u : Int → Option Nat) (n : Int) (k : Nat) : Int → Option Nat := fun y => if y = n then some k else u y
def delN (u : Int → Option Nat) (n : Int) : Int → Option Nat := fun y => if y = n then none else u y
theorem usedV_upd (u : Int → Option Nat) (n : Int) (k : Nat) : updV (usedV u) n (.int .i64 (k : Int)) = usedV (updN u n k) := by
  funext y; unfold updV usedV updN; by_cases e : y = n <;> simp [e]
theorem usedV_del (u : Int → Option Nat) (n : Int) : delV (usedV u) n = usedV (delN u n) := by
  funext y; unfold delV usedV delN; by_cases e : y = n <;> simp [e]
def usedCount (u : Int → Option Nat) (N : Nat) : Nat := (grpKeys (usedV u) N).length
/-- What is in use behind a use. -/
def UseTo (u : Int → Option Nat) (most N k : Nat) (n : Int) (u' : Int → Option Nat) : Prop :=
  (usedCount (updN u n k) N ≤ most ∧ u' = updN u n k) ∨ (most < usedCount (updN u n k) N ∧ ∃ x, OldestAt (updN u n k) x ∧ u' = delN (updN u n k) x)
theorem UseTo.ub {u u' : Int → Option Nat} {most N k : Nat} {n : Int} (h : UseTo u most N k n u') (hu : ∀ y j, u y = some j → j ≤ k) : ∀ y j, u' y = some j → j ≤ k := by
  have h1 : ∀ y j, updN u n k y = some j → j ≤ k := fun y j hy => by
    unfold updN at hy
    split at hy
    · have := Option.some.inj hy; omega
    · exact hu y j hy
  rcases h with ⟨_, rfl⟩ | ⟨_, x, _, rfl⟩
  · exact h1
  · intro y j hy
    unfold delN at hy
    split at hy
    · cases hy
    · exact h1 y j hy
set_option maxRecDepth 100000 in
set_option maxHeartbeats 2000000 in
theorem buse_any (u : Int → Option Nat) (a0 a1 : Value) (t : TypeId) (most uses : Nat) (hu : uses < 1000000) (hub : ∀ n k, u n = some k → k ≤ uses) (n : Int) (hn0 : 0 ≤ n) (hn1 : n < N) (hN : N ≤ 4096) (w : World)
    (hc : w.heap[c]? = some (.cells #[a0, a1, .int .i64 most, .int .i64 uses, .map (some um)] t (0, 0))) (h : GrpIn w um 4096 D N (usedV u)) :
    Calls Tryz.prog 60 #[.pointer (some ⟨c, 2, none⟩), .int .i64 n] w fun e w' => e = .returned (.tuple #[]) ∧ ∃ u' D', w'.heap[c]? = some (.cells #[a0, a1, .int .i64 most, .int .i64 (uses + 1 : Nat), .map (some um)] t (0, 0)) ∧ GrpIn w' um 4096 D' N (usedV u') ∧ UseTo u most N (uses + 1) n u' ∧ Keeps (fun i => i = c ∨ i = um) w w' := by
  have c2 : w.cell? ⟨c, 2, none⟩ = some (.int .i64 most) := cell_of_block hc 2
  have c3 : w.cell? ⟨c, 3, none⟩ = some (.int .i64 uses) := cell_of_block hc 3
  have c4 : w.cell? ⟨c, 4, none⟩ = some (.map (some um)) := cell_of_block hc 4
  have f3 := frozen_of_block hc 3
  have e1 : IntKind.i64.wrap ((uses : Int) + 1) = (uses : Int) + 1 := IntWalk.i64_in _ (by omega)
  have hcu : c ≠ um := fun e => by
    obtain ⟨es, k, hm⟩ := map_block h.mapOwn
    rw [e, hm] at hc
    cases hc
  have hc1 := block_setCell hc 3 (.int .i64 ((uses : Int) + 1))
  have hK1 : Keeps (fun i => i = c) w (w.setCell ⟨c, 3, none⟩ (.int .i64 ((uses : Int) + 1))) := (Keeps.refl _ _).grown (grown_setCell (grown_refl _ _) _ _) (fun i e => .inl (Option.some.inj e).symm)
  have HG1 := hid (h.keep hK1 (fun e => hcu e.symm))
  have HK1 := hid hK1
  have HC1 := hid hc1
  have HUb := hid hub
  have hcl := lt_of_heap hc
  clear hc h hK1 hub
  go_enter Tryz.func60, Tryz.ntmps60
  go_wp2
  have d2 : (w.setCell ⟨c, 3, none⟩ (.int .i64 ((uses : Int) + 1))).cell? ⟨c, 2, none⟩ = some (.int .i64 most) := cell_of_block hc1 2
  have d3 : (w.setCell ⟨c, 3, none⟩ (.int .i64 ((uses : Int) + 1))).cell? ⟨c, 3, none⟩ = some (.int .i64 ((uses : Int) + 1)) := cell_of_block hc1 3
  have d4 : (w.setCell ⟨c, 3, none⟩ (.int .i64 ((uses : Int) + 1))).cell? ⟨c, 4, none⟩ = some (.map (some um)) := cell_of_block hc1 4
  clear c2 c3 c4 f3 hc1
  generalize w.setCell ⟨c, 3, none⟩ (.int .i64 ((uses : Int) + 1)) = w1 at *
  refine wp_region_noPanic ?_
  refine wp_region_held_drew (S := fun W => W.cell? ⟨c, 3, none⟩ = some (.int .i64 ((uses : Int) + 1)) ∧ W.cell? ⟨c, 4, none⟩ = some (.map (some um))) (by kernel_rfl) ⟨d3, d4⟩ (fun hHeld => ?_)
  refine wpAnyH_take (i := 0) (v := ?_) rfl (by kernel_rfl) (by kernel_rfl) (by kernel_rfl) (fun _ _ _ h => h) (Or.inl ⟨by rfl, ?_⟩) (by assumption) ?_
  rotate_left
  · (intro W hSw; (try dsimp only at hSw); obtain ⟨s1, s2⟩ := hSw; go_simp; try with_reducible rfl)
  try simp only [List.getElem_toArray, List.getElem_cons_zero, Act.put, List.setIfInBounds_toArray, List.set_cons_zero, List.set_cons_succ]
  refine wpAnyH_take (i := 1) (v := ?_) rfl (by kernel_rfl) (by kernel_rfl) (by kernel_rfl) (fun _ _ _ h => h) (Or.inl ⟨by rfl, ?_⟩) (by assumption) ?_
  rotate_left
  · (intro W hSw; (try dsimp only at hSw); obtain ⟨s1, s2⟩ := hSw; go_simp; try with_reducible rfl)
  try simp only [List.getElem_toArray, List.getElem_cons_succ, List.getElem_cons_zero, Act.put, List.setIfInBounds_toArray, List.set_cons_zero, List.set_cons_succ]
  refine wpAnyH_take (i := 2) (v := ?_) rfl (by kernel_rfl) (by kernel_rfl) (by kernel_rfl) (fun _ _ _ h => h) (Or.inl ⟨by rfl, ?_⟩) (by assumption) ?_
  rotate_left
  · (intro W hSw; (try dsimp only at hSw); obtain ⟨s1, s2⟩ := hSw; go_simp; try with_reducible rfl)
  try simp only [List.getElem_toArray, List.getElem_cons_succ, List.getElem_cons_zero, Act.put, List.setIfInBounds_toArray, List.set_cons_zero, List.set_cons_succ]
  refine wpAnyH_take (i := 3) (v := ?_) rfl (by kernel_rfl) (by kernel_rfl) (by kernel_rfl) (fun _ _ _ h => h) (Or.inl ⟨by rfl, ?_⟩) (by assumption) ?_
  rotate_left
  · (intro W hSw; (try dsimp only at hSw); obtain ⟨s1, s2⟩ := hSw; go_simp; try with_reducible rfl)
  try simp only [List.getElem_toArray, List.getElem_cons_succ, List.getElem_cons_zero, Act.put, List.setIfInBounds_toArray, List.set_cons_zero, List.set_cons_succ]
  refine wpAnyH_take (i := 4) (v := ?_) rfl (by kernel_rfl) (by kernel_rfl) (by kernel_rfl) (fun _ _ _ h => h) (Or.inl ⟨by rfl, ?_⟩) (by assumption) ?_
  rotate_left
  · (intro W hSw; (try dsimp only at hSw); obtain ⟨s1, s2⟩ := hSw; go_simp; try with_reducible rfl)
  try simp only [List.getElem_toArray, List.getElem_cons_succ, List.getElem_cons_zero, Act.put, List.setIfInBounds_toArray, List.set_cons_zero, List.set_cons_succ]
  refine wpAnyH_take (i := 5) (v := ?_) rfl (by kernel_rfl) (by kernel_rfl) (by kernel_rfl) (fun _ _ _ h => h) (Or.inl ⟨by rfl, ?_⟩) (by assumption) ?_
  rotate_left
  · (intro W hSw; (try dsimp only at hSw); obtain ⟨s1, s2⟩ := hSw; go_simp; try with_reducible rfl)
  try simp only [List.getElem_toArray, List.getElem_cons_succ, List.getElem_cons_zero, Act.put, List.setIfInBounds_toArray, List.set_cons_zero, List.set_cons_succ]
  refine wpAnyH_take (i := 6) (v := ?_) rfl (by kernel_rfl) (by kernel_rfl) (by kernel_rfl) (fun _ _ _ h => h) (Or.inl ⟨by rfl, ?_⟩) (by assumption) ?_
  rotate_left
  · (intro W hSw; (try dsimp only at hSw); obtain ⟨s1, s2⟩ := hSw; go_simp; try with_reducible rfl)
  try simp only [List.getElem_toArray, List.getElem_cons_succ, List.getElem_cons_zero, Act.put, List.setIfInBounds_toArray, List.set_cons_zero, List.set_cons_succ]
  refine wpAnyH_take (i := 7) (v := ?_) rfl (by kernel_rfl) (by kernel_rfl) (by kernel_rfl) (fun _ _ _ h => h) (Or.inl ⟨by rfl, ?_⟩) (by assumption) ?_
  rotate_left
  · (intro W hSw; (try dsimp only at hSw); obtain ⟨s1, s2⟩ := hSw; go_simp; try with_reducible rfl)
  try simp only [List.getElem_toArray, List.getElem_cons_succ, List.getElem_cons_zero, Act.put, List.setIfInBounds_toArray, List.set_cons_zero, List.set_cons_succ]
  refine wpAnyH_take (i := 8) (v := ?_) rfl (by kernel_rfl) (by kernel_rfl) (by kernel_rfl) (fun _ _ _ h => h) (Or.inl ⟨by rfl, ?_⟩) (by assumption) ?_
  rotate_left
  · (intro W hSw; (try dsimp only at hSw); obtain ⟨s1, s2⟩ := hSw; go_simp; try with_reducible rfl)
  try simp only [List.getElem_toArray, List.getElem_cons_succ, List.getElem_cons_zero, Act.put, List.setIfInBounds_toArray, List.set_cons_zero, List.set_cons_succ]
  refine wpAnyH_ready (rs := [9]) (by kernel_rfl) (by simp) (AllReadyH.cons rfl (fun K hK => ?_) AllReadyH.nil)
  rw [if_pos (by rfl)]
  refine wp_mapUpdate_self (.tmp 14) (.tmp 15) (.tmp 19) 92 rfl 3 3 (int_keyed Tryz.underlying3) Tryz.underlying92 um 4096 D rfl (HG1.out.below (Below.refl _ _).drew).mapOwn (by unfold maxLen; omega) (.int .i64 n) (.int .i64 ((uses : Int) + 1)) (.int .i64 n) rfl rfl (keyI (by omega) (by omega)) ?_
  intro w2 hown2 hgr2
  have hG2 := ((HG1.out.below (Below.refl _ w1).drew).put hn0 hn1 hown2).norm hN
  rw [show ((uses : Int) + 1) = ((uses + 1 : Nat) : Int) by omega, usedV_upd] at hG2
  have HG2 := hid hG2
  have hK2 : Keeps (fun i => i = um) w1 w2 := (Keeps.of_below (Below.refl _ w1).drew).grown hgr2 (fun i e => .inl (Option.some.inj e).symm)
  have hc2 := hK2.heap HC1.out (fun e => hcu e)
  have HC2 := hid hc2
  have HK2 := hid ((HK1.out.mono (G := fun i => i = c ∨ i = um) (fun i e => .inl e)).trans hK2 (fun i e => .inl (.inr e)))
  have t2 : w2.cell? ⟨c, 2, none⟩ = some (.int .i64 most) := cell_of_block hc2 2
  have t3 : w2.cell? ⟨c, 3, none⟩ = some (.int .i64 ((uses : Int) + 1)) := cell_of_block hc2 3
  have t4 : w2.cell? ⟨c, 4, none⟩ = some (.map (some um)) := cell_of_block hc2 4
  obtain ⟨M, hM⟩ : ∃ M, M = usedCount (updN u n (uses + 1)) N := ⟨_, rfl⟩
  have hlen : ∀ ty, (Builtin.len_ #[92] ty #[.map (some um)]).run Tryz.prog w2.drew = .ok (.int .i64 (M : Int)) w2.drew := fun ty => by
    have := (hG2.below (Below.refl _ w2).drew).mapOwn.len Tryz.underlying92 ty
    rw [hG2.size] at this
    rw [hM]
    exact this
  have HM := hid hM
  generalize hD2 : D.put (Lit.int .i64 n) (.held (.int .i64 ((uses : Int) + 1))) = D2 at *
  clear hG2 hK2 hc2 hown2 hgr2 hD2 d2 d3 d4 HG1 HC1 hM HK1
  refine hK.out _ _ ⟨t3, t4⟩ (fun hHeld => ?_)
  clear hK K
  refine wpAnyH_done (by kernel_rfl) ?_ _
  refine NoPanic.normal ?_
  clear hHeld
  have hMu : Hid (M ≤ 4096) := by
    unfold Hid
    rw [HM.out]
    exact Nat.le_trans (length_grpKeys_le _ _) hN
  have hM4 := hMu.out
  by_cases hmm : most < M
  · have hd : decide ((M : Int) > (most : Int)) = true := decide_eq_true (by omega)
    have hub2 : ∀ y k, updN u n (uses + 1) y = some k → k ≤ uses + 1 := fun y k hy => by
      unfold updN at hy
      split at hy
      · have := Option.some.inj hy; omega
      · have := HUb.out y k hy; omega
    have t3' : w2.drew.cell? ⟨c, 3, none⟩ = some (.int .i64 (uses + 1 : Nat)) := t3
    have HOl := hid (boldest_any (c := c) (updN u n (uses + 1)) (uses + 1) (by omega) hub2 n (by simp [updN]) w2.drew t3' t4 (HG2.out.below (Below.refl _ _).drew))
    go_wp2
    refine wp_region_noPanic ?_
    refine wp_region_held_drew (S := fun W => W.cell? ⟨c, 2, none⟩ = some (.int .i64 most) ∧ W.cell? ⟨c, 4, none⟩ = some (.map (some um)) ∧ ∀ ty, (Builtin.len_ #[92] ty #[.map (some um)]).run Tryz.prog W = .ok (.int .i64 (M : Int)) W) (by kernel_rfl) ⟨t2, t4, hlen⟩ (fun hHeld => ?_)
    refine wpAnyH_take (i := 0) (v := ?_) rfl (by kernel_rfl) (by kernel_rfl) (by kernel_rfl) (fun _ _ _ h => h) (Or.inl ⟨by rfl, ?_⟩) (by assumption) ?_
    rotate_left
    · (intro W hSw; (try dsimp only at hSw); obtain ⟨s1, s2, s3⟩ := hSw; go_simp; try with_reducible rfl)
    try simp only [List.getElem_toArray, List.getElem_cons_zero, Act.put, List.setIfInBounds_toArray]
    refine wpAnyH_take (i := 1) (v := ?_) rfl (by kernel_rfl) (by kernel_rfl) (by kernel_rfl) (fun _ _ _ h => h) (Or.inl ⟨by rfl, ?_⟩) (by assumption) ?_
    rotate_left
    · (intro W hSw; (try dsimp only at hSw); obtain ⟨s1, s2, s3⟩ := hSw; go_simp; try with_reducible rfl)
    try simp only [List.getElem_toArray, List.getElem_cons_succ, List.getElem_cons_zero, Act.put, List.setIfInBounds_toArray, List.set_cons_zero, List.set_cons_succ]
    refine wpAnyH_take (i := 2) (v := ?_) rfl (by kernel_rfl) (by kernel_rfl) (by kernel_rfl) (fun _ _ _ h => h) (Or.inl ⟨by rfl, ?_⟩) (by assumption) ?_
    rotate_left
    · (intro W hSw; (try dsimp only at hSw); obtain ⟨s1, s2, s3⟩ := hSw; go_simp; try with_reducible rfl)
    try simp only [List.getElem_toArray, List.getElem_cons_succ, List.getElem_cons_zero, Act.put, List.setIfInBounds_toArray, List.set_cons_zero, List.set_cons_succ]
    refine wpAnyH_take (i := 3) (v := ?_) rfl (by kernel_rfl) (by kernel_rfl) (by kernel_rfl) (fun _ _ _ h => h) (Or.inl ⟨by rfl, ?_⟩) (by assumption) ?_
    rotate_left
    · (intro W hSw; (try dsimp only at hSw); obtain ⟨s1, s2, s3⟩ := hSw; go_simp; try with_reducible rfl)
    try simp only [List.getElem_toArray, List.getElem_cons_succ, List.getElem_cons_zero, Act.put, List.setIfInBounds_toArray, List.set_cons_zero, List.set_cons_succ]
    refine wpAnyH_take (i := 4) (v := .int .i64 (M : Int)) rfl (by kernel_rfl) (by kernel_rfl) (by kernel_rfl) (fun _ _ _ h => h) (Or.inl ⟨by rfl, ?_⟩) (by assumption) ?_
    · (intro W hSw; (try dsimp only at hSw); obtain ⟨s1, s2, s3⟩ := hSw; go_simp; try first | with_reducible rfl | go_num | (rw [if_pos (by assumption)]; simp only [*]) | simp only [*])
    try simp only [List.getElem_toArray, List.getElem_cons_succ, List.getElem_cons_zero, Act.put, List.setIfInBounds_toArray, List.set_cons_zero, List.set_cons_succ]
    refine wpAnyH_take (i := 5) (v := ?_) rfl (by kernel_rfl) (by kernel_rfl) (by kernel_rfl) (fun _ _ _ h => h) (Or.inl ⟨by rfl, ?_⟩) (by assumption) ?_
    rotate_left
    · (intro W hSw; (try dsimp only at hSw); obtain ⟨s1, s2, s3⟩ := hSw; go_simp; try with_reducible rfl)
    try simp only [List.getElem_toArray, List.getElem_cons_succ, List.getElem_cons_zero, Act.put, List.setIfInBounds_toArray, List.set_cons_zero, List.set_cons_succ]
    refine wpAnyH_take (i := 6) (v := ?_) rfl (by kernel_rfl) (by kernel_rfl) (by kernel_rfl) (fun _ _ _ h => h) (Or.inl ⟨by rfl, ?_⟩) (by assumption) ?_
    rotate_left
    · (intro W hSw; (try dsimp only at hSw); obtain ⟨s1, s2, s3⟩ := hSw; go_simp; try with_reducible rfl)
    try simp only [List.getElem_toArray, List.getElem_cons_succ, List.getElem_cons_zero, Act.put, List.setIfInBounds_toArray, List.set_cons_zero, List.set_cons_succ]
    refine wpAnyH_take (i := 7) (v := ?_) rfl (by kernel_rfl) (by kernel_rfl) (by kernel_rfl) (fun _ _ _ h => h) (Or.inl ⟨by rfl, ?_⟩) (by assumption) ?_
    rotate_left
    · (intro W hSw; (try dsimp only at hSw); obtain ⟨s1, s2, s3⟩ := hSw; go_simp; try with_reducible rfl)
    try simp only [List.getElem_toArray, List.getElem_cons_succ, List.getElem_cons_zero, Act.put, List.setIfInBounds_toArray, List.set_cons_zero, List.set_cons_succ]
    refine wpAnyH_take (i := 8) (v := ?_) rfl (by kernel_rfl) (by kernel_rfl) (by kernel_rfl) (fun _ _ _ h => h) (Or.inl ⟨by rfl, ?_⟩) (by assumption) ?_
    rotate_left
    · (intro W hSw; (try dsimp only at hSw); obtain ⟨s1, s2, s3⟩ := hSw; go_simp; try with_reducible rfl)
    try simp only [List.getElem_toArray, List.getElem_cons_succ, List.getElem_cons_zero, Act.put, List.setIfInBounds_toArray, List.set_cons_zero, List.set_cons_succ]
    refine wpAnyH_take (i := 9) (v := .bool true) rfl (by kernel_rfl) (by kernel_rfl) (by kernel_rfl) (fun _ _ _ h => h) (Or.inl ⟨by rfl, ?_⟩) (by assumption) ?_
    · (intro W hSw; (try dsimp only at hSw); obtain ⟨s1, s2, s3⟩ := hSw; go_simp; try first | with_reducible rfl | go_num | (rw [if_pos (by assumption)]; simp only [*]) | simp only [*])
    try simp only [List.getElem_toArray, List.getElem_cons_succ, List.getElem_cons_zero, Act.put, List.setIfInBounds_toArray, List.set_cons_zero, List.set_cons_succ]
    refine wpAnyH_done (by kernel_rfl) ?_ _
    refine NoPanic.normal ?_
    clear hHeld
    go_wp2_with fail
    refine HOl.out.mono ?_
    clear HOl
    rintro e w3 ⟨x, rfl, hO3, hb3⟩
    have hb23 : Below w2.heap.size w2 w3 := (Below.refl _ w2).drew.trans (hb3.mono (Nat.le_refl _))
    have hG3 := HG2.out.below hb23
    have HC3 := hid (below_block hb23 HC2.out (lt_of_heap HC2.out))
    have x4 : w3.cell? ⟨c, 4, none⟩ = some (.map (some um)) := (hb23.cell (p := ⟨c, 4, none⟩) (World.block_lt_of_cell? w2 _ t4)).trans t4
    have HO3 := hid hO3
    obtain ⟨xk, hxk, -⟩ := hO3
    have hxd := hG3.dom x (.int .i64 (xk : Int)) (by simp [usedV, hxk])
    have HDr := hid (bdrop_any (c := c) (usedV (updN u n (uses + 1))) x (by omega) (by omega) w3 x4 hG3)
    have HK3 := hid (HK2.out.andBelow hb23)
    clear hb3 hb23 hG3
    go_wp2_with fail
    refine HDr.out.mono ?_
    clear HDr
    rintro e w4 ⟨rfl, D4, hG4, hg4⟩
    rw [usedV_del] at hG4
    have HG4 := hid hG4
    have hK34 : Keeps (fun i => i = um) w3 w4 := (Keeps.refl _ w3).grown hg4 (fun i e => .inl (Option.some.inj e).symm)
    have HC4 := hid (hK34.heap HC3.out (fun e => hcu e))
    have HK4 := hid (HK3.out.trans hK34 (fun i e => .inl (.inr e)))
    clear hG4 hg4 hK34
    go_wp2
    go_end0
    exact ⟨rfl, delN (updN u n (uses + 1)) x, D4, (by have h := HC4.out; rw [show ((uses : Int) + 1) = ((uses + 1 : Nat) : Int) by omega] at h; exact h), HG4.out, .inr ⟨by rw [← HM.out]; exact hmm, x, HO3.out, rfl⟩, HK4.out⟩
  · have hd : decide ((M : Int) > (most : Int)) = false := decide_eq_false (by omega)
    go_wp2
    refine wp_region_noPanic ?_
    refine wp_region_held_drew (S := fun W => W.cell? ⟨c, 2, none⟩ = some (.int .i64 most) ∧ W.cell? ⟨c, 4, none⟩ = some (.map (some um)) ∧ ∀ ty, (Builtin.len_ #[92] ty #[.map (some um)]).run Tryz.prog W = .ok (.int .i64 (M : Int)) W) (by kernel_rfl) ⟨t2, t4, hlen⟩ (fun hHeld => ?_)
    refine wpAnyH_take (i := 0) (v := ?_) rfl (by kernel_rfl) (by kernel_rfl) (by kernel_rfl) (fun _ _ _ h => h) (Or.inl ⟨by rfl, ?_⟩) (by assumption) ?_
    rotate_left
    · (intro W hSw; (try dsimp only at hSw); obtain ⟨s1, s2, s3⟩ := hSw; go_simp; try with_reducible rfl)
    try simp only [List.getElem_toArray, List.getElem_cons_zero, Act.put, List.setIfInBounds_toArray]
    refine wpAnyH_take (i := 1) (v := ?_) rfl (by kernel_rfl) (by kernel_rfl) (by kernel_rfl) (fun _ _ _ h => h) (Or.inl ⟨by rfl, ?_⟩) (by assumption) ?_
    rotate_left
    · (intro W hSw; (try dsimp only at hSw); obtain ⟨s1, s2, s3⟩ := hSw; go_simp; try with_reducible rfl)
    try simp only [List.getElem_toArray, List.getElem_cons_succ, List.getElem_cons_zero, Act.put, List.setIfInBounds_toArray, List.set_cons_zero, List.set_cons_succ]
    refine wpAnyH_take (i := 2) (v := ?_) rfl (by kernel_rfl) (by kernel_rfl) (by kernel_rfl) (fun _ _ _ h => h) (Or.inl ⟨by rfl, ?_⟩) (by assumption) ?_
    rotate_left
    · (intro W hSw; (try dsimp only at hSw); obtain ⟨s1, s2, s3⟩ := hSw; go_simp; try with_reducible rfl)
    try simp only [List.getElem_toArray, List.getElem_cons_succ, List.getElem_cons_zero, Act.put, List.setIfInBounds_toArray, List.set_cons_zero, List.set_cons_succ]
    refine wpAnyH_take (i := 3) (v := ?_) rfl (by kernel_rfl) (by kernel_rfl) (by kernel_rfl) (fun _ _ _ h => h) (Or.inl ⟨by rfl, ?_⟩) (by assumption) ?_
    rotate_left
    · (intro W hSw; (try dsimp only at hSw); obtain ⟨s1, s2, s3⟩ := hSw; go_simp; try with_reducible rfl)
    try simp only [List.getElem_toArray, List.getElem_cons_succ, List.getElem_cons_zero, Act.put, List.setIfInBounds_toArray, List.set_cons_zero, List.set_cons_succ]
    refine wpAnyH_take (i := 4) (v := .int .i64 (M : Int)) rfl (by kernel_rfl) (by kernel_rfl) (by kernel_rfl) (fun _ _ _ h => h) (Or.inl ⟨by rfl, ?_⟩) (by assumption) ?_
    · (intro W hSw; (try dsimp only at hSw); obtain ⟨s1, s2, s3⟩ := hSw; go_simp; try first | with_reducible rfl | go_num | (rw [if_pos (by assumption)]; simp only [*]) | simp only [*])
    try simp only [List.getElem_toArray, List.getElem_cons_succ, List.getElem_cons_zero, Act.put, List.setIfInBounds_toArray, List.set_cons_zero, List.set_cons_succ]
    refine wpAnyH_take (i := 5) (v := ?_) rfl (by kernel_rfl) (by kernel_rfl) (by kernel_rfl) (fun _ _ _ h => h) (Or.inl ⟨by rfl, ?_⟩) (by assumption) ?_
    rotate_left
    · (intro W hSw; (try dsimp only at hSw); obtain ⟨s1, s2, s3⟩ := hSw; go_simp; try with_reducible rfl)
    try simp only [List.getElem_toArray, List.getElem_cons_succ, List.getElem_cons_zero, Act.put, List.setIfInBounds_toArray, List.set_cons_zero, List.set_cons_succ]
    refine wpAnyH_take (i := 6) (v := ?_) rfl (by kernel_rfl) (by kernel_rfl) (by kernel_rfl) (fun _ _ _ h => h) (Or.inl ⟨by rfl, ?_⟩) (by assumption) ?_
    rotate_left
    · (intro W hSw; (try dsimp only at hSw); obtain ⟨s1, s2, s3⟩ := hSw; go_simp; try with_reducible rfl)
    try simp only [List.getElem_toArray, List.getElem_cons_succ, List.getElem_cons_zero, Act.put, List.setIfInBounds_toArray, List.set_cons_zero, List.set_cons_succ]
    refine wpAnyH_take (i := 7) (v := ?_) rfl (by kernel_rfl) (by kernel_rfl) (by kernel_rfl) (fun _ _ _ h => h) (Or.inl ⟨by rfl, ?_⟩) (by assumption) ?_
    rotate_left
    · (intro W hSw; (try dsimp only at hSw); obtain ⟨s1, s2, s3⟩ := hSw; go_simp; try with_reducible rfl)
    try simp only [List.getElem_toArray, List.getElem_cons_succ, List.getElem_cons_zero, Act.put, List.setIfInBounds_toArray, List.set_cons_zero, List.set_cons_succ]
    refine wpAnyH_take (i := 8) (v := ?_) rfl (by kernel_rfl) (by kernel_rfl) (by kernel_rfl) (fun _ _ _ h => h) (Or.inl ⟨by rfl, ?_⟩) (by assumption) ?_
    rotate_left
    · (intro W hSw; (try dsimp only at hSw); obtain ⟨s1, s2, s3⟩ := hSw; go_simp; try with_reducible rfl)
    try simp only [List.getElem_toArray, List.getElem_cons_succ, List.getElem_cons_zero, Act.put, List.setIfInBounds_toArray, List.set_cons_zero, List.set_cons_succ]
    refine wpAnyH_take (i := 9) (v := .bool false) rfl (by kernel_rfl) (by kernel_rfl) (by kernel_rfl) (fun _ _ _ h => h) (Or.inl ⟨by rfl, ?_⟩) (by assumption) ?_
    · (intro W hSw; (try dsimp only at hSw); obtain ⟨s1, s2, s3⟩ := hSw; go_simp; try first | with_reducible rfl | go_num | (rw [if_pos (by assumption)]; simp only [*]) | simp only [*])
    try simp only [List.getElem_toArray, List.getElem_cons_succ, List.getElem_cons_zero, Act.put, List.setIfInBounds_toArray, List.set_cons_zero, List.set_cons_succ]
    refine wpAnyH_done (by kernel_rfl) ?_ _
    refine NoPanic.normal ?_
    clear hHeld
    go_wp2
    go_end0
    exact ⟨rfl, updN u n (uses + 1), _, (by have h := HC2.out; rw [show ((uses : Int) + 1) = ((uses + 1 : Nat) : Int) by omega] at h; exact h), HG2.out.below (Below.refl _ _).drew, .inl ⟨by rw [← HM.out]; omega, rfl⟩, HK2.out.drew⟩
end
end Go.Proofs.YtkkmbgjlmdddoabGreat
/- The cache's calls: of nil; Room, Dirty, Log, New. -/
namespace Go.Proofs.YtkkmbgjlmdddoabGreat
open Go.RowKit Go.Maps Go.Sort Go.Shelf
set_option maxRecDepth 100000 in
theorem bnew_nil (n : Int) (w : World) : Calls Tryz.prog 43 #[.pointer none, .int .i64 n] w fun e w' => e = .returned (.tuple #[.pointer none, .int .i64 1]) ∧ w' = w := by
  go_enter Tryz.func43, Tryz.ntmps43
  go_wp2
  go_returns
  exact ⟨rfl, rfl⟩
set_option maxRecDepth 100000 in
theorem bread_nil (n : Int) (w : World) : Calls Tryz.prog 29 #[.pointer none, .int .i64 n] w fun e w' => e = .returned (.tuple #[.slice none 0 0, .int .i64 1]) ∧ w' = w := by
  go_enter Tryz.func29, Tryz.ntmps29
  go_wp2
  go_returns
  exact ⟨rfl, rfl⟩
set_option maxRecDepth 100000 in
theorem bwrite_nil (n : Int) (v : Value) (w : World) : Calls Tryz.prog 54 #[.pointer none, .int .i64 n, v] w fun e w' => e = .returned (.int .i64 1) ∧ w' = w := by
  go_enter Tryz.func54, Tryz.ntmps54
  go_wp2
  go_ret
  exact ⟨rfl, rfl⟩
set_option maxRecDepth 100000 in
theorem bcommit_nil (w : World) : Calls Tryz.prog 21 #[.pointer none] w fun e w' => e = .returned (.int .i64 1) ∧ w' = w := by
  go_enter Tryz.func21, Tryz.ntmps21
  go_wp2
  go_ret
  exact ⟨rfl, rfl⟩
set_option maxRecDepth 100000 in
theorem bdirty_nil (w : World) : Calls Tryz.prog 45 #[.pointer none] w fun e w' => e = .returned (.slice none 0 0) ∧ w' = w := by
  go_enter Tryz.func45, Tryz.ntmps45
  go_wp2
  go_ret
  exact ⟨rfl, rfl⟩
set_option maxRecDepth 100000 in
theorem broom_nil (w : World) : Calls Tryz.prog 26 #[.pointer none] w fun e w' => e = .returned (.int .i64 0) ∧ w' = w := by
  go_enter Tryz.func26, Tryz.ntmps26
  go_wp2
  go_ret
  exact ⟨rfl, rfl⟩
set_option maxRecDepth 100000 in
theorem blog_nil (w : World) : Calls Tryz.prog 24 #[.pointer none] w fun e w' => e = .returned (.pointer none) ∧ w' = w := by
  go_enter Tryz.func24, Tryz.ntmps24
  go_wp2
  go_ret
  exact ⟨rfl, rfl⟩
section
variable {c : Nat} {L : CLay} {C : CS}
set_option maxRecDepth 100000 in
theorem blog_any (w : World) (h : CacheAt w c L C) : Calls Tryz.prog 24 #[.pointer (some ⟨c, 0, none⟩)] w fun e w' => e = .returned (.pointer (some ⟨L.p, 0, none⟩)) ∧ w' = w := by
  obtain ⟨c0, -⟩ := h.cells
  clear h
  go_enter Tryz.func24, Tryz.ntmps24
  go_wp2
  go_ret
  exact ⟨rfl, rfl⟩
set_option maxRecDepth 100000 in
set_option maxHeartbeats 1000000 in
theorem broom_any (w : World) (h : CacheAt w c L C) : Calls Tryz.prog 26 #[.pointer (some ⟨c, 0, none⟩)] w fun e w' => e = .returned (.int .i64 (((min C.size 100 : Nat) : Int) - (C.dirtyKeys.length : Int))) ∧ Below w.heap.size w w' := by
  obtain ⟨c0, c1, -⟩ := h.cells
  have h4 := h.four
  have hf := h.fits
  have hcl := lt_of_heap h.heap
  have HCp := hid (log_capacity w.drew (h.log.below (Below.refl _ w).drew) (by omega))
  have HLe : Hid (∀ W, Below w.heap.size w W → ∀ ty, (Builtin.len_ #[91] ty #[.map (some L.dm)]).run Tryz.prog W = .ok (.int .i64 (C.dirtyKeys.length : Int)) W) := fun W hW ty => by
    have := (h.dirty.below hW).mapOwn.len Tryz.underlying91 ty
    rw [h.dirty.size, h.keys] at this
    exact this
  have hlen := HLe.out w.drew (Below.refl _ w).drew
  have hdk : C.dirtyKeys.length ≤ 4096 := by rw [← h.keys]; exact Nat.le_trans (length_grpKeys_le _ _) h.pagesLe
  clear h
  have hcp : min C.size 100 ≤ 100 := by omega
  generalize min C.size 100 = cp at *
  generalize C.dirtyKeys.length = dk at *
  have e1 : IntKind.i64.wrap ((cp : Int) - (dk : Int)) = (cp : Int) - (dk : Int) := IntWalk.i64_in _ (by omega)
  go_enter Tryz.func26, Tryz.ntmps26
  go_wp2
  refine wp_region_noPanic ?_
  refine wp_region_held_drew (S := fun W => W.cell? ⟨c, 0, none⟩ = some (.pointer (some ⟨L.p, 0, none⟩)) ∧ W.cell? ⟨c, 1, none⟩ = some (.map (some L.dm)) ∧ ∀ ty, (Builtin.len_ #[91] ty #[.map (some L.dm)]).run Tryz.prog W = .ok (.int .i64 (dk : Int)) W) (by kernel_rfl) ⟨c0, c1, hlen⟩ (fun hHeld => ?_)
  refine wpAnyH_take (i := 0) (v := ?_) rfl (by kernel_rfl) (by kernel_rfl) (by kernel_rfl) (fun _ _ _ h => h) (Or.inl ⟨by rfl, ?_⟩) (by assumption) ?_
  rotate_left
  · (intro W hSw; (try dsimp only at hSw); obtain ⟨s1, s2, s3⟩ := hSw; go_simp; try with_reducible rfl)
  try simp only [List.getElem_toArray, List.getElem_cons_zero, Act.put, List.setIfInBounds_toArray, List.set_cons_zero, List.set_cons_succ]
  refine wpAnyH_take (i := 1) (v := ?_) rfl (by kernel_rfl) (by kernel_rfl) (by kernel_rfl) (fun _ _ _ h => h) (Or.inl ⟨by rfl, ?_⟩) (by assumption) ?_
  rotate_left
  · (intro W hSw; (try dsimp only at hSw); obtain ⟨s1, s2, s3⟩ := hSw; go_simp; try with_reducible rfl)
  try simp only [List.getElem_toArray, List.getElem_cons_succ, List.getElem_cons_zero, Act.put, List.setIfInBounds_toArray, List.set_cons_zero, List.set_cons_succ]
  refine wpAnyH_take (i := 2) (v := ?_) rfl (by kernel_rfl) (by kernel_rfl) (by kernel_rfl) (fun _ _ _ h => h) (Or.inl ⟨by rfl, ?_⟩) (by assumption) ?_
  rotate_left
  · (intro W hSw; (try dsimp only at hSw); obtain ⟨s1, s2, s3⟩ := hSw; go_simp; try with_reducible rfl)
  try simp only [List.getElem_toArray, List.getElem_cons_succ, List.getElem_cons_zero, Act.put, List.setIfInBounds_toArray, List.set_cons_zero, List.set_cons_succ]
  refine wpAnyH_take (i := 3) (v := ?_) rfl (by kernel_rfl) (by kernel_rfl) (by kernel_rfl) (fun _ _ _ h => h) (Or.inl ⟨by rfl, ?_⟩) (by assumption) ?_
  rotate_left
  · (intro W hSw; (try dsimp only at hSw); obtain ⟨s1, s2, s3⟩ := hSw; go_simp; try with_reducible rfl)
  try simp only [List.getElem_toArray, List.getElem_cons_succ, List.getElem_cons_zero, Act.put, List.setIfInBounds_toArray, List.set_cons_zero, List.set_cons_succ]
  refine wpAnyH_take (i := 5) (v := ?_) rfl (by kernel_rfl) (by kernel_rfl) (by kernel_rfl) (fun _ _ _ h => h) (Or.inl ⟨by rfl, ?_⟩) (by assumption) ?_
  rotate_left
  · (intro W hSw; (try dsimp only at hSw); obtain ⟨s1, s2, s3⟩ := hSw; go_simp; try with_reducible rfl)
  try simp only [List.getElem_toArray, List.getElem_cons_succ, List.getElem_cons_zero, Act.put, List.setIfInBounds_toArray, List.set_cons_zero, List.set_cons_succ]
  refine wpAnyH_take (i := 6) (v := ?_) rfl (by kernel_rfl) (by kernel_rfl) (by kernel_rfl) (fun _ _ _ h => h) (Or.inl ⟨by rfl, ?_⟩) (by assumption) ?_
  rotate_left
  · (intro W hSw; (try dsimp only at hSw); obtain ⟨s1, s2, s3⟩ := hSw; go_simp; try with_reducible rfl)
  try simp only [List.getElem_toArray, List.getElem_cons_succ, List.getElem_cons_zero, Act.put, List.setIfInBounds_toArray, List.set_cons_zero, List.set_cons_succ]
  refine wpAnyH_take (i := 7) (v := ?_) rfl (by kernel_rfl) (by kernel_rfl) (by kernel_rfl) (fun _ _ _ h => h) (Or.inl ⟨by rfl, ?_⟩) (by assumption) ?_
  rotate_left
  · (intro W hSw; (try dsimp only at hSw); obtain ⟨s1, s2, s3⟩ := hSw; go_simp; try with_reducible rfl)
  try simp only [List.getElem_toArray, List.getElem_cons_succ, List.getElem_cons_zero, Act.put, List.setIfInBounds_toArray, List.set_cons_zero, List.set_cons_succ]
  refine wpAnyH_take (i := 8) (v := ?_) rfl (by kernel_rfl) (by kernel_rfl) (by kernel_rfl) (fun _ _ _ h => h) (Or.inl ⟨by rfl, ?_⟩) (by assumption) ?_
  rotate_left
  · (intro W hSw; (try dsimp only at hSw); obtain ⟨s1, s2, s3⟩ := hSw; go_simp; try with_reducible rfl)
  try simp only [List.getElem_toArray, List.getElem_cons_succ, List.getElem_cons_zero, Act.put, List.setIfInBounds_toArray, List.set_cons_zero, List.set_cons_succ]
  refine wpAnyH_ready (rs := [4]) (by kernel_rfl) (by simp) (AllReadyH.cons rfl (fun K hK => ?_) AllReadyH.nil)
  rw [if_pos (by rfl)]
  go_simp
  refine HCp.out.mono ?_
  clear HCp
  rintro e w2 ⟨rfl, hb2⟩
  have hb : Below w.heap.size w w2 := (Below.refl _ w).drew.trans (hb2.mono (Nat.le_refl _))
  have HB := hid hb
  have d0 : w2.cell? ⟨c, 0, none⟩ = some (.pointer (some ⟨L.p, 0, none⟩)) := (hb.cell (p := ⟨c, 0, none⟩) hcl).trans c0
  have d1 : w2.cell? ⟨c, 1, none⟩ = some (.map (some L.dm)) := (hb.cell (p := ⟨c, 1, none⟩) hcl).trans c1
  have d2 := HLe.out w2 hb
  clear hb hb2 hlen
  go_wp2_with fail
  refine hK.out _ _ ⟨d0, d1, d2⟩ (fun hHeld => ?_)
  clear hK K
  try simp only [List.getElem_toArray, List.getElem_cons_succ, List.getElem_cons_zero, Act.put, List.setIfInBounds_toArray, List.set_cons_zero, List.set_cons_succ]
  refine wpAnyH_take (i := 9) (v := .int .i64 (dk : Int)) rfl (by kernel_rfl) (by kernel_rfl) (by kernel_rfl) (fun _ _ _ h => h) (Or.inl ⟨by rfl, ?_⟩) (by assumption) ?_
  · (intro W hSw; (try dsimp only at hSw); obtain ⟨s1, s2, s3⟩ := hSw; go_simp; try first | with_reducible rfl | go_num | (rw [if_pos (by assumption)]; simp only [*]) | simp only [*])
  try simp only [List.getElem_toArray, List.getElem_cons_succ, List.getElem_cons_zero, Act.put, List.setIfInBounds_toArray, List.set_cons_zero, List.set_cons_succ]
  refine wpAnyH_take (i := 10) (v := .int .i64 ((cp : Int) - (dk : Int))) rfl (by kernel_rfl) (by kernel_rfl) (by kernel_rfl) (fun _ _ _ h => h) (Or.inl ⟨by rfl, ?_⟩) (by assumption) ?_
  · (intro W hSw; (try dsimp only at hSw); obtain ⟨s1, s2, s3⟩ := hSw; go_simp; try first | with_reducible rfl | go_num | (rw [if_pos (by assumption)]; simp only [*]) | simp only [*])
  try simp only [List.getElem_toArray, List.getElem_cons_succ, List.getElem_cons_zero, Act.put, List.setIfInBounds_toArray, List.set_cons_zero, List.set_cons_succ]
  refine wpAnyH_take (i := 11) (v := ?_) rfl (by kernel_rfl) (by kernel_rfl) (by kernel_rfl) (fun _ _ _ h => h) (Or.inl ⟨by rfl, ?_⟩) (by assumption) ?_
  rotate_left
  · (intro W hSw; (try dsimp only at hSw); obtain ⟨s1, s2, s3⟩ := hSw; go_simp; try with_reducible rfl)
  try simp only [List.getElem_toArray, List.getElem_cons_succ, List.getElem_cons_zero, Act.put, List.setIfInBounds_toArray, List.set_cons_zero, List.set_cons_succ]
  refine wpAnyH_done (by kernel_rfl) ?_ _
  refine NoPanic.normal ?_
  clear hHeld d0 d1 d2
  go_wp2
  go_ret
  exact ⟨rfl, HB.out⟩
set_option maxHeartbeats 1000000 in
theorem bdirty_any (w : World) (h : CacheAt w c L C) :
    Calls Tryz.prog 45 #[.pointer (some ⟨c, 0, none⟩)] w fun e w' => ∃ v, e = .returned v ∧ w'.ownsRow w.heap.size 3 1 v C.dirtyKeys.length (C.dirtyKeys.map encZ) ∧ (v = .slice none 0 0 ↔ C.dirtyKeys = []) ∧ Below w.heap.size w w' := by
  obtain ⟨c0, c1, -⟩ := h.cells
  have hke := h.keys
  refine (callsIn_wide (n := 6)).1 ?_
  have hown := h.dirty.mapOwn
  have hbl := hown.lt
  have hsz := hown.size_le
  have hmax : Maps.size L.Dd ≤ maxLen := by unfold maxLen; omega
  have hbytes : Maps.size L.Dd * 8 ≤ 140737488355328 := by omega
  have hseq : SeqGives Fence.wide 2 Tryz.prog 110 #[.pointer (some ⟨w.heap.size, 0, none⟩)] encZ (fun ss => ss.Perm (intKeys L.Dd)) (Maps.size L.Dd) (w.alloc (.cells #[.map (some L.dm)] 91)) :=
    AnyZI.keys_gives (ρ := Tryz.keysB_ren) { Tryz.keysB with } Fence.wide _ trivial rfl (by omega) w.heap.size L.dm 4096 L.Dd _ (by simp) (by simp) (by
      obtain ⟨es, clock, hb, Ft, hs, hD⟩ := hown
      exact ⟨es, clock, (Below.heap_alloc _ _ L.dm hbl).trans hb, Ft, hs, hD⟩)
  have cK : ∀ mb W, CallsIn Fence.wide 5 Tryz.prog 79 #[.map mb] W fun e w' => e = .returned (.func (.func 110) #[] #[.pointer (some ⟨W.heap.size, 0, none⟩)]) ∧ w' = W.alloc (.cells #[.map mb] 91) := fun mb W => AnyZI.keys_in Tryz.keysB Fence.wide 5 trivial rfl mb W
  have cS := AnyZI.sorted_in Tryz.sortedA Fence.wide 5 trivial trivial trivial trivial rfl (by omega) (sortsA _) (enters_of Tryz.func109 (by kernel_rfl) rfl) 110 #[.pointer (some ⟨w.heap.size, 0, none⟩)] trivial (enters_of Tryz.func110 (by kernel_rfl) rfl) _ _ hmax hbytes _ hseq
  change CallsIn _ _ Tryz.prog 78 _ _ _ at cS
  have hfK : Fence.wide.fn 79 := trivial
  have hfS : Fence.wide.fn 78 := trivial
  have H := hid h.dirty
  have HKe := hid hke
  clear h hown hseq hsz hke
  refine callsIn_of_wp Tryz.func45 rfl trivial ?_ rfl
  simp only [Tryz.ntmps45, List.size_toArray, List.length_cons, List.length_nil, Nat.reduceAdd, Nat.reduceSub, Array.replicate_succ, Array.replicate_zero, List.push_toArray, List.append_toArray, List.nil_append, List.cons_append]
  gi_wp2_with (first
    | (gi_at_call 79; refine (cK _ _).mono ?_; rintro e w' ⟨rfl, rfl⟩)
    | (gi_at_call 78; refine cS.mono ?_; rintro e w' ⟨v, ss, rfl, hS, hrow, hnil, hb⟩))
  go_ret
  have hk := H.out.keys hS
  rw [hk] at hrow
  have hlen : ss.length = (grpKeys L.dv C.N).length := by rw [← hk, List.length_mergeSort]
  rw [HKe.out] at hrow hlen
  refine ⟨v, rfl, ?_, ?_, ((Below.refl _ w).alloc (Nat.le_refl _) _).trans (hb.mono (by simp))⟩
  · rw [← hlen]; exact ownsRow_base_a hrow (by simp)
  · rw [hnil, ← List.length_eq_zero_iff, hlen, List.length_eq_zero_iff]
end
set_option maxRecDepth 100000 in
set_option maxHeartbeats 1000000 in
/-- New. -/
theorem bnew_ok (p : Nat) (d : DL) (S : DiskS) (size : Nat) (F : Nat → Prop) (most : Nat) (hm1 : 1 ≤ most) (hm2 : most ≤ 64) (w : World) (h : LogIn w p d S size 0 F) (hF : ∀ i, F i → i < w.heap.size) (hs : size + 1 ≤ S.safe.length) :
    Calls Tryz.prog 43 #[.pointer (some ⟨p, 0, none⟩), .int .i64 most] w fun e w' => Below w.heap.size w w' ∧ ∃ c L, e = .returned (.tuple #[.pointer (some ⟨c, 0, none⟩), .int .i64 0]) ∧ w.heap.size ≤ c ∧ L.dv = (fun _ => none) ∧ L.F = F ∧ (∀ i, L.foot c i → F i ∨ w.heap.size ≤ i) ∧ CacheAt w' c L ⟨S, size, pagesS S size, fun _ => none, most, 0, fun _ => none⟩ := by
  have H := hid h
  have HF := hid hF
  clear h hF
  have k1 : (1 : Int) ≤ (most : Int) := by omega
  have k2 : (most : Int) ≤ 64 := by omega
  have hmk : ∀ W : World, (Instr.makeMap 91 none).run Tryz.prog W = .ok (.map (some W.heap.size)) (W.alloc (.map #[] 0)) := fun W => by kernel_rfl
  have hmk2 : ∀ W : World, (Instr.makeMap 92 none).run Tryz.prog W = .ok (.map (some W.heap.size)) (W.alloc (.map #[] 0)) := fun W => by kernel_rfl
  go_enter Tryz.func43, Tryz.ntmps43
  go_wp2
  go_returns
  obtain ⟨-, -, m3, -⟩ := new2 w (.map #[] 0) (.map #[] 0)
  have hB2 : Below w.heap.size w ((w.alloc (.map #[] 0)).alloc (.map #[] 0)) := m3
  have hB3 : Below w.heap.size w (((w.alloc (.map #[] 0)).alloc (.map #[] 0)).alloc (.cells #[.pointer (some ⟨p, 0, none⟩), .map (some w.heap.size), .int .i64 most, .int .i64 0, .map (some (w.heap.size + 1))] 96)) := hB2.alloc hB2.size _
  refine ⟨hB3, w.heap.size + 2, ⟨p, w.heap.size, w.heap.size + 1, d, .map [], .map [], fun _ => none, F⟩, ?_, by omega, rfl, rfl, ?_, ?_⟩
  · simp
  · rintro i (hi | hi | hi | hi)
    · exact .inl hi
    · exact .inr (by omega)
    · exact .inr (by simp only at hi; omega)
    · exact .inr (by simp only at hi; omega)
  · obtain ⟨n1, n2, n3, -⟩ := new3 w (.map #[] 0) (.map #[] 0) (.cells #[.pointer (some ⟨p, 0, none⟩), .map (some w.heap.size), .int .i64 most, .int .i64 0, .map (some (w.heap.size + 1))] 96)
    exact {
      heap := n3
      log := H.out.below hB3
      lt := fun i hi => Nat.lt_of_lt_of_le (HF.out i hi) hB3.size
      dirty := grpIn_empty (ownsMap_tight (map_empty n1) (Nat.zero_le _)) _
      bytes := fun n v hv => (by cases hv)
      clean := fun _ _ => rfl
      used := grpIn_empty (ownsMap_tight (map_empty n2) (Nat.zero_le _)) _
      offc := fun hi => (by have := HF.out _ hi; omega)
      offd := fun hi => Nat.lt_irrefl _ (HF.out _ hi)
      offu := fun hi => absurd (HF.out _ hi) (show ¬ (w.heap.size + 1 < w.heap.size) by omega)
      ne := Nat.ne_of_lt (Nat.lt_succ_self _)
      pages := rfl
      fits := hs
      few := Nat.zero_le _
      ub := fun n u hu => (by cases hu) }
end Go.Proofs.YtkkmbgjlmdddoabGreat
/- A log stays when blocks are written that are not its own: told by what lies in them. -/
namespace Go.Proofs.YtkkmbgjlmdddoabGreat
open Go.RowKit
theorem AnyAt.keepN {w w' : World} {d : DL} {S : DiskS} {F G : Nat → Prop} (h : AnyAt w d S F) (hF : ∀ i, F i → ¬ G i) (hop : ∀ ad o, w.cell? ad = some (encOp o) → ¬ G ad.block) (hst : ∀ ad s, w.cell? ad = some (.string s) → ¬ G ad.block) (k : Keeps G w w') : AnyAt w' d S F := by
  rcases h with ⟨h, hf⟩ | ⟨h, hf⟩
  · refine .inl ⟨?_, hf⟩
    have hne : ∀ i, d.cutFoot S.waits i → ¬ G i := fun i hi => hF i (hf i hi)
    obtain ⟨h1, ⟨a, e1, e2, e3⟩, ⟨ad, c, e4, e5, e6⟩, h4⟩ := h
    refine ⟨h1.keep k (hne _ (.inl rfl)) (fun i hi => hne i (.inr hi)), ⟨a, e1, e2, fun q hq => ⟨fun j u hu => ?_, Nat.lt_of_lt_of_le (e3 q hq).2 k.size⟩⟩, ⟨ad, c, e4, fun j s hj => ?_, e6⟩, h4⟩
    · have hc := (e3 q hq).1 j u hu
      rw [List.getElem?_map] at hu
      cases ho : S.ops[j]? with
      | none => rw [ho] at hu; cases hu
      | some o =>
        rw [ho] at hu
        obtain rfl := Option.some.inj hu
        exact k.cell hc (hop _ o hc)
    · exact k.cell (e5 j s hj) (hst _ _ (e5 j s hj))
  · refine .inr ⟨?_, hf⟩
    have hne : ∀ i, d.foot S.waits i → ¬ G i := fun i hi => hF i (hf i hi)
    refine h.keep k hne (fun i hi e => ?_)
    obtain ⟨ad, c, e4, e5, e6⟩ := h.first
    have hpos : 0 < S.first.length := by rw [h.flen]; exact h.plates.pos
    have hc := e5 0 S.first[0] (List.getElem?_eq_getElem hpos)
    have h1 := hst _ _ hc
    rw [add_block] at h1
    rw [e4] at hi
    exact h1 ((Option.some.inj hi).symm ▸ e)
theorem LogIn.keepN {w w' : World} {p : Nat} {d : DL} {S : DiskS} {size rec : Nat} {F G : Nat → Prop} (h : LogIn w p d S size rec F) (hp : ¬ G p) (hF : ∀ i, F i → ¬ G i) (hop : ∀ ad o, w.cell? ad = some (encOp o) → ¬ G ad.block) (hst : ∀ ad s, w.cell? ad = some (.string s) → ¬ G ad.block) (k : Keeps G w w') : LogIn w' p d S size rec F :=
  ⟨k.heap h.heap hp, h.disk.keepN hF hop hst k, h.off⟩
theorem cell_map {w : World} {b : Nat} {es : Array MapEntry} {c : Nat} (h : w.heap[b]? = some (.map es c)) {ad : Addr} {v : Value} (hc : w.cell? ad = some v) : ad.block ≠ b := fun e => by
  have hp := plain_addr hc
  rw [hp, e] at hc
  simp [World.cell?, h] at hc
end Go.Proofs.YtkkmbgjlmdddoabGreat
/- The cache's Read, Write and Abort. -/
namespace Go.Proofs.YtkkmbgjlmdddoabGreat
open Go.RowKit Go.Maps
section
variable {w w' : World} {c : Nat} {L : CLay} {C : CS} {G : Nat → Prop}
/-- What is no part of the cache itself lies elsewhere. -/
theorem CacheAt.out (h : CacheAt w c L C) (hG : ∀ i, G i → i = c ∨ i = L.dm ∨ i = L.um) {ad : Addr} {v : Value} (hc : w.cell? ad = some v) (h1 : ∀ x, v ≠ .pointer x) (h2 : ∀ x, v ≠ .map x) (h3 : ∀ x, v ≠ .int .i64 x) : ¬ G ad.block := fun hg => by
  obtain ⟨es, k, hd⟩ := h.dmap
  obtain ⟨es', k', hu⟩ := h.umap
  rcases hG _ hg with e | e | e
  · have hp := plain_addr hc
    rw [hp, e, cell_of_block h.heap] at hc
    match ad.off, hc with
    | 0, hc => simp at hc; exact h1 _ hc.symm
    | 1, hc => simp at hc; exact h2 _ hc.symm
    | 2, hc => simp at hc; exact h3 _ hc.symm
    | 3, hc => simp at hc; exact h3 _ hc.symm
    | 4, hc => simp at hc; exact h2 _ hc.symm
    | (n + 5), hc => simp at hc
  · exact cell_map hd hc e
  · exact cell_map hu hc e
theorem CacheAt.logKeep (h : CacheAt w c L C) (hG : ∀ i, G i → i = c ∨ i = L.dm ∨ i = L.um) (k : Keeps G w w') : LogIn w' L.p L.d C.S C.size 0 L.F := by
  obtain ⟨es, kk, hd⟩ := h.dmap
  obtain ⟨es', kk', hu⟩ := h.umap
  refine h.log.keepN (fun hg => ?_) (fun i hi hg => ?_) (fun ad o hc => h.out hG hc (fun x => by cases o <;> simp [encOp]) (fun x => by cases o <;> simp [encOp]) (fun x => by cases o <;> simp [encOp])) (fun ad s hc => h.out hG hc (fun x => by simp) (fun x => by simp) (fun x => by simp)) k
  · have hp := h.log.heap
    rcases hG _ hg with e | e | e
    · rw [e, h.heap] at hp
      simp only [Option.some.injEq, Obj.cells.injEq] at hp
      exact absurd hp.2.1 (by decide)
    · rw [e, hd] at hp; cases hp
    · rw [e, hu] at hp; cases hp
  · rcases hG _ hg with e | e | e
    · subst e; exact h.offc hi
    · subst e; exact h.offd hi
    · subst e; exact h.offu hi
theorem CacheAt.bytesKeep (h : CacheAt w c L C) (hG : ∀ i, G i → i = c ∨ i = L.dm ∨ i = L.um) (k : Keeps G w w') : ∀ n v, L.dv n = some v → ∃ g cap bs, C.dirty n = some bs ∧ v = .slice (some ⟨g, 0, none⟩) 512 cap ∧ bytesAt w' ⟨g, 0, none⟩ bs ∧ bs.length = 512 ∧ ¬ L.F g := fun n v hv => by
  obtain ⟨g, cap, bs, h1, h2, h3, h4, h5⟩ := h.bytes n v hv
  exact ⟨g, cap, bs, h1, h2, fun j hj => k.cell (h3 j hj) (h.out hG (h3 j hj) (fun x => by simp) (fun x => by simp) (fun x => by simp)), h4, h5⟩
/-- Behind a use. -/
theorem CacheAt.use {n : Int} (h : CacheAt w c L C) {u' : Int → Option Nat} {D' : DataW Value} (hc : w'.heap[c]? = some (.cells #[.pointer (some ⟨L.p, 0, none⟩), .map (some L.dm), .int .i64 C.most, .int .i64 (C.uses + 1 : Nat), .map (some L.um)] 96 (0, 0))) (hU : GrpIn w' L.um 4096 D' C.N (usedV u')) (hT : UseTo C.used C.most C.N (C.uses + 1) n u') (hk : Keeps (fun i => i = c ∨ i = L.um) w w') (hu : C.uses < 1000000) :
    CacheAt w' c { L with Du := D' } { C with uses := C.uses + 1, used := u' } where
  heap := hc
  log := h.logKeep (fun _ hi => hi.elim .inl (fun e => .inr (.inr e))) hk
  lt := fun i hi => Nat.lt_of_lt_of_le (h.lt i hi) hk.size
  dirty := h.dirty.keep hk (fun e => e.elim (fun e => h.cd e.symm) (fun e => h.ne e))
  bytes := h.bytesKeep (fun _ hi => hi.elim .inl (fun e => .inr (.inr e))) hk
  clean := h.clean
  used := hU
  offc := h.offc
  offd := h.offd
  offu := h.offu
  ne := h.ne
  pages := h.pages
  fits := h.fits
  few := hu
  ub := hT.ub (fun y j hy => Nat.le_succ_of_le (h.ub y j hy))
end
/-- What Read answers. -/
def ReadTo (w w' : World) (c : Nat) (L : CLay) (C : CS) (n : Int) (e : Ending) : Prop :=
  (¬ (0 ≤ n ∧ n < (C.N : Int)) ∧ C.dirty n = none ∧ e = .returned (.tuple #[.slice none 0 0, .int .i64 2]) ∧ Below w.heap.size w w') ∨
  (∃ bs, C.dirty n = some bs ∧ bs.length = 512 ∧ ∃ g cap, e = .returned (.tuple #[.slice (some ⟨g, 0, none⟩) 512 cap, .int .i64 0]) ∧ w.heap.size ≤ g ∧ bytesAt w' ⟨g, 0, none⟩ bs ∧ Below w.heap.size w w') ∨
  (0 ≤ n ∧ n < (C.N : Int) ∧ C.dirty n = none ∧ ∃ g cap, e = .returned (.tuple #[.slice (some ⟨g, 0, none⟩) 512 cap, .int .i64 0]) ∧ w.heap.size ≤ g ∧ bytesAt w' ⟨g, 0, none⟩ (secL C.S (1 + C.size + n.toNat)) ∧ ∃ u' D', UseTo C.used C.most C.N (C.uses + 1) n u' ∧ CacheAt w' c { L with Du := D' } { C with uses := C.uses + 1, used := u' } ∧ Keeps (fun i => i = c ∨ i = L.um) w w')
section
variable {c : Nat} {L : CLay} {C : CS}
set_option maxRecDepth 100000 in
set_option maxHeartbeats 2000000 in
theorem bread_any (n : Int) (hn0 : -9223372036854775808 ≤ n) (hn1 : n < 9223372036854775808) (w : World) (h : CacheAt w c L C) (hM : Made C.S) (hu : C.uses < 1000000) :
    Calls Tryz.prog 29 #[.pointer (some ⟨c, 0, none⟩), .int .i64 n] w fun e w' => ReadTo w w' c L C n e := by
  obtain ⟨c0, c1, -, -, -⟩ := h.cells
  have H := hid h
  have HM := hid hM
  cases hdv : L.dv n with
  | some v =>
    obtain ⟨g0, cap0, bs, h1, rfl, h3, h4, h5⟩ := h.bytes n v hdv
    have HDv := hid hdv
    have HDi := hid h1
    have hcl := bclone_any bs ⟨g0, 0, none⟩ cap0 w (by omega) (by omega) h3
    rw [h4] at hcl
    have HCl := hid hcl
    have H4 := hid h4
    clear h hM hdv h1 h3 h4 h5 hcl
    go_enter Tryz.func29, Tryz.ntmps29
    go_wp2_with (refine wpList_lookup_grp rfl (.tmp 16) (.tmp 17) 91 rfl 57 Tryz.underlying91 (Tryz.zeroValue57 _) rfl H.out.dirty n rfl hn0 hn1 (.slice (some ⟨g0, 0, none⟩) 512 cap0) true (by rw [HDv.out]; rfl) (by rw [HDv.out]; rfl) ?_)
    refine HCl.out.mono ?_
    clear HCl
    rintro e w1 ⟨g, cap, rfl, hrow, hb⟩
    have HB := hid hb
    have HR := hid hrow
    clear hb hrow
    go_wp2
    go_returns
    exact .inr (.inl ⟨bs, HDi.out, H4.out, g, cap, rfl, (HR.out.lt g rfl).1, row_bytesAt HR.out H4.out, HB.out⟩)
  | none =>
    have HDv := hid hdv
    have HDi := hid (h.clean n hdv)
    clear h hM hdv
    by_cases hin : 0 ≤ n ∧ n < (C.N : Int)
    · obtain ⟨hi0, hi1⟩ := hin
      obtain ⟨x, rfl⟩ : ∃ x : Nat, n = (x : Int) := ⟨n.toNat, by omega⟩
      have hxp : x < pagesS C.S C.size := by rw [← H.out.pages]; omega
      have hx1 : C.size + 1 + x < C.S.safe.length := by unfold pagesS at hxp; omega
      have hsz : (seenS C.S.safe C.S.waits ((1 + C.size + x : Nat) : Int)).size = 512 := HM.out.seen (1 + C.size + x) (by omega)
      have hlr := log_read x w H.out.log H.out.fits hxp
      rw [show (1 + (C.size : Int) + (x : Int)) = ((1 + C.size + x : Nat) : Int) by omega, hsz] at hlr
      have HLr := hid hlr
      have hcl := lt_of_heap H.out.heap
      have hpl := H.out.pagesLe
      clear hlr hsz hx1 hxp
      go_enter Tryz.func29, Tryz.ntmps29
      go_wp2_with (refine wpList_lookup_grp rfl (.tmp 16) (.tmp 17) 91 rfl 57 Tryz.underlying91 (Tryz.zeroValue57 _) rfl H.out.dirty (x : Int) rfl hn0 hn1 (.slice none 0 0) false (by rw [HDv.out]; rfl) (by rw [HDv.out]; rfl) ?_)
      refine HLr.out.mono ?_
      clear HLr
      rintro e w1 ⟨g, cap, rfl, hg1, hby, hb1⟩
      have H1 := hid (H.out.below hb1)
      have HBy := hid hby
      have HB1 := hid hb1
      have HUs := hid (buse_any C.used _ _ _ C.most C.uses hu H.out.ub (x : Int) hi0 hi1 hpl w1 H1.out.heap H1.out.used)
      clear hby hb1
      go_wp2_with fail
      refine HUs.out.mono ?_
      clear HUs
      rintro e w2 ⟨rfl, u', D', hc2, hU2, hT2, hK2⟩
      have hby2 : bytesAt w2 ⟨g, 0, none⟩ (secL C.S (1 + C.size + x)) := fun j hj => by
        have h1 := HBy.out j hj
        exact hK2.cell h1 (H1.out.out (G := fun i => i = c ∨ i = L.um) (fun i hi => hi.elim .inl (fun e => .inr (.inr e))) h1 (fun y => by simp) (fun y => by simp) (fun y => by simp))
      have HBy2 := hid hby2
      have HC2 := hid (H1.out.use hc2 hU2 hT2 hK2 hu)
      have HT2 := hid hT2
      have HK2 : Hid (Keeps (fun i => i = c ∨ i = L.um) w w2) := (Keeps.of_below HB1.out).trans hK2 (fun i e => .inl e)
      clear hc2 hU2 hT2 hK2 hby2
      go_wp2
      go_returns
      exact .inr (.inr ⟨hi0, hi1, HDi.out, g, cap, rfl, hg1, by rw [show ((x : Int)).toNat = x by omega]; exact HBy2.out, u', D', HT2.out, HC2.out, HK2.out⟩)
    · have HLr := hid (log_read_no n w H.out.log H.out.fits (by rw [← H.out.pages]; exact hin))
      have HIn := hid hin
      clear hin
      go_enter Tryz.func29, Tryz.ntmps29
      go_wp2_with (refine wpList_lookup_grp rfl (.tmp 16) (.tmp 17) 91 rfl 57 Tryz.underlying91 (Tryz.zeroValue57 _) rfl H.out.dirty n rfl hn0 hn1 (.slice none 0 0) false (by rw [HDv.out]; rfl) (by rw [HDv.out]; rfl) ?_)
      refine HLr.out.mono ?_
      clear HLr
      rintro e w1 ⟨rfl, hb1⟩
      have HB1 := hid hb1
      clear hb1
      go_wp2
      go_returns
      exact .inl ⟨HIn.out, HDi.out, rfl, HB1.out⟩
/-- Pages with one more that was written. -/
def updD (f : Int → Option (List UInt8)) (n : Int) (l : List UInt8) : Int → Option (List UInt8) := fun k => if k = n then some l else f k
theorem CacheAt.wrote {w w1 w2 w3 : World} (h : CacheAt w c L C) {n : Int} {l : List UInt8} {g cap : Nat} {Dd Du : DataW Value} (hl : l.length = 512) (hb1 : Below w.heap.size w w1) (hrow : w1.ownsRow w.heap.size 5 1 (.slice (some ⟨g, 0, none⟩) 512 cap) 512 (l.map U8)) (hd : GrpIn w2 L.dm 4096 Dd C.N (updV L.dv n (.slice (some ⟨g, 0, none⟩) 512 cap))) (hk2 : Keeps (fun i => i = L.dm) w1 w2) (hu : GrpIn w3 L.um 4096 Du C.N (usedV (delN C.used n))) (hk3 : Keeps (fun i => i = L.um) w2 w3) :
    CacheAt w3 c { L with dv := updV L.dv n (.slice (some ⟨g, 0, none⟩) 512 cap), Dd := Dd, Du := Du } { C with dirty := updD C.dirty n l, used := delN C.used n } := by
  have h1 := h.below hb1
  have hk13 : Keeps (fun i => i = L.dm ∨ i = L.um) w1 w3 := (hk2.mono (G := fun i => i = L.dm ∨ i = L.um) (fun i e => .inl e)).trans hk3 (fun i e => .inl (.inr e))
  have hG : ∀ i, (i = L.dm ∨ i = L.um) → i = c ∨ i = L.dm ∨ i = L.um := fun i hi => .inr hi
  have hby := row_bytesAt hrow hl
  obtain ⟨hg1, hg2⟩ := hrow.lt g rfl
  exact {
    heap := hk13.heap h1.heap (fun e => e.elim h.cd h.cu)
    log := h1.logKeep hG hk13
    lt := fun i hi => Nat.lt_of_lt_of_le (h1.lt i hi) hk13.size
    dirty := hd.keep hk3 (fun e => h.ne e)
    bytes := fun k v hv => by
      by_cases e : k = n
      · subst e
        simp only [updV, if_true, Option.some.injEq] at hv
        refine ⟨g, cap, l, by simp [updD], hv.symm, fun j hj => hk13.cell (hby j hj) (h1.out hG (hby j hj) (fun x => by simp) (fun x => by simp) (fun x => by simp)), hl, fun hf => ?_⟩
        have := h.lt g hf
        omega
      · have hv' : L.dv k = some v := by simpa [updV, e] using hv
        obtain ⟨g', cap', bs, a1, a2, a3, a4, a5⟩ := h1.bytesKeep hG hk13 k v hv'
        exact ⟨g', cap', bs, by simpa [updD, e] using a1, a2, a3, a4, a5⟩
    clean := fun k hk => by
      by_cases e : k = n
      · subst e; simp [updV] at hk
      · simp only [updD, if_neg e]; exact h.clean k (by simpa [updV, e] using hk)
    used := hu
    offc := h.offc
    offd := h.offd
    offu := h.offu
    ne := h.ne
    pages := h.pages
    fits := h.fits
    few := h.few
    ub := fun y j hy => by
      simp only [delN] at hy
      split at hy
      · cases hy
      · exact h.ub y j hy }
/-- What Write leaves. -/
def WroteTo (w w' : World) (c : Nat) (L : CLay) (C : CS) (n : Nat) (l : List UInt8) (e : Ending) : Prop :=
  e = .returned (.int .i64 0) ∧ ∃ g cap Dd Du, w.heap.size ≤ g ∧ CacheAt w' c { L with dv := updV L.dv n (.slice (some ⟨g, 0, none⟩) 512 cap), Dd := Dd, Du := Du } { C with dirty := updD C.dirty n l, used := delN C.used n } ∧ Keeps (fun i => i = L.dm ∨ i = L.um) w w'
set_option maxRecDepth 100000 in
set_option maxHeartbeats 4000000 in
theorem bwrite_ok (n : Nat) (l : List UInt8) (ad : Addr) (cp : Nat) (w : World) (h : CacheAt w c L C) (hn : n < C.N) (hl : l.length = 512) (hb : bytesAt w ad l) (hr : (C.dirty n).isSome ∨ C.dirtyKeys.length < min C.size 100) :
    Calls Tryz.prog 54 #[.pointer (some ⟨c, 0, none⟩), .int .i64 n, .slice (some ad) 512 cp] w fun e w' => WroteTo w w' c L C n l e := by
  obtain ⟨c0, c1, -, -, c4⟩ := h.cells
  have H := hid h
  have hcl := lt_of_heap h.heap
  have hpg := log_pages w h.log h.fits
  rw [← h.pages] at hpg
  have HPg := hid hpg
  have hN := h.pagesLe
  have HRm := hid (fun W (hW : Below w.heap.size w W) => broom_any W (h.below hW))
  have hb' : ∀ W, Below w.heap.size w W → bytesAt W ad l := fun W hW j hj => (hW.cell (World.block_lt_of_cell? w _ (hb j hj))).trans (hb j hj)
  have HCl : Hid (∀ W, Below w.heap.size w W → Calls Tryz.prog 58 #[.slice (some ad) 512 cp] W fun e w' => ∃ g cap, e = .returned (.slice (some ⟨g, 0, none⟩) 512 cap) ∧ w'.ownsRow W.heap.size 5 1 (.slice (some ⟨g, 0, none⟩) 512 cap) 512 (l.map U8) ∧ Below W.heap.size W w') := fun W hW => by
    have := bclone_any l ad cp W (by omega) (by omega) (hb' W hW)
    rw [hl] at this
    exact this
  have HL := hid hl
  have hsi := h.some_iff (n : Int)
  have HC : Hid (∀ W, Below w.heap.size w W → W.cell? ⟨c, 0, none⟩ = some (.pointer (some ⟨L.p, 0, none⟩)) ∧ W.cell? ⟨c, 1, none⟩ = some (.map (some L.dm)) ∧ W.cell? ⟨c, 4, none⟩ = some (.map (some L.um))) := fun W hW => by
    obtain ⟨x0, x1, -, -, x4⟩ := (h.below hW).cells
    exact ⟨x0, x1, x4⟩
  clear h hpg hb hb' hl
  have hn0 : ¬ ((n : Int) < 0) := by omega
  have hn1 : ¬ ((n : Int) ≥ (C.N : Int)) := by omega
  have hn2 : (n : Int) < 9223372036854775808 := by omega
  have hn3 : (-9223372036854775808 : Int) ≤ (n : Int) := by omega
  have HN4 := hid hN
  have HN5 := hid hn
  have HCl0 := hid hcl
  clear hn2 hn3 hN hn hcl
  cases hdv : L.dv (n : Int) with
  | some v =>
    have HDv := hid hdv
    clear hdv hr hsi
    go_enter Tryz.func54, Tryz.ntmps54
    go_wp2_with fail
    refine HPg.out.mono ?_
    clear HPg
    rintro e w1 ⟨rfl, hb1⟩
    have HB1 := hid hb1
    have HD1 := hid (H.out.dirty.below hb1)
    obtain ⟨d0, d1, -⟩ := HC.out w1 hb1
    clear hb1 c0 c1 c4
    go_wp2_with (first
      | (at_lookup; refine wpList_lookup_grp rfl (.tmp 29) (.tmp 30) 91 rfl 57 Tryz.underlying91 (Tryz.zeroValue57 _) rfl HD1.out (n : Int) rfl (by omega) (by have := HN4.out; have := HN5.out; omega) v true (by rw [HDv.out]; rfl) (by rw [HDv.out]; rfl) ?_)
      | fail)
    clear d0 d1
    obtain ⟨y0, y1, y4⟩ := HC.out w1 HB1.out
    have HK0 := hid (HCl.out w1.drew HB1.out.drew)
    go_wp2
    refine wp_region_noPanic ?_
    refine wp_region_held_drew (S := fun W => W.cell? ⟨c, 1, none⟩ = some (.map (some L.dm))) (by kernel_rfl) y1 (fun hHeld => ?_)
    refine wpAnyH_take (i := 0) (v := ?_) rfl (by kernel_rfl) (by kernel_rfl) (by kernel_rfl) (fun _ _ _ h => h) (Or.inl ⟨by rfl, ?_⟩) (by assumption) ?_
    rotate_left
    · (intro W hSw; (try dsimp only at hSw); obtain s1 := hSw; go_simp; try with_reducible rfl)
    try simp only [List.getElem_toArray, List.getElem_cons_zero, Act.put, List.setIfInBounds_toArray, List.set_cons_zero, List.set_cons_succ]
    refine wpAnyH_take (i := 1) (v := ?_) rfl (by kernel_rfl) (by kernel_rfl) (by kernel_rfl) (fun _ _ _ h => h) (Or.inl ⟨by rfl, ?_⟩) (by assumption) ?_
    rotate_left
    · (intro W hSw; (try dsimp only at hSw); obtain s1 := hSw; go_simp; try with_reducible rfl)
    try simp only [List.getElem_toArray, List.getElem_cons_succ, List.getElem_cons_zero, Act.put, List.setIfInBounds_toArray, List.set_cons_zero, List.set_cons_succ]
    refine wpAnyH_take (i := 2) (v := ?_) rfl (by kernel_rfl) (by kernel_rfl) (by kernel_rfl) (fun _ _ _ h => h) (Or.inl ⟨by rfl, ?_⟩) (by assumption) ?_
    rotate_left
    · (intro W hSw; (try dsimp only at hSw); obtain s1 := hSw; go_simp; try with_reducible rfl)
    try simp only [List.getElem_toArray, List.getElem_cons_succ, List.getElem_cons_zero, Act.put, List.setIfInBounds_toArray, List.set_cons_zero, List.set_cons_succ]
    refine wpAnyH_take (i := 3) (v := ?_) rfl (by kernel_rfl) (by kernel_rfl) (by kernel_rfl) (fun _ _ _ h => h) (Or.inl ⟨by rfl, ?_⟩) (by assumption) ?_
    rotate_left
    · (intro W hSw; (try dsimp only at hSw); obtain s1 := hSw; go_simp; try with_reducible rfl)
    try simp only [List.getElem_toArray, List.getElem_cons_succ, List.getElem_cons_zero, Act.put, List.setIfInBounds_toArray, List.set_cons_zero, List.set_cons_succ]
    refine wpAnyH_take (i := 4) (v := ?_) rfl (by kernel_rfl) (by kernel_rfl) (by kernel_rfl) (fun _ _ _ h => h) (Or.inl ⟨by rfl, ?_⟩) (by assumption) ?_
    rotate_left
    · (intro W hSw; (try dsimp only at hSw); obtain s1 := hSw; go_simp; try with_reducible rfl)
    try simp only [List.getElem_toArray, List.getElem_cons_succ, List.getElem_cons_zero, Act.put, List.setIfInBounds_toArray, List.set_cons_zero, List.set_cons_succ]
    refine wpAnyH_take (i := 5) (v := ?_) rfl (by kernel_rfl) (by kernel_rfl) (by kernel_rfl) (fun _ _ _ h => h) (Or.inl ⟨by rfl, ?_⟩) (by assumption) ?_
    rotate_left
    · (intro W hSw; (try dsimp only at hSw); obtain s1 := hSw; go_simp; try with_reducible rfl)
    try simp only [List.getElem_toArray, List.getElem_cons_succ, List.getElem_cons_zero, Act.put, List.setIfInBounds_toArray, List.set_cons_zero, List.set_cons_succ]
    refine wpAnyH_ready (rs := [6]) (by kernel_rfl) (by simp) (AllReadyH.cons rfl (fun K hK => ?_) AllReadyH.nil)
    rw [if_pos (by rfl)]
    go_simp
    refine HK0.out.mono ?_
    clear HK0
    rintro e w3 ⟨g, cap, rfl, hrow, hb3⟩
    have hB3 : Below w.heap.size w w3 := HB1.out.drew.trans (hb3.mono HB1.out.drew.size)
    have H3 := hid (H.out.below hB3)
    have HRw := hid (World.ownsRow.mono hrow HB1.out.drew.size)
    have HB3 := hid hB3
    obtain ⟨z0, z1, z4⟩ := HC.out w3 hB3
    clear hb3 hrow hB3 y0 y1 y4
    go_wp2_with fail
    refine hK.out _ _ z1 (fun hHeld => ?_)
    clear hK K
    try simp only [List.getElem_toArray, List.getElem_cons_succ, List.getElem_cons_zero, Act.put, List.setIfInBounds_toArray, List.set_cons_zero, List.set_cons_succ]
    refine wpAnyH_ready (rs := [7]) (by kernel_rfl) (by simp) (AllReadyH.cons rfl (fun K hK => ?_) AllReadyH.nil)
    rw [if_pos (by rfl)]
    refine wp_mapUpdate_self (.tmp 44) (.tmp 45) (.tmp 47) 91 rfl 3 57 (int_keyed Tryz.underlying3) Tryz.underlying91 L.dm 4096 L.Dd rfl H3.out.dirty.mapOwn (by unfold maxLen; omega) (.int .i64 (n : Int)) (.slice (some ⟨g, 0, none⟩) 512 cap) (.int .i64 (n : Int)) rfl rfl (keyI (by omega) (by have := HN4.out; have := HN5.out; omega)) ?_
    intro w4 hown4 hgr4
    have HG4 := hid ((H3.out.dirty.put (by omega) (by have := HN5.out; omega) hown4).norm HN4.out)
    have hK34 : Keeps (fun i => i = L.dm) w3 w4 := (Keeps.refl _ w3).grown hgr4 (fun i e => .inl (Option.some.inj e).symm)
    have HK34 := hid hK34
    have x1 : w4.cell? ⟨c, 1, none⟩ = some (.map (some L.dm)) := hK34.cell (ad := ⟨c, 1, none⟩) z1 (fun e => H.out.cd e)
    have x4 : w4.cell? ⟨c, 4, none⟩ = some (.map (some L.um)) := hK34.cell (ad := ⟨c, 4, none⟩) z4 (fun e => H.out.cd e)
    have HU4 := hid (H3.out.used.keep hK34 (fun e => H.out.ne e.symm))
    have HDr := hid (bdrop_any (c := c) (usedV C.used) (n : Int) (by omega) (by have := HN4.out; have := HN5.out; omega) w4 x4 HU4.out)
    clear hown4 hgr4 hK34 z0 z1 z4
    refine hK.out _ _ x1 (fun hHeld => ?_)
    clear hK K
    refine wpAnyH_done (by kernel_rfl) ?_ _
    refine NoPanic.normal ?_
    clear hHeld x1 x4
    go_wp2_with fail
    refine HDr.out.mono ?_
    clear HDr
    rintro e w5 ⟨rfl, D5, hG5, hg5⟩
    rw [usedV_del] at hG5
    have hK45 : Keeps (fun i => i = L.um) w4 w5 := (Keeps.refl _ w4).grown hg5 (fun i e => .inl (Option.some.inj e).symm)
    have HC5 := hid (H.out.wrote HL.out HB3.out HRw.out HG4.out HK34.out hG5 hK45)
    have HK5 : Hid (Keeps (fun i => i = L.dm ∨ i = L.um) w w5) := ((Keeps.of_below HB3.out).trans HK34.out (fun i e => .inl (.inl e))).trans hK45 (fun i e => .inl (.inr e))
    have HGe : Hid (w.heap.size ≤ g) := (HRw.out.lt g rfl).1
    clear hG5 hg5 hK45
    go_wp2
    go_ret
    exact ⟨rfl, g, cap, _, D5, HGe.out, HC5.out, HK5.out⟩
  | none =>
    have HDv := hid hdv
    have hdk : C.dirtyKeys.length < min C.size 100 := by
      rcases hr with h1 | h1
      · rw [hdv] at hsi; rw [← hsi] at h1; cases h1
      · exact h1
    clear hdv hr hsi
    have hcp : min C.size 100 ≤ 100 := by omega
    generalize min C.size 100 = cpp at *
    generalize C.dirtyKeys.length = dk at *
    have hne : ((cpp : Int) - (dk : Int) == 0) = false := beq_eq_false_iff_ne.2 (by omega)
    have hne' : ¬ ((cpp : Int) - (dk : Int) = 0) := by omega
    go_enter Tryz.func54, Tryz.ntmps54
    go_wp2_with fail
    refine HPg.out.mono ?_
    clear HPg
    rintro e w1 ⟨rfl, hb1⟩
    have HB1 := hid hb1
    have HD1 := hid (H.out.dirty.below hb1)
    obtain ⟨d0, d1, -⟩ := HC.out w1 hb1
    have HR1 := hid (HRm.out w1 hb1)
    clear hb1 c0 c1 c4 HRm
    go_wp2_with (first
      | (at_lookup; refine wpList_lookup_grp rfl (.tmp 29) (.tmp 30) 91 rfl 57 Tryz.underlying91 (Tryz.zeroValue57 _) rfl HD1.out (n : Int) rfl (by omega) (by have := HN4.out; have := HN5.out; omega) (.slice none 0 0) false (by rw [HDv.out]; rfl) (by rw [HDv.out]; rfl) ?_)
      | fail)
    refine HR1.out.mono ?_
    clear HR1
    rintro e w2 ⟨rfl, hb2⟩
    have HB2 := hid (HB1.out.trans (hb2.mono HB1.out.size))
    clear hb2 d0 d1
    obtain ⟨y0, y1, y4⟩ := HC.out w2 HB2.out
    have HK0 := hid (HCl.out w2.drew HB2.out.drew)
    go_wp2
    refine wp_region_noPanic ?_
    refine wp_region_held_drew (S := fun W => W.cell? ⟨c, 1, none⟩ = some (.map (some L.dm))) (by kernel_rfl) y1 (fun hHeld => ?_)
    refine wpAnyH_take (i := 0) (v := ?_) rfl (by kernel_rfl) (by kernel_rfl) (by kernel_rfl) (fun _ _ _ h => h) (Or.inl ⟨by rfl, ?_⟩) (by assumption) ?_
    rotate_left
    · (intro W hSw; (try dsimp only at hSw); obtain s1 := hSw; go_simp; try with_reducible rfl)
    try simp only [List.getElem_toArray, List.getElem_cons_zero, Act.put, List.setIfInBounds_toArray, List.set_cons_zero, List.set_cons_succ]
    refine wpAnyH_take (i := 1) (v := ?_) rfl (by kernel_rfl) (by kernel_rfl) (by kernel_rfl) (fun _ _ _ h => h) (Or.inl ⟨by rfl, ?_⟩) (by assumption) ?_
    rotate_left
    · (intro W hSw; (try dsimp only at hSw); obtain s1 := hSw; go_simp; try with_reducible rfl)
    try simp only [List.getElem_toArray, List.getElem_cons_succ, List.getElem_cons_zero, Act.put, List.setIfInBounds_toArray, List.set_cons_zero, List.set_cons_succ]
    refine wpAnyH_take (i := 2) (v := ?_) rfl (by kernel_rfl) (by kernel_rfl) (by kernel_rfl) (fun _ _ _ h => h) (Or.inl ⟨by rfl, ?_⟩) (by assumption) ?_
    rotate_left
    · (intro W hSw; (try dsimp only at hSw); obtain s1 := hSw; go_simp; try with_reducible rfl)
    try simp only [List.getElem_toArray, List.getElem_cons_succ, List.getElem_cons_zero, Act.put, List.setIfInBounds_toArray, List.set_cons_zero, List.set_cons_succ]
    refine wpAnyH_take (i := 3) (v := ?_) rfl (by kernel_rfl) (by kernel_rfl) (by kernel_rfl) (fun _ _ _ h => h) (Or.inl ⟨by rfl, ?_⟩) (by assumption) ?_
    rotate_left
    · (intro W hSw; (try dsimp only at hSw); obtain s1 := hSw; go_simp; try with_reducible rfl)
    try simp only [List.getElem_toArray, List.getElem_cons_succ, List.getElem_cons_zero, Act.put, List.setIfInBounds_toArray, List.set_cons_zero, List.set_cons_succ]
    refine wpAnyH_take (i := 4) (v := ?_) rfl (by kernel_rfl) (by kernel_rfl) (by kernel_rfl) (fun _ _ _ h => h) (Or.inl ⟨by rfl, ?_⟩) (by assumption) ?_
    rotate_left
    · (intro W hSw; (try dsimp only at hSw); obtain s1 := hSw; go_simp; try with_reducible rfl)
    try simp only [List.getElem_toArray, List.getElem_cons_succ, List.getElem_cons_zero, Act.put, List.setIfInBounds_toArray, List.set_cons_zero, List.set_cons_succ]
    refine wpAnyH_take (i := 5) (v := ?_) rfl (by kernel_rfl) (by kernel_rfl) (by kernel_rfl) (fun _ _ _ h => h) (Or.inl ⟨by rfl, ?_⟩) (by assumption) ?_
    rotate_left
    · (intro W hSw; (try dsimp only at hSw); obtain s1 := hSw; go_simp; try with_reducible rfl)
    try simp only [List.getElem_toArray, List.getElem_cons_succ, List.getElem_cons_zero, Act.put, List.setIfInBounds_toArray, List.set_cons_zero, List.set_cons_succ]
    refine wpAnyH_ready (rs := [6]) (by kernel_rfl) (by simp) (AllReadyH.cons rfl (fun K hK => ?_) AllReadyH.nil)
    rw [if_pos (by rfl)]
    go_simp
    refine HK0.out.mono ?_
    clear HK0
    rintro e w3 ⟨g, cap, rfl, hrow, hb3⟩
    have hB3 : Below w.heap.size w w3 := HB2.out.drew.trans (hb3.mono HB2.out.drew.size)
    have H3 := hid (H.out.below hB3)
    have HRw := hid (World.ownsRow.mono hrow HB2.out.drew.size)
    have HB3 := hid hB3
    obtain ⟨z0, z1, z4⟩ := HC.out w3 hB3
    clear hb3 hrow hB3 y0 y1 y4
    go_wp2_with fail
    refine hK.out _ _ z1 (fun hHeld => ?_)
    clear hK K
    try simp only [List.getElem_toArray, List.getElem_cons_succ, List.getElem_cons_zero, Act.put, List.setIfInBounds_toArray, List.set_cons_zero, List.set_cons_succ]
    refine wpAnyH_ready (rs := [7]) (by kernel_rfl) (by simp) (AllReadyH.cons rfl (fun K hK => ?_) AllReadyH.nil)
    rw [if_pos (by rfl)]
    refine wp_mapUpdate_self (.tmp 44) (.tmp 45) (.tmp 47) 91 rfl 3 57 (int_keyed Tryz.underlying3) Tryz.underlying91 L.dm 4096 L.Dd rfl H3.out.dirty.mapOwn (by unfold maxLen; omega) (.int .i64 (n : Int)) (.slice (some ⟨g, 0, none⟩) 512 cap) (.int .i64 (n : Int)) rfl rfl (keyI (by omega) (by have := HN4.out; have := HN5.out; omega)) ?_
    intro w4 hown4 hgr4
    have HG4 := hid ((H3.out.dirty.put (by omega) (by have := HN5.out; omega) hown4).norm HN4.out)
    have hK34 : Keeps (fun i => i = L.dm) w3 w4 := (Keeps.refl _ w3).grown hgr4 (fun i e => .inl (Option.some.inj e).symm)
    have HK34 := hid hK34
    have x1 : w4.cell? ⟨c, 1, none⟩ = some (.map (some L.dm)) := hK34.cell (ad := ⟨c, 1, none⟩) z1 (fun e => H.out.cd e)
    have x4 : w4.cell? ⟨c, 4, none⟩ = some (.map (some L.um)) := hK34.cell (ad := ⟨c, 4, none⟩) z4 (fun e => H.out.cd e)
    have HU4 := hid (H3.out.used.keep hK34 (fun e => H.out.ne e.symm))
    have HDr := hid (bdrop_any (c := c) (usedV C.used) (n : Int) (by omega) (by have := HN4.out; have := HN5.out; omega) w4 x4 HU4.out)
    clear hown4 hgr4 hK34 z0 z1 z4
    refine hK.out _ _ x1 (fun hHeld => ?_)
    clear hK K
    refine wpAnyH_done (by kernel_rfl) ?_ _
    refine NoPanic.normal ?_
    clear hHeld x1 x4
    go_wp2_with fail
    refine HDr.out.mono ?_
    clear HDr
    rintro e w5 ⟨rfl, D5, hG5, hg5⟩
    rw [usedV_del] at hG5
    have hK45 : Keeps (fun i => i = L.um) w4 w5 := (Keeps.refl _ w4).grown hg5 (fun i e => .inl (Option.some.inj e).symm)
    have HC5 := hid (H.out.wrote HL.out HB3.out HRw.out HG4.out HK34.out hG5 hK45)
    have HK5 : Hid (Keeps (fun i => i = L.dm ∨ i = L.um) w w5) := ((Keeps.of_below HB3.out).trans HK34.out (fun i e => .inl (.inl e))).trans hK45 (fun i e => .inl (.inr e))
    have HGe : Hid (w.heap.size ≤ g) := (HRw.out.lt g rfl).1
    clear hG5 hg5 hK45
    go_wp2
    go_ret
    exact ⟨rfl, g, cap, _, D5, HGe.out, HC5.out, HK5.out⟩
end
end Go.Proofs.YtkkmbgjlmdddoabGreat
/- The cache's Abort and Commit. -/
namespace Go.Proofs.YtkkmbgjlmdddoabGreat
open Go.RowKit Go.Maps
theorem run_clearB {w : World} {m : Nat} {es : Array MapEntry} {clock : Nat} (hb : w.heap[m]? = some (.map es clock)) : ∃ w', (∀ ty, (Builtin.clear_ #[91] ty #[.map (some m)]).run Tryz.prog w = .ok (.tuple #[]) w') ∧ w'.heap[m]? = some (.map #[] clock) ∧ w.grownBy w' (some m) := by
  refine ⟨{ w with heap := w.heap.setIfInBounds m (.map #[] clock) }, fun ty => ?_, ?_, ⟨rfl, rfl, rfl, by simp, fun k _ hk => ?_⟩⟩
  · simp [Builtin.clear_, run_underlying Tryz.underlying91, MapKept.run_getObj_map hb, MapKept.run_setObj_map _ hb, Result.andThen]
  · simp [lt_of_heap hb]
  · have hne : m ≠ k := fun e => hk (by rw [e])
    simp [hne]
section
variable {w w' : World} {c : Nat} {L : CLay} {C : CS}
theorem CacheAt.cleared (h : CacheAt w c L C) {clock : Nat} (hm : w'.heap[L.dm]? = some (.map #[] clock)) (hg : w.grownBy w' (some L.dm)) : CacheAt w' c { L with Dd := .map [], dv := fun _ => none } { C with dirty := fun _ => none } := by
  have hk : Keeps (fun i => i = L.dm) w w' := (Keeps.refl _ w).grown hg (fun i e => .inl (Option.some.inj e).symm)
  have hG : ∀ i, i = L.dm → i = c ∨ i = L.dm ∨ i = L.um := fun i e => .inr (.inl e)
  exact {
    heap := hk.heap h.heap (fun e => h.cd e)
    log := h.logKeep hG hk
    lt := fun i hi => Nat.lt_of_lt_of_le (h.lt i hi) hk.size
    dirty := grpIn_empty (ownsMap_tight (C := 4096) ⟨#[], clock, hm, ⟨by simp, MapKept.stamped_empty _, by simp⟩, Nat.le_refl _, rfl⟩ (Nat.zero_le _)) _
    bytes := fun n v hv => (by cases hv)
    clean := fun _ _ => rfl
    used := h.used.keep hk (fun e => h.ne e.symm)
    offc := h.offc
    offd := h.offd
    offu := h.offu
    ne := h.ne
    pages := h.pages
    fits := h.fits
    few := h.few
    ub := h.ub }
end
section
variable {w w' : World} {c : Nat} {L : CLay} {C : CS}
theorem CacheAt.committed (h : CacheAt w c L C) {S' : DiskS} {d' : DL} {F' : Nat → Prop} (hlog : LogIn w' L.p d' S' C.size 0 F') (hk : Keeps L.F w w') (hF : ∀ i, F' i → L.F i ∨ (w.heap.size ≤ i ∧ i < w'.heap.size)) (hS : S'.safe.length = C.S.safe.length) : CacheAt w' c { L with d := d', F := F' } { C with S := S' } := by
  have hoff : ∀ i, i < w.heap.size → ¬ L.F i → ¬ F' i := fun i h1 h2 h3 => by
    rcases hF i h3 with h4 | h4
    · exact h2 h4
    · omega
  obtain ⟨es, kk, hd⟩ := h.dmap
  obtain ⟨es', kk', hu⟩ := h.umap
  exact {
    heap := hk.heap h.heap h.offc
    log := hlog
    lt := fun i hi => by
      rcases hF i hi with h4 | h4
      · exact Nat.lt_of_lt_of_le (h.lt i h4) hk.size
      · exact h4.2
    dirty := h.dirty.keep hk h.offd
    bytes := fun n v hv => by
      obtain ⟨g, cap, bs, a1, a2, a3, a4, a5⟩ := h.bytes n v hv
      have hlt : g < w.heap.size := World.block_lt_of_cell? w _ (a3 0 (by omega))
      exact ⟨g, cap, bs, a1, a2, fun j hj => hk.cell (a3 j hj) (by rw [add_block]; exact a5), a4, hoff g hlt a5⟩
    clean := h.clean
    used := h.used.keep hk h.offu
    offc := hoff c (lt_of_heap h.heap) h.offc
    offd := hoff _ (lt_of_heap hd) h.offd
    offu := hoff _ (lt_of_heap hu) h.offu
    ne := h.ne
    pages := by rw [h.pages]; simp only [pagesS, hS]
    fits := by rw [show ({ C with S := S' } : CS).S.safe.length = C.S.safe.length from hS]; exact h.fits
    few := h.few
    ub := h.ub }
end
/-- The disk behind a Commit. -/
def CS.com (C : CS) : DiskS := if C.dirtyKeys = [] then C.S else writtenS C.S C.size (fun n => (C.dirty n).getD []) C.dirtyKeys
/-- The page that stands for a number. -/
def CLay.page (L : CLay) (n : Int) : PageS := match L.dv n with
  | some (.slice a l c) => ⟨n, a, l, c⟩
  | _ => ⟨n, none, 0, 0⟩
def CLay.ps (L : CLay) (ks : List Int) : List PageS := ks.map L.page
/-- The cells of pages. -/
def CLay.cells (L : CLay) (ks : List Int) : List Value := ks.flatMap (fun n => [.int .i64 n, (L.page n).val])
theorem length_cells (L : CLay) (ks : List Int) : (L.cells ks).length = ks.length * 2 := by
  induction ks with
  | nil => rfl
  | cons n ks ih => simp only [CLay.cells] at ih ⊢; simp [ih]; omega
theorem cells_at (L : CLay) : ∀ (ks : List Int) (j : Nat) (hj : j < ks.length), (L.cells ks)[j * 2]? = some (.int .i64 ks[j]) ∧ (L.cells ks)[j * 2 + 1]? = some (L.page ks[j]).val
  | n :: ks, 0, _ => ⟨rfl, rfl⟩
  | n :: ks, j + 1, hj => by
    have := cells_at L ks j (by simpa using hj)
    have e : L.cells (n :: ks) = .int .i64 n :: (L.page n).val :: L.cells ks := rfl
    rw [e, show (j + 1) * 2 = j * 2 + 1 + 1 by omega]
    simpa using this
theorem cells_snoc (L : CLay) (ks : List Int) (n : Int) : L.cells (ks ++ [n]) = L.cells ks ++ [.int .i64 n, (L.page n).val] := by simp [CLay.cells]
section
variable {w : World} {c : Nat} {L : CLay} {C : CS}
theorem CacheAt.page (h : CacheAt w c L C) {n : Int} (hn : n ∈ C.dirtyKeys) : ∃ g cap bs, L.dv n = some (.slice (some ⟨g, 0, none⟩) 512 cap) ∧ L.page n = ⟨n, some ⟨g, 0, none⟩, 512, cap⟩ ∧ C.dirty n = some bs ∧ bytesAt w ⟨g, 0, none⟩ bs ∧ bs.length = 512 ∧ ¬ L.F g ∧ 0 ≤ n ∧ n < (C.N : Int) := by
  rw [← h.keys, mem_grpKeys] at hn
  obtain ⟨h0, h1, h2⟩ := hn
  obtain ⟨v, hv⟩ := Option.isSome_iff_exists.1 h2
  obtain ⟨g, cap, bs, a1, rfl, a3, a4, a5⟩ := h.bytes n v hv
  exact ⟨g, cap, bs, hv, by simp [CLay.page, hv], a1, a3, a4, a5, h0, h1⟩
theorem CacheAt.psLen (_ : CacheAt w c L C) (j : Nat) (hj : j < C.dirtyKeys.length) : (L.ps C.dirtyKeys)[j]? = some (L.page C.dirtyKeys[j]) := by simp [CLay.ps, hj]
theorem page_n (L : CLay) (n : Int) : (L.page n).n = n := by
  unfold CLay.page
  split <;> rfl
theorem CacheAt.grpVal (h : CacheAt w c L C) : ∀ (j : Nat), j ≤ C.dirtyKeys.length → ∀ n, Go.Proofs.YtkkmbgjlmdddoabGreat.grpVal (L.ps C.dirtyKeys) j n = if n ∈ C.dirtyKeys.take j then L.dv n else none
  | 0, _, n => by simp [Go.Proofs.YtkkmbgjlmdddoabGreat.grpVal]
  | j + 1, hj, n => by
    rw [Go.Proofs.YtkkmbgjlmdddoabGreat.grpVal, h.psLen j hj]
    simp only [updV, page_n, h.grpVal j (by omega) n]
    rw [List.take_succ_eq_append_getElem hj]
    simp only [List.mem_append, List.mem_singleton]
    by_cases e : n = C.dirtyKeys[j]
    · obtain ⟨g, cap, bs, h1, h2, -⟩ := h.page (n := n) (by rw [e]; exact List.getElem_mem hj)
      simp only [e, if_true, or_true]
      rw [← e, h1, h2]; rfl
    · simp [e]
theorem CacheAt.grpL (h : CacheAt w c L C) : ∀ (j : Nat), j ≤ C.dirtyKeys.length → ∀ n, Go.Proofs.YtkkmbgjlmdddoabGreat.grpL (L.ps C.dirtyKeys) (fun j => (C.dirty (C.dirtyKeys.getD j 0)).getD []) j n = if n ∈ C.dirtyKeys.take j then (C.dirty n).getD [] else []
  | 0, _, n => by simp [Go.Proofs.YtkkmbgjlmdddoabGreat.grpL]
  | j + 1, hj, n => by
    rw [Go.Proofs.YtkkmbgjlmdddoabGreat.grpL, h.psLen j hj]
    simp only [Option.map_some, Option.some.injEq, page_n, h.grpL j (by omega) n]
    rw [List.take_succ_eq_append_getElem hj]
    simp only [List.mem_append, List.mem_singleton]
    by_cases e : n = C.dirtyKeys[j]
    · subst e
      have hj' : j < C.dirtyKeys.length := hj
      simp [List.getElem?_eq_getElem hj']
    · simp [e, Ne.symm e]
theorem CacheAt.grpErr (h : CacheAt w c L C) : ∀ (j : Nat), j ≤ C.dirtyKeys.length → Go.Proofs.YtkkmbgjlmdddoabGreat.grpErr (L.ps C.dirtyKeys) j = 0
  | 0, _ => rfl
  | j + 1, hj => by
    rw [Go.Proofs.YtkkmbgjlmdddoabGreat.grpErr, h.psLen j hj]
    simp only [page_n, h.grpErr j (by omega), h.grpVal j (by omega)]
    obtain ⟨g, cap, bs, h1, h2, -⟩ := h.page (n := C.dirtyKeys[j]) (List.getElem_mem hj)
    have hno : ¬ C.dirtyKeys[j] ∈ C.dirtyKeys.take j := fun hm => by
      obtain ⟨i, hi, e⟩ := List.mem_iff_getElem.1 hm
      have hp := sorted_grpKeys L.dv C.N
      rw [h.keys] at hp
      have hi' : i < j := by simp at hi; omega
      have := List.pairwise_iff_getElem.1 hp i j (by omega) hj hi'
      rw [List.getElem_take] at e
      omega
    rw [if_neg hno, if_neg (by rw [h2]; simp)]
theorem CacheAt.com (h : CacheAt w c L C) (hr : C.dirtyKeys.length ≤ min C.size 100) : comErr (pagesS C.S C.size) C.size (L.ps C.dirtyKeys) = 0 ∧ comS C.S C.size (L.ps C.dirtyKeys) (fun j => (C.dirty (C.dirtyKeys.getD j 0)).getD []) = C.com := by
  have hl : (L.ps C.dirtyKeys).length = C.dirtyKeys.length := by simp [CLay.ps]
  have he : comErr (pagesS C.S C.size) C.size (L.ps C.dirtyKeys) = 0 := by
    unfold comErr
    rw [hl]
    split
    · rfl
    · rw [if_neg (by omega), if_pos, h.grpErr _ (Nat.le_refl _)]
      rw [inPages_iff]
      intro j hj
      rw [hl] at hj
      have e : (L.ps C.dirtyKeys)[j] = L.page C.dirtyKeys[j] := by simp [CLay.ps]
      obtain ⟨g, cap, bs, -, -, -, -, -, -, h1, h2⟩ := h.page (n := C.dirtyKeys[j]) (List.getElem_mem hj)
      rw [e, page_n, ← h.pages]
      exact ⟨h1, h2⟩
  refine ⟨he, ?_⟩
  unfold comS CS.com
  rw [hl]
  by_cases h0 : C.dirtyKeys = []
  · rw [if_neg (fun hh => hh.2 (by rw [h0]; rfl)), if_pos h0]
  · rw [if_pos ⟨he, fun e => h0 (List.length_eq_zero_iff.1 e)⟩, if_neg h0]
    have e1 : Go.Proofs.YtkkmbgjlmdddoabGreat.grpL (L.ps C.dirtyKeys) (fun j => (C.dirty (C.dirtyKeys.getD j 0)).getD []) C.dirtyKeys.length = fun n => (C.dirty n).getD [] := by
      funext n
      rw [h.grpL _ (Nat.le_refl _), List.take_length]
      split
      · rfl
      · rename_i hn
        cases hv : L.dv n with
        | none => rw [h.clean n hv]; rfl
        | some v =>
          exact absurd (by rw [← h.keys, mem_grpKeys]; exact ⟨(h.dirty.dom n v hv).1, (h.dirty.dom n v hv).2, by rw [hv]; rfl⟩) hn
    have e2 : grpKeys (Go.Proofs.YtkkmbgjlmdddoabGreat.grpVal (L.ps C.dirtyKeys) C.dirtyKeys.length) (pagesS C.S C.size) = C.dirtyKeys := by
      rw [← h.pages]
      refine Eq.trans ?_ h.keys
      unfold grpKeys
      refine List.filter_congr (fun n hn => ?_)
      rw [h.grpVal _ (Nat.le_refl _), List.take_length]
      split
      · rfl
      · rename_i hq
        cases hv : L.dv n with
        | none => rfl
        | some v => exact absurd (by rw [← h.keys, mem_grpKeys]; exact ⟨(h.dirty.dom n v hv).1, (h.dirty.dom n v hv).2, by rw [hv]; rfl⟩) hq
    rw [e1, e2]
theorem CacheAt.pagesOf (_ : CacheAt w c L C) {W : World} {B : Nat} {v : Value} (hrow : W.ownsRow B 63 2 v C.dirtyKeys.length (L.cells C.dirtyKeys)) : ∃ pa cap, v = .slice pa C.dirtyKeys.length cap ∧ pagesAt W pa (L.ps C.dirtyKeys) := by
  have hl : (L.ps C.dirtyKeys).length = C.dirtyKeys.length := by simp [CLay.ps]
  rcases Joins.ownsRow_forms hrow with ⟨rfl, h0⟩ | ⟨g, cap, rfl⟩
  · rw [h0]
    exact ⟨none, 0, rfl, fun j hj => by omega⟩
  · refine ⟨some ⟨g, 0, none⟩, cap, rfl, fun j hj => ⟨g, 0, rfl, fun i hi => ?_⟩⟩
    rw [hl] at hi
    obtain ⟨a, b⟩ := cells_at L C.dirtyKeys i hi
    have c0 := hrow.cellAt (i * 2) (by omega)
    have c1 := hrow.cellAt (i * 2 + 1) (by omega)
    rw [a] at c0
    rw [b] at c1
    have e : (L.ps C.dirtyKeys)[i] = L.page C.dirtyKeys[i] := by simp [CLay.ps]
    rw [e, page_n, Nat.zero_add]
    exact ⟨c0, c1⟩
set_option maxRecDepth 100000 in
set_option maxHeartbeats 2000000 in
/-- Commit. -/
theorem bcommit_any (w : World) (h : CacheAt w c L C) (hr : C.dirtyKeys.length ≤ min C.size 100) (ho : C.S.ops.length ≤ 800000) :
    Calls Tryz.prog 21 #[.pointer (some ⟨c, 0, none⟩)] w fun e w' => e = .returned (.int .i64 0) ∧ ∃ d' F', (∀ i, L.F i → F' i) ∧ (∀ i, F' i → L.F i ∨ w.heap.size ≤ i) ∧ CacheAt w' c { L with d := d', F := F', Dd := .map [], dv := fun _ => none } { C with S := C.com, dirty := fun _ => none } ∧ Keeps (fun i => L.F i ∨ i = L.dm) w w' := by
  obtain ⟨c0, c1, -⟩ := h.cells
  obtain ⟨i0, hi, hz0, hz1, hz2⟩ := info_parts infoPage
  have HI0 := hid hi
  have HDi := hid (bdirty_any w h)
  have H := hid h
  have HPg := hid (fun n (hn : n ∈ C.dirtyKeys) => h.page hn)
  have HCo := hid (h.com hr)
  have HSl : Hid (C.com.safe.length = C.S.safe.length) := by unfold Hid; rw [← (h.com hr).2]; exact comS_len _ _ _ _
  have hks : C.dirtyKeys.length ≤ 100 := by omega
  have hcl := lt_of_heap h.heap
  clear h hi hr
  go_enter Tryz.func21, Tryz.ntmps21
  go_wp2_with fail
  refine HDi.out.mono ?_
  clear HDi
  rintro e w1 ⟨v, rfl, hrow, -, hb1⟩
  obtain ⟨ra, rc, rfl, hints⟩ := row_slice hrow
  have HI := hid hints
  have HB1 := hid hb1
  have hs1 := hb1.size
  clear hrow hb1 hints
  have hlook : ∀ n ∈ C.dirtyKeys, ∀ W : World, Below w.heap.size w W → (Instr.lookup 91 (.map (some L.dm)) (.int .i64 n) false).run Tryz.prog W = .ok (L.page n).val W := fun n hn W hW => by
    have hgW := H.out.dirty.below hW
    obtain ⟨g, cap, bs, h1, h2, -, -, -, -, h0, h3⟩ := HPg.out n hn
    have hN := H.out.pagesLe
    obtain ⟨u, hr, hu⟩ := self_lookup hgW.mapOwn (int_keyed Tryz.underlying3) Tryz.underlying91 (Tryz.zeroValue57 W) (keyI (n := n) (by omega) (by omega))
    rw [hr]
    rw [hgW.held n _ h1] at hu
    rw [← DataW.held.inj hu, h2]
    rfl
  have HLk := hid hlook
  clear hlook
  have HPo := hid (fun (W : World) (B : Nat) (v : Value) hrow => H.out.pagesOf (W := W) (B := B) (v := v) hrow)
  generalize hkeq : C.dirtyKeys = ks at *
  go_wp2
  go_loopw [3, 12] (fun v i wr => ∃ k : Nat, k ≤ ks.length ∧ i = .int .i64 k ∧ Hid (wr.ownsRow w1.heap.size 63 2 v k (L.cells (ks.take k))) ∧ Hid (Below w1.heap.size w1 wr)) (fun _ i _ => ks.length - (intOf i).toNat)
  case atStart => exact ⟨0, by omega, rfl, World.ownsRow_nil _ _ _ _, Below.refl _ _⟩
  case round =>
    obtain ⟨k, hk, rfl, hO, hB⟩ := hrel
    have hBw := HB1.out.trans (hB.out.mono hs1)
    have c1r : wr.cell? ⟨c, 1, none⟩ = some (.map (some L.dm)) := (hBw.cell (p := ⟨c, 1, none⟩) hcl).trans c1
    have c0r : wr.cell? ⟨c, 0, none⟩ = some (.pointer (some ⟨L.p, 0, none⟩)) := (hBw.cell (p := ⟨c, 0, none⟩) hcl).trans c0
    have HBw := hid hBw
    clear hBw
    by_cases hlt : k < ks.length
    · have hk0 : (0 : Int) ≤ (k : Int) := by omega
      have hk1 : (k : Int) < (ks.length : Int) := by omega
      obtain ⟨g, rfl, hg1, hg2, hgc⟩ := HI.out k hlt
      have hcj : wr.cell? ⟨g, k, none⟩ = some (.int .i64 ks[k]) := by
        refine (hB.out.cell (p := ⟨g, k, none⟩) hg1).trans ?_
        rw [hgc k hlt]; simp [hlt]
      have hmem : ks[k] ∈ ks := List.getElem_mem hlt
      obtain ⟨gp, cap, bs, -, hpg, -⟩ := HPg.out _ hmem
      have hlk := HLk.out _ hmem wr HBw.out
      rw [hpg] at hlk
      simp only [PageS.val] at hlk
      have HSn : Hid (L.cells (ks.take (k + 1)) = L.cells (ks.take k) ++ [.int .i64 ks[k], .slice (some ⟨gp, 0, none⟩) 512 cap]) := by unfold Hid; rw [List.take_succ_eq_append_getElem hlt, cells_snoc, hpg]; rfl
      clear hgc hmem hpg hg1 hg2 c0r
      generalize ks[k] = x at *
      have hsr := hB.out.size
      go_wp2_with (refine wpList_append_lies _ rfl (.tmp 16) (.tmp 25) 55 rfl w1.heap.size 63 i0 (.agg #[.int .i64 0, .slice none 0 0]) 2 32 Tryz.underlying55 HI0.out hz0 hz1 hz2 rfl (by omega) u3 k _ rfl (hO.out.alloc _) ⟨wr.heap.size, 0, none⟩ 1 1 [.int .i64 x, .slice (some ⟨gp, 0, none⟩) 512 cap] rfl rfl (World.news_of_block (cs := #[.int .i64 x, .slice (some ⟨gp, 0, none⟩) 512 cap]) (block_new wr _)) (by intro u hu; rcases List.mem_cons.1 hu with rfl | hu; rfl; rw [List.mem_singleton.1 hu]; rfl) (by omega) (by unfold maxLen; omega) (by omega) (by simp; omega) (wr.heap.size + 1) (by simp) ?_; intro g2 cap2 w5 hown hgr hat hlt2; have HOw := hid hown; have HGr := hid hgr; clear hown hgr hat hlt2)
      refine ⟨⟨k + 1, by omega, by go_num, ?_, ?_⟩, by simp [intOf]; omega⟩
      · unfold Hid
        rw [HSn.out]; exact HOw.out
      · have hb2 := hB.out.trans (((Below.refl wr.heap.size wr).alloc (Nat.le_refl _) (.cells #[.int .i64 x, .slice (some ⟨gp, 0, none⟩) 512 cap] 63)).mono hB.out.size)
        exact hb2.trans (below_of_row HGr.out hb2.size (fun i hi => (hO.out.lt i hi).1))
    · obtain rfl : k = ks.length := by omega
      have hge : ¬ ((ks.length : Int) < (ks.length : Int)) := by omega
      have hOf := hO.out
      rw [List.take_length] at hOf
      obtain ⟨pa, pc, rfl, hps⟩ := HPo.out _ _ _ hOf
      have HPs := hid hps
      have Hr := hid (H.out.below HBw.out)
      have HCm := hid (commit_any (L.ps ks) pa pc (fun j => (C.dirty (ks.getD j 0)).getD []) wr Hr.out.log Hr.out.lt Hr.out.fits HPs.out (fun j hj _ => by
        have hj' : j < ks.length := by simpa [CLay.ps] using hj
        obtain ⟨gp, cap, bs, -, hpg, h1, h2, h3, h4, -⟩ := HPg.out ks[j] (List.getElem_mem hj')
        have e : (L.ps ks)[j] = L.page ks[j] := by simp [CLay.ps]
        have e2 : (C.dirty (ks.getD j 0)).getD [] = bs := by simp [List.getElem?_eq_getElem hj', h1]
        rw [e, hpg]
        simp only [e2]
        exact ⟨⟨gp, 0, none⟩, rfl, fun i hi => (HBw.out.cell (World.block_lt_of_cell? w _ (h2 i hi))).trans (h2 i hi), h3, h4⟩) ho)
      have hpl : (L.ps ks).length = ks.length := by simp [CLay.ps]
      rw [hpl, HCo.out.1, HCo.out.2] at HCm
      clear hOf hps hpl hO c1r
      go_wp2_with fail
      refine HCm.out.mono ?_
      clear HCm
      rintro e w5 ⟨rfl, d', hlog, hk5⟩
      have HC5 := hid (Hr.out.committed hlog hk5 (fun i hi => hi) HSl.out)
      have HK5 := hid hk5
      obtain ⟨z0, z1, -⟩ := HC5.out.cells
      have z1' : w5.cell? ⟨c, 1, none⟩ = some (.map (some L.dm)) := z1
      obtain ⟨es, clock, hmb⟩ := HC5.out.dmap
      have hmb' : w5.heap[L.dm]? = some (.map es clock) := hmb
      obtain ⟨w9, hclear, hm9, hg9⟩ := run_clearB hmb'
      have HC9 := hid (HC5.out.cleared hm9 hg9)
      have HK9 : Hid (Keeps (fun i => L.F i ∨ i = L.dm) w w9) := ((Keeps.of_below HBw.out).trans hk5 (fun i e => .inl (.inl e))).grown hg9 (fun i e => .inl (.inr (Option.some.inj e).symm))
      have hsw := HBw.out.size
      clear hlog hk5 z0 z1 hmb hmb' hm9 hg9 c0r
      go_wp2
      go_ret
      exact ⟨rfl, d', _, fun i hi => .inl hi, fun i hi => hi.elim .inl (fun h => .inr (by omega)), HC9.out, HK9.out⟩
end
end Go.Proofs.YtkkmbgjlmdddoabGreat
/- Cached, of one page. -/
namespace Go.Proofs.YtkkmbgjlmdddoabGreat
open Go.RowKit Go.Maps Go.Sort Go.Shelf
set_option maxRecDepth 100000 in
theorem bitsLen64_one (w : World) : Calls Tryz.prog 138 #[.int .u64 1] w fun e w' => e = .returned (.int .i64 1) ∧ w' = w := by
  go_enter Tryz.func138, Tryz.ntmps138
  go_wp2
  go_ret
  exact ⟨by kernel_rfl, rfl⟩
set_option maxRecDepth 100000 in
theorem bitsLen_one (w : World) : Calls Tryz.prog 124 #[.int .u64 1] w fun e w' => e = .returned (.int .i64 1) ∧ w' = w := by
  have HL := hid (bitsLen64_one w)
  go_enter Tryz.func124, Tryz.ntmps124
  go_wp2_with fail
  refine HL.out.mono ?_
  rintro e w' ⟨rfl, rfl⟩
  go_wp2
  go_ret
  exact ⟨rfl, rfl⟩
section
variable {c : Nat} {L : CLay} {C : CS}
end
end Go.Proofs.YtkkmbgjlmdddoabGreat
/- law04's Deed.bytes, and its open. -/
namespace Go.Proofs.YtkkmbgjlmdddoabGreat
open Go.RowKit
/-- How many bytes a deed has. -/
def dlen (s : Bool) : Nat := if s then 511 else 512
/-- The bytes of a deed. -/
def dbytes (s : Bool) (x : UInt8) : List UInt8 := List.replicate (dlen s) x
theorem length_dbytes (s : Bool) (x : UInt8) : (dbytes s x).length = dlen s := List.length_replicate
def dTo (n : Nat) (x : UInt8) (k : Nat) : List UInt8 := List.replicate k x ++ zN (n - k)
theorem dTo_zero (n : Nat) (x : UInt8) : dTo n x 0 = zN n := by simp [dTo]
theorem dTo_full (n : Nat) (x : UInt8) : dTo n x n = List.replicate n x := by
  rw [dTo, Nat.sub_self]; exact List.append_nil _
theorem length_dTo (n : Nat) (x : UInt8) (k : Nat) (h : k ≤ n) : (dTo n x k).length = n := by
  rw [dTo, List.length_append, List.length_replicate, length_zN]; omega
theorem dTo_succ (n : Nat) (x : UInt8) (k : Nat) (h : k < n) : (dTo n x k).set k x = dTo n x (k + 1) := by
  have e : n - k = (n - (k + 1)) + 1 := by omega
  rw [dTo, dTo, List.set_append_right _ _ (by rw [List.length_replicate]; exact Nat.le_refl _), List.length_replicate, Nat.sub_self, e, zN, List.replicate_succ, List.set_cons_zero, List.replicate_succ', List.append_assoc]
  rfl
end Go.Proofs.YtkkmbgjlmdddoabGreat
/- A cache in the midst of deeds: plain facts, and how it goes on. -/
namespace Go.Proofs.YtkkmbgjlmdddoabGreat
open Go.RowKit
theorem CS.mem_dirtyKeys {C : CS} {k : Int} : k ∈ C.dirtyKeys ↔ (0 ≤ k ∧ k < C.N ∧ (C.dirty k).isSome = true) := by
  simp only [CS.dirtyKeys, List.mem_filter, List.mem_map, List.mem_range]
  constructor
  · rintro ⟨⟨j, hj, rfl⟩, h⟩
    exact ⟨by omega, by omega, h⟩
  · rintro ⟨h0, h1, h2⟩
    exact ⟨⟨k.toNat, by omega, by omega⟩, h2⟩
theorem CS.dirtyKeys_none {C : CS} (h : C.dirty = fun _ => none) : C.dirtyKeys = [] := by
  unfold CS.dirtyKeys
  rw [h]
  simp
/-- The page n, as it is read. -/
def CS.see (C : CS) (n : Nat) : List UInt8 := (C.dirty n).getD (secL C.S (1 + C.size + n))
section
variable {w : World} {c : Nat} {L : CLay} {C : CS}
theorem CacheAt.dom (h : CacheAt w c L C) {n : Int} {bs : List UInt8} (hn : C.dirty n = some bs) : 0 ≤ n ∧ n < (C.N : Int) ∧ bs.length = 512 := by
  cases hv : L.dv n with
  | none => rw [h.clean n hv] at hn; cases hn
  | some v =>
    obtain ⟨g, cap, bs', h1, -, -, h4, -⟩ := h.bytes n v hv
    rw [hn] at h1
    obtain rfl := Option.some.inj h1
    exact ⟨(h.dirty.dom n v hv).1, (h.dirty.dom n v hv).2, h4⟩
theorem CacheAt.comMade (h : CacheAt w c L C) (hM : Made C.S) (hr : C.dirtyKeys.length ≤ min C.size 100) : Made C.com := by
  unfold CS.com
  split
  · exact hM
  · rw [writtenS_doOps]
    have hl := hM.len
    have hf := h.fits
    refine hM.more _ (ok_comOps C.size _ _ _ (by omega) (by omega) (fun k hk => ?_))
    obtain ⟨a, b, d⟩ := CS.mem_dirtyKeys.1 hk
    obtain ⟨bs, hb⟩ := Option.isSome_iff_exists.1 d
    refine ⟨a, ?_, by rw [hb]; exact (h.dom hb).2.2⟩
    have hp := h.pages
    unfold pagesS at hp
    omega
theorem CacheAt.comLen (h : CacheAt w c L C) (hr : C.dirtyKeys.length ≤ min C.size 100) : C.com.safe.length = C.S.safe.length := by rw [← (h.com hr).2]; exact comS_len _ _ _ _
theorem CacheAt.comSee (h : CacheAt w c L C) (hr : C.dirtyKeys.length ≤ min C.size 100) (n : Nat) (hn : n < C.N) : secL C.com (1 + C.size + n) = C.see n := by
  have hp := h.pages
  have hf := h.fits
  unfold pagesS at hp
  have key : seenAt C.com (1 + C.size + n) = match C.dirty (n : Int) with
    | some bs => ⟨bs.toArray⟩
    | none => seenAt C.S (1 + C.size + n) := by
    unfold CS.com
    by_cases h0 : C.dirtyKeys = []
    · rw [if_pos h0]
      cases hd : C.dirty (n : Int) with
      | none => rfl
      | some bs =>
        have : (n : Int) ∈ C.dirtyKeys := CS.mem_dirtyKeys.2 ⟨by omega, by omega, by rw [hd]; rfl⟩
        rw [h0] at this
        cases this
    · rw [if_neg h0, seen_writtenS C.S C.size _ C.dirtyKeys (1 + C.size + n) (by omega) (fun k hk => (CS.mem_dirtyKeys.1 hk).1) (by omega) (.inr (by omega)), if_neg (by omega)]
      have e : (((1 + C.size + n : Nat) : Int) - 1 - (C.size : Int)) = (n : Int) := by omega
      rw [e]
      cases hd : C.dirty (n : Int) with
      | none =>
        rw [if_neg (fun hm => by have := (CS.mem_dirtyKeys.1 hm).2.2; rw [hd] at this; cases this)]
      | some bs => rw [if_pos (CS.mem_dirtyKeys.2 ⟨by omega, by omega, by rw [hd]; rfl⟩)]; rfl
  unfold CS.see
  cases hd : C.dirty (n : Int) with
  | none =>
    rw [hd] at key
    exact congrArg (fun b : ByteArray => b.data.toList) key
  | some bs =>
    rw [hd] at key
    have := congrArg (fun b : ByteArray => b.data.toList) key
    simpa [secL, seenAt] using this
end
end Go.Proofs.YtkkmbgjlmdddoabGreat
/- The cache's Write, where it is refused. -/
namespace Go.Proofs.YtkkmbgjlmdddoabGreat
open Go.RowKit
section
variable {c : Nat} {L : CLay} {C : CS}
set_option maxRecDepth 100000 in
set_option maxHeartbeats 1000000 in
theorem bwrite_range (n : Int) (v : Value) (w : World) (h : CacheAt w c L C) (hn : ¬ (0 ≤ n ∧ n < (C.N : Int))) :
    Calls Tryz.prog 54 #[.pointer (some ⟨c, 0, none⟩), .int .i64 n, v] w fun e w' => e = .returned (.int .i64 2) ∧ Below w.heap.size w w' := by
  obtain ⟨c0, c1, -, -, c4⟩ := h.cells
  have hpg := log_pages w h.log h.fits
  rw [← h.pages] at hpg
  have HPg := hid hpg
  clear h hpg
  by_cases h0 : n < 0
  · clear hn
    go_enter Tryz.func54, Tryz.ntmps54
    go_wp2
    go_ret
    exact ⟨rfl, Below.refl _ _⟩
  · have h1 : n ≥ (C.N : Int) := by omega
    clear hn
    go_enter Tryz.func54, Tryz.ntmps54
    go_wp2_with fail
    refine HPg.out.mono ?_
    clear HPg
    rintro e w1 ⟨rfl, hb1⟩
    have HB := hid hb1
    clear hb1
    go_wp2
    go_ret
    exact ⟨rfl, HB.out⟩
set_option maxRecDepth 100000 in
set_option maxHeartbeats 1000000 in
theorem bwrite_form (n : Nat) (a : Option Addr) (ln cp : Nat) (w : World) (h : CacheAt w c L C) (hn : n < C.N) (hl : ¬ ((ln : Int) = 512)) :
    Calls Tryz.prog 54 #[.pointer (some ⟨c, 0, none⟩), .int .i64 n, .slice a ln cp] w fun e w' => e = .returned (.int .i64 3) ∧ Below w.heap.size w w' := by
  obtain ⟨c0, c1, -, -, c4⟩ := h.cells
  have hpg := log_pages w h.log h.fits
  rw [← h.pages] at hpg
  have HPg := hid hpg
  clear h hpg
  have hn0 : ¬ ((n : Int) < 0) := by omega
  have hn1 : ¬ ((n : Int) ≥ (C.N : Int)) := by omega
  have hl2 : ((ln : Int) == 512) = false := beq_eq_false_iff_ne.2 hl
  have hl3 : ((ln : Int) != 512) = true := by simpa using hl
  go_enter Tryz.func54, Tryz.ntmps54
  go_wp2_with fail
  refine HPg.out.mono ?_
  clear HPg
  rintro e w1 ⟨rfl, hb1⟩
  have HB := hid hb1
  clear hb1
  go_wp2
  go_ret
  exact ⟨rfl, HB.out⟩
set_option maxRecDepth 100000 in
set_option maxHeartbeats 1000000 in
theorem bwrite_full (n : Nat) (ad : Option Addr) (cp : Nat) (w : World) (h : CacheAt w c L C) (hn : n < C.N) (hd : C.dirty n = none) (hr : C.dirtyKeys.length = min C.size 100) :
    Calls Tryz.prog 54 #[.pointer (some ⟨c, 0, none⟩), .int .i64 n, .slice ad 512 cp] w fun e w' => e = .returned (.int .i64 7) ∧ Below w.heap.size w w' := by
  obtain ⟨c0, c1, -, -, c4⟩ := h.cells
  have H := hid h
  have hpg := log_pages w h.log h.fits
  rw [← h.pages] at hpg
  have HPg := hid hpg
  have hN := h.pagesLe
  have HRm := hid (fun W (hW : Below w.heap.size w W) => broom_any W (h.below hW))
  have hsi := h.some_iff (n : Int)
  have HC : Hid (∀ W, Below w.heap.size w W → W.cell? ⟨c, 0, none⟩ = some (.pointer (some ⟨L.p, 0, none⟩)) ∧ W.cell? ⟨c, 1, none⟩ = some (.map (some L.dm))) := fun W hW => by
    obtain ⟨x0, x1, -, -, x4⟩ := (h.below hW).cells
    exact ⟨x0, x1⟩
  have hdv : L.dv (n : Int) = none := by
    rw [hd] at hsi
    cases hv : L.dv (n : Int) with
    | none => rfl
    | some v => rw [hv] at hsi; cases hsi
  have HDv := hid hdv
  clear h hpg hdv hsi hd
  have hn0 : ¬ ((n : Int) < 0) := by omega
  have hn1 : ¬ ((n : Int) ≥ (C.N : Int)) := by omega
  have HN4 := hid hN
  have HN5 := hid hn
  clear hN hn
  generalize min C.size 100 = cpp at *
  generalize C.dirtyKeys.length = dk at *
  subst hr
  have hne : ((dk : Int) - (dk : Int) == 0) = true := beq_iff_eq.2 (by omega)
  have hne' : ((dk : Int) - (dk : Int)) = 0 := by omega
  go_enter Tryz.func54, Tryz.ntmps54
  go_wp2_with fail
  refine HPg.out.mono ?_
  clear HPg
  rintro e w1 ⟨rfl, hb1⟩
  have HB1 := hid hb1
  have HD1 := hid (H.out.dirty.below hb1)
  obtain ⟨d0, d1⟩ := HC.out w1 hb1
  have HR1 := hid (HRm.out w1 hb1)
  clear hb1 c0 c1 c4 HRm
  go_wp2_with (first
    | (at_lookup; refine wpList_lookup_grp rfl (.tmp 29) (.tmp 30) 91 rfl 57 Tryz.underlying91 (Tryz.zeroValue57 _) rfl HD1.out (n : Int) rfl (by omega) (by have := HN4.out; have := HN5.out; omega) (.slice none 0 0) false (by rw [HDv.out]; rfl) (by rw [HDv.out]; rfl) ?_)
    | fail)
  refine HR1.out.mono ?_
  clear HR1
  rintro e w2 ⟨rfl, hb2⟩
  have HB2 := hid (HB1.out.trans (hb2.mono HB1.out.size))
  clear hb2 d0 d1
  go_wp2
  go_ret
  exact ⟨rfl, HB2.out⟩
end
end Go.Proofs.YtkkmbgjlmdddoabGreat
/- law04's live. -/
namespace Go.Proofs.YtkkmbgjlmdddoabGreat
open Go.RowKit Go.Maps Go.Sort Go.Shelf
theorem live_use {u1 u2 : Int → Option Nat} (h1 : UseTo (fun _ => none) 1 11 1 0 u1) (h2 : UseTo u1 1 11 2 1 u2) : grpKeys (usedV u2) 11 = [1] := by
  have e1 : u1 = updN (fun _ => none) 0 1 := by
    rcases h1 with ⟨_, h⟩ | ⟨h, _⟩
    · exact h
    · exact absurd h (by decide)
  subst e1
  rcases h2 with ⟨h, _⟩ | ⟨_, x, ⟨k, hk, hmin⟩, rfl⟩
  · exact absurd h (by decide)
  · have h1 := hmin 0 1 rfl
    have hx : x = 0 := by
      unfold updN at hk
      split at hk
      · have := Option.some.inj hk; omega
      · split at hk
        · assumption
        · cases hk
    subst hx
    decide
theorem updD_keys (l : List UInt8) (C : CS) (hN : C.N = 11) (h : C.dirty = updD (fun _ => none) (2 : Nat) l) : C.dirtyKeys = [2] := by
  unfold CS.dirtyKeys
  rw [hN, h]
  rfl
end Go.Proofs.YtkkmbgjlmdddoabGreat
