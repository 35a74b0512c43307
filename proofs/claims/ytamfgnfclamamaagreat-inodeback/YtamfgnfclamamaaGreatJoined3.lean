/- Several of my texts in one: BaseE, AllP, BAll, BDeeds, BAbortP, ImageOwn, AlRow, WHead, WCrashP, CutA, WCrashed, WCrashQ, BCrashP, AlPc, AlOff, AlBls, AlBits, AlMap, BinS, AlWrite. -/
import Derived.Test.YtamfgnfclamamaaGreatJoined2
import Derived.Test.YtamfgnfclamamaaGreatJoined1
import Derived.Shelf.SlGeneric
import Derived.Shelf.SlicesG.SearchI
import Derived.Test.YtamfgnfclamamaaGreatProg
set_option maxRecDepth 100000
set_option maxHeartbeats 4000000
namespace Go.Proofs.YtamfgnfclamamaaGreat
section
open Go.RowKit Go.Maps Go.Sort Go.Shelf
section
variable {w w' : World} {m B : Nat} {D : DataW Value} {N : Nat} {val : Int -> Option Value}
theorem GrpIn.perm (h : GrpIn w m B D N val) : (grpKeys val N).Perm (intKeys D) := by
 have hk : ∀ x, x ∈ grpKeys val N ↔ Maps.has D (.int .i64 x) = true := fun x => by
  rw [mem_grpKeys]
  constructor
  ·rintro ⟨_, _, hx⟩
   obtain ⟨v, hv⟩ := Option.isSome_iff_exists.1 hx
   exact h.there x v hv
  ·intro hx
   cases hv : val x with
   | none => rw [h.absent x hv] at hx; cases hx
   | some v => exact ⟨(h.dom x v hv).1, (h.dom x v hv).2, rfl⟩
 obtain ⟨es, hD, hpw, _⟩ := h.mapOwn.entries (int_keyed Tryz.underlying3)
 obtain ⟨es', hD', hko⟩ := h.mapOwn.keysOf
 obtain rfl : es = es' := by rw [hD] at hD'; simpa using hD'
 rw [hD] at hk ⊢
 exact perm_intKeys hpw (fun p hp => by obtain ⟨v, hv⟩ := hko p hp; obtain ⟨x, _, hx, _⟩ := Maps.keyOf_i64 Tryz.underlying3 hv; exact ⟨x, hx⟩) ((sorted_grpKeys _ _).imp (fun h => by omega)) hk
theorem length_intKeys_le {es : List (Lit × DataW Value)} (hk : ∀ p ∈ es, ∃ x, p.1 = .int .i64 x) : (intKeys (.map es)).length = es.length := by
 induction es with
 | nil => rfl
 | cons p es ih =>
  obtain ⟨x, hx⟩ := hk p (by simp)
  have ih := ih (fun q hq => hk q (by simp [hq]))
  simp only [intKeys] at ih ⊢
  simp [hx, ih]
theorem GrpIn.size (h : GrpIn w m B D N val) : Maps.size D = (grpKeys val N).length := by
 rw [h.perm.length_eq]
 obtain ⟨es', hD', hko⟩ := h.mapOwn.keysOf
 rw [hD', length_intKeys_le (fun p hp => by obtain ⟨v, hv⟩ := hko p hp; obtain ⟨x, _, hx, _⟩ := Maps.keyOf_i64 Tryz.underlying3 hv; exact ⟨x, hx⟩)]
 rfl
theorem length_grpKeys_le (val : Int -> Option Value) (N : Nat) : (grpKeys val N).length <= N := by
 have := List.length_filter_le (fun k => (val k).isSome) ((List.range N).map (fun k : Nat => (k : Int)))
 simpa [grpKeys] using this
theorem ownsMap_tight {P : Program} {k : TypeId} (h : w.ownsMap P k selfElem m B D) {C : Nat} (hC : Maps.size D <= C) : w.ownsMap P k selfElem m C D := by
 obtain ⟨es, clock, h1, h2, h3, h4⟩ := h
 refine ⟨es, clock, h1, h2, ?_, h4⟩
 have e1 : Maps.size D = es.size := by rw [h4]; simp [Maps.size, length_sorted]
 omega
theorem GrpIn.norm (h : GrpIn w m B D N val) (hN : N <= 4096) : GrpIn w m 4096 D N val :=
 ⟨ownsMap_tight h.mapOwn (by rw [h.size]; exact Nat.le_trans (length_grpKeys_le _ _) hN), h.absent, h.there, h.held, h.dom⟩
theorem grpIn_empty (hm : w.ownsMap Tryz.prog 3 selfElem m B (.map [])) (N : Nat) : GrpIn w m B (.map []) N (fun _ => none) :=
 ⟨hm, fun _ _ => rfl, fun n v hv => (by cases hv), fun n v hv => (by cases hv), fun n v hv => (by cases hv)⟩
def delV (f : Int -> Option Value) (n : Int) : Int -> Option Value := fun k => if k = n then none else f k
theorem GrpIn.del (h : GrpIn w m B D N val) (n : Int) (hm : w'.ownsMap Tryz.prog 3 selfElem m B (D.del (.int .i64 n))) : GrpIn w' m B (D.del (.int .i64 n)) N (delV val n) where
 mapOwn := hm
 absent := fun k hk => by
  by_cases e : k = n
  ·subst e; exact has_del_same
  ·rw [has_del_other (by simpa using e)]; exact h.absent k (by simpa [delV, e] using hk)
 there := fun k u hk => by
  by_cases e : k = n
  ·subst e; simp [delV] at hk
  ·rw [has_del_other (by simpa using e)]; exact h.there k u (by simpa [delV, e] using hk)
 held := fun k u hk z => by
  by_cases e : k = n
  ·subst e; simp [delV] at hk
  ·rw [atKey_del_other (by simpa using e)]; exact h.held k u (by simpa [delV, e] using hk) z
 dom := fun k u hk => by
  by_cases e : k = n
  ·subst e; simp [delV] at hk
  ·exact h.dom k u (by simpa [delV, e] using hk)
theorem wpList_lookup_grp {ops : Array Oper} {rest : List Oper} {o : Oper} {a : Act} {Q : Exit -> Act -> World -> Prop} (hg : o.guard = none) (mo x : Operand) (t : TypeId) (hop : o.op = Op.lookup t mo x true) (e : TypeId) (ht : Tryz.prog.underlying t = some (.map 3 e)) {z : Value} (hz : (zeroValue e).run Tryz.prog w = .ok z w)
  (hm : a.eval mo = .map (some m)) (h : GrpIn w m B D N val) (n : Int) (hx : a.eval x = .int .i64 n) (hn0 : -9223372036854775808 <= n) (hn1 : n < 9223372036854775808) (u : Value) (q : Bool) (hu : (val n).getD z = u) (hq : (val n).isSome = q)
  (hK : wpList Tryz.prog ops Q rest (a.put o.dst (.tuple #[u, .bool q])) w) : wpList Tryz.prog ops Q (o :: rest) a w := by
 refine wpList_lookup_own_ok w hg mo x t hop 3 e (int_keyed Tryz.underlying3) ht selfElem hz (.held z) [] rfl m B D hm h.mapOwn (.int .i64 n) (.int .i64 n) hx (keyI hn0 hn1) (fun v ps hv => ?_)
 have e1 := selfElem_inv hv
 cases hval : val n with
 | none =>
  rw [hval] at hu hq
  rw [h.absent n hval]
  rw [atKey_of_not_has (h.absent n hval)] at e1
  obtain rfl := DataW.held.inj e1
  subst hu hq
  exact hK
 | some s =>
  rw [hval] at hu hq
  rw [h.there n s hval]
  rw [h.held n s hval] at e1
  obtain rfl := DataW.held.inj e1
  subst hu hq
  exact hK
theorem wpList_delete_grp {ops : Array Oper} {rest : List Oper} {o : Oper} {a : Act} {Q : Exit -> Act -> World -> Prop} (hg : o.guard = none) (mo x : Operand) (t : TypeId) (hop : o.op = Op.call { callee := Callee.builtin Builtin.delete, args := #[mo, x], argTypes := #[t, 3] }) (e : TypeId) (ht : Tryz.prog.underlying t = some (.map 3 e))
  (hm : a.eval mo = .map (some m)) (h : GrpIn w m B D N val) (n : Int) (hx : a.eval x = .int .i64 n) (hn0 : -9223372036854775808 <= n) (hn1 : n < 9223372036854775808)
  (hK : ∀ w' D', GrpIn w' m B D' N (delV val n) -> w.grownBy w' (some m) -> wpList Tryz.prog ops Q rest (a.put o.dst (.tuple #[])) w') : wpList Tryz.prog ops Q (o :: rest) a w :=
 wpList_delete_own w hg mo x t 3 hop e (int_keyed Tryz.underlying3) ht selfElem m B D hm h.mapOwn (.int .i64 n) (.int .i64 n) hx (keyI hn0 hn1) (fun w' hm' ht' => hK w' _ (h.del n hm') ht'.grown)
theorem wpList_len_grp {ops : Array Oper} {rest : List Oper} {o : Oper} {a : Act} {Q : Exit -> Act -> World -> Prop} (hg : o.guard = none) (mo : Operand) (t : TypeId) (hop : o.op = Op.call { callee := Callee.builtin Builtin.len, args := #[mo], argTypes := #[t] }) (e : TypeId) (ht : Tryz.prog.underlying t = some (.map 3 e))
  (hm : a.eval mo = .map (some m)) (h : GrpIn w m B D N val) (L : Nat) (hL : (grpKeys val N).length = L)
  (hK : wpList Tryz.prog ops Q rest (a.put o.dst (.int .i64 (L : Int))) w) : wpList Tryz.prog ops Q (o :: rest) a w :=
 wpList_len_own w hg mo t hop 3 e ht selfElem m B D hm h.mapOwn (by rw [h.size, hL]; exact hK)
end
end
section
open Go.RowKit
structure CS where
 S : DiskS
 size : Nat
 N : Nat
 dirty : Int -> Option (List UInt8)
 most : Nat
 uses : Nat
 used : Int -> Option Nat
structure CLay where
 p : Nat
 dm : Nat
 um : Nat
 d : DL
 Dd : DataW Value
 Du : DataW Value
 dv : Int -> Option Value
 F : Nat -> Prop
def usedV (f : Int -> Option Nat) : Int -> Option Value := fun n => (f n).map (fun u => .int .i64 (u : Int))
def CLay.foot (L : CLay) (c : Nat) (i : Nat) : Prop := L.F i \/ i = c \/ i = L.dm \/ i = L.um
structure CacheAt (w : World) (c : Nat) (L : CLay) (C : CS) : Prop where
 heap : w.heap[c]? = some (.cells #[.pointer (some ⟨L.p, 0, none⟩), .map (some L.dm), .int .i64 C.most, .int .i64 C.uses, .map (some L.um)] 105 (0, 0))
 log : LogIn w L.p L.d C.S C.size 0 L.F
 lt : ∀ i, L.F i -> i < w.heap.size
 dirty : GrpIn w L.dm 4096 L.Dd C.N L.dv
 bytes : ∀ n v, L.dv n = some v -> ∃ g cap bs, C.dirty n = some bs /\ v = .slice (some ⟨g, 0, none⟩) 512 cap /\ bytesAt w ⟨g, 0, none⟩ bs /\ bs.length = 512 /\ ¬ L.F g
 clean : ∀ n, L.dv n = none -> C.dirty n = none
 used : GrpIn w L.um 4096 L.Du C.N (usedV C.used)
 offc : ¬ L.F c
 offd : ¬ L.F L.dm
 offu : ¬ L.F L.um
 ne : L.dm ≠ L.um
 pages : C.N = pagesS C.S C.size
 fits : C.size + 1 <= C.S.safe.length
 few : C.uses <= 1000000
 ub : ∀ n u, C.used n = some u -> u <= C.uses
section
variable {w w' : World} {c : Nat} {L : CLay} {C : CS}
theorem CacheAt.four (h : CacheAt w c L C) : C.S.safe.length <= 4096 := h.log.disk.rd.plates.most
theorem CacheAt.pagesLe (h : CacheAt w c L C) : C.N <= 4096 := by have := h.four; rw [h.pages]; unfold pagesS; omega
theorem CacheAt.dmap (h : CacheAt w c L C) : ∃ es k, w.heap[L.dm]? = some (.map es k) := map_block h.dirty.mapOwn
theorem CacheAt.umap (h : CacheAt w c L C) : ∃ es k, w.heap[L.um]? = some (.map es k) := map_block h.used.mapOwn
theorem CacheAt.cd (h : CacheAt w c L C) : c ≠ L.dm := fun e => by
 obtain ⟨es, k, hm⟩ := h.dmap
 have := h.heap
 rw [e, hm] at this
 cases this
theorem CacheAt.cu (h : CacheAt w c L C) : c ≠ L.um := fun e => by
 obtain ⟨es, k, hm⟩ := h.umap
 have := h.heap
 rw [e, hm] at this
 cases this
theorem CacheAt.below (h : CacheAt w c L C) (k : Below w.heap.size w w') : CacheAt w' c L C :=
 ⟨below_block k h.heap (lt_of_heap h.heap), h.log.below k, fun i hi => Nat.lt_of_lt_of_le (h.lt i hi) k.size, h.dirty.below k, fun n v hv => by
  obtain ⟨g, cap, bs, h1, h2, h3, h4, h5⟩ := h.bytes n v hv
  exact ⟨g, cap, bs, h1, h2, fun j hj => (k.cell (World.block_lt_of_cell? w _ (h3 j hj))).trans (h3 j hj), h4, h5⟩, h.clean, h.used.below k, h.offc, h.offd, h.offu, h.ne, h.pages, h.fits, h.few, h.ub⟩
theorem CacheAt.cells (h : CacheAt w c L C) : w.cell? ⟨c, 0, none⟩ = some (.pointer (some ⟨L.p, 0, none⟩)) /\ w.cell? ⟨c, 1, none⟩ = some (.map (some L.dm)) /\ w.cell? ⟨c, 2, none⟩ = some (.int .i64 C.most) /\ w.cell? ⟨c, 3, none⟩ = some (.int .i64 C.uses) /\ w.cell? ⟨c, 4, none⟩ = some (.map (some L.um)) :=
 ⟨cell_of_block h.heap 0, cell_of_block h.heap 1, cell_of_block h.heap 2, cell_of_block h.heap 3, cell_of_block h.heap 4⟩
def CS.dirtyKeys (C : CS) : List Int := ((List.range C.N).map (fun k : Nat => (k : Int))).filter (fun k => (C.dirty k).isSome)
theorem CacheAt.some_iff (h : CacheAt w c L C) (n : Int) : (L.dv n).isSome = (C.dirty n).isSome := by
 cases hv : L.dv n with
 | none => rw [h.clean n hv]; rfl
 | some v => obtain ⟨_, _, bs, h1, _⟩ := h.bytes n v hv; rw [h1]; rfl
theorem CacheAt.keys (h : CacheAt w c L C) : grpKeys L.dv C.N = C.dirtyKeys := by
 unfold grpKeys CS.dirtyKeys
 exact List.filter_congr (fun n _ => h.some_iff n)
end
end
section
open Go.RowKit Go.Maps
theorem bclone_any (l : List UInt8) (ad : Addr) (c : Nat) (w : World) (hpos : 0 < l.length) (hn : l.length <= 4096) (hb : bytesAt w ad l) :
  Calls Tryz.prog 143 #[.slice (some ad) l.length c] w fun e w' => ∃ g cap, e = .returned (.slice (some ⟨g, 0, none⟩) l.length cap) /\ w'.ownsRow w.heap.size 5 1 (.slice (some ⟨g, 0, none⟩) l.length cap) l.length (l.map U8) /\ Below w.heap.size w w' := by
 obtain ⟨i0, hi, hz0, hz1, hz2⟩ := info_parts infoU8
 have HI := hid hi
 have HX : Hid (∀ j u, (l.map U8)[j]? = some u -> w.cell? (ad.add j) = some u) := fun j u hu => by
  have hj : j < l.length := by simpa using (List.getElem?_eq_some_iff.1 hu).1
  rw [hb j hj]
  rw [List.getElem?_map, List.getElem?_eq_getElem hj] at hu
  exact hu
 clear hi hb
 go_enter Tryz.func143, Tryz.ntmps143
 have hq := fun W => run_slice_nil 42 _ ad l.length c Tryz.underlying42 W
 go_wp2_with (refine wpList_append_lies _ rfl (.tmp 5) (.tmp 6) 42 rfl w.heap.size 5 i0 (.int .u8 0) 1 1 Tryz.underlying42 HI.out hz0 hz1 hz2 rfl (by omega) (.slice (some ⟨w.heap.size, 0, none⟩) 0 0) 0 [] rfl (World.ownsRow_lit w #[] 0 (Nat.le_refl _) (by simp) rfl) ad l.length c (l.map U8) rfl (by simp) (fun j u hu => by rw [World.cell?_alloc_lt _ _ _ (World.block_lt_of_cell? w _ (HX.out j u hu))]; exact HX.out j u hu) (by intro u hu; obtain ⟨x, _, rfl⟩ := List.mem_map.1 hu; rfl) hpos (by unfold maxLen; omega) (by omega) (by simp) (w.heap.size + 1) (by simp) ?_; intro g cap w1 hown hgr hat hlt)
 go_ret
 rw [List.nil_append, Nat.zero_add] at hown
 refine ⟨g, cap, by simp, hown, ?_⟩
 exact ((Below.refl _ _).alloc (Nat.le_refl _) _).trans ⟨hgr.os, hgr.tape, hgr.output, hgr.size, fun k hk => hgr.block k (by simp; omega) (by simp [Value.ownBlock]; omega)⟩
theorem row_bytesAt {w : World} {lo g n cap : Nat} {l : List UInt8} (h : w.ownsRow lo 5 1 (.slice (some ⟨g, 0, none⟩) n cap) n (l.map U8)) (hl : l.length = n) : bytesAt w ⟨g, 0, none⟩ l := fun j hj => by
 rw [Addr.add_mid, Nat.zero_add, h.cellAt j (by omega), List.getElem?_map, List.getElem?_eq_getElem hj]; rfl
section
variable {c um : Nat} {D : DataW Value} {N : Nat}
theorem bdrop_any (val : Int -> Option Value) (n : Int) (hn0 : -9223372036854775808 <= n) (hn1 : n < 9223372036854775808) (w : World) (c4 : w.cell? ⟨c, 4, none⟩ = some (.map (some um))) (h : GrpIn w um 4096 D N val) :
  Calls Tryz.prog 144 #[.pointer (some ⟨c, 2, none⟩), .int .i64 n] w fun e w' => e = .returned (.tuple #[]) /\ ∃ D', GrpIn w' um 4096 D' N (delV val n) /\ w.grownBy w' (some um) := by
 have H := hid h
 clear h
 go_enter Tryz.func144, Tryz.ntmps144
 go_wp2_with (refine wpList_delete_grp rfl (.tmp 7) (.tmp 8) 101 rfl 3 Tryz.underlying101 rfl H.out n rfl hn0 hn1 ?_; intro w1 D1 hG1 hg1; have HG1 := hid hG1; have Hg1 := hid hg1; clear hG1 hg1)
 go_end0
 first | exact ⟨rfl, D1, HG1.out, Hg1.out⟩ | exact ⟨rfl, ⟨D1, HG1.out⟩, Hg1.out⟩
def OldestAt (u : Int -> Option Nat) (x : Int) : Prop := ∃ k, u x = some k /\ ∀ y j, u y = some j -> k <= j
theorem usedV_some {u : Int -> Option Nat} {n : Int} {v : Value} (h : usedV u n = some v) : ∃ k : Nat, u n = some k /\ v = .int .i64 (k : Int) := by
 unfold usedV at h
 cases hu : u n with
 | none => rw [hu] at h; cases h
 | some k => rw [hu] at h; exact ⟨k, rfl, (Option.some.inj h).symm⟩
def OldTo (u : Int -> Option Nat) (uses : Nat) (left : Lit -> Bool) (pg : Int) (fi : Nat) : Prop :=
 (∀ y j, u y = some j -> left (.int .i64 y) = false -> fi <= j) /\ (fi = uses + 1 \/ u pg = some fi)
theorem boldest_any (u : Int -> Option Nat) (uses : Nat) (hu : uses <= 1000000) (hub : ∀ n k, u n = some k -> k <= uses) (n0 : Int) (hn0 : (u n0).isSome) (w : World) (c3 : w.cell? ⟨c, 3, none⟩ = some (.int .i64 uses)) (c4 : w.cell? ⟨c, 4, none⟩ = some (.map (some um))) (h : GrpIn w um 4096 D N (usedV u)) :
  Calls Tryz.prog 187 #[.pointer (some ⟨c, 2, none⟩)] w fun e w' => ∃ x, e = .returned (.int .i64 x) /\ OldestAt u x /\ Below w.heap.size w w' := by
 have H := hid h
 have HUb := hid hub
 have Hn0 := hid hn0
 clear h hub hn0
 have e1 : IntKind.i64.wrap ((uses : Int) + 1) = (uses : Int) + 1 := IntWalk.i64_in _ (by omega)
 go_enter Tryz.func187, Tryz.ntmps187
 go_wp2
 refine wp_region_noPanic ?_
 refine wp_region_held_drew (S := fun W => W.cell? ⟨c, 3, none⟩ = some (.int .i64 uses)) (by kernel_rfl) c3 (fun hHeld => ?_)
 refine tq 0 _ ?_
 try simp only [tS]
 refine tq 1 _ ?_
 try simp only [tS]
 refine tq 2 _ ?_
 try simp only [tS]
 refine tq 3 _ ?_
 try simp only [tS]
 refine tq 4 (.int .i64 ((uses : Int) + 1)) ?_
 try simp only [tS]
 refine tq 5 _ ?_
 try simp only [tS]
 refine tq 6 _ ?_
 try simp only [tS]
 refine wpAnyH_done (by kernel_rfl) ?_ _
 refine NoPanic.normal ?_
 clear hHeld c3
 have c4d : w.drew.cell? ⟨c, 4, none⟩ = some (.map (some um)) := c4
 have HD := hid (H.out.below (Below.refl _ w).drew)
 have HBd : Hid (Below w.heap.size w w.drew) := (Below.refl _ w).drew
 clear c4
 generalize w.drew = wd at *
 go_wp2_with (first
  | (at_range; refine wpList_range_own _ rfl (.tmp 15) 101 rfl 3 3 (int_keyed Tryz.underlying3) Tryz.underlying101 selfElem um 4096 D rfl HD.out.mapOwn ?_; intro w0 hrg0 hg0 hs0)
  | go_in)
 go_frame
 have hBg : Below wd.heap.size wd w0 := ⟨hg0.os, hg0.tape, hg0.output, hg0.size, fun k hk => hg0.block k hk (by simp)⟩
 have HB0 : Hid (Below w.heap.size w w0) := HBd.out.trans (hBg.mono HBd.out.size)
 have HRg0 := hid hrg0
 have HOl0 : Hid (OldTo u uses (Maps.has D) 0 (uses + 1)) := ⟨fun y j hy hl => (by
  have := H.out.there y (.int .i64 (j : Int)) (by simp [usedV, hy])
  rw [this] at hl
  cases hl), .inl rfl⟩
 have hri0 : w.heap.size <= wd.heap.size := HBd.out.size
 clear hrg0 hg0 hs0 hBg HD
 generalize hri : wd.heap.size = ri at *
 clear hri c4d
 go_loopw [3, 4] (fun a b wr => ∃ (left : Lit -> Bool) (cnt : Nat) (pg : Int) (fi : Nat), a = .int .i64 pg /\ b = .int .i64 (fi : Int) /\ fi <= 1000001 /\ Hid (wr.ranges Tryz.prog 3 selfElem um ri 4096 D left cnt) /\ Hid (OldTo u uses left pg fi) /\ Hid (Below w.heap.size w wr)) (fun _ _ wr => wr.rangeLeft um ri)
 case atStart => exact ⟨_, _, 0, uses + 1, rfl, by simp, by omega, HRg0, HOl0, HB0⟩
 case round =>
  obtain ⟨left, cnt, pg, fi, rfl, rfl, hfi, hrg, hOl, hBr⟩ := hrel
  clear HRg0 HOl0 HB0
  go_wp2_with (first
   | (at_next; refine wpList_next_ranges _ rfl (.tmp 16) rfl 3 (int_keyed Tryz.underlying3) selfElem encZ id (fun key kl hk => by obtain ⟨x, hx, _⟩ := Maps.keyOf_i64 Tryz.underlying3 hk; exact ⟨x, hx⟩) (fun v _ _ => ⟨v, rfl⟩) um ri 4096 _ _ _ rfl hrg.out ?_ ?_)
   | go_in)
  ·-- nothing is left
   intro hc0 hl0
   have HOa : Hid (OldestAt u pg) := by
    obtain ⟨k0, hk0⟩ := Option.isSome_iff_exists.1 Hn0.out
    have h1 := hOl.out.1 n0 k0 hk0 (hl0 _)
    have h2 := HUb.out n0 k0 hk0
    rcases hOl.out.2 with e | e
    ·omega
    ·exact ⟨fi, e, fun y j hy => hOl.out.1 y j hy (hl0 _)⟩
   clear hc0 hl0 hrg
   go_wp2
   go_ret
   exact ⟨pg, rfl, HOa.out, hBr.out⟩
  ·-- one has come
   intro x cv kl yd yp w2 cnt2 hkey hlk hv hat hrg2 hlt hg2 hs2 hen
   obtain ⟨x', ex, rfl, _⟩ := Maps.keyOf_i64 Tryz.underlying3 hkey
   obtain rfl : x = x' := encZ_inj ex
   have hsome : ∃ v, usedV u x = some v := by
    cases hv0 : usedV u x with
    | some v => exact ⟨v, rfl⟩
    | none =>
     have h1 := H.out.absent x hv0
     rw [has_true_of_atKey hat] at h1
     cases h1
   obtain ⟨v, hvx⟩ := hsome
   obtain ⟨k, hk, rfl⟩ := usedV_some hvx
   have hcv : cv = .int .i64 (k : Int) := by
    have e1 := selfElem_inv hv
    have e2 := hat (.held cv)
    rw [H.out.held x _ hvx] at e2
    rw [e1] at e2
    exact (DataW.held.inj e2).symm
   subst hcv
   have hku := HUb.out x k hk
   have HRg2 := hid hrg2
   have hKn : Keeps (fun i => i = ri) wr w2 := Keeps.of_grown hg2 (fun i e => (Option.some.inj e).symm)
   have HBr2 : Hid (Below w.heap.size w w2) := hBr.out.trans (hKn.below hBr.out.size (fun i e => by omega))
   have HLt := hid hlt
   have hsk : ∀ y, y ≠ x -> (Lit.int .i64 y).sameKey (.int .i64 x) = false := fun y e => by simp [Lit.sameKey, e]
   by_cases hkf : k < fi
   ·have HO2 : Hid (OldTo u uses (fun z => left z && !z.sameKey (.int .i64 x)) x k) := ⟨fun y j hy hl => (by
     by_cases e : y = x
     ·subst e; rw [hk] at hy; have := Option.some.inj hy; omega
     ·have := hOl.out.1 y j hy (by simpa [hsk y e] using hl); omega), .inr hk⟩
    have hkf' : (k : Int) < (fi : Int) := by omega
    clear hv hat hrg2 hg2 hs2 hKn hsk hvx hkf
    go_wp2
    refine ⟨⟨_, cnt2, x, k, rfl, rfl, by omega, HRg2, HO2, HBr2⟩, ?_⟩
    have h1 : w2.rangeLeft um ri = cnt2 := HRg2.out.left_eq
    rw [h1, hrg.out.left_eq]
    exact HLt.out
   ·have HO2 : Hid (OldTo u uses (fun z => left z && !z.sameKey (.int .i64 x)) pg fi) := ⟨fun y j hy hl => (by
     by_cases e : y = x
     ·subst e; rw [hk] at hy; have := Option.some.inj hy; omega
     ·exact hOl.out.1 y j hy (by simpa [hsk y e] using hl)), hOl.out.2⟩
    have hkf' : ¬ ((k : Int) < (fi : Int)) := by omega
    clear hv hat hrg2 hg2 hs2 hKn hsk hvx hkf
    go_wp2
    refine ⟨⟨_, cnt2, pg, fi, rfl, rfl, hfi, HRg2, HO2, HBr2⟩, ?_⟩
    have h1 : w2.rangeLeft um ri = cnt2 := HRg2.out.left_eq
    rw [h1, hrg.out.left_eq]
    exact HLt.out
def updN (u : Int -> Option Nat) (n : Int) (k : Nat) : Int -> Option Nat := fun y => if y = n then some k else u y
def delN (u : Int -> Option Nat) (n : Int) : Int -> Option Nat := fun y => if y = n then none else u y
theorem usedV_upd (u : Int -> Option Nat) (n : Int) (k : Nat) : updV (usedV u) n (.int .i64 (k : Int)) = usedV (updN u n k) := by
 funext y; unfold updV usedV updN; by_cases e : y = n <;> simp [e]
theorem usedV_del (u : Int -> Option Nat) (n : Int) : delV (usedV u) n = usedV (delN u n) := by
 funext y; unfold delV usedV delN; by_cases e : y = n <;> simp [e]
def usedCount (u : Int -> Option Nat) (N : Nat) : Nat := (grpKeys (usedV u) N).length
def UseTo (u : Int -> Option Nat) (most N k : Nat) (n : Int) (u' : Int -> Option Nat) : Prop :=
 (usedCount (updN u n k) N <= most /\ u' = updN u n k) \/ (most < usedCount (updN u n k) N /\ ∃ x, OldestAt (updN u n k) x /\ u' = delN (updN u n k) x)
theorem UseTo.ub {u u' : Int -> Option Nat} {most N k : Nat} {n : Int} (h : UseTo u most N k n u') (hu : ∀ y j, u y = some j -> j <= k) : ∀ y j, u' y = some j -> j <= k := by
 have h1 : ∀ y j, updN u n k y = some j -> j <= k := fun y j hy => by
  unfold updN at hy
  split at hy
  ·have := Option.some.inj hy; omega
  ·exact hu y j hy
 rcases h with ⟨_, rfl⟩ | ⟨_, x, _, rfl⟩
 ·exact h1
 ·intro y j hy
  unfold delN at hy
  split at hy
  ·cases hy
  ·exact h1 y j hy
theorem buse_any (u : Int -> Option Nat) (a0 a1 : Value) (t : TypeId) (most uses : Nat) (hu : uses < 1000000) (hub : ∀ n k, u n = some k -> k <= uses) (n : Int) (hn0 : 0 <= n) (hn1 : n < N) (hN : N <= 4096) (w : World)
  (hc : w.heap[c]? = some (.cells #[a0, a1, .int .i64 most, .int .i64 uses, .map (some um)] t (0, 0))) (h : GrpIn w um 4096 D N (usedV u)) :
  Calls Tryz.prog 176 #[.pointer (some ⟨c, 2, none⟩), .int .i64 n] w fun e w' => e = .returned (.tuple #[]) /\ ∃ u' D', w'.heap[c]? = some (.cells #[a0, a1, .int .i64 most, .int .i64 (uses + 1 : Nat), .map (some um)] t (0, 0)) /\ GrpIn w' um 4096 D' N (usedV u') /\ UseTo u most N (uses + 1) n u' /\ Keeps (fun i => i = c \/ i = um) w w' := by
 have c2 : w.cell? ⟨c, 2, none⟩ = some (.int .i64 most) := cell_of_block hc 2
 have c3 : w.cell? ⟨c, 3, none⟩ = some (.int .i64 uses) := cell_of_block hc 3
 have c4 : w.cell? ⟨c, 4, none⟩ = some (.map (some um)) := cell_of_block hc 4
 have f3 := frozen_of_block hc 3
 have e1 : IntKind.i64.wrap ((uses : Int) + 1) = (uses : Int) + 1 := IntWalk.i64_in _ (by omega)
 have hcu : c ≠ um := fun e => by
  obtain ⟨es, k, hm⟩ := map_block h.mapOwn
  rw [e, hm] at hc
  cases hc
 have hc1 := block_setCell hc 3 (.int .i64 ((uses : Int) + 1))
 have hK1 : Keeps (fun i => i = c) w (w.setCell ⟨c, 3, none⟩ (.int .i64 ((uses : Int) + 1))) := (Keeps.refl _ _).grown (grown_setCell (grown_refl _ _) _ _) (fun i e => .inl (Option.some.inj e).symm)
 have HG1 := hid (h.keep hK1 (fun e => hcu e.symm))
 have HK1 := hid hK1
 have HC1 := hid hc1
 have HUb := hid hub
 have hcl := lt_of_heap hc
 clear hc h hK1 hub
 go_enter Tryz.func176, Tryz.ntmps176
 go_wp2
 have d2 : (w.setCell ⟨c, 3, none⟩ (.int .i64 ((uses : Int) + 1))).cell? ⟨c, 2, none⟩ = some (.int .i64 most) := cell_of_block hc1 2
 have d3 : (w.setCell ⟨c, 3, none⟩ (.int .i64 ((uses : Int) + 1))).cell? ⟨c, 3, none⟩ = some (.int .i64 ((uses : Int) + 1)) := cell_of_block hc1 3
 have d4 : (w.setCell ⟨c, 3, none⟩ (.int .i64 ((uses : Int) + 1))).cell? ⟨c, 4, none⟩ = some (.map (some um)) := cell_of_block hc1 4
 clear c2 c3 c4 f3 hc1
 generalize w.setCell ⟨c, 3, none⟩ (.int .i64 ((uses : Int) + 1)) = w1 at *
 refine wp_region_noPanic ?_
 refine wp_region_held_drew (S := fun W => W.cell? ⟨c, 3, none⟩ = some (.int .i64 ((uses : Int) + 1)) /\ W.cell? ⟨c, 4, none⟩ = some (.map (some um))) (by kernel_rfl) ⟨d3, d4⟩ (fun hHeld => ?_)
 refine tq 0 _ ?_
 try simp only [tS]
 refine tq 1 _ ?_
 try simp only [tS]
 refine tq 2 _ ?_
 try simp only [tS]
 refine tq 3 _ ?_
 try simp only [tS]
 refine tq 4 _ ?_
 try simp only [tS]
 refine tq 5 _ ?_
 try simp only [tS]
 refine tq 6 _ ?_
 try simp only [tS]
 refine tq 7 _ ?_
 try simp only [tS]
 refine tq 8 _ ?_
 try simp only [tS]
 refine wpAnyH_ready (rs := [9]) (by kernel_rfl) (by simp) (AllReadyH.cons rfl (fun K hK => ?_) AllReadyH.nil)
 rw [if_pos (by rfl)]
 refine wp_mapUpdate_self (.tmp 14) (.tmp 15) (.tmp 19) 101 rfl 3 3 (int_keyed Tryz.underlying3) Tryz.underlying101 um 4096 D rfl (HG1.out.below (Below.refl _ _).drew).mapOwn (by unfold maxLen; omega) (.int .i64 n) (.int .i64 ((uses : Int) + 1)) (.int .i64 n) rfl rfl (keyI (by omega) (by omega)) ?_
 intro w2 hown2 hgr2
 have hG2 := ((HG1.out.below (Below.refl _ w1).drew).put hn0 hn1 hown2).norm hN
 rw [show ((uses : Int) + 1) = ((uses + 1 : Nat) : Int) by omega, usedV_upd] at hG2
 have HG2 := hid hG2
 have hK2 : Keeps (fun i => i = um) w1 w2 := (Keeps.of_below (Below.refl _ w1).drew).grown hgr2 (fun i e => .inl (Option.some.inj e).symm)
 have hc2 := hK2.heap HC1.out (fun e => hcu e)
 have HC2 := hid hc2
 have HK2 := hid ((HK1.out.mono (G := fun i => i = c \/ i = um) (fun i e => .inl e)).trans hK2 (fun i e => .inl (.inr e)))
 have t2 : w2.cell? ⟨c, 2, none⟩ = some (.int .i64 most) := cell_of_block hc2 2
 have t3 : w2.cell? ⟨c, 3, none⟩ = some (.int .i64 ((uses : Int) + 1)) := cell_of_block hc2 3
 have t4 : w2.cell? ⟨c, 4, none⟩ = some (.map (some um)) := cell_of_block hc2 4
 obtain ⟨M, hM⟩ : ∃ M, M = usedCount (updN u n (uses + 1)) N := ⟨_, rfl⟩
 have hlen : ∀ ty, (Builtin.len_ #[101] ty #[.map (some um)]).run Tryz.prog w2.drew = .ok (.int .i64 (M : Int)) w2.drew := fun ty => by
  have := (hG2.below (Below.refl _ w2).drew).mapOwn.len Tryz.underlying101 ty
  rw [hG2.size] at this
  rw [hM]
  exact this
 have HM := hid hM
 generalize hD2 : D.put (Lit.int .i64 n) (.held (.int .i64 ((uses : Int) + 1))) = D2 at *
 clear hG2 hK2 hc2 hown2 hgr2 hD2 d2 d3 d4 HG1 HC1 hM HK1
 refine hK.out _ _ ⟨t3, t4⟩ (fun hHeld => ?_)
 clear hK K
 refine wpAnyH_done (by kernel_rfl) ?_ _
 refine NoPanic.normal ?_
 clear hHeld
 have hMu : Hid (M <= 4096) := by
  unfold Hid
  rw [HM.out]
  exact Nat.le_trans (length_grpKeys_le _ _) hN
 have hM4 := hMu.out
 by_cases hmm : most < M
 ·have hd : decide ((M : Int) > (most : Int)) = true := decide_eq_true (by omega)
  have hub2 : ∀ y k, updN u n (uses + 1) y = some k -> k <= uses + 1 := fun y k hy => by
   unfold updN at hy
   split at hy
   ·have := Option.some.inj hy; omega
   ·have := HUb.out y k hy; omega
  have t3' : w2.drew.cell? ⟨c, 3, none⟩ = some (.int .i64 (uses + 1 : Nat)) := t3
  have HOl := hid (boldest_any (c := c) (updN u n (uses + 1)) (uses + 1) (by omega) hub2 n (by simp [updN]) w2.drew t3' t4 (HG2.out.below (Below.refl _ _).drew))
  go_wp2
  refine wp_region_noPanic ?_
  refine wp_region_held_drew (S := fun W => W.cell? ⟨c, 2, none⟩ = some (.int .i64 most) /\ W.cell? ⟨c, 4, none⟩ = some (.map (some um)) /\ ∀ ty, (Builtin.len_ #[101] ty #[.map (some um)]).run Tryz.prog W = .ok (.int .i64 (M : Int)) W) (by kernel_rfl) ⟨t2, t4, hlen⟩ (fun hHeld => ?_)
  refine tq 0 _ ?_
  try simp only [List.getElem_toArray, List.getElem_cons_zero, Act.put, List.setIfInBounds_toArray]
  refine tq 1 _ ?_
  try simp only [tS]
  refine tq 2 _ ?_
  try simp only [tS]
  refine tq 3 _ ?_
  try simp only [tS]
  refine tq 4 (.int .i64 (M : Int)) ?_
  try simp only [tS]
  refine tq 5 _ ?_
  try simp only [tS]
  refine tq 6 _ ?_
  try simp only [tS]
  refine tq 7 _ ?_
  try simp only [tS]
  refine tq 8 _ ?_
  try simp only [tS]
  refine tq 9 (.bool true) ?_
  try simp only [tS]
  refine wpAnyH_done (by kernel_rfl) ?_ _
  refine NoPanic.normal ?_
  clear hHeld
  go_wp2_with fail
  refine HOl.out.mono ?_
  clear HOl
  rintro e w3 ⟨x, rfl, hO3, hb3⟩
  have hb23 : Below w2.heap.size w2 w3 := (Below.refl _ w2).drew.trans (hb3.mono (Nat.le_refl _))
  have hG3 := HG2.out.below hb23
  have HC3 := hid (below_block hb23 HC2.out (lt_of_heap HC2.out))
  have x4 : w3.cell? ⟨c, 4, none⟩ = some (.map (some um)) := (hb23.cell (p := ⟨c, 4, none⟩) (World.block_lt_of_cell? w2 _ t4)).trans t4
  have HO3 := hid hO3
  obtain ⟨xk, hxk, -⟩ := hO3
  have hxd := hG3.dom x (.int .i64 (xk : Int)) (by simp [usedV, hxk])
  have HDr := hid (bdrop_any (c := c) (usedV (updN u n (uses + 1))) x (by omega) (by omega) w3 x4 hG3)
  have HK3 := hid (HK2.out.andBelow hb23)
  clear hb3 hb23 hG3
  go_wp2_with fail
  refine HDr.out.mono ?_
  clear HDr
  rintro e w4 ⟨rfl, D4, hG4, hg4⟩
  rw [usedV_del] at hG4
  have HG4 := hid hG4
  have hK34 : Keeps (fun i => i = um) w3 w4 := (Keeps.refl _ w3).grown hg4 (fun i e => .inl (Option.some.inj e).symm)
  have HC4 := hid (hK34.heap HC3.out (fun e => hcu e))
  have HK4 := hid (HK3.out.trans hK34 (fun i e => .inl (.inr e)))
  clear hG4 hg4 hK34
  go_wp2
  go_end0
  exact ⟨rfl, delN (updN u n (uses + 1)) x, D4, (by have h := HC4.out; rw [show ((uses : Int) + 1) = ((uses + 1 : Nat) : Int) by omega] at h; exact h), HG4.out, .inr ⟨by rw [<- HM.out]; exact hmm, x, HO3.out, rfl⟩, HK4.out⟩
 ·have hd : decide ((M : Int) > (most : Int)) = false := decide_eq_false (by omega)
  go_wp2
  refine wp_region_noPanic ?_
  refine wp_region_held_drew (S := fun W => W.cell? ⟨c, 2, none⟩ = some (.int .i64 most) /\ W.cell? ⟨c, 4, none⟩ = some (.map (some um)) /\ ∀ ty, (Builtin.len_ #[101] ty #[.map (some um)]).run Tryz.prog W = .ok (.int .i64 (M : Int)) W) (by kernel_rfl) ⟨t2, t4, hlen⟩ (fun hHeld => ?_)
  refine tq 0 _ ?_
  try simp only [List.getElem_toArray, List.getElem_cons_zero, Act.put, List.setIfInBounds_toArray]
  refine tq 1 _ ?_
  try simp only [tS]
  refine tq 2 _ ?_
  try simp only [tS]
  refine tq 3 _ ?_
  try simp only [tS]
  refine tq 4 (.int .i64 (M : Int)) ?_
  try simp only [tS]
  refine tq 5 _ ?_
  try simp only [tS]
  refine tq 6 _ ?_
  try simp only [tS]
  refine tq 7 _ ?_
  try simp only [tS]
  refine tq 8 _ ?_
  try simp only [tS]
  refine tq 9 (.bool false) ?_
  try simp only [tS]
  refine wpAnyH_done (by kernel_rfl) ?_ _
  refine NoPanic.normal ?_
  clear hHeld
  go_wp2
  go_end0
  exact ⟨rfl, updN u n (uses + 1), _, (by have h := HC2.out; rw [show ((uses : Int) + 1) = ((uses + 1 : Nat) : Int) by omega] at h; exact h), HG2.out.below (Below.refl _ _).drew, .inl ⟨by rw [<- HM.out]; omega, rfl⟩, HK2.out.drew⟩
end
end
section
open Go.RowKit Go.Maps Go.Sort Go.Shelf
section
variable {c : Nat} {L : CLay} {C : CS}
theorem blog_any (w : World) (h : CacheAt w c L C) : Calls Tryz.prog 77 #[.pointer (some ⟨c, 0, none⟩)] w fun e w' => e = .returned (.pointer (some ⟨L.p, 0, none⟩)) /\ w' = w := by
 obtain ⟨c0, -⟩ := h.cells
 clear h
 go_enter Tryz.func77, Tryz.ntmps77
 go_wp2
 go_ret
 exact ⟨rfl, rfl⟩
theorem broom_any (w : World) (h : CacheAt w c L C) : Calls Tryz.prog 79 #[.pointer (some ⟨c, 0, none⟩)] w fun e w' => e = .returned (.int .i64 (((min C.size 100 : Nat) : Int) - (C.dirtyKeys.length : Int))) /\ Below w.heap.size w w' := by
 obtain ⟨c0, c1, -⟩ := h.cells
 have h4 := h.four
 have hf := h.fits
 have hcl := lt_of_heap h.heap
 have HCp := hid (log_capacity w.drew (h.log.below (Below.refl _ w).drew) (by omega))
 have HLe : Hid (∀ W, Below w.heap.size w W -> ∀ ty, (Builtin.len_ #[100] ty #[.map (some L.dm)]).run Tryz.prog W = .ok (.int .i64 (C.dirtyKeys.length : Int)) W) := fun W hW ty => by
  have := (h.dirty.below hW).mapOwn.len Tryz.underlying100 ty
  rw [h.dirty.size, h.keys] at this
  exact this
 have hlen := HLe.out w.drew (Below.refl _ w).drew
 have hdk : C.dirtyKeys.length <= 4096 := by rw [<- h.keys]; exact Nat.le_trans (length_grpKeys_le _ _) h.pagesLe
 clear h
 have hcp : min C.size 100 <= 100 := by omega
 generalize min C.size 100 = cp at *
 generalize C.dirtyKeys.length = dk at *
 have e1 : IntKind.i64.wrap ((cp : Int) - (dk : Int)) = (cp : Int) - (dk : Int) := IntWalk.i64_in _ (by omega)
 go_enter Tryz.func79, Tryz.ntmps79
 go_wp2
 refine wp_region_noPanic ?_
 refine wp_region_held_drew (S := fun W => W.cell? ⟨c, 0, none⟩ = some (.pointer (some ⟨L.p, 0, none⟩)) /\ W.cell? ⟨c, 1, none⟩ = some (.map (some L.dm)) /\ ∀ ty, (Builtin.len_ #[100] ty #[.map (some L.dm)]).run Tryz.prog W = .ok (.int .i64 (dk : Int)) W) (by kernel_rfl) ⟨c0, c1, hlen⟩ (fun hHeld => ?_)
 refine tq 0 _ ?_
 try simp only [tS]
 refine tq 1 _ ?_
 try simp only [tS]
 refine tq 2 _ ?_
 try simp only [tS]
 refine tq 3 _ ?_
 try simp only [tS]
 refine tq 5 _ ?_
 try simp only [tS]
 refine tq 6 _ ?_
 try simp only [tS]
 refine tq 7 _ ?_
 try simp only [tS]
 refine tq 8 _ ?_
 try simp only [tS]
 refine wpAnyH_ready (rs := [4]) (by kernel_rfl) (by simp) (AllReadyH.cons rfl (fun K hK => ?_) AllReadyH.nil)
 rw [if_pos (by rfl)]
 go_simp
 refine HCp.out.mono ?_
 clear HCp
 rintro e w2 ⟨rfl, hb2⟩
 have hb : Below w.heap.size w w2 := (Below.refl _ w).drew.trans (hb2.mono (Nat.le_refl _))
 have HB := hid hb
 have d0 : w2.cell? ⟨c, 0, none⟩ = some (.pointer (some ⟨L.p, 0, none⟩)) := (hb.cell (p := ⟨c, 0, none⟩) hcl).trans c0
 have d1 : w2.cell? ⟨c, 1, none⟩ = some (.map (some L.dm)) := (hb.cell (p := ⟨c, 1, none⟩) hcl).trans c1
 have d2 := HLe.out w2 hb
 clear hb hb2 hlen
 go_wp2_with fail
 refine hK.out _ _ ⟨d0, d1, d2⟩ (fun hHeld => ?_)
 clear hK K
 try simp only [tS]
 refine tq 9 (.int .i64 (dk : Int)) ?_
 try simp only [tS]
 refine tq 10 (.int .i64 ((cp : Int) - (dk : Int))) ?_
 try simp only [tS]
 refine tq 11 _ ?_
 try simp only [tS]
 refine wpAnyH_done (by kernel_rfl) ?_ _
 refine NoPanic.normal ?_
 clear hHeld d0 d1 d2
 go_wp2
 go_ret
 exact ⟨rfl, HB.out⟩
theorem bdirty_any (w : World) (h : CacheAt w c L C) :
  Calls Tryz.prog 42 #[.pointer (some ⟨c, 0, none⟩)] w fun e w' => ∃ v, e = .returned v /\ w'.ownsRow w.heap.size 3 1 v C.dirtyKeys.length (C.dirtyKeys.map encZ) /\ (v = .slice none 0 0 ↔ C.dirtyKeys = []) /\ Below w.heap.size w w' := by
 obtain ⟨c0, c1, -⟩ := h.cells
 have hke := h.keys
 refine (callsIn_wide (n := 6)).1 ?_
 have hown := h.dirty.mapOwn
 have hbl := hown.lt
 have hsz := hown.size_le
 have hmax : Maps.size L.Dd <= maxLen := by unfold maxLen; omega
 have hbytes : Maps.size L.Dd * 8 <= 140737488355328 := by omega
 have hseq : SeqGives Fence.wide 2 Tryz.prog 147 #[.pointer (some ⟨w.heap.size, 0, none⟩)] encZ (fun ss => ss.Perm (intKeys L.Dd)) (Maps.size L.Dd) (w.alloc (.cells #[.map (some L.dm)] 100)) :=
  AnyZI.keys_gives (ρ := Tryz.keysB_ren) { Tryz.keysB with } Fence.wide _ trivial rfl (by omega) w.heap.size L.dm 4096 L.Dd _ (by simp) (by simp) (by
   obtain ⟨es, clock, hb, Ft, hs, hD⟩ := hown
   exact ⟨es, clock, (Below.heap_alloc _ _ L.dm hbl).trans hb, Ft, hs, hD⟩)
 have cK : ∀ mb W, CallsIn Fence.wide 5 Tryz.prog 95 #[.map mb] W fun e w' => e = .returned (.func (.func 147) #[] #[.pointer (some ⟨W.heap.size, 0, none⟩)]) /\ w' = W.alloc (.cells #[.map mb] 100) := fun mb W => AnyZI.keys_in Tryz.keysB Fence.wide 5 trivial rfl mb W
 have cS := AnyZI.sorted_in Tryz.sortedA Fence.wide 5 trivial trivial trivial trivial rfl (by omega) (sortsA _) (enters_of Tryz.func146 (by kernel_rfl) rfl) 147 #[.pointer (some ⟨w.heap.size, 0, none⟩)] trivial (enters_of Tryz.func147 (by kernel_rfl) rfl) _ _ hmax hbytes _ hseq
 change CallsIn _ _ Tryz.prog 94 _ _ _ at cS
 have hfK : Fence.wide.fn 95 := trivial
 have hfS : Fence.wide.fn 94 := trivial
 have H := hid h.dirty
 have HKe := hid hke
 clear h hown hseq hsz hke
 refine callsIn_of_wp Tryz.func42 rfl trivial ?_ rfl
 simp only [Tryz.ntmps42, List.size_toArray, List.length_cons, List.length_nil, Nat.reduceAdd, Nat.reduceSub, Array.replicate_succ, Array.replicate_zero, List.push_toArray, List.append_toArray, List.nil_append, List.cons_append]
 gi_wp2_with (first
  | (gi_at_call 95; refine (cK _ _).mono ?_; rintro e w' ⟨rfl, rfl⟩)
  | (gi_at_call 94; refine cS.mono ?_; rintro e w' ⟨v, ss, rfl, hS, hrow, hnil, hb⟩))
 go_ret
 have hk := H.out.keys hS
 rw [hk] at hrow
 have hlen : ss.length = (grpKeys L.dv C.N).length := by rw [<- hk, List.length_mergeSort]
 rw [HKe.out] at hrow hlen
 refine ⟨v, rfl, ?_, ?_, ((Below.refl _ w).alloc (Nat.le_refl _) _).trans (hb.mono (by simp))⟩
 ·rw [<- hlen]; exact ownsRow_base_a hrow (by simp)
 ·rw [hnil, <- List.length_eq_zero_iff, hlen, List.length_eq_zero_iff]
end
theorem bnew_ok (p : Nat) (d : DL) (S : DiskS) (size : Nat) (F : Nat -> Prop) (most : Nat) (hm1 : 1 <= most) (hm2 : most <= 64) (w : World) (h : LogIn w p d S size 0 F) (hF : ∀ i, F i -> i < w.heap.size) (hs : size + 1 <= S.safe.length) :
  Calls Tryz.prog 29 #[.pointer (some ⟨p, 0, none⟩), .int .i64 most] w fun e w' => Below w.heap.size w w' /\ ∃ c L, e = .returned (.tuple #[.pointer (some ⟨c, 0, none⟩), .int .i64 0]) /\ w.heap.size <= c /\ L.dv = (fun _ => none) /\ L.F = F /\ (∀ i, L.foot c i -> F i \/ w.heap.size <= i) /\ CacheAt w' c L ⟨S, size, pagesS S size, fun _ => none, most, 0, fun _ => none⟩ := by
 have H := hid h
 have HF := hid hF
 clear h hF
 have k1 : (1 : Int) <= (most : Int) := by omega
 have k2 : (most : Int) <= 64 := by omega
 have hmk : ∀ W : World, (Instr.makeMap 100 none).run Tryz.prog W = .ok (.map (some W.heap.size)) (W.alloc (.map #[] 0)) := fun W => by kernel_rfl
 have hmk2 : ∀ W : World, (Instr.makeMap 101 none).run Tryz.prog W = .ok (.map (some W.heap.size)) (W.alloc (.map #[] 0)) := fun W => by kernel_rfl
 go_enter Tryz.func29, Tryz.ntmps29
 go_wp2
 go_returns
 obtain ⟨-, -, m3, -⟩ := new2 w (.map #[] 0) (.map #[] 0)
 have hB2 : Below w.heap.size w ((w.alloc (.map #[] 0)).alloc (.map #[] 0)) := m3
 have hB3 : Below w.heap.size w (((w.alloc (.map #[] 0)).alloc (.map #[] 0)).alloc (.cells #[.pointer (some ⟨p, 0, none⟩), .map (some w.heap.size), .int .i64 most, .int .i64 0, .map (some (w.heap.size + 1))] 105)) := hB2.alloc hB2.size _
 refine ⟨hB3, w.heap.size + 2, ⟨p, w.heap.size, w.heap.size + 1, d, .map [], .map [], fun _ => none, F⟩, ?_, by omega, rfl, rfl, ?_, ?_⟩
 ·simp
 ·rintro i (hi | hi | hi | hi)
  ·exact .inl hi
  ·exact .inr (by omega)
  ·exact .inr (by simp only at hi; omega)
  ·exact .inr (by simp only at hi; omega)
 ·obtain ⟨n1, n2, n3, -⟩ := new3 w (.map #[] 0) (.map #[] 0) (.cells #[.pointer (some ⟨p, 0, none⟩), .map (some w.heap.size), .int .i64 most, .int .i64 0, .map (some (w.heap.size + 1))] 105)
  exact {
   heap := n3
   log := H.out.below hB3
   lt := fun i hi => Nat.lt_of_lt_of_le (HF.out i hi) hB3.size
   dirty := grpIn_empty (ownsMap_tight (map_empty n1) (Nat.zero_le _)) _
   bytes := fun n v hv => (by cases hv)
   clean := fun _ _ => rfl
   used := grpIn_empty (ownsMap_tight (map_empty n2) (Nat.zero_le _)) _
   offc := fun hi => (by have := HF.out _ hi; omega)
   offd := fun hi => Nat.lt_irrefl _ (HF.out _ hi)
   offu := fun hi => absurd (HF.out _ hi) (show ¬ (w.heap.size + 1 < w.heap.size) by omega)
   ne := Nat.ne_of_lt (Nat.lt_succ_self _)
   pages := rfl
   fits := hs
   few := Nat.zero_le _
   ub := fun n u hu => (by cases hu) }
end
section
open Go.RowKit
theorem AnyAt.keepN {w w' : World} {d : DL} {S : DiskS} {F G : Nat -> Prop} (h : AnyAt w d S F) (hF : ∀ i, F i -> ¬ G i) (hop : ∀ ad o, w.cell? ad = some (encOp o) -> ¬ G ad.block) (hst : ∀ ad s, w.cell? ad = some (.string s) -> ¬ G ad.block) (k : Keeps G w w') : AnyAt w' d S F := by
 rcases h with ⟨h, hf⟩ | ⟨h, hf⟩
 ·refine .inl ⟨?_, hf⟩
  have hne : ∀ i, d.cutFoot S.waits i -> ¬ G i := fun i hi => hF i (hf i hi)
  obtain ⟨h1, ⟨a, e1, e2, e3⟩, ⟨ad, c, e4, e5, e6⟩, h4⟩ := h
  refine ⟨h1.keep k (hne _ (.inl rfl)) (fun i hi => hne i (.inr hi)), ⟨a, e1, e2, fun q hq => ⟨fun j u hu => ?_, Nat.lt_of_lt_of_le (e3 q hq).2 k.size⟩⟩, ⟨ad, c, e4, fun j s hj => ?_, e6⟩, h4⟩
  ·have hc := (e3 q hq).1 j u hu
   rw [List.getElem?_map] at hu
   cases ho : S.ops[j]? with
   | none => rw [ho] at hu; cases hu
   | some o =>
    rw [ho] at hu
    obtain rfl := Option.some.inj hu
    exact k.cell hc (hop _ o hc)
  ·exact k.cell (e5 j s hj) (hst _ _ (e5 j s hj))
 ·refine .inr ⟨?_, hf⟩
  have hne : ∀ i, d.foot S.waits i -> ¬ G i := fun i hi => hF i (hf i hi)
  refine h.keep k hne (fun i hi e => ?_)
  obtain ⟨ad, c, e4, e5, e6⟩ := h.first
  have hpos : 0 < S.first.length := by rw [h.flen]; exact h.plates.pos
  have hc := e5 0 S.first[0] (List.getElem?_eq_getElem hpos)
  have h1 := hst _ _ hc
  rw [add_block] at h1
  rw [e4] at hi
  exact h1 ((Option.some.inj hi).symm ▸ e)
theorem LogIn.keepN {w w' : World} {p : Nat} {d : DL} {S : DiskS} {size rec : Nat} {F G : Nat -> Prop} (h : LogIn w p d S size rec F) (hp : ¬ G p) (hF : ∀ i, F i -> ¬ G i) (hop : ∀ ad o, w.cell? ad = some (encOp o) -> ¬ G ad.block) (hst : ∀ ad s, w.cell? ad = some (.string s) -> ¬ G ad.block) (k : Keeps G w w') : LogIn w' p d S size rec F :=
 ⟨k.heap h.heap hp, h.disk.keepN hF hop hst k, h.off⟩
theorem cell_map {w : World} {b : Nat} {es : Array MapEntry} {c : Nat} (h : w.heap[b]? = some (.map es c)) {ad : Addr} {v : Value} (hc : w.cell? ad = some v) : ad.block ≠ b := fun e => by
 have hp := plain_addr hc
 rw [hp, e] at hc
 simp [World.cell?, h] at hc
end
section
open Go.RowKit Go.Maps
section
variable {w w' : World} {c : Nat} {L : CLay} {C : CS} {G : Nat -> Prop}
theorem CacheAt.out (h : CacheAt w c L C) (hG : ∀ i, G i -> i = c \/ i = L.dm \/ i = L.um) {ad : Addr} {v : Value} (hc : w.cell? ad = some v) (h1 : ∀ x, v ≠ .pointer x) (h2 : ∀ x, v ≠ .map x) (h3 : ∀ x, v ≠ .int .i64 x) : ¬ G ad.block := fun hg => by
 obtain ⟨es, k, hd⟩ := h.dmap
 obtain ⟨es', k', hu⟩ := h.umap
 rcases hG _ hg with e | e | e
 ·have hp := plain_addr hc
  rw [hp, e, cell_of_block h.heap] at hc
  match ad.off, hc with
  | 0, hc => simp at hc; exact h1 _ hc.symm
  | 1, hc => simp at hc; exact h2 _ hc.symm
  | 2, hc => simp at hc; exact h3 _ hc.symm
  | 3, hc => simp at hc; exact h3 _ hc.symm
  | 4, hc => simp at hc; exact h2 _ hc.symm
  | (n + 5), hc => simp at hc
 ·exact cell_map hd hc e
 ·exact cell_map hu hc e
theorem CacheAt.logKeep (h : CacheAt w c L C) (hG : ∀ i, G i -> i = c \/ i = L.dm \/ i = L.um) (k : Keeps G w w') : LogIn w' L.p L.d C.S C.size 0 L.F := by
 obtain ⟨es, kk, hd⟩ := h.dmap
 obtain ⟨es', kk', hu⟩ := h.umap
 refine h.log.keepN (fun hg => ?_) (fun i hi hg => ?_) (fun ad o hc => h.out hG hc (fun x => by cases o <;> simp [encOp]) (fun x => by cases o <;> simp [encOp]) (fun x => by cases o <;> simp [encOp])) (fun ad s hc => h.out hG hc (fun x => by simp) (fun x => by simp) (fun x => by simp)) k
 ·have hp := h.log.heap
  rcases hG _ hg with e | e | e
  ·rw [e, h.heap] at hp
   simp only [Option.some.injEq, Obj.cells.injEq] at hp
   exact absurd hp.2.1 (by decide)
  ·rw [e, hd] at hp; cases hp
  ·rw [e, hu] at hp; cases hp
 ·rcases hG _ hg with e | e | e
  ·subst e; exact h.offc hi
  ·subst e; exact h.offd hi
  ·subst e; exact h.offu hi
theorem CacheAt.bytesKeep (h : CacheAt w c L C) (hG : ∀ i, G i -> i = c \/ i = L.dm \/ i = L.um) (k : Keeps G w w') : ∀ n v, L.dv n = some v -> ∃ g cap bs, C.dirty n = some bs /\ v = .slice (some ⟨g, 0, none⟩) 512 cap /\ bytesAt w' ⟨g, 0, none⟩ bs /\ bs.length = 512 /\ ¬ L.F g := fun n v hv => by
 obtain ⟨g, cap, bs, h1, h2, h3, h4, h5⟩ := h.bytes n v hv
 exact ⟨g, cap, bs, h1, h2, fun j hj => k.cell (h3 j hj) (h.out hG (h3 j hj) (fun x => by simp) (fun x => by simp) (fun x => by simp)), h4, h5⟩
theorem CacheAt.use {n : Int} (h : CacheAt w c L C) {u' : Int -> Option Nat} {D' : DataW Value} (hc : w'.heap[c]? = some (.cells #[.pointer (some ⟨L.p, 0, none⟩), .map (some L.dm), .int .i64 C.most, .int .i64 (C.uses + 1 : Nat), .map (some L.um)] 105 (0, 0))) (hU : GrpIn w' L.um 4096 D' C.N (usedV u')) (hT : UseTo C.used C.most C.N (C.uses + 1) n u') (hk : Keeps (fun i => i = c \/ i = L.um) w w') (hu : C.uses < 1000000) :
  CacheAt w' c { L with Du := D' } { C with uses := C.uses + 1, used := u' } where
 heap := hc
 log := h.logKeep (fun _ hi => hi.elim .inl (fun e => .inr (.inr e))) hk
 lt := fun i hi => Nat.lt_of_lt_of_le (h.lt i hi) hk.size
 dirty := h.dirty.keep hk (fun e => e.elim (fun e => h.cd e.symm) (fun e => h.ne e))
 bytes := h.bytesKeep (fun _ hi => hi.elim .inl (fun e => .inr (.inr e))) hk
 clean := h.clean
 used := hU
 offc := h.offc
 offd := h.offd
 offu := h.offu
 ne := h.ne
 pages := h.pages
 fits := h.fits
 few := hu
 ub := hT.ub (fun y j hy => Nat.le_succ_of_le (h.ub y j hy))
end
def ReadTo (w w' : World) (c : Nat) (L : CLay) (C : CS) (n : Int) (e : Ending) : Prop :=
 (¬ (0 <= n /\ n < (C.N : Int)) /\ C.dirty n = none /\ e = .returned (.tuple #[.slice none 0 0, .int .i64 2]) /\ Below w.heap.size w w') \/
 (∃ bs, C.dirty n = some bs /\ bs.length = 512 /\ ∃ g cap, e = .returned (.tuple #[.slice (some ⟨g, 0, none⟩) 512 cap, .int .i64 0]) /\ w.heap.size <= g /\ bytesAt w' ⟨g, 0, none⟩ bs /\ Below w.heap.size w w') \/
 (0 <= n /\ n < (C.N : Int) /\ C.dirty n = none /\ ∃ g cap, e = .returned (.tuple #[.slice (some ⟨g, 0, none⟩) 512 cap, .int .i64 0]) /\ w.heap.size <= g /\ bytesAt w' ⟨g, 0, none⟩ (secL C.S (1 + C.size + n.toNat)) /\ ∃ u' D', UseTo C.used C.most C.N (C.uses + 1) n u' /\ CacheAt w' c { L with Du := D' } { C with uses := C.uses + 1, used := u' } /\ Keeps (fun i => i = c \/ i = L.um) w w')
section
variable {c : Nat} {L : CLay} {C : CS}
theorem bread_any (n : Int) (hn0 : -9223372036854775808 <= n) (hn1 : n < 9223372036854775808) (w : World) (h : CacheAt w c L C) (hM : Made C.S) (hu : C.uses < 1000000) :
  Calls Tryz.prog 140 #[.pointer (some ⟨c, 0, none⟩), .int .i64 n] w fun e w' => ReadTo w w' c L C n e := by
 obtain ⟨c0, c1, -, -, -⟩ := h.cells
 have H := hid h
 have HM := hid hM
 cases hdv : L.dv n with
 | some v =>
  obtain ⟨g0, cap0, bs, h1, rfl, h3, h4, h5⟩ := h.bytes n v hdv
  have HDv := hid hdv
  have HDi := hid h1
  have hcl := bclone_any bs ⟨g0, 0, none⟩ cap0 w (by omega) (by omega) h3
  rw [h4] at hcl
  have HCl := hid hcl
  have H4 := hid h4
  clear h hM hdv h1 h3 h4 h5 hcl
  go_enter Tryz.func140, Tryz.ntmps140
  go_wp2_with (refine wpList_lookup_grp rfl (.tmp 16) (.tmp 17) 100 rfl 42 Tryz.underlying100 (Tryz.zeroValue42 _) rfl H.out.dirty n rfl hn0 hn1 (.slice (some ⟨g0, 0, none⟩) 512 cap0) true (by rw [HDv.out]; rfl) (by rw [HDv.out]; rfl) ?_)
  refine HCl.out.mono ?_
  clear HCl
  rintro e w1 ⟨g, cap, rfl, hrow, hb⟩
  have HB := hid hb
  have HR := hid hrow
  clear hb hrow
  go_wp2
  go_returns
  exact .inr (.inl ⟨bs, HDi.out, H4.out, g, cap, rfl, (HR.out.lt g rfl).1, row_bytesAt HR.out H4.out, HB.out⟩)
 | none =>
  have HDv := hid hdv
  have HDi := hid (h.clean n hdv)
  clear h hM hdv
  by_cases hin : 0 <= n /\ n < (C.N : Int)
  ·obtain ⟨hi0, hi1⟩ := hin
   obtain ⟨x, rfl⟩ : ∃ x : Nat, n = (x : Int) := ⟨n.toNat, by omega⟩
   have hxp : x < pagesS C.S C.size := by rw [<- H.out.pages]; omega
   have hx1 : C.size + 1 + x < C.S.safe.length := by unfold pagesS at hxp; omega
   have hsz : (seenS C.S.safe C.S.waits ((1 + C.size + x : Nat) : Int)).size = 512 := HM.out.seen (1 + C.size + x) (by omega)
   have hlr := log_read x w H.out.log H.out.fits hxp
   rw [show (1 + (C.size : Int) + (x : Int)) = ((1 + C.size + x : Nat) : Int) by omega, hsz] at hlr
   have HLr := hid hlr
   have hcl := lt_of_heap H.out.heap
   have hpl := H.out.pagesLe
   clear hlr hsz hx1 hxp
   go_enter Tryz.func140, Tryz.ntmps140
   go_wp2_with (refine wpList_lookup_grp rfl (.tmp 16) (.tmp 17) 100 rfl 42 Tryz.underlying100 (Tryz.zeroValue42 _) rfl H.out.dirty (x : Int) rfl hn0 hn1 (.slice none 0 0) false (by rw [HDv.out]; rfl) (by rw [HDv.out]; rfl) ?_)
   refine HLr.out.mono ?_
   clear HLr
   rintro e w1 ⟨g, cap, rfl, hg1, hby, hb1⟩
   have H1 := hid (H.out.below hb1)
   have HBy := hid hby
   have HB1 := hid hb1
   have HUs := hid (buse_any C.used _ _ _ C.most C.uses hu H.out.ub (x : Int) hi0 hi1 hpl w1 H1.out.heap H1.out.used)
   clear hby hb1
   go_wp2_with fail
   refine HUs.out.mono ?_
   clear HUs
   rintro e w2 ⟨rfl, u', D', hc2, hU2, hT2, hK2⟩
   have hby2 : bytesAt w2 ⟨g, 0, none⟩ (secL C.S (1 + C.size + x)) := fun j hj => by
    have h1 := HBy.out j hj
    exact hK2.cell h1 (H1.out.out (G := fun i => i = c \/ i = L.um) (fun i hi => hi.elim .inl (fun e => .inr (.inr e))) h1 (fun y => by simp) (fun y => by simp) (fun y => by simp))
   have HBy2 := hid hby2
   have HC2 := hid (H1.out.use hc2 hU2 hT2 hK2 hu)
   have HT2 := hid hT2
   have HK2 : Hid (Keeps (fun i => i = c \/ i = L.um) w w2) := (Keeps.of_below HB1.out).trans hK2 (fun i e => .inl e)
   clear hc2 hU2 hT2 hK2 hby2
   go_wp2
   go_returns
   exact .inr (.inr ⟨hi0, hi1, HDi.out, g, cap, rfl, hg1, by rw [show ((x : Int)).toNat = x by omega]; exact HBy2.out, u', D', HT2.out, HC2.out, HK2.out⟩)
  ·have HLr := hid (log_read_no n w H.out.log H.out.fits (by rw [<- H.out.pages]; exact hin))
   have HIn := hid hin
   clear hin
   go_enter Tryz.func140, Tryz.ntmps140
   go_wp2_with (refine wpList_lookup_grp rfl (.tmp 16) (.tmp 17) 100 rfl 42 Tryz.underlying100 (Tryz.zeroValue42 _) rfl H.out.dirty n rfl hn0 hn1 (.slice none 0 0) false (by rw [HDv.out]; rfl) (by rw [HDv.out]; rfl) ?_)
   refine HLr.out.mono ?_
   clear HLr
   rintro e w1 ⟨rfl, hb1⟩
   have HB1 := hid hb1
   clear hb1
   go_wp2
   go_returns
   exact .inl ⟨HIn.out, HDi.out, rfl, HB1.out⟩
def updD (f : Int -> Option (List UInt8)) (n : Int) (l : List UInt8) : Int -> Option (List UInt8) := fun k => if k = n then some l else f k
theorem CacheAt.wrote {w w1 w2 w3 : World} (h : CacheAt w c L C) {n : Int} {l : List UInt8} {g cap : Nat} {Dd Du : DataW Value} (hl : l.length = 512) (hb1 : Below w.heap.size w w1) (hrow : w1.ownsRow w.heap.size 5 1 (.slice (some ⟨g, 0, none⟩) 512 cap) 512 (l.map U8)) (hd : GrpIn w2 L.dm 4096 Dd C.N (updV L.dv n (.slice (some ⟨g, 0, none⟩) 512 cap))) (hk2 : Keeps (fun i => i = L.dm) w1 w2) (hu : GrpIn w3 L.um 4096 Du C.N (usedV (delN C.used n))) (hk3 : Keeps (fun i => i = L.um) w2 w3) :
  CacheAt w3 c { L with dv := updV L.dv n (.slice (some ⟨g, 0, none⟩) 512 cap), Dd := Dd, Du := Du } { C with dirty := updD C.dirty n l, used := delN C.used n } := by
 have h1 := h.below hb1
 have hk13 : Keeps (fun i => i = L.dm \/ i = L.um) w1 w3 := (hk2.mono (G := fun i => i = L.dm \/ i = L.um) (fun i e => .inl e)).trans hk3 (fun i e => .inl (.inr e))
 have hG : ∀ i, (i = L.dm \/ i = L.um) -> i = c \/ i = L.dm \/ i = L.um := fun i hi => .inr hi
 have hby := row_bytesAt hrow hl
 obtain ⟨hg1, hg2⟩ := hrow.lt g rfl
 exact {
  heap := hk13.heap h1.heap (fun e => e.elim h.cd h.cu)
  log := h1.logKeep hG hk13
  lt := fun i hi => Nat.lt_of_lt_of_le (h1.lt i hi) hk13.size
  dirty := hd.keep hk3 (fun e => h.ne e)
  bytes := fun k v hv => by
   by_cases e : k = n
   ·subst e
    simp only [updV, if_true, Option.some.injEq] at hv
    refine ⟨g, cap, l, by simp [updD], hv.symm, fun j hj => hk13.cell (hby j hj) (h1.out hG (hby j hj) (fun x => by simp) (fun x => by simp) (fun x => by simp)), hl, fun hf => ?_⟩
    have := h.lt g hf
    omega
   ·have hv' : L.dv k = some v := by simpa [updV, e] using hv
    obtain ⟨g', cap', bs, a1, a2, a3, a4, a5⟩ := h1.bytesKeep hG hk13 k v hv'
    exact ⟨g', cap', bs, by simpa [updD, e] using a1, a2, a3, a4, a5⟩
  clean := fun k hk => by
   by_cases e : k = n
   ·subst e; simp [updV] at hk
   ·simp only [updD, if_neg e]; exact h.clean k (by simpa [updV, e] using hk)
  used := hu
  offc := h.offc
  offd := h.offd
  offu := h.offu
  ne := h.ne
  pages := h.pages
  fits := h.fits
  few := h.few
  ub := fun y j hy => by
   simp only [delN] at hy
   split at hy
   ·cases hy
   ·exact h.ub y j hy }
def WroteTo (w w' : World) (c : Nat) (L : CLay) (C : CS) (n : Nat) (l : List UInt8) (e : Ending) : Prop :=
 e = .returned (.int .i64 0) /\ ∃ g cap Dd Du, w.heap.size <= g /\ CacheAt w' c { L with dv := updV L.dv n (.slice (some ⟨g, 0, none⟩) 512 cap), Dd := Dd, Du := Du } { C with dirty := updD C.dirty n l, used := delN C.used n } /\ Keeps (fun i => i = L.dm \/ i = L.um) w w'
theorem bwrite_ok (n : Nat) (l : List UInt8) (ad : Addr) (cp : Nat) (w : World) (h : CacheAt w c L C) (hn : n < C.N) (hl : l.length = 512) (hb : bytesAt w ad l) (hr : (C.dirty n).isSome \/ C.dirtyKeys.length < min C.size 100) :
  Calls Tryz.prog 90 #[.pointer (some ⟨c, 0, none⟩), .int .i64 n, .slice (some ad) 512 cp] w fun e w' => WroteTo w w' c L C n l e := by
 obtain ⟨c0, c1, -, -, c4⟩ := h.cells
 have H := hid h
 have hcl := lt_of_heap h.heap
 have hpg := log_pages w h.log h.fits
 rw [<- h.pages] at hpg
 have HPg := hid hpg
 have hN := h.pagesLe
 have HRm := hid (fun W (hW : Below w.heap.size w W) => broom_any W (h.below hW))
 have hb' : ∀ W, Below w.heap.size w W -> bytesAt W ad l := fun W hW j hj => (hW.cell (World.block_lt_of_cell? w _ (hb j hj))).trans (hb j hj)
 have HCl : Hid (∀ W, Below w.heap.size w W -> Calls Tryz.prog 143 #[.slice (some ad) 512 cp] W fun e w' => ∃ g cap, e = .returned (.slice (some ⟨g, 0, none⟩) 512 cap) /\ w'.ownsRow W.heap.size 5 1 (.slice (some ⟨g, 0, none⟩) 512 cap) 512 (l.map U8) /\ Below W.heap.size W w') := fun W hW => by
  have := bclone_any l ad cp W (by omega) (by omega) (hb' W hW)
  rw [hl] at this
  exact this
 have HL := hid hl
 have hsi := h.some_iff (n : Int)
 have HC : Hid (∀ W, Below w.heap.size w W -> W.cell? ⟨c, 0, none⟩ = some (.pointer (some ⟨L.p, 0, none⟩)) /\ W.cell? ⟨c, 1, none⟩ = some (.map (some L.dm)) /\ W.cell? ⟨c, 4, none⟩ = some (.map (some L.um))) := fun W hW => by
  obtain ⟨x0, x1, -, -, x4⟩ := (h.below hW).cells
  exact ⟨x0, x1, x4⟩
 clear h hpg hb hb' hl
 have hn0 : ¬ ((n : Int) < 0) := by omega
 have hn1 : ¬ ((n : Int) ≥ (C.N : Int)) := by omega
 have hn2 : (n : Int) < 9223372036854775808 := by omega
 have hn3 : (-9223372036854775808 : Int) <= (n : Int) := by omega
 have HN4 := hid hN
 have HN5 := hid hn
 have HCl0 := hid hcl
 clear hn2 hn3 hN hn hcl
 cases hdv : L.dv (n : Int) with
 | some v =>
  have HDv := hid hdv
  clear hdv hr hsi
  go_enter Tryz.func90, Tryz.ntmps90
  go_wp2_with fail
  refine HPg.out.mono ?_
  clear HPg
  rintro e w1 ⟨rfl, hb1⟩
  have HB1 := hid hb1
  have HD1 := hid (H.out.dirty.below hb1)
  obtain ⟨d0, d1, -⟩ := HC.out w1 hb1
  clear hb1 c0 c1 c4
  go_wp2_with (first
   | (at_lookup; refine wpList_lookup_grp rfl (.tmp 29) (.tmp 30) 100 rfl 42 Tryz.underlying100 (Tryz.zeroValue42 _) rfl HD1.out (n : Int) rfl (by omega) (by have := HN4.out; have := HN5.out; omega) v true (by rw [HDv.out]; rfl) (by rw [HDv.out]; rfl) ?_)
   | fail)
  clear d0 d1
  obtain ⟨y0, y1, y4⟩ := HC.out w1 HB1.out
  have HK0 := hid (HCl.out w1.drew HB1.out.drew)
  go_wp2
  refine wp_region_noPanic ?_
  refine wp_region_held_drew (S := fun W => W.cell? ⟨c, 1, none⟩ = some (.map (some L.dm))) (by kernel_rfl) y1 (fun hHeld => ?_)
  refine tq 0 _ ?_
  try simp only [tS]
  refine tq 1 _ ?_
  try simp only [tS]
  refine tq 2 _ ?_
  try simp only [tS]
  refine tq 3 _ ?_
  try simp only [tS]
  refine tq 4 _ ?_
  try simp only [tS]
  refine tq 5 _ ?_
  try simp only [tS]
  refine wpAnyH_ready (rs := [6]) (by kernel_rfl) (by simp) (AllReadyH.cons rfl (fun K hK => ?_) AllReadyH.nil)
  rw [if_pos (by rfl)]
  go_simp
  refine HK0.out.mono ?_
  clear HK0
  rintro e w3 ⟨g, cap, rfl, hrow, hb3⟩
  have hB3 : Below w.heap.size w w3 := HB1.out.drew.trans (hb3.mono HB1.out.drew.size)
  have H3 := hid (H.out.below hB3)
  have HRw := hid (World.ownsRow.mono hrow HB1.out.drew.size)
  have HB3 := hid hB3
  obtain ⟨z0, z1, z4⟩ := HC.out w3 hB3
  clear hb3 hrow hB3 y0 y1 y4
  go_wp2_with fail
  refine hK.out _ _ z1 (fun hHeld => ?_)
  clear hK K
  try simp only [tS]
  refine wpAnyH_ready (rs := [7]) (by kernel_rfl) (by simp) (AllReadyH.cons rfl (fun K hK => ?_) AllReadyH.nil)
  rw [if_pos (by rfl)]
  refine wp_mapUpdate_self (.tmp 44) (.tmp 45) (.tmp 47) 100 rfl 3 42 (int_keyed Tryz.underlying3) Tryz.underlying100 L.dm 4096 L.Dd rfl H3.out.dirty.mapOwn (by unfold maxLen; omega) (.int .i64 (n : Int)) (.slice (some ⟨g, 0, none⟩) 512 cap) (.int .i64 (n : Int)) rfl rfl (keyI (by omega) (by have := HN4.out; have := HN5.out; omega)) ?_
  intro w4 hown4 hgr4
  have HG4 := hid ((H3.out.dirty.put (by omega) (by have := HN5.out; omega) hown4).norm HN4.out)
  have hK34 : Keeps (fun i => i = L.dm) w3 w4 := (Keeps.refl _ w3).grown hgr4 (fun i e => .inl (Option.some.inj e).symm)
  have HK34 := hid hK34
  have x1 : w4.cell? ⟨c, 1, none⟩ = some (.map (some L.dm)) := hK34.cell (ad := ⟨c, 1, none⟩) z1 (fun e => H.out.cd e)
  have x4 : w4.cell? ⟨c, 4, none⟩ = some (.map (some L.um)) := hK34.cell (ad := ⟨c, 4, none⟩) z4 (fun e => H.out.cd e)
  have HU4 := hid (H3.out.used.keep hK34 (fun e => H.out.ne e.symm))
  have HDr := hid (bdrop_any (c := c) (usedV C.used) (n : Int) (by omega) (by have := HN4.out; have := HN5.out; omega) w4 x4 HU4.out)
  clear hown4 hgr4 hK34 z0 z1 z4
  refine hK.out _ _ x1 (fun hHeld => ?_)
  clear hK K
  refine wpAnyH_done (by kernel_rfl) ?_ _
  refine NoPanic.normal ?_
  clear hHeld x1 x4
  go_wp2_with fail
  refine HDr.out.mono ?_
  clear HDr
  rintro e w5 ⟨rfl, D5, hG5, hg5⟩
  rw [usedV_del] at hG5
  have hK45 : Keeps (fun i => i = L.um) w4 w5 := (Keeps.refl _ w4).grown hg5 (fun i e => .inl (Option.some.inj e).symm)
  have HC5 := hid (H.out.wrote HL.out HB3.out HRw.out HG4.out HK34.out hG5 hK45)
  have HK5 : Hid (Keeps (fun i => i = L.dm \/ i = L.um) w w5) := ((Keeps.of_below HB3.out).trans HK34.out (fun i e => .inl (.inl e))).trans hK45 (fun i e => .inl (.inr e))
  have HGe : Hid (w.heap.size <= g) := (HRw.out.lt g rfl).1
  clear hG5 hg5 hK45
  go_wp2
  go_ret
  exact ⟨rfl, g, cap, _, D5, HGe.out, HC5.out, HK5.out⟩
 | none =>
  have HDv := hid hdv
  have hdk : C.dirtyKeys.length < min C.size 100 := by
   rcases hr with h1 | h1
   ·rw [hdv] at hsi; rw [<- hsi] at h1; cases h1
   ·exact h1
  clear hdv hr hsi
  have hcp : min C.size 100 <= 100 := by omega
  generalize min C.size 100 = cpp at *
  generalize C.dirtyKeys.length = dk at *
  have hne : ((cpp : Int) - (dk : Int) == 0) = false := beq_eq_false_iff_ne.2 (by omega)
  have hne' : ¬ ((cpp : Int) - (dk : Int) = 0) := by omega
  go_enter Tryz.func90, Tryz.ntmps90
  go_wp2_with fail
  refine HPg.out.mono ?_
  clear HPg
  rintro e w1 ⟨rfl, hb1⟩
  have HB1 := hid hb1
  have HD1 := hid (H.out.dirty.below hb1)
  obtain ⟨d0, d1, -⟩ := HC.out w1 hb1
  have HR1 := hid (HRm.out w1 hb1)
  clear hb1 c0 c1 c4 HRm
  go_wp2_with (first
   | (at_lookup; refine wpList_lookup_grp rfl (.tmp 29) (.tmp 30) 100 rfl 42 Tryz.underlying100 (Tryz.zeroValue42 _) rfl HD1.out (n : Int) rfl (by omega) (by have := HN4.out; have := HN5.out; omega) (.slice none 0 0) false (by rw [HDv.out]; rfl) (by rw [HDv.out]; rfl) ?_)
   | fail)
  refine HR1.out.mono ?_
  clear HR1
  rintro e w2 ⟨rfl, hb2⟩
  have HB2 := hid (HB1.out.trans (hb2.mono HB1.out.size))
  clear hb2 d0 d1
  obtain ⟨y0, y1, y4⟩ := HC.out w2 HB2.out
  have HK0 := hid (HCl.out w2.drew HB2.out.drew)
  go_wp2
  refine wp_region_noPanic ?_
  refine wp_region_held_drew (S := fun W => W.cell? ⟨c, 1, none⟩ = some (.map (some L.dm))) (by kernel_rfl) y1 (fun hHeld => ?_)
  refine tq 0 _ ?_
  try simp only [tS]
  refine tq 1 _ ?_
  try simp only [tS]
  refine tq 2 _ ?_
  try simp only [tS]
  refine tq 3 _ ?_
  try simp only [tS]
  refine tq 4 _ ?_
  try simp only [tS]
  refine tq 5 _ ?_
  try simp only [tS]
  refine wpAnyH_ready (rs := [6]) (by kernel_rfl) (by simp) (AllReadyH.cons rfl (fun K hK => ?_) AllReadyH.nil)
  rw [if_pos (by rfl)]
  go_simp
  refine HK0.out.mono ?_
  clear HK0
  rintro e w3 ⟨g, cap, rfl, hrow, hb3⟩
  have hB3 : Below w.heap.size w w3 := HB2.out.drew.trans (hb3.mono HB2.out.drew.size)
  have H3 := hid (H.out.below hB3)
  have HRw := hid (World.ownsRow.mono hrow HB2.out.drew.size)
  have HB3 := hid hB3
  obtain ⟨z0, z1, z4⟩ := HC.out w3 hB3
  clear hb3 hrow hB3 y0 y1 y4
  go_wp2_with fail
  refine hK.out _ _ z1 (fun hHeld => ?_)
  clear hK K
  try simp only [tS]
  refine wpAnyH_ready (rs := [7]) (by kernel_rfl) (by simp) (AllReadyH.cons rfl (fun K hK => ?_) AllReadyH.nil)
  rw [if_pos (by rfl)]
  refine wp_mapUpdate_self (.tmp 44) (.tmp 45) (.tmp 47) 100 rfl 3 42 (int_keyed Tryz.underlying3) Tryz.underlying100 L.dm 4096 L.Dd rfl H3.out.dirty.mapOwn (by unfold maxLen; omega) (.int .i64 (n : Int)) (.slice (some ⟨g, 0, none⟩) 512 cap) (.int .i64 (n : Int)) rfl rfl (keyI (by omega) (by have := HN4.out; have := HN5.out; omega)) ?_
  intro w4 hown4 hgr4
  have HG4 := hid ((H3.out.dirty.put (by omega) (by have := HN5.out; omega) hown4).norm HN4.out)
  have hK34 : Keeps (fun i => i = L.dm) w3 w4 := (Keeps.refl _ w3).grown hgr4 (fun i e => .inl (Option.some.inj e).symm)
  have HK34 := hid hK34
  have x1 : w4.cell? ⟨c, 1, none⟩ = some (.map (some L.dm)) := hK34.cell (ad := ⟨c, 1, none⟩) z1 (fun e => H.out.cd e)
  have x4 : w4.cell? ⟨c, 4, none⟩ = some (.map (some L.um)) := hK34.cell (ad := ⟨c, 4, none⟩) z4 (fun e => H.out.cd e)
  have HU4 := hid (H3.out.used.keep hK34 (fun e => H.out.ne e.symm))
  have HDr := hid (bdrop_any (c := c) (usedV C.used) (n : Int) (by omega) (by have := HN4.out; have := HN5.out; omega) w4 x4 HU4.out)
  clear hown4 hgr4 hK34 z0 z1 z4
  refine hK.out _ _ x1 (fun hHeld => ?_)
  clear hK K
  refine wpAnyH_done (by kernel_rfl) ?_ _
  refine NoPanic.normal ?_
  clear hHeld x1 x4
  go_wp2_with fail
  refine HDr.out.mono ?_
  clear HDr
  rintro e w5 ⟨rfl, D5, hG5, hg5⟩
  rw [usedV_del] at hG5
  have hK45 : Keeps (fun i => i = L.um) w4 w5 := (Keeps.refl _ w4).grown hg5 (fun i e => .inl (Option.some.inj e).symm)
  have HC5 := hid (H.out.wrote HL.out HB3.out HRw.out HG4.out HK34.out hG5 hK45)
  have HK5 : Hid (Keeps (fun i => i = L.dm \/ i = L.um) w w5) := ((Keeps.of_below HB3.out).trans HK34.out (fun i e => .inl (.inl e))).trans hK45 (fun i e => .inl (.inr e))
  have HGe : Hid (w.heap.size <= g) := (HRw.out.lt g rfl).1
  clear hG5 hg5 hK45
  go_wp2
  go_ret
  exact ⟨rfl, g, cap, _, D5, HGe.out, HC5.out, HK5.out⟩
end
end
section
open Go.RowKit Go.Maps
theorem run_clearB {w : World} {m : Nat} {es : Array MapEntry} {clock : Nat} (hb : w.heap[m]? = some (.map es clock)) : ∃ w', (∀ ty, (Builtin.clear_ #[100] ty #[.map (some m)]).run Tryz.prog w = .ok (.tuple #[]) w') /\ w'.heap[m]? = some (.map #[] clock) /\ w.grownBy w' (some m) := by
 refine ⟨{ w with heap := w.heap.setIfInBounds m (.map #[] clock) }, fun ty => ?_, ?_, ⟨rfl, rfl, rfl, by simp, fun k _ hk => ?_⟩⟩
 ·simp [Builtin.clear_, run_underlying Tryz.underlying100, MapKept.run_getObj_map hb, MapKept.run_setObj_map _ hb, Result.andThen]
 ·simp [lt_of_heap hb]
 ·have hne : m ≠ k := fun e => hk (by rw [e])
  simp [hne]
section
variable {w w' : World} {c : Nat} {L : CLay} {C : CS}
theorem CacheAt.cleared (h : CacheAt w c L C) {clock : Nat} (hm : w'.heap[L.dm]? = some (.map #[] clock)) (hg : w.grownBy w' (some L.dm)) : CacheAt w' c { L with Dd := .map [], dv := fun _ => none } { C with dirty := fun _ => none } := by
 have hk : Keeps (fun i => i = L.dm) w w' := (Keeps.refl _ w).grown hg (fun i e => .inl (Option.some.inj e).symm)
 have hG : ∀ i, i = L.dm -> i = c \/ i = L.dm \/ i = L.um := fun i e => .inr (.inl e)
 exact {
  heap := hk.heap h.heap (fun e => h.cd e)
  log := h.logKeep hG hk
  lt := fun i hi => Nat.lt_of_lt_of_le (h.lt i hi) hk.size
  dirty := grpIn_empty (ownsMap_tight (C := 4096) ⟨#[], clock, hm, ⟨by simp, MapKept.stamped_empty _, by simp⟩, Nat.le_refl _, rfl⟩ (Nat.zero_le _)) _
  bytes := fun n v hv => (by cases hv)
  clean := fun _ _ => rfl
  used := h.used.keep hk (fun e => h.ne e.symm)
  offc := h.offc
  offd := h.offd
  offu := h.offu
  ne := h.ne
  pages := h.pages
  fits := h.fits
  few := h.few
  ub := h.ub }
theorem babort_any (w : World) (h : CacheAt w c L C) : Calls Tryz.prog 91 #[.pointer (some ⟨c, 0, none⟩)] w fun e w' => e = .returned (.int .i64 (C.dirtyKeys.length : Int)) /\ CacheAt w' c { L with Dd := .map [], dv := fun _ => none } { C with dirty := fun _ => none } /\ Keeps (fun i => i = L.dm) w w' := by
 obtain ⟨c0, c1, -⟩ := h.cells
 obtain ⟨es, clock, hmb⟩ := h.dmap
 obtain ⟨w9, hclear, hm9, hg9⟩ := run_clearB hmb
 have HC := hid (h.cleared hm9 hg9)
 have HK : Hid (Keeps (fun i => i = L.dm) w w9) := (Keeps.refl _ w).grown hg9 (fun i e => .inl (Option.some.inj e).symm)
 have H := hid h
 have HKe := hid (congrArg List.length h.keys)
 clear h hm9 hg9 hmb
 go_enter Tryz.func91, Tryz.ntmps91
 go_wp2_with (refine wpList_len_grp rfl (.tmp 9) 100 rfl 42 Tryz.underlying100 rfl H.out.dirty C.dirtyKeys.length HKe.out ?_)
 go_ret
 exact ⟨rfl, HC.out, HK.out⟩
end
section
variable {w w' : World} {c : Nat} {L : CLay} {C : CS}
theorem CacheAt.committed (h : CacheAt w c L C) {S' : DiskS} {d' : DL} {F' : Nat -> Prop} (hlog : LogIn w' L.p d' S' C.size 0 F') (hk : Keeps L.F w w') (hF : ∀ i, F' i -> L.F i \/ (w.heap.size <= i /\ i < w'.heap.size)) (hS : S'.safe.length = C.S.safe.length) : CacheAt w' c { L with d := d', F := F' } { C with S := S' } := by
 have hoff : ∀ i, i < w.heap.size -> ¬ L.F i -> ¬ F' i := fun i h1 h2 h3 => by
  rcases hF i h3 with h4 | h4
  ·exact h2 h4
  ·omega
 obtain ⟨es, kk, hd⟩ := h.dmap
 obtain ⟨es', kk', hu⟩ := h.umap
 exact {
  heap := hk.heap h.heap h.offc
  log := hlog
  lt := fun i hi => by
   rcases hF i hi with h4 | h4
   ·exact Nat.lt_of_lt_of_le (h.lt i h4) hk.size
   ·exact h4.2
  dirty := h.dirty.keep hk h.offd
  bytes := fun n v hv => by
   obtain ⟨g, cap, bs, a1, a2, a3, a4, a5⟩ := h.bytes n v hv
   have hlt : g < w.heap.size := World.block_lt_of_cell? w _ (a3 0 (by omega))
   exact ⟨g, cap, bs, a1, a2, fun j hj => hk.cell (a3 j hj) (by rw [add_block]; exact a5), a4, hoff g hlt a5⟩
  clean := h.clean
  used := h.used.keep hk h.offu
  offc := hoff c (lt_of_heap h.heap) h.offc
  offd := hoff _ (lt_of_heap hd) h.offd
  offu := hoff _ (lt_of_heap hu) h.offu
  ne := h.ne
  pages := by rw [h.pages]; simp only [pagesS, hS]
  fits := by rw [show ({ C with S := S' } : CS).S.safe.length = C.S.safe.length from hS]; exact h.fits
  few := h.few
  ub := h.ub }
end
def CS.com (C : CS) : DiskS := if C.dirtyKeys = [] then C.S else writtenS C.S C.size (fun n => (C.dirty n).getD []) C.dirtyKeys
def CLay.page (L : CLay) (n : Int) : PageS := match L.dv n with
 | some (.slice a l c) => ⟨n, a, l, c⟩
 | _ => ⟨n, none, 0, 0⟩
def CLay.ps (L : CLay) (ks : List Int) : List PageS := ks.map L.page
def CLay.cells (L : CLay) (ks : List Int) : List Value := ks.flatMap (fun n => [.int .i64 n, (L.page n).val])
theorem cells_at (L : CLay) : ∀ (ks : List Int) (j : Nat) (hj : j < ks.length), (L.cells ks)[j * 2]? = some (.int .i64 ks[j]) /\ (L.cells ks)[j * 2 + 1]? = some (L.page ks[j]).val
 | n :: ks, 0, _ => ⟨rfl, rfl⟩
 | n :: ks, j + 1, hj => by
  have := cells_at L ks j (by simpa using hj)
  have e : L.cells (n :: ks) = .int .i64 n :: (L.page n).val :: L.cells ks := rfl
  rw [e, show (j + 1) * 2 = j * 2 + 1 + 1 by omega]
  simpa using this
theorem cells_snoc (L : CLay) (ks : List Int) (n : Int) : L.cells (ks ++ [n]) = L.cells ks ++ [.int .i64 n, (L.page n).val] := by simp [CLay.cells]
section
variable {w : World} {c : Nat} {L : CLay} {C : CS}
theorem CacheAt.page (h : CacheAt w c L C) {n : Int} (hn : n ∈ C.dirtyKeys) : ∃ g cap bs, L.dv n = some (.slice (some ⟨g, 0, none⟩) 512 cap) /\ L.page n = ⟨n, some ⟨g, 0, none⟩, 512, cap⟩ /\ C.dirty n = some bs /\ bytesAt w ⟨g, 0, none⟩ bs /\ bs.length = 512 /\ ¬ L.F g /\ 0 <= n /\ n < (C.N : Int) := by
 rw [<- h.keys, mem_grpKeys] at hn
 obtain ⟨h0, h1, h2⟩ := hn
 obtain ⟨v, hv⟩ := Option.isSome_iff_exists.1 h2
 obtain ⟨g, cap, bs, a1, rfl, a3, a4, a5⟩ := h.bytes n v hv
 exact ⟨g, cap, bs, hv, by simp [CLay.page, hv], a1, a3, a4, a5, h0, h1⟩
theorem CacheAt.psLen (_ : CacheAt w c L C) (j : Nat) (hj : j < C.dirtyKeys.length) : (L.ps C.dirtyKeys)[j]? = some (L.page C.dirtyKeys[j]) := by simp [CLay.ps, hj]
theorem page_n (L : CLay) (n : Int) : (L.page n).n = n := by
 unfold CLay.page
 split <;> rfl
theorem CacheAt.grpVal (h : CacheAt w c L C) : ∀ (j : Nat), j <= C.dirtyKeys.length -> ∀ n, Go.Proofs.YtamfgnfclamamaaGreat.grpVal (L.ps C.dirtyKeys) j n = if n ∈ C.dirtyKeys.take j then L.dv n else none
 | 0, _, n => by simp [Go.Proofs.YtamfgnfclamamaaGreat.grpVal]
 | j + 1, hj, n => by
  rw [Go.Proofs.YtamfgnfclamamaaGreat.grpVal, h.psLen j hj]
  simp only [updV, page_n, h.grpVal j (by omega) n]
  rw [List.take_succ_eq_append_getElem hj]
  simp only [List.mem_append, List.mem_singleton]
  by_cases e : n = C.dirtyKeys[j]
  ·obtain ⟨g, cap, bs, h1, h2, -⟩ := h.page (n := n) (by rw [e]; exact List.getElem_mem hj)
   simp only [e, if_true, or_true]
   rw [<- e, h1, h2]; rfl
  ·simp [e]
theorem CacheAt.grpL (h : CacheAt w c L C) : ∀ (j : Nat), j <= C.dirtyKeys.length -> ∀ n, Go.Proofs.YtamfgnfclamamaaGreat.grpL (L.ps C.dirtyKeys) (fun j => (C.dirty (C.dirtyKeys.getD j 0)).getD []) j n = if n ∈ C.dirtyKeys.take j then (C.dirty n).getD [] else []
 | 0, _, n => by simp [Go.Proofs.YtamfgnfclamamaaGreat.grpL]
 | j + 1, hj, n => by
  rw [Go.Proofs.YtamfgnfclamamaaGreat.grpL, h.psLen j hj]
  simp only [Option.map_some, Option.some.injEq, page_n, h.grpL j (by omega) n]
  rw [List.take_succ_eq_append_getElem hj]
  simp only [List.mem_append, List.mem_singleton]
  by_cases e : n = C.dirtyKeys[j]
  ·subst e
   have hj' : j < C.dirtyKeys.length := hj
   simp [List.getElem?_eq_getElem hj']
  ·simp [e, Ne.symm e]
theorem CacheAt.grpErr (h : CacheAt w c L C) : ∀ (j : Nat), j <= C.dirtyKeys.length -> Go.Proofs.YtamfgnfclamamaaGreat.grpErr (L.ps C.dirtyKeys) j = 0
 | 0, _ => rfl
 | j + 1, hj => by
  rw [Go.Proofs.YtamfgnfclamamaaGreat.grpErr, h.psLen j hj]
  simp only [page_n, h.grpErr j (by omega), h.grpVal j (by omega)]
  obtain ⟨g, cap, bs, h1, h2, -⟩ := h.page (n := C.dirtyKeys[j]) (List.getElem_mem hj)
  have hno : ¬ C.dirtyKeys[j] ∈ C.dirtyKeys.take j := fun hm => by
   obtain ⟨i, hi, e⟩ := List.mem_iff_getElem.1 hm
   have hp := sorted_grpKeys L.dv C.N
   rw [h.keys] at hp
   have hi' : i < j := by simp at hi; omega
   have := List.pairwise_iff_getElem.1 hp i j (by omega) hj hi'
   rw [List.getElem_take] at e
   omega
  rw [if_neg hno, if_neg (by rw [h2]; simp)]
theorem CacheAt.com (h : CacheAt w c L C) (hr : C.dirtyKeys.length <= min C.size 100) : comErr (pagesS C.S C.size) C.size (L.ps C.dirtyKeys) = 0 /\ comS C.S C.size (L.ps C.dirtyKeys) (fun j => (C.dirty (C.dirtyKeys.getD j 0)).getD []) = C.com := by
 have hl : (L.ps C.dirtyKeys).length = C.dirtyKeys.length := by simp [CLay.ps]
 have he : comErr (pagesS C.S C.size) C.size (L.ps C.dirtyKeys) = 0 := by
  unfold comErr
  rw [hl]
  split
  ·rfl
  ·rw [if_neg (by omega), if_pos, h.grpErr _ (Nat.le_refl _)]
   rw [inPages_iff]
   intro j hj
   rw [hl] at hj
   have e : (L.ps C.dirtyKeys)[j] = L.page C.dirtyKeys[j] := by simp [CLay.ps]
   obtain ⟨g, cap, bs, -, -, -, -, -, -, h1, h2⟩ := h.page (n := C.dirtyKeys[j]) (List.getElem_mem hj)
   rw [e, page_n, <- h.pages]
   exact ⟨h1, h2⟩
 refine ⟨he, ?_⟩
 unfold comS CS.com
 rw [hl]
 by_cases h0 : C.dirtyKeys = []
 ·rw [if_neg (fun hh => hh.2 (by rw [h0]; rfl)), if_pos h0]
 ·rw [if_pos ⟨he, fun e => h0 (List.length_eq_zero_iff.1 e)⟩, if_neg h0]
  have e1 : Go.Proofs.YtamfgnfclamamaaGreat.grpL (L.ps C.dirtyKeys) (fun j => (C.dirty (C.dirtyKeys.getD j 0)).getD []) C.dirtyKeys.length = fun n => (C.dirty n).getD [] := by
   funext n
   rw [h.grpL _ (Nat.le_refl _), List.take_length]
   split
   ·rfl
   ·rename_i hn
    cases hv : L.dv n with
    | none => rw [h.clean n hv]; rfl
    | some v =>
     exact absurd (by rw [<- h.keys, mem_grpKeys]; exact ⟨(h.dirty.dom n v hv).1, (h.dirty.dom n v hv).2, by rw [hv]; rfl⟩) hn
  have e2 : grpKeys (Go.Proofs.YtamfgnfclamamaaGreat.grpVal (L.ps C.dirtyKeys) C.dirtyKeys.length) (pagesS C.S C.size) = C.dirtyKeys := by
   rw [<- h.pages]
   refine Eq.trans ?_ h.keys
   unfold grpKeys
   refine List.filter_congr (fun n hn => ?_)
   rw [h.grpVal _ (Nat.le_refl _), List.take_length]
   split
   ·rfl
   ·rename_i hq
    cases hv : L.dv n with
    | none => rfl
    | some v => exact absurd (by rw [<- h.keys, mem_grpKeys]; exact ⟨(h.dirty.dom n v hv).1, (h.dirty.dom n v hv).2, by rw [hv]; rfl⟩) hq
  rw [e1, e2]
theorem CacheAt.pagesOf (_ : CacheAt w c L C) {W : World} {B : Nat} {v : Value} (hrow : W.ownsRow B 107 2 v C.dirtyKeys.length (L.cells C.dirtyKeys)) : ∃ pa cap, v = .slice pa C.dirtyKeys.length cap /\ pagesAt W pa (L.ps C.dirtyKeys) := by
 have hl : (L.ps C.dirtyKeys).length = C.dirtyKeys.length := by simp [CLay.ps]
 rcases Joins.ownsRow_forms hrow with ⟨rfl, h0⟩ | ⟨g, cap, rfl⟩
 ·rw [h0]
  exact ⟨none, 0, rfl, fun j hj => by omega⟩
 ·refine ⟨some ⟨g, 0, none⟩, cap, rfl, fun j hj => ⟨g, 0, rfl, fun i hi => ?_⟩⟩
  rw [hl] at hi
  obtain ⟨a, b⟩ := cells_at L C.dirtyKeys i hi
  have c0 := hrow.cellAt (i * 2) (by omega)
  have c1 := hrow.cellAt (i * 2 + 1) (by omega)
  rw [a] at c0
  rw [b] at c1
  have e : (L.ps C.dirtyKeys)[i] = L.page C.dirtyKeys[i] := by simp [CLay.ps]
  rw [e, page_n, Nat.zero_add]
  exact ⟨c0, c1⟩
theorem bcommit_any (w : World) (h : CacheAt w c L C) (hr : C.dirtyKeys.length <= min C.size 100) (ho : C.S.ops.length <= 800000) :
  Calls Tryz.prog 13 #[.pointer (some ⟨c, 0, none⟩)] w fun e w' => e = .returned (.int .i64 0) /\ ∃ d' F', (∀ i, L.F i -> F' i) /\ (∀ i, F' i -> L.F i \/ w.heap.size <= i) /\ CacheAt w' c { L with d := d', F := F', Dd := .map [], dv := fun _ => none } { C with S := C.com, dirty := fun _ => none } /\ Keeps (fun i => L.F i \/ i = L.dm) w w' := by
 obtain ⟨c0, c1, -⟩ := h.cells
 obtain ⟨i0, hi, hz0, hz1, hz2⟩ := info_parts infoPage
 have HI0 := hid hi
 have HDi := hid (bdirty_any w h)
 have H := hid h
 have HPg := hid (fun n (hn : n ∈ C.dirtyKeys) => h.page hn)
 have HCo := hid (h.com hr)
 have HSl : Hid (C.com.safe.length = C.S.safe.length) := by unfold Hid; rw [<- (h.com hr).2]; exact comS_len _ _ _ _
 have hks : C.dirtyKeys.length <= 100 := by omega
 have hcl := lt_of_heap h.heap
 clear h hi hr
 go_enter Tryz.func13, Tryz.ntmps13
 go_wp2_with fail
 refine HDi.out.mono ?_
 clear HDi
 rintro e w1 ⟨v, rfl, hrow, -, hb1⟩
 obtain ⟨ra, rc, rfl, hints⟩ := row_slice hrow
 have HI := hid hints
 have HB1 := hid hb1
 have hs1 := hb1.size
 clear hrow hb1 hints
 have hlook : ∀ n ∈ C.dirtyKeys, ∀ W : World, Below w.heap.size w W -> (Instr.lookup 100 (.map (some L.dm)) (.int .i64 n) false).run Tryz.prog W = .ok (L.page n).val W := fun n hn W hW => by
  have hgW := H.out.dirty.below hW
  obtain ⟨g, cap, bs, h1, h2, -, -, -, -, h0, h3⟩ := HPg.out n hn
  have hN := H.out.pagesLe
  obtain ⟨u, hr, hu⟩ := self_lookup hgW.mapOwn (int_keyed Tryz.underlying3) Tryz.underlying100 (Tryz.zeroValue42 W) (keyI (n := n) (by omega) (by omega))
  rw [hr]
  rw [hgW.held n _ h1] at hu
  rw [<- DataW.held.inj hu, h2]
  rfl
 have HLk := hid hlook
 clear hlook
 have HPo := hid (fun (W : World) (B : Nat) (v : Value) hrow => H.out.pagesOf (W := W) (B := B) (v := v) hrow)
 generalize hkeq : C.dirtyKeys = ks at *
 go_wp2
 go_loopw [3, 12] (fun v i wr => ∃ k : Nat, k <= ks.length /\ i = .int .i64 k /\ Hid (wr.ownsRow w1.heap.size 107 2 v k (L.cells (ks.take k))) /\ Hid (Below w1.heap.size w1 wr)) (fun _ i _ => ks.length - (intOf i).toNat)
 case atStart => exact ⟨0, by omega, rfl, World.ownsRow_nil _ _ _ _, Below.refl _ _⟩
 case round =>
  obtain ⟨k, hk, rfl, hO, hB⟩ := hrel
  have hBw := HB1.out.trans (hB.out.mono hs1)
  have c1r : wr.cell? ⟨c, 1, none⟩ = some (.map (some L.dm)) := (hBw.cell (p := ⟨c, 1, none⟩) hcl).trans c1
  have c0r : wr.cell? ⟨c, 0, none⟩ = some (.pointer (some ⟨L.p, 0, none⟩)) := (hBw.cell (p := ⟨c, 0, none⟩) hcl).trans c0
  have HBw := hid hBw
  clear hBw
  by_cases hlt : k < ks.length
  ·have hk0 : (0 : Int) <= (k : Int) := by omega
   have hk1 : (k : Int) < (ks.length : Int) := by omega
   obtain ⟨g, rfl, hg1, hg2, hgc⟩ := HI.out k hlt
   have hcj : wr.cell? ⟨g, k, none⟩ = some (.int .i64 ks[k]) := by
    refine (hB.out.cell (p := ⟨g, k, none⟩) hg1).trans ?_
    rw [hgc k hlt]; simp [hlt]
   have hmem : ks[k] ∈ ks := List.getElem_mem hlt
   obtain ⟨gp, cap, bs, -, hpg, -⟩ := HPg.out _ hmem
   have hlk := HLk.out _ hmem wr HBw.out
   rw [hpg] at hlk
   simp only [PageS.val] at hlk
   have HSn : Hid (L.cells (ks.take (k + 1)) = L.cells (ks.take k) ++ [.int .i64 ks[k], .slice (some ⟨gp, 0, none⟩) 512 cap]) := by unfold Hid; rw [List.take_succ_eq_append_getElem hlt, cells_snoc, hpg]; rfl
   clear hgc hmem hpg hg1 hg2 c0r
   generalize ks[k] = x at *
   have hsr := hB.out.size
   go_wp2_with (refine wpList_append_lies _ rfl (.tmp 16) (.tmp 25) 98 rfl w1.heap.size 107 i0 (.agg #[.int .i64 0, .slice none 0 0]) 2 32 Tryz.underlying98 HI0.out hz0 hz1 hz2 rfl (by omega) u3 k _ rfl (hO.out.alloc _) ⟨wr.heap.size, 0, none⟩ 1 1 [.int .i64 x, .slice (some ⟨gp, 0, none⟩) 512 cap] rfl rfl (World.news_of_block (cs := #[.int .i64 x, .slice (some ⟨gp, 0, none⟩) 512 cap]) (block_new wr _)) (by intro u hu; rcases List.mem_cons.1 hu with rfl | hu; rfl; rw [List.mem_singleton.1 hu]; rfl) (by omega) (by unfold maxLen; omega) (by omega) (by simp; omega) (wr.heap.size + 1) (by simp) ?_; intro g2 cap2 w5 hown hgr hat hlt2; have HOw := hid hown; have HGr := hid hgr; clear hown hgr hat hlt2)
   refine ⟨⟨k + 1, by omega, by go_num, ?_, ?_⟩, by simp [intOf]; omega⟩
   ·unfold Hid
    rw [HSn.out]; exact HOw.out
   ·have hb2 := hB.out.trans (((Below.refl wr.heap.size wr).alloc (Nat.le_refl _) (.cells #[.int .i64 x, .slice (some ⟨gp, 0, none⟩) 512 cap] 107)).mono hB.out.size)
    exact hb2.trans (below_of_row HGr.out hb2.size (fun i hi => (hO.out.lt i hi).1))
  ·obtain rfl : k = ks.length := by omega
   have hge : ¬ ((ks.length : Int) < (ks.length : Int)) := by omega
   have hOf := hO.out
   rw [List.take_length] at hOf
   obtain ⟨pa, pc, rfl, hps⟩ := HPo.out _ _ _ hOf
   have HPs := hid hps
   have Hr := hid (H.out.below HBw.out)
   have HCm := hid (commit_any (L.ps ks) pa pc (fun j => (C.dirty (ks.getD j 0)).getD []) wr Hr.out.log Hr.out.lt Hr.out.fits HPs.out (fun j hj _ => by
    have hj' : j < ks.length := by simpa [CLay.ps] using hj
    obtain ⟨gp, cap, bs, -, hpg, h1, h2, h3, h4, -⟩ := HPg.out ks[j] (List.getElem_mem hj')
    have e : (L.ps ks)[j] = L.page ks[j] := by simp [CLay.ps]
    have e2 : (C.dirty (ks.getD j 0)).getD [] = bs := by simp [List.getElem?_eq_getElem hj', h1]
    rw [e, hpg]
    simp only [e2]
    exact ⟨⟨gp, 0, none⟩, rfl, fun i hi => (HBw.out.cell (World.block_lt_of_cell? w _ (h2 i hi))).trans (h2 i hi), h3, h4⟩) ho)
   have hpl : (L.ps ks).length = ks.length := by simp [CLay.ps]
   rw [hpl, HCo.out.1, HCo.out.2] at HCm
   clear hOf hps hpl hO c1r
   go_wp2_with fail
   refine HCm.out.mono ?_
   clear HCm
   rintro e w5 ⟨rfl, d', hlog, hk5⟩
   have HC5 := hid (Hr.out.committed hlog hk5 (fun i hi => hi) HSl.out)
   have HK5 := hid hk5
   obtain ⟨z0, z1, -⟩ := HC5.out.cells
   have z1' : w5.cell? ⟨c, 1, none⟩ = some (.map (some L.dm)) := z1
   obtain ⟨es, clock, hmb⟩ := HC5.out.dmap
   have hmb' : w5.heap[L.dm]? = some (.map es clock) := hmb
   obtain ⟨w9, hclear, hm9, hg9⟩ := run_clearB hmb'
   have HC9 := hid (HC5.out.cleared hm9 hg9)
   have HK9 : Hid (Keeps (fun i => L.F i \/ i = L.dm) w w9) := ((Keeps.of_below HBw.out).trans hk5 (fun i e => .inl (.inl e))).grown hg9 (fun i e => .inl (.inr (Option.some.inj e).symm))
   have hsw := HBw.out.size
   clear hlog hk5 z0 z1 hmb hmb' hm9 hg9 c0r
   go_wp2
   go_ret
   exact ⟨rfl, d', _, fun i hi => .inl hi, fun i hi => hi.elim .inl (fun h => .inr (by omega)), HC9.out, HK9.out⟩
end
end
section
open Go.RowKit Go.Maps Go.Sort Go.Shelf
end
section
open Go.RowKit
def dlen (s : Bool) : Nat := if s then 511 else 512
end
section
open Go.RowKit
theorem CS.mem_dirtyKeys {C : CS} {k : Int} : k ∈ C.dirtyKeys ↔ (0 <= k /\ k < C.N /\ (C.dirty k).isSome = true) := by
 simp only [CS.dirtyKeys, List.mem_filter, List.mem_map, List.mem_range]
 constructor
 ·rintro ⟨⟨j, hj, rfl⟩, h⟩
  exact ⟨by omega, by omega, h⟩
 ·rintro ⟨h0, h1, h2⟩
  exact ⟨⟨k.toNat, by omega, by omega⟩, h2⟩
theorem CS.dirtyKeys_none {C : CS} (h : C.dirty = fun _ => none) : C.dirtyKeys = [] := by
 unfold CS.dirtyKeys
 rw [h]
 simp
def CS.see (C : CS) (n : Nat) : List UInt8 := (C.dirty n).getD (secL C.S (1 + C.size + n))
section
variable {w : World} {c : Nat} {L : CLay} {C : CS}
theorem CacheAt.dom (h : CacheAt w c L C) {n : Int} {bs : List UInt8} (hn : C.dirty n = some bs) : 0 <= n /\ n < (C.N : Int) /\ bs.length = 512 := by
 cases hv : L.dv n with
 | none => rw [h.clean n hv] at hn; cases hn
 | some v =>
  obtain ⟨g, cap, bs', h1, -, -, h4, -⟩ := h.bytes n v hv
  rw [hn] at h1
  obtain rfl := Option.some.inj h1
  exact ⟨(h.dirty.dom n v hv).1, (h.dirty.dom n v hv).2, h4⟩
theorem CacheAt.comMade (h : CacheAt w c L C) (hM : Made C.S) (hr : C.dirtyKeys.length <= min C.size 100) : Made C.com := by
 unfold CS.com
 split
 ·exact hM
 ·rw [writtenS_doOps]
  have hl := hM.len
  have hf := h.fits
  refine hM.more _ (ok_comOps C.size _ _ _ (by omega) (by omega) (fun k hk => ?_))
  obtain ⟨a, b, d⟩ := CS.mem_dirtyKeys.1 hk
  obtain ⟨bs, hb⟩ := Option.isSome_iff_exists.1 d
  refine ⟨a, ?_, by rw [hb]; exact (h.dom hb).2.2⟩
  have hp := h.pages
  unfold pagesS at hp
  omega
theorem CacheAt.comSee (h : CacheAt w c L C) (hr : C.dirtyKeys.length <= min C.size 100) (n : Nat) (hn : n < C.N) : secL C.com (1 + C.size + n) = C.see n := by
 have hp := h.pages
 have hf := h.fits
 unfold pagesS at hp
 have key : seenAt C.com (1 + C.size + n) = match C.dirty (n : Int) with
  | some bs => ⟨bs.toArray⟩
  | none => seenAt C.S (1 + C.size + n) := by
  unfold CS.com
  by_cases h0 : C.dirtyKeys = []
  ·rw [if_pos h0]
   cases hd : C.dirty (n : Int) with
   | none => rfl
   | some bs =>
    have : (n : Int) ∈ C.dirtyKeys := CS.mem_dirtyKeys.2 ⟨by omega, by omega, by rw [hd]; rfl⟩
    rw [h0] at this
    cases this
  ·rw [if_neg h0, seen_writtenS C.S C.size _ C.dirtyKeys (1 + C.size + n) (by omega) (fun k hk => (CS.mem_dirtyKeys.1 hk).1) (by omega) (.inr (by omega)), if_neg (by omega)]
   have e : (((1 + C.size + n : Nat) : Int) - 1 - (C.size : Int)) = (n : Int) := by omega
   rw [e]
   cases hd : C.dirty (n : Int) with
   | none =>
    rw [if_neg (fun hm => by have := (CS.mem_dirtyKeys.1 hm).2.2; rw [hd] at this; cases this)]
   | some bs => rw [if_pos (CS.mem_dirtyKeys.2 ⟨by omega, by omega, by rw [hd]; rfl⟩)]; rfl
 unfold CS.see
 cases hd : C.dirty (n : Int) with
 | none =>
  rw [hd] at key
  exact congrArg (fun b : ByteArray => b.data.toList) key
 | some bs =>
  rw [hd] at key
  have := congrArg (fun b : ByteArray => b.data.toList) key
  simpa [secL, seenAt] using this
end
end
section
open Go.RowKit
section
variable {c : Nat} {L : CLay} {C : CS}
theorem bwrite_range (n : Int) (v : Value) (w : World) (h : CacheAt w c L C) (hn : ¬ (0 <= n /\ n < (C.N : Int))) :
  Calls Tryz.prog 90 #[.pointer (some ⟨c, 0, none⟩), .int .i64 n, v] w fun e w' => e = .returned (.int .i64 2) /\ Below w.heap.size w w' := by
 obtain ⟨c0, c1, -, -, c4⟩ := h.cells
 have hpg := log_pages w h.log h.fits
 rw [<- h.pages] at hpg
 have HPg := hid hpg
 clear h hpg
 by_cases h0 : n < 0
 ·clear hn
  go_enter Tryz.func90, Tryz.ntmps90
  go_wp2
  go_ret
  exact ⟨rfl, Below.refl _ _⟩
 ·have h1 : n ≥ (C.N : Int) := by omega
  clear hn
  go_enter Tryz.func90, Tryz.ntmps90
  go_wp2_with fail
  refine HPg.out.mono ?_
  clear HPg
  rintro e w1 ⟨rfl, hb1⟩
  have HB := hid hb1
  clear hb1
  go_wp2
  go_ret
  exact ⟨rfl, HB.out⟩
theorem bwrite_form (n : Nat) (a : Option Addr) (ln cp : Nat) (w : World) (h : CacheAt w c L C) (hn : n < C.N) (hl : ¬ ((ln : Int) = 512)) :
  Calls Tryz.prog 90 #[.pointer (some ⟨c, 0, none⟩), .int .i64 n, .slice a ln cp] w fun e w' => e = .returned (.int .i64 3) /\ Below w.heap.size w w' := by
 obtain ⟨c0, c1, -, -, c4⟩ := h.cells
 have hpg := log_pages w h.log h.fits
 rw [<- h.pages] at hpg
 have HPg := hid hpg
 clear h hpg
 have hn0 : ¬ ((n : Int) < 0) := by omega
 have hn1 : ¬ ((n : Int) ≥ (C.N : Int)) := by omega
 have hl2 : ((ln : Int) == 512) = false := beq_eq_false_iff_ne.2 hl
 have hl3 : ((ln : Int) != 512) = true := by simpa using hl
 go_enter Tryz.func90, Tryz.ntmps90
 go_wp2_with fail
 refine HPg.out.mono ?_
 clear HPg
 rintro e w1 ⟨rfl, hb1⟩
 have HB := hid hb1
 clear hb1
 go_wp2
 go_ret
 exact ⟨rfl, HB.out⟩
theorem bwrite_full (n : Nat) (ad : Option Addr) (cp : Nat) (w : World) (h : CacheAt w c L C) (hn : n < C.N) (hd : C.dirty n = none) (hr : C.dirtyKeys.length = min C.size 100) :
  Calls Tryz.prog 90 #[.pointer (some ⟨c, 0, none⟩), .int .i64 n, .slice ad 512 cp] w fun e w' => e = .returned (.int .i64 7) /\ Below w.heap.size w w' := by
 obtain ⟨c0, c1, -, -, c4⟩ := h.cells
 have H := hid h
 have hpg := log_pages w h.log h.fits
 rw [<- h.pages] at hpg
 have HPg := hid hpg
 have hN := h.pagesLe
 have HRm := hid (fun W (hW : Below w.heap.size w W) => broom_any W (h.below hW))
 have hsi := h.some_iff (n : Int)
 have HC : Hid (∀ W, Below w.heap.size w W -> W.cell? ⟨c, 0, none⟩ = some (.pointer (some ⟨L.p, 0, none⟩)) /\ W.cell? ⟨c, 1, none⟩ = some (.map (some L.dm))) := fun W hW => by
  obtain ⟨x0, x1, -, -, x4⟩ := (h.below hW).cells
  exact ⟨x0, x1⟩
 have hdv : L.dv (n : Int) = none := by
  rw [hd] at hsi
  cases hv : L.dv (n : Int) with
  | none => rfl
  | some v => rw [hv] at hsi; cases hsi
 have HDv := hid hdv
 clear h hpg hdv hsi hd
 have hn0 : ¬ ((n : Int) < 0) := by omega
 have hn1 : ¬ ((n : Int) ≥ (C.N : Int)) := by omega
 have HN4 := hid hN
 have HN5 := hid hn
 clear hN hn
 generalize min C.size 100 = cpp at *
 generalize C.dirtyKeys.length = dk at *
 subst hr
 have hne : ((dk : Int) - (dk : Int) == 0) = true := beq_iff_eq.2 (by omega)
 have hne' : ((dk : Int) - (dk : Int)) = 0 := by omega
 go_enter Tryz.func90, Tryz.ntmps90
 go_wp2_with fail
 refine HPg.out.mono ?_
 clear HPg
 rintro e w1 ⟨rfl, hb1⟩
 have HB1 := hid hb1
 have HD1 := hid (H.out.dirty.below hb1)
 obtain ⟨d0, d1⟩ := HC.out w1 hb1
 have HR1 := hid (HRm.out w1 hb1)
 clear hb1 c0 c1 c4 HRm
 go_wp2_with (first
  | (at_lookup; refine wpList_lookup_grp rfl (.tmp 29) (.tmp 30) 100 rfl 42 Tryz.underlying100 (Tryz.zeroValue42 _) rfl HD1.out (n : Int) rfl (by omega) (by have := HN4.out; have := HN5.out; omega) (.slice none 0 0) false (by rw [HDv.out]; rfl) (by rw [HDv.out]; rfl) ?_)
  | fail)
 refine HR1.out.mono ?_
 clear HR1
 rintro e w2 ⟨rfl, hb2⟩
 have HB2 := hid (HB1.out.trans (hb2.mono HB1.out.size))
 clear hb2 d0 d1
 go_wp2
 go_ret
 exact ⟨rfl, HB2.out⟩
end
end
section
open Go.RowKit Go.Maps Go.Sort Go.Shelf
end
section
open Go.RowKit
def allL (S : DiskS) (size : Nat) : List (List UInt8) := (List.range (min (pagesS S size) 100)).map (fun n => secL S (1 + size + n))
theorem length_allL (S : DiskS) (size : Nat) : (allL S size).length = min (pagesS S size) 100 := by simp [allL]
theorem allL_at (S : DiskS) (size i : Nat) (h : i < (allL S size).length) : (allL S size)[i] = secL S (1 + size + i) := by simp [allL]
end
section
open Go.RowKit
end
section
open Go.ChangeShapes Go.WideShapes Go.ChangeAt Go.RowKit
structure BDeed where
 k : Int
 n : Int
 x : UInt8
 s : Bool
def BDeed.ok (w : World) (D : BDeed) (b o : Nat) : Prop := w.cell? ⟨b, o, none⟩ = some (.int .i64 D.k) /\ w.cell? ⟨b, o + 1, none⟩ = some (.int .i64 D.n) /\ w.cell? ⟨b, o + 2, none⟩ = some (.int .u8 (D.x.toNat : Int)) /\ w.cell? ⟨b, o + 3, none⟩ = some (.bool D.s) /\ -9223372036854775808 <= D.n /\ D.n <= 9223372036854775807
def bdeedsAt (w : World) (a : Option Addr) (ds : List BDeed) : Prop := ∀ j, j < ds.length -> ∃ b o, a = some ⟨b, o, none⟩ /\ ∀ i (hi : i < ds.length), BDeed.ok w ds[i] b (o + i * 4)
theorem BDeed.ok.below {w w' : World} {D : BDeed} {b o : Nat} (h : D.ok w b o) (k : Below w.heap.size w w') : D.ok w' b o :=
 ⟨(k.cell (World.block_lt_of_cell? w _ h.1)).trans h.1, (k.cell (World.block_lt_of_cell? w _ h.2.1)).trans h.2.1, (k.cell (World.block_lt_of_cell? w _ h.2.2.1)).trans h.2.2.1, (k.cell (World.block_lt_of_cell? w _ h.2.2.2.1)).trans h.2.2.2.1, h.2.2.2.2⟩
theorem bdeedsAt.below {w w' : World} {a : Option Addr} {ds : List BDeed} (h : bdeedsAt w a ds) (k : Below w.heap.size w w') : bdeedsAt w' a ds := fun j hj => by
 obtain ⟨b, o, e, hc⟩ := h j hj
 exact ⟨b, o, e, fun i hi => (hc i hi).below k⟩
end
section
open Go.RowKit
theorem filt_upd (p q : Int -> Bool) (n : Int) (h : ∀ k, k ≠ n -> q k = p k) : ∀ l : List Int, l.Pairwise (fun a b => a < b) -> (l.filter q).length <= (l.filter p).length + 1
 | [], _ => by simp
 | k :: l, hp => by
  obtain ⟨h1, h2⟩ := List.pairwise_cons.1 hp
  by_cases e : k = n
  ·have : l.filter q = l.filter p := List.filter_congr (fun x hx => h x (by have := h1 x hx; omega))
   simp only [List.filter_cons, this]
   split <;> split <;> (try simp only [List.length_cons]) <;> omega
  ·simp only [List.filter_cons, h k e]
   have := filt_upd p q n h l h2
   split <;> (try simp only [List.length_cons]) <;> omega
theorem range_sorted (N : Nat) : ((List.range N).map (fun k : Nat => (k : Int))).Pairwise (fun a b => a < b) := by
 rw [List.pairwise_map]
 exact List.pairwise_lt_range.imp (fun h => by omega)
theorem keys_upd (C : CS) (n : Int) (l : List UInt8) (u : Int -> Option Nat) (m : Nat) (hm : C.dirtyKeys.length <= m) (h : (C.dirty n).isSome \/ C.dirtyKeys.length < m) : ({ C with dirty := updD C.dirty n l, used := u } : CS).dirtyKeys.length <= m := by
 unfold CS.dirtyKeys at hm h ⊢
 rcases h with h | h
 ·have : ∀ k, ((updD C.dirty n l) k).isSome = (C.dirty k).isSome := fun k => by
   unfold updD
   by_cases e : k = n
   ·rw [if_pos e, e, h]; rfl
   ·rw [if_neg e]
  have e : (((List.range C.N).map (fun k : Nat => (k : Int))).filter (fun k => ((updD C.dirty n l) k).isSome)) = ((List.range C.N).map (fun k : Nat => (k : Int))).filter (fun k => (C.dirty k).isSome) := List.filter_congr (fun k _ => this k)
  show (((List.range C.N).map (fun k : Nat => (k : Int))).filter (fun k => ((updD C.dirty n l) k).isSome)).length <= m
  rw [e]; exact hm
 ·have := filt_upd (fun k => (C.dirty k).isSome) (fun k => ((updD C.dirty n l) k).isSome) n (fun k e => by simp only [updD, if_neg e]) _ (range_sorted C.N)
  show (((List.range C.N).map (fun k : Nat => (k : Int))).filter (fun k => ((updD C.dirty n l) k).isSome)).length <= m
  omega
def AbAt (w0 w : World) (c k : Nat) (a : Option Addr) : Prop := Below w0.heap.size w0 w /\ ∃ L C lo, CacheAt w c L C /\ C.size = 10 /\ C.N = 11 /\ Made C.S /\ C.S.ops.length <= 300 * k /\ C.dirtyKeys.length <= 10 /\ C.uses = 0 /\ (∀ i, L.foot c i -> w0.heap.size <= i /\ i < lo) /\ lo <= w.heap.size /\ rowsFrom w lo a (allL C.S 10)
section
variable {w0 w w' : World} {c k : Nat} {a : Option Addr}
theorem AbAt.below (h : AbAt w0 w c k a) (hb : Below w.heap.size w w') : AbAt w0 w' c k a := by
 obtain ⟨h2, L, C, lo, h3, h4, h5, h6, h7, h8, hu, h9, h10, h11⟩ := h
 exact ⟨h2.trans (hb.mono h2.size), L, C, lo, h3.below hb, h4, h5, h6, h7, h8, hu, h9, Nat.le_trans h10 hb.size, h11.below hb⟩
theorem AbAt.more (h : AbAt w0 w c k a) : AbAt w0 w c (k + 1) a := by
 obtain ⟨h2, L, C, lo, h3, h4, h5, h6, h7, h8, hu, h9, h10, h11⟩ := h
 exact ⟨h2, L, C, lo, h3, h4, h5, h6, by omega, h8, hu, h9, h10, h11⟩
theorem AbAt.write (h : AbAt w0 w c k a) (n : Int) (s : Bool) (l : List UInt8) (ad : Addr) (cp : Nat) (hl : l.length = dlen s) (hb : bytesAt w ad l) :
  Calls Tryz.prog 90 #[.pointer (some ⟨c, 0, none⟩), .int .i64 n, .slice (some ad) (dlen s) cp] w fun e w' => ∃ v, e = .returned v /\ AbAt w0 w' c k a := by
 have h' := h
 obtain ⟨h2, L, C, lo, h3, h4, h5, h6, h7, h8, hu, h9, h10, h11⟩ := h
 by_cases hin : 0 <= n /\ n < (C.N : Int)
 ·obtain ⟨hi0, hi1⟩ := hin
  obtain ⟨n, rfl⟩ : ∃ m : Nat, n = (m : Int) := ⟨n.toNat, by omega⟩
  have hn : n < C.N := by omega
  cases s with
  | true =>
   refine (bwrite_form n (some ad) 511 cp w h3 hn (by omega)).mono ?_
   rintro e w' ⟨rfl, hb⟩
   exact ⟨_, rfl, h'.below hb⟩
  | false =>
   by_cases hr : (C.dirty n).isSome \/ C.dirtyKeys.length < min C.size 100
   ·refine (bwrite_ok n l ad cp w h3 hn hl hb hr).mono ?_
    rintro e w' ⟨rfl, g, cap, Dd, Du, hg, hC, hK⟩
    have hf : ∀ i, (i = L.dm \/ i = L.um) -> w0.heap.size <= i /\ i < lo := fun i hi => h9 i (hi.elim (fun e => .inr (.inr (.inl e))) (fun e => .inr (.inr (.inr e))))
    refine ⟨_, rfl, h2.trans (hK.below h2.size (fun i hi => (hf i hi).1)), _, _, lo, hC, h4, h5, h6, h7, keys_upd C n l _ 10 h8 ?_, hu, h9, Nat.le_trans h10 hK.size, h11.keep hK (fun i hi => (hf i hi).2)⟩
    rw [h4] at hr
    exact hr.imp id (fun h => by omega)
   ·have hd : C.dirty n = none := by
     cases hd : C.dirty n with
     | none => rfl
     | some b => exact absurd (.inl (by rw [hd]; rfl)) hr
    have hk : ¬ C.dirtyKeys.length < min C.size 100 := fun h => hr (.inr h)
    refine (bwrite_full n (some ad) cp w h3 hn hd (by rw [h4] at hk ⊢; omega)).mono ?_
    rintro e w' ⟨rfl, hb⟩
    exact ⟨_, rfl, h'.below hb⟩
 ·refine (bwrite_range n _ w h3 hin).mono ?_
  rintro e w' ⟨rfl, hb⟩
  exact ⟨_, rfl, h'.below hb⟩
def EndAt (w0 w : World) (c : Nat) (a : Option Addr) (S : DiskS) (j : Nat) : Prop := Below w0.heap.size w0 w /\ ∃ L C lo, CacheAt w c L C /\ C.size = 10 /\ C.N = 11 /\ Made C.S /\ C.S = S /\ C.dirty = (fun _ => none) /\ C.uses = j /\ (∀ i, L.foot c i -> w0.heap.size <= i /\ i < lo) /\ lo <= w.heap.size /\ rowsFrom w lo a (allL S 10)
theorem EndAt.below {S : DiskS} {j : Nat} (h : EndAt w0 w c a S j) (hb : Below w.heap.size w w') : EndAt w0 w' c a S j := by
 obtain ⟨h2, L, C, lo, h3, h4, h5, h6, h7, h8, hu, h9, h10, h11⟩ := h
 exact ⟨h2.trans (hb.mono h2.size), L, C, lo, h3.below hb, h4, h5, h6, h7, h8, hu, h9, Nat.le_trans h10 hb.size, h11.below hb⟩
section
variable {S : DiskS} {j : Nat}
theorem EndAt.dirty (h : EndAt w0 w c a S j) : Calls Tryz.prog 42 #[.pointer (some ⟨c, 0, none⟩)] w fun e w' => e = .returned (.slice none 0 0) /\ EndAt w0 w' c a S j := by
 have h' := h
 obtain ⟨h2, L, C, lo, h3, h4, h5, h6, h7, h8, hu, h9, h10, h11⟩ := h
 refine (bdirty_any w h3).mono ?_
 rintro e w' ⟨v, rfl, -, hnil, hb⟩
 rw [hnil.2 (CS.dirtyKeys_none h8)]
 exact ⟨rfl, h'.below hb⟩
theorem EndAt.room (h : EndAt w0 w c a S j) : Calls Tryz.prog 79 #[.pointer (some ⟨c, 0, none⟩)] w fun e w' => e = .returned (.int .i64 10) /\ EndAt w0 w' c a S j := by
 have h' := h
 obtain ⟨h2, L, C, lo, h3, h4, h5, h6, h7, h8, hu, h9, h10, h11⟩ := h
 have := broom_any w h3
 rw [CS.dirtyKeys_none h8, h4] at this
 refine this.mono ?_
 rintro e w' ⟨rfl, hb⟩
 exact ⟨rfl, h'.below hb⟩
theorem EndAt.abort (h : EndAt w0 w c a S j) : Calls Tryz.prog 91 #[.pointer (some ⟨c, 0, none⟩)] w fun e w' => e = .returned (.int .i64 0) /\ Below w0.heap.size w0 w' := by
 obtain ⟨h2, L, C, lo, h3, h4, h5, h6, h7, h8, hu, h9, h10, h11⟩ := h
 refine (babort_any w h3).mono ?_
 rintro e w2 ⟨rfl, hC, hK⟩
 rw [CS.dirtyKeys_none h8]
 exact ⟨rfl, h2.trans (hK.below h2.size (fun i hi => (h9 i (.inr (.inr (.inl hi)))).1))⟩
theorem EndAt.read (h : EndAt w0 w c a S j) (hj : j <= 1000) (i : Nat) (hi : i < 11) : Calls Tryz.prog 140 #[.pointer (some ⟨c, 0, none⟩), .int .i64 i] w fun e w' => ∃ g cap b o a' c', e = .returned (.tuple #[.slice (some ⟨g, 0, none⟩) 512 cap, .int .i64 0]) /\ EndAt w0 w' c a S (j + 1) /\ a = some ⟨b, o, none⟩ /\ w'.cell? ⟨b, o + i, none⟩ = some (.slice a' 512 c') /\
   Calls Tryz.prog 19 #[.slice (some ⟨g, 0, none⟩) 512 cap, .slice a' 512 c'] w' fun e w2 => e = .returned (.bool true) /\ Below w'.heap.size w' w2 := by
 obtain ⟨h2, L, C, lo, h3, h4, h5, h6, h7, h8, hu, h9, h10, h11⟩ := h
 subst h7
 refine (bread_any (i : Int) (by omega) (by omega) w h3 h6 (by omega)).mono ?_
 rintro e w' (⟨h, -⟩ | ⟨bs, h, -⟩ | ⟨-, -, -, g, cap, rfl, hg, hby, u', D', hU, hC, hK⟩)
 ·exact absurd (show (0 : Int) <= (i : Int) /\ (i : Int) < (C.N : Int) by rw [h5]; omega) h
 ·rw [h8] at h; cases h
 have hf : ∀ i, (i = c \/ i = L.um) -> w0.heap.size <= i /\ i < lo := fun i hi => h9 i (hi.elim (fun e => .inr (.inl e)) (fun e => .inr (.inr (.inr e))))
 have hp := h3.pages
 rw [h4] at hp
 have hal : (allL C.S 10).length = 11 := by rw [length_allL, <- hp, h5]; rfl
 have hrw := h11.keep hK (fun i hi => (hf i hi).2)
 obtain ⟨b, o, e1, -, hc⟩ := hrw i (by omega)
 obtain ⟨a', c', hc1, hc2, -⟩ := hc i (by omega)
 have hlen : (allL C.S 10)[i]'(by omega) = secL C.S (1 + 10 + i) := allL_at _ _ _ _
 have hs5 : (secL C.S (1 + 10 + i)).length = 512 := h6.sec _ (by unfold pagesS at hp; omega)
 rw [hlen] at hc1 hc2
 rw [hs5] at hc1
 have hby' : bytesAt w' ⟨g, 0, none⟩ (secL C.S (1 + 10 + i)) := by
  rw [h4] at hby
  exact hby
 have hSm := same_bytes (secL C.S (1 + 10 + i)) (secL C.S (1 + 10 + i)) (some ⟨g, 0, none⟩) a' cap c' w' (bytesIn_of_at hby') hc2 (by rw [hs5]; omega)
 rw [hs5, decide_eq_true rfl] at hSm
 refine ⟨g, cap, b, o, a', c', rfl, ⟨h2.trans (hK.below h2.size (fun i hi => (hf i hi).1)), _, _, lo, hC, h4, h5, h6, rfl, h8, by rw [<- hu], h9, Nat.le_trans h10 hK.size, hrw⟩, e1, hc1, hSm⟩
end
end
end
section
open Go.RowKit
def rowsOwn (w : World) (g : Nat) (L : List ByteArray) (k : Nat) (vs : List Value) : Prop := vs.length = L.length /\ w.heap[g]? = some (.cells vs.toArray 42 (0, 0)) /\
 ∀ i (hi : i < L.length), i < k -> ∃ bi c C, vs[i]? = some (.slice (some ⟨bi, 0, none⟩) (L[i]).size c) /\ g < bi /\ w.heap[bi]? = some (.cells C 5 (C.size, C.size + 1)) /\ (L[i]).size <= C.size
theorem rowsOwn.set {w : World} {g : Nat} {L : List ByteArray} {k b o : Nat} {vs : List Value} {v : Value} (h : rowsOwn w g L k vs) (hb : b ≠ g) : rowsOwn (w.setCell ⟨b, o, none⟩ v) g L k vs := by
 refine ⟨h.1, by rw [block_setCell_other _ _ (Ne.symm hb)]; exact h.2.1, fun i hi hik => ?_⟩
 obtain ⟨bi, c', C', h1, h2, h3, h4⟩ := h.2.2 i hi hik
 by_cases e : bi = b
 ·subst e
  exact ⟨bi, c', C'.setIfInBounds o v, h1, h2, by rw [Array.size_setIfInBounds]; exact block_setCell h3 o v, by rw [Array.size_setIfInBounds]; exact h4⟩
 ·exact ⟨bi, c', C', h1, h2, by rw [block_setCell_other _ _ e]; exact h3, h4⟩
theorem rowsOwn.below {w w' : World} {g : Nat} {L : List ByteArray} {k : Nat} {vs : List Value} (h : rowsOwn w g L k vs) (hB : Below w.heap.size w w') : rowsOwn w' g L k vs := by
 refine ⟨h.1, below_block hB h.2.1 (lt_of_heap h.2.1), fun i hi hik => ?_⟩
 obtain ⟨bi, c', C', h1, h2, h3, h4⟩ := h.2.2 i hi hik
 exact ⟨bi, c', C', h1, h2, below_block hB h3 (lt_of_heap h3), h4⟩
theorem size_row (s : ByteArray) (cap : Nat) : s.size <= (bytesRow s cap).size := by
 rcases Nat.eq_zero_or_pos s.size with h | h
 ·omega
 ·have := bytesRow_cells s cap (s.size - 1) (by show _ < s.data.toList.length; have : s.data.toList.length = s.size := (by simp); omega)
  have h2 := (Array.getElem?_eq_some_iff.1 this).1
  omega
end
section
set_option maxRecDepth 100000
set_option maxHeartbeats 2000000
open Go.RowKit
def rowU (w : World) (g : Nat) (l : List UInt8) : Prop := bytesAt w ⟨g, 0, none⟩ l /\ (∀ j, j < l.length -> w.frozen? ⟨g, j, none⟩ = false) /\ ∃ cs fz, w.heap[g]? = some (.cells cs 5 fz) 
section
variable {w w' : World} {g : Nat} {l : List UInt8} {G : Nat -> Prop}
theorem rowU.lt (h : rowU w g l) : g < w.heap.size := by obtain ⟨-, -, cs, fz, h⟩ := h; exact lt_of_heap h
theorem rowU.keep (h : rowU w g l) (k : Keeps G w w') (hg : ¬ G g) : rowU w' g l := by
 obtain ⟨h1, h2, cs, fz, h3⟩ := h
 have h5 := k.heap h3 hg
 refine ⟨fun j hj => k.cell (h1 j hj) (by rw [add_block]; exact hg), fun j hj => ?_, cs, fz, h5⟩
 have := h2 j hj
 simp only [World.frozen?, h3] at this
 simp only [World.frozen?, h5]
 exact this
theorem rowU.below (h : rowU w g l) (hb : Below w.heap.size w w') : rowU w' g l := h.keep (G := fun _ => False) (Keeps.of_below hb) (fun h => h)
theorem rowU.cell (h : rowU w g l) (j : Nat) (hj : j < l.length) : w.cell? ⟨g, j, none⟩ = some (.int .u8 (l[j].toNat : Int)) := by
 have := h.1 j hj
 rwa [Addr.add_mid, Nat.zero_add] at this
theorem rowU.frozen (h : rowU w g l) (j : Nat) (hj : j < l.length) : w.frozen? ⟨g, j, none⟩ = false := h.2.1 j hj
theorem rowU.set (h : rowU w g l) (j : Nat) (hj : j < l.length) (x : UInt8) : rowU (w.setCell ⟨g, j, none⟩ (.int .u8 (x.toNat : Int))) g (l.set j x) := by
 obtain ⟨h1, h2, cs, fz, h3⟩ := h
 have h5 := block_setCell h3 j (.int .u8 (x.toNat : Int))
 refine ⟨fun i hi => ?_, fun i hi => ?_, _, fz, h5⟩
 ·have hi' : i < l.length := by simpa using hi
  have c1 := h1 i hi'
  have cj := h1 j hj
  rw [Addr.add_mid, Nat.zero_add, cell_of_block h3] at c1 cj
  rw [Addr.add_mid, Nat.zero_add, cell_of_block h5]
  have hjs : j < cs.size := (Array.getElem?_eq_some_iff.1 cj).1
  by_cases e : i = j
  ·subst e
   rw [Array.getElem?_setIfInBounds_self_of_lt hjs, List.getElem_set_self]
  ·rw [Array.getElem?_setIfInBounds_ne (fun h => e h.symm), c1, List.getElem_set_ne (fun h => e h.symm)]
 ·have := h2 i (by simpa using hi)
  simp only [World.frozen?, h3] at this
  simp only [World.frozen?, h5]
  exact this
theorem rowU_own (h : ownB w g l) : rowU w g l := ⟨h.at, fun j _ => h.frozen j, _, _, h⟩
theorem rowU_new (w : World) (s : ByteArray) (cap : Nat) : rowU ((w.alloc (.cells (bytesRow s cap) 5 ((bytesRow s cap).size, (bytesRow s cap).size + 1))).drew) w.heap.size s.data.toList := by
 have hb := block_new w (.cells (bytesRow s cap) 5 ((bytesRow s cap).size, (bytesRow s cap).size + 1))
 have hsz := size_row s cap
 refine ⟨fun j hj => ?_, fun j hj => ?_, _, _, hb⟩
 ·have hj' : j < s.data.size := by simpa using hj
  rw [Addr.add_mid, Nat.zero_add]
  refine (cell_of_block hb j).trans ?_
  rw [bytesRow_at s _ j hj']
  simp
 ·have hj' : j < s.size := by simpa using hj
  have hb' : ((w.alloc (.cells (bytesRow s cap) 5 ((bytesRow s cap).size, (bytesRow s cap).size + 1))).drew).heap[w.heap.size]? = _ := hb
  simp only [World.frozen?, hb']
  simp
  omega
theorem rowU_of_row {lo n cap : Nat} (h : w.ownsRow lo 5 1 (.slice (some ⟨g, 0, none⟩) n cap) n (l.map U8)) (hl : l.length = n) : rowU w g l := by
 rcases h.2 with ⟨e, -⟩ | ⟨g', cap', cur, e, -, hh, -⟩
 ·cases e
 ·obtain ⟨rfl, -⟩ : g = g' /\ cap = cap' := by simpa using e
  exact ⟨row_bytesAt h hl, fun j _ => frozen_of_block hh j, _, _, hh⟩
end
theorem read_row (d : DL) (S : DiskS) (n : Int) (w : World) (h : DiskRd w d S) (h0 : 0 <= n) (h1 : n < S.safe.length) :
  Calls Tryz.prog 124 #[.pointer (some ⟨d.p, 0, none⟩), .int .i64 n] w fun e w' => ∃ b c, e = .returned (.tuple #[.slice (some ⟨b, 0, none⟩) (seenS S.safe S.waits n).size c, .int .i64 0]) /\ (seenS S.safe S.waits n).size <= c /\ w.heap.size <= b /\ rowU w' b (seenS S.safe S.waits n).data.toList /\ Below w.heap.size w w' := by
 have c2 : w.cell? ⟨d.p, 2, none⟩ = some (.slice (some ⟨d.L.g, 0, none⟩) S.safe.length d.L.cap) := by rw [cell_of_block h.heap]; rfl
 have c3 : w.cell? ⟨d.p, 3, none⟩ = some (.map (some d.L.m)) := by rw [cell_of_block h.heap]; rfl
 have HD := hid (decide_eq_true (And.intro h0 h1))
 have HC2 := hid c2
 have HS := hid (seen_any d.p d.L S.safe S.waits S.ops.length n w c2 c3 h.plates h0 h1)
 clear h c2 c3
 generalize seenS S.safe S.waits n = s at *
 have hconv := fun W => run_bytes_of_string (P := Tryz.prog) W 124 42 5 s Tryz.underlying124 Tryz.underlying42 Tryz.underlying5
 go_enter Tryz.func124, Tryz.ntmps124
 go_wp2_with fail
 refine (has_any d.p 2 _ _ _ _ _ HC2.out).mono ?_
 rintro e w9 ⟨rfl, h9⟩
 obtain rfl := h9.symm
 rw [HD.out]
 go_wp2_with fail
 refine HS.out.mono ?_
 rintro e w9 ⟨rfl, h9⟩
 obtain rfl := h9.symm
 go_wp2
 go_returns
 refine ⟨w.heap.size, grownCap w s.size 0 5, rfl, grownCap_ge _ _ _ _, Nat.le_refl _, rowU_new w s _, ((Below.refl _ w).alloc (Nat.le_refl _) _).drew⟩
section
variable {p : Nat} {d : DL} {S : DiskS} {size rec : Nat} {F : Nat -> Prop}
theorem log_read_row (n : Nat) (w : World) (h : LogIn w p d S size rec F) (hs : size + 1 <= S.safe.length) (hn : n < pagesS S size) :
  Calls Tryz.prog 175 #[.pointer (some ⟨p, 0, none⟩), .int .i64 n] w fun e w' => ∃ b c, e = .returned (.tuple #[.slice (some ⟨b, 0, none⟩) (seenS S.safe S.waits (1 + (size : Int) + (n : Int))).size c, .int .i64 0]) /\ (seenS S.safe S.waits (1 + (size : Int) + (n : Int))).size <= c /\ w.heap.size <= b /\ rowU w' b (seenS S.safe S.waits (1 + (size : Int) + (n : Int))).data.toList /\ Below w.heap.size w w' := by
 have hm := h.disk.rd.plates.most
 have hpm : 1 + size + n < S.safe.length := by unfold pagesS at hn; omega
 have HH := hid (fun W (hW : Below w.heap.size w W) => lay_has d S size (n : Int) W ((h.below hW).disk.rd) hs)
 have HHm := hid (fun W => lay_home d.p size (n : Int) W (by omega) (by omega) (by omega))
 have HR := hid (fun W (hW : Below w.heap.size w W) => read_row d S (1 + (size : Int) + (n : Int)) W ((h.below hW).disk.rd) (by omega) (by omega))
 have HC : Hid (∀ W, Below w.heap.size w W -> W.cell? ⟨p, 0, none⟩ = some (.pointer (some ⟨d.p, 0, none⟩)) /\ W.cell? ⟨p, 1, none⟩ = some (.int .i64 size)) := fun W hW => ⟨cell_of_block (h.below hW).heap 0, cell_of_block (h.below hW).heap 1⟩
 have hd : decide (0 <= (n : Int) /\ (n : Int) < (pagesS S size : Nat)) = true := decide_eq_true ⟨by omega, by omega⟩
 unfold layV at HH HHm
 rw [hd] at HH
 obtain ⟨c0, c1⟩ := HC.out w (Below.refl _ _)
 clear h hd
 generalize seenS S.safe S.waits (1 + (size : Int) + (n : Int)) = T at *
 go_enter Tryz.func175, Tryz.ntmps175
 go_wp2_with fail
 refine (HH.out _ (Below.refl _ _)).mono ?_
 rintro e w1 ⟨rfl, hb1⟩
 have HB1 := hid hb1
 obtain ⟨d0, d1⟩ := HC.out w1 hb1
 clear hb1 c0 c1 HH
 go_wp2_with fail
 refine wp_region_noPanic ?_
 refine wp_region_held_drew (S := fun W => W.cell? ⟨p, 0, none⟩ = some (.pointer (some ⟨d.p, 0, none⟩)) /\ W.cell? ⟨p, 1, none⟩ = some (.int .i64 size)) (by kernel_rfl) ⟨d0, d1⟩ (fun hHeld => ?_)
 refine tq 0 _ ?_
 try simp only [tS]
 refine tq 1 _ ?_
 try simp only [tS]
 refine tq 2 _ ?_
 try simp only [tS]
 refine tq 3 _ ?_
 try simp only [tS]
 refine tq 4 _ ?_
 try simp only [tS]
 refine tq 5 _ ?_
 try simp only [tS]
 refine tq 6 _ ?_
 try simp only [tS]
 refine tq 7 _ ?_
 try simp only [tS]
 refine tq 8 _ ?_
 try simp only [tS]
 refine tq 9 _ ?_
 try simp only [tS]
 refine wpAnyH_ready (rs := [10]) (by kernel_rfl) (by simp) (AllReadyH.cons rfl (fun K hKK => ?_) AllReadyH.nil)
 rw [if_pos (by rfl)]
 go_simp
 refine (HHm.out w1.drew).mono ?_
 clear HHm
 rintro e w2 ⟨rfl, hb2⟩
 have hB2 : Below w.heap.size w w2 := HB1.out.drew.trans (hb2.mono HB1.out.size)
 have HB2 := hid hB2
 obtain ⟨e0, e1⟩ := HC.out w2 hB2
 clear hb2 hB2
 go_wp2_with fail
 refine hKK.out _ _ ⟨e0, e1⟩ (fun hHeld => ?_)
 clear hKK K
 try simp only [tS]
 refine wpAnyH_ready (rs := [11]) (by kernel_rfl) (by simp) (AllReadyH.cons rfl (fun K hKK => ?_) AllReadyH.nil)
 rw [if_pos (by rfl)]
 go_simp
 refine (HR.out w2 HB2.out).mono ?_
 clear HR
 rintro e w3 ⟨b, c, rfl, hcc, hbb, hat, hb3⟩
 have hB3 : Below w.heap.size w w3 := HB2.out.trans (hb3.mono HB2.out.size)
 have HB3 := hid hB3
 have HAt := hid hat
 have hs2 := HB2.out.size
 obtain ⟨f0, f1⟩ := HC.out w3 hB3
 clear hb3 hB3 hat
 go_wp2_with fail
 refine hKK.out _ _ ⟨f0, f1⟩ (fun hHeld => ?_)
 clear hKK K
 try simp only [tS]
 refine tq 12 _ ?_
 try simp only [tS]
 refine tq 13 _ ?_
 try simp only [tS]
 refine tq 14 _ ?_
 try simp only [tS]
 refine tq 15 _ ?_
 try simp only [tS]
 refine wpAnyH_done (by kernel_rfl) ?_ _
 refine NoPanic.normal ?_
 go_wp2
 go_returns
 exact ⟨b, c, rfl, hcc, by omega, HAt.out, HB3.out⟩
end
def ReadRow (w0 w w' : World) (c : Nat) (L : CLay) (C : CS) (n : Nat) (e : Ending) : Prop :=
 ∃ g cap D' u' k, e = .returned (.tuple #[.slice (some ⟨g, 0, none⟩) 512 cap, .int .i64 0]) /\ 512 <= cap /\ w.heap.size <= g /\ rowU w' g (C.see n) /\ k <= 1 /\ (∀ W, Keeps (fun i => w0.heap.size <= i) w' W -> CacheAt W c { L with Du := D' } { C with uses := C.uses + k, used := u' }) /\ Keeps (fun i => i = c \/ i = L.um) w w'
section
variable {c : Nat} {L : CLay} {C : CS}
theorem bread_row {w0 : World} (n : Nat) (w : World) (h0 : CacheAt w0 c L C) (hw : Below w0.heap.size w0 w) (hM : Made C.S) (hu : C.uses < 1000000) (hn : n < C.N) :
  Calls Tryz.prog 140 #[.pointer (some ⟨c, 0, none⟩), .int .i64 n] w fun e w' => ReadRow w0 w w' c L C n e := by
 have h := h0.below hw
 have H0 := hid h0
 have HBw := hid hw
 clear h0 hw
 obtain ⟨c0, c1, -, -, -⟩ := h.cells
 have hpl := h.pagesLe
 have hn0 : -9223372036854775808 <= (n : Int) := by omega
 have hn1 : (n : Int) < 9223372036854775808 := by omega
 have H := hid h
 have HM := hid hM
 cases hdv : L.dv n with
 | some v =>
  obtain ⟨g0, cap0, bs, h1, rfl, h3, h4, h5⟩ := h.bytes n v hdv
  have HDv := hid hdv
  have HDi := hid h1
  have hcl := bclone_any bs ⟨g0, 0, none⟩ cap0 w (by omega) (by omega) h3
  rw [h4] at hcl
  have HCl := hid hcl
  have H4 := hid h4
  clear h hM hdv h1 h3 h4 h5 hcl
  go_enter Tryz.func140, Tryz.ntmps140
  go_wp2_with (refine wpList_lookup_grp rfl (.tmp 16) (.tmp 17) 100 rfl 42 Tryz.underlying100 (Tryz.zeroValue42 _) rfl H.out.dirty n rfl hn0 hn1 (.slice (some ⟨g0, 0, none⟩) 512 cap0) true (by rw [HDv.out]; rfl) (by rw [HDv.out]; rfl) ?_)
  refine HCl.out.mono ?_
  clear HCl
  rintro e w1 ⟨g, cap, rfl, hrow, hb⟩
  have HB := hid hb
  have HR := hid hrow
  clear hb hrow
  go_wp2
  go_returns
  have hsee : C.see n = bs := by unfold CS.see; rw [HDi.out]; rfl
  have hg := (HR.out.lt g rfl).1
  refine ⟨g, cap, L.Du, C.used, 0, rfl, ?_, hg, by rw [hsee]; exact rowU_of_row HR.out H4.out, by omega, fun W hW => ?_, Keeps.of_below HB.out⟩
  ·rcases HR.out.2 with ⟨e, -⟩ | ⟨g', cap', cur, e, -, -, hc, -⟩
   ·cases e
   ·obtain ⟨-, rfl⟩ : g = g' /\ cap = cap' := by simpa using e
    exact hc
  ·have hb2 := HBw.out.trans (HB.out.mono HBw.out.size)
   exact H0.out.below (hb2.trans (hW.below hb2.size (fun i e => e)))
 | none =>
  have HDv := hid hdv
  have HDi := hid (h.clean n hdv)
  clear h hM hdv
  have hxp : n < pagesS C.S C.size := by rw [<- H.out.pages]; omega
  have hx1 : C.size + 1 + n < C.S.safe.length := by unfold pagesS at hxp; omega
  have hsz : (seenS C.S.safe C.S.waits ((1 + C.size + n : Nat) : Int)).size = 512 := HM.out.seen (1 + C.size + n) (by omega)
  have hlr := log_read_row n w H.out.log H.out.fits hxp
  rw [show (1 + (C.size : Int) + (n : Int)) = ((1 + C.size + n : Nat) : Int) by omega, hsz] at hlr
  have HLr := hid hlr
  have HS5 : Hid ((secL C.S (1 + C.size + n)).length = 512) := HM.out.sec _ (by omega)
  have hcl := lt_of_heap H.out.heap
  clear hlr hsz hx1 hxp
  go_enter Tryz.func140, Tryz.ntmps140
  go_wp2_with (refine wpList_lookup_grp rfl (.tmp 16) (.tmp 17) 100 rfl 42 Tryz.underlying100 (Tryz.zeroValue42 _) rfl H.out.dirty (n : Int) rfl hn0 hn1 (.slice none 0 0) false (by rw [HDv.out]; rfl) (by rw [HDv.out]; rfl) ?_)
  refine HLr.out.mono ?_
  clear HLr
  rintro e w1 ⟨g, cap, rfl, hcap, hg1, hby, hb1⟩
  have H1 := hid (H.out.below hb1)
  have HBy := hid hby
  have HB1 := hid hb1
  have HUs := hid (buse_any C.used _ _ _ C.most C.uses hu H.out.ub (n : Int) (by omega) (by omega) hpl w1 H1.out.heap H1.out.used)
  clear hby hb1
  go_wp2_with fail
  refine HUs.out.mono ?_
  clear HUs
  rintro e w2 ⟨rfl, u', D', hc2, hU2, hT2, hK2⟩
  have h0 : 0 < (secL C.S (1 + C.size + n)).length := by rw [HS5.out]; omega
  have hgn : ¬ (g = c \/ g = L.um) := by
   have h1 := HBy.out.1 0 h0
   have h2 := H1.out.out (G := fun i => i = c \/ i = L.um) (fun i hi => hi.elim .inl (fun e => .inr (.inr e))) h1 (fun y => by simp) (fun y => by simp) (fun y => by simp)
   rw [add_block] at h2
   exact h2
  have HBy2 : Hid (rowU w2 g (secL C.S (1 + C.size + n))) := HBy.out.keep hK2 hgn
  have HK2 : Hid (Keeps (fun i => i = c \/ i = L.um) w w2) := (Keeps.of_below HB1.out).trans hK2 (fun i e => .inl e)
  have HW2 : Hid (∀ W, Keeps (fun i => w0.heap.size <= i) w2 W -> CacheAt W c { L with Du := D' } { C with uses := C.uses + 1, used := u' }) := fun W hW => by
   obtain ⟨es', kk', hm'⟩ := H0.out.umap
   have hcl0 := lt_of_heap H0.out.heap
   have hul0 := lt_of_heap hm'
   exact H0.out.use (hW.heap hc2 (by omega)) (hU2.keep hW (by omega)) hT2 (((Keeps.of_below HBw.out).trans HK2.out (fun i e => .inl e)).trans hW (fun i e => .inr e)) hu
  clear hc2 hU2 hT2 hK2 h0 hgn
  go_wp2
  go_returns
  have hsee : C.see n = secL C.S (1 + C.size + n) := by unfold CS.see; rw [HDi.out]; rfl
  exact ⟨g, cap, D', u', 1, rfl, hcap, hg1, by rw [hsee]; exact HBy2.out, by omega, HW2.out, HK2.out⟩
end
end
section
open Go.RowKit
end
section
open Go.RowKit
def Cand (C : DiskS) (n : Nat) (s : ByteArray) : Prop := C.safe[n]? = some s \/ s ∈ C.waits (n : Int)
structure Left (C X : DiskS) : Prop where
 waits : X.waits = fun _ => []
 ops : X.ops = []
 len : X.safe.length = C.safe.length
 cand : ∀ n, n < C.safe.length -> Cand C n (seenAt X n)
end
section
open Go.RowKit Go.Maps
end
section
open Go.RowKit
end
section
open Go.RowKit
end
section
open Go.RowKit
section
variable {w : World} {c : Nat} {L : CLay} {C : CS}
theorem CacheAt.footLt (h : CacheAt w c L C) (i : Nat) (hi : L.foot c i) : i < w.heap.size := by
 obtain ⟨es, k, hm⟩ := h.dmap
 obtain ⟨es', k', hm'⟩ := h.umap
 rcases hi with hi | hi | hi | hi
 ·exact h.lt i hi
 ·rw [hi]; exact lt_of_heap h.heap
 ·rw [hi]; exact lt_of_heap hm
 ·rw [hi]; exact lt_of_heap hm'
theorem CacheAt.comOps (h : CacheAt w c L C) (hr : C.dirtyKeys.length <= min C.size 100) : C.com.ops.length <= C.S.ops.length + (2 * C.size + 6) /\ C.S.ops.length <= C.com.ops.length := by
 have := comS_ops C.S C.size (L.ps C.dirtyKeys) (fun j => (C.dirty (C.dirtyKeys.getD j 0)).getD [])
 rw [(h.com hr).2] at this
 have hpl : (L.ps C.dirtyKeys).length = C.dirtyKeys.length := by simp [CLay.ps]
 rw [hpl] at this
 split at this <;> omega
theorem CacheAt.comWaits (h : CacheAt w c L C) (hr : C.dirtyKeys.length <= min C.size 100) (hw : C.S.waits = fun _ => []) : C.com.waits = fun _ => [] := by
 rw [<- (h.com hr).2]; exact comS_waits _ _ _ _ hw
theorem CacheAt.comHead (h : CacheAt w c L C) (hr : C.dirtyKeys.length <= min C.size 100) (hh : headOk C.S) : headOk C.com := by
 rw [<- (h.com hr).2]; exact headOk_com _ _ _ _ hh (by have := h.fits; omega)
end
def CrAt (w0 w : World) (c size N o : Nat) : Prop := Below w0.heap.size w0 w /\ ∃ L C, CacheAt w c L C /\ C.size = size /\ C.N = N /\ Made C.S /\ C.S.waits = (fun _ => []) /\ headOk C.S /\ C.S.ops.length <= o /\ C.dirtyKeys.length <= min size 100 /\ (∀ i, L.foot c i -> w0.heap.size <= i)
section
variable {w0 w w' : World} {c size N o : Nat}
theorem CrAt.below (h : CrAt w0 w c size N o) (hb : Below w.heap.size w w') : CrAt w0 w' c size N o := by
 obtain ⟨h2, L, C, h3, h4⟩ := h
 exact ⟨h2.trans (hb.mono h2.size), L, C, h3.below hb, h4⟩
theorem CrAt.more {o' : Nat} (h : CrAt w0 w c size N o) (ho : o <= o') : CrAt w0 w c size N o' := by
 obtain ⟨h2, L, C, h3, h4, h5, h6, h7, h8, h9, h10⟩ := h
 exact ⟨h2, L, C, h3, h4, h5, h6, h7, h8, Nat.le_trans h9 ho, h10⟩
theorem CrAt.write (h : CrAt w0 w c size N o) (n : Int) (s : Bool) (l : List UInt8) (ad : Addr) (cp : Nat) (hl : l.length = dlen s) (hb : bytesAt w ad l) :
  Calls Tryz.prog 90 #[.pointer (some ⟨c, 0, none⟩), .int .i64 n, .slice (some ad) (dlen s) cp] w fun e w' => ∃ v, e = .returned v /\ CrAt w0 w' c size N o := by
 have h' := h
 obtain ⟨h2, L, C, h3, h4, h5, h6, h7, h8, h9, h10, h11⟩ := h
 by_cases hin : 0 <= n /\ n < (C.N : Int)
 ·obtain ⟨hi0, hi1⟩ := hin
  obtain ⟨n, rfl⟩ : ∃ m : Nat, n = (m : Int) := ⟨n.toNat, by omega⟩
  have hn : n < C.N := by omega
  cases s with
  | true =>
   refine (bwrite_form n (some ad) 511 cp w h3 hn (by omega)).mono ?_
   rintro e w' ⟨rfl, hb⟩
   exact ⟨_, rfl, h'.below hb⟩
  | false =>
   by_cases hr : (C.dirty n).isSome \/ C.dirtyKeys.length < min C.size 100
   ·refine (bwrite_ok n l ad cp w h3 hn hl hb hr).mono ?_
    rintro e w' ⟨rfl, g, cap, Dd, Du, hg, hC, hK⟩
    have hf : ∀ i, (i = L.dm \/ i = L.um) -> w0.heap.size <= i := fun i hi => h11 i (hi.elim (fun e => .inr (.inr (.inl e))) (fun e => .inr (.inr (.inr e))))
    refine ⟨_, rfl, h2.trans (hK.below h2.size hf), _, _, hC, h4, h5, h6, h7, h8, h9, keys_upd C n l _ _ h10 ?_, h11⟩
    rw [h4] at hr
    exact hr
   ·have hd : C.dirty n = none := by
     cases hd : C.dirty n with
     | none => rfl
     | some b => exact absurd (.inl (by rw [hd]; rfl)) hr
    have hk : ¬ C.dirtyKeys.length < min C.size 100 := fun h => hr (.inr h)
    refine (bwrite_full n (some ad) cp w h3 hn hd (by rw [h4] at hk ⊢; omega)).mono ?_
    rintro e w' ⟨rfl, hb⟩
    exact ⟨_, rfl, h'.below hb⟩
 ·refine (bwrite_range n _ w h3 hin).mono ?_
  rintro e w' ⟨rfl, hb⟩
  exact ⟨_, rfl, h'.below hb⟩
theorem CrAt.commit (h : CrAt w0 w c size N o) (ho : o <= 700000) :
  Calls Tryz.prog 13 #[.pointer (some ⟨c, 0, none⟩)] w fun e w' => e = .returned (.int .i64 0) /\ CrAt w0 w' c size N (o + (2 * size + 6)) := by
 obtain ⟨h2, L, C, h3, h4, h5, h6, h7, h8, h9, h10, h11⟩ := h
 have hr : C.dirtyKeys.length <= min C.size 100 := by rw [h4]; exact h10
 have hco := (h3.comOps hr).1
 rw [h4] at hco
 refine (bcommit_any w h3 hr (by omega)).mono ?_
 rintro e w' ⟨rfl, d', F', hF1, hF2, hC, hK⟩
 have hk2 : Below w0.heap.size w0 w' := h2.trans (hK.below h2.size (fun i hi => h11 i (hi.elim .inl (fun e => .inr (.inr (.inl e))))))
 refine ⟨rfl, hk2, _, _, hC, h4, h5, h3.comMade h6 hr, h3.comWaits hr h7, h3.comHead hr h8, Nat.le_trans hco (by omega), by rw [CS.dirtyKeys_none rfl]; simp, fun i hi => ?_⟩
 rcases hi with hi | hi | hi | hi
 ·rcases hF2 i hi with h | h
  ·exact h11 i (.inl h)
  ·exact Nat.le_trans h2.size h
 ·exact h11 i (.inr (.inl hi))
 ·exact h11 i (.inr (.inr (.inl hi)))
 ·exact h11 i (.inr (.inr (.inr hi)))
end
end
section
open Go.RowKit Go.Maps
def dkD (N : Nat) (D : Int -> Bool) : List Int := ((List.range N).map (fun k : Nat => (k : Int))).filter D
def SepX (hs : Nat) (L : CLay) (N : Nat) (Pg Cm : Nat -> List UInt8) : Prop := ∀ g, (Pg (N + 1 + g) = [7] \/ Cm (N + 1 + g) = [7]) -> g < hs /\ ¬ L.F g /\ ∀ n cap, L.dv n ≠ some (.slice (some ⟨g, 0, none⟩) 512 cap)
theorem SepX.mono {hs hs' : Nat} {L : CLay} {N : Nat} {Pg Cm : Nat -> List UInt8} (h : SepX hs L N Pg Cm) (hl : hs <= hs') : SepX hs' L N Pg Cm := fun g hg => ⟨Nat.lt_of_lt_of_le (h g hg).1 hl, (h g hg).2⟩
theorem SepX.zeros (hs : Nat) (L : CLay) (N : Nat) : SepX hs L N (fun _ => zN 512) (fun _ => zN 512) := fun g hg => by
 have : (zN 512).length = [(7 : UInt8)].length := hg.elim (fun e => congrArg List.length e) (fun e => congrArg List.length e)
 rw [length_zN] at this
 cases this
structure PcIn (w : World) (c : Nat) (F : Nat -> Prop) (size N : Nat) (Pg Cm : Nat -> List UInt8) (D : Int -> Bool) (o u : Nat) (L : CLay) (C : CS) : Prop where
 at_ : CacheAt w c L C
 sz : C.size = size
 nn : C.N = N
 made : Made C.S
 ops : C.S.ops.length <= o
 uses : C.uses <= u
 pg : ∀ n, n < N -> C.see n = Pg n
 cm : ∀ n, n < N -> secL C.S (1 + size + n) = Cm n
 dirty : ∀ n : Int, (C.dirty n).isSome = D n
 room : C.dirtyKeys.length <= min size 100
 foot : ∀ i, L.foot c i -> F i
 lt : ∀ i, F i -> i < w.heap.size
 p0 : L.p < w.heap.size
 sep : SepX w.heap.size L N Pg Cm
 quiet : C.S.waits = (fun _ => []) /\ headOk C.S
def Pc (w : World) (c : Nat) (F : Nat -> Prop) (size N : Nat) (Pg Cm : Nat -> List UInt8) (D : Int -> Bool) (o u : Nat) : Prop := ∃ L C, PcIn w c F size N Pg Cm D o u L C
theorem PcIn.keys {w : World} {c : Nat} {F : Nat -> Prop} {size N : Nat} {Pg Cm : Nat -> List UInt8} {D : Int -> Bool} {o u : Nat} {L : CLay} {C : CS} (h : PcIn w c F size N Pg Cm D o u L C) : C.dirtyKeys = dkD N D := by
 unfold CS.dirtyKeys dkD
 rw [h.nn]
 exact List.filter_congr (fun k _ => h.dirty k)
section
variable {w w' : World} {c : Nat} {F : Nat -> Prop} {size N : Nat} {Pg Cm : Nat -> List UInt8} {D : Int -> Bool} {o u : Nat}
theorem Pc.below (h : Pc w c F size N Pg Cm D o u) (hb : Below w.heap.size w w') : Pc w' c F size N Pg Cm D o u := by
 obtain ⟨L, C, h⟩ := h
 exact ⟨L, C, h.at_.below hb, h.sz, h.nn, h.made, h.ops, h.uses, h.pg, h.cm, h.dirty, h.room, h.foot, fun i hi => Nat.lt_of_lt_of_le (h.lt i hi) hb.size, Nat.lt_of_lt_of_le h.p0 hb.size, h.sep.mono hb.size, h.quiet⟩
theorem Pc.more {o' u' : Nat} (h : Pc w c F size N Pg Cm D o u) (ho : o <= o') (hu : u <= u') : Pc w c F size N Pg Cm D o' u' := by
 obtain ⟨L, C, h⟩ := h
 exact ⟨L, C, h.at_, h.sz, h.nn, h.made, Nat.le_trans h.ops ho, Nat.le_trans h.uses hu, h.pg, h.cm, h.dirty, h.room, h.foot, h.lt, h.p0, h.sep, h.quiet⟩
theorem Pc.lt (h : Pc w c F size N Pg Cm D o u) (i : Nat) (hi : F i) : i < w.heap.size := by obtain ⟨L, C, h⟩ := h; exact h.lt i hi
theorem Pc.len (h : Pc w c F size N Pg Cm D o u) (n : Nat) (hn : n < N) : (Pg n).length = 512 := by
 obtain ⟨L, C, h⟩ := h
 rw [<- h.pg n hn]
 unfold CS.see
 cases hd : C.dirty (n : Int) with
 | some bs => exact (h.at_.dom hd).2.2
 | none =>
  have hp := h.at_.pages
  have h5 := h.at_.fits
  have hN := h.nn
  exact h.made.sec _ (by unfold pagesS at hp; omega)
theorem Pc.keysLen (h : Pc w c F size N Pg Cm D o u) : (dkD N D).length <= min size 100 := by obtain ⟨L, C, h⟩ := h; rw [<- h.keys]; exact h.room
theorem Pc.four (h : Pc w c F size N Pg Cm D o u) : N <= 4096 := by obtain ⟨L, C, h⟩ := h; have := h.at_.pagesLe; rw [h.nn] at this; exact this
theorem Pc.read {w0 : World} (h : Pc w0 c F size N Pg Cm D o u) (hw : Below w0.heap.size w0 w) (n : Nat) (hn : n < N) (hu : u < 1000000) :
  Calls Tryz.prog 140 #[.pointer (some ⟨c, 0, none⟩), .int .i64 n] w fun e w' => ∃ g cap, e = .returned (.tuple #[.slice (some ⟨g, 0, none⟩) 512 cap, .int .i64 0]) /\ 512 <= cap /\ w.heap.size <= g /\ rowU w' g (Pg n) /\ Keeps F w w' /\ ∀ W, Keeps (fun i => w0.heap.size <= i) w' W -> Pc W c F size N Pg Cm D o (u + 1) := by
 obtain ⟨L, C, h⟩ := h
 refine (bread_row n w h.at_ hw h.made (by have := h.uses; omega) (by rw [h.nn]; exact hn)).mono ?_
 rintro e w' ⟨g, cap, D', u', k, rfl, hc, hg, hr, hk, hW, hK⟩
 have hf : ∀ i, (i = c \/ i = L.um) -> F i := fun i hi => h.foot i (hi.elim (fun e => .inr (.inl e)) (fun e => .inr (.inr (.inr e))))
 refine ⟨g, cap, rfl, hc, hg, by rw [<- h.pg n hn]; exact hr, hK.mono hf, fun W hWk => ⟨_, _, hW W hWk, h.sz, h.nn, h.made, h.ops, by show C.uses + k <= u + 1; have := h.uses; omega, h.pg, h.cm, h.dirty, h.room, h.foot, fun i hi => ?_, ?_, h.sep.mono (Nat.le_trans hw.size (Nat.le_trans hK.size hWk.size)), h.quiet⟩⟩
 ·exact Nat.lt_of_lt_of_le (h.lt i hi) (Nat.le_trans hw.size (Nat.le_trans hK.size hWk.size))
 ·exact Nat.lt_of_lt_of_le h.p0 (Nat.le_trans hw.size (Nat.le_trans hK.size hWk.size))
def updP (Pg : Nat -> List UInt8) (n : Nat) (l : List UInt8) : Nat -> List UInt8 := fun k => if k = n then l else Pg k
def updT (D : Int -> Bool) (n : Int) : Int -> Bool := fun k => if k = n then true else D k
theorem Pc.write (h : Pc w c F size N Pg Cm D o u) (n : Nat) (hn : n < N) (l : List UInt8) (hl : l.length = 512) (ad : Addr) (cp : Nat) (hb : bytesAt w ad l) (hr : D n = true \/ (dkD N D).length < min size 100) :
  Calls Tryz.prog 90 #[.pointer (some ⟨c, 0, none⟩), .int .i64 n, .slice (some ad) 512 cp] w fun e w' => e = .returned (.int .i64 0) /\ Keeps F w w' /\ Pc w' c F size N (updP Pg n l) Cm (updT D n) o u := by
 obtain ⟨L, C, h⟩ := h
 have hr' : (C.dirty n).isSome \/ C.dirtyKeys.length < min C.size 100 := by
  rw [h.keys, h.sz, h.dirty]; exact hr
 refine (bwrite_ok n l ad cp w h.at_ (by rw [h.nn]; exact hn) hl hb hr').mono ?_
 rintro e w' ⟨rfl, g, cap, Dd, Du, hg, hC, hK⟩
 have hf : ∀ i, (i = L.dm \/ i = L.um) -> F i := fun i hi => h.foot i (hi.elim (fun e => .inr (.inr (.inl e))) (fun e => .inr (.inr (.inr e))))
 have hsp : SepX w'.heap.size { L with dv := updV L.dv n (.slice (some ⟨g, 0, none⟩) 512 cap), Dd := Dd, Du := Du } N (updP Pg n l) Cm := fun q hq => by
  have hq' : Pg (N + 1 + q) = [7] \/ Cm (N + 1 + q) = [7] := hq.imp (fun e => by unfold updP at e; rw [if_neg (by omega)] at e; exact e) id
  obtain ⟨h1, h2, h3⟩ := h.sep q hq'
  refine ⟨Nat.lt_of_lt_of_le h1 hK.size, h2, fun k cp e => ?_⟩
  have e' : updV L.dv n (.slice (some ⟨g, 0, none⟩) 512 cap) k = some (.slice (some ⟨q, 0, none⟩) 512 cp) := e
  unfold updV at e'
  split at e'
  ·have e2 := Option.some.inj e'
   rw [Value.slice.injEq] at e2
   have e3 : g = q := congrArg Addr.block (Option.some.inj e2.1)
   omega
  ·exact h3 k cp e'
 refine ⟨rfl, hK.mono hf, _, _, hC, h.sz, h.nn, h.made, h.ops, h.uses, fun k hk => ?_, h.cm, fun k => ?_, ?_, h.foot, fun i hi => Nat.lt_of_lt_of_le (h.lt i hi) hK.size, Nat.lt_of_lt_of_le h.p0 hK.size, hsp, h.quiet⟩
 ·show (updD C.dirty n l k).getD (secL C.S (1 + C.size + k)) = updP Pg n l k
  unfold updD updP
  by_cases e : k = n
  ·rw [if_pos (by omega), if_pos e]; rfl
  ·rw [if_neg (by omega), if_neg e, <- h.pg k hk]; rfl
 ·show (updD C.dirty n l k).isSome = updT D n k
  unfold updD updT
  by_cases e : k = (n : Int)
  ·rw [if_pos e, if_pos e]; rfl
  ·rw [if_neg e, if_neg e]; exact h.dirty k
 ·have := keys_upd C n l (delN C.used n) (min size 100) h.room (by rw [h.sz] at hr'; exact hr')
  exact this
theorem Pc.dirtyRow (h : Pc w c F size N Pg Cm D o u) :
  Calls Tryz.prog 42 #[.pointer (some ⟨c, 0, none⟩)] w fun e w' => ∃ v, e = .returned v /\ w'.ownsRow w.heap.size 3 1 v (dkD N D).length ((dkD N D).map encZ) /\ Below w.heap.size w w' := by
 obtain ⟨L, C, h⟩ := h
 have hk := h.keys
 refine (bdirty_any w h.at_).mono ?_
 rintro e w' ⟨v, rfl, hrow, -, hb⟩
 rw [hk] at hrow
 exact ⟨v, rfl, hrow, hb⟩
theorem Pc.roomC (h : Pc w c F size N Pg Cm D o u) :
  Calls Tryz.prog 79 #[.pointer (some ⟨c, 0, none⟩)] w fun e w' => e = .returned (.int .i64 (((min size 100 : Nat) : Int) - ((dkD N D).length : Int))) /\ Below w.heap.size w w' := by
 obtain ⟨L, C, h⟩ := h
 have := broom_any w h.at_
 rw [h.keys, h.sz] at this
 exact this
theorem Pc.logPages (h : Pc w c F size N Pg Cm D o u) : ∃ p, (Calls Tryz.prog 77 #[.pointer (some ⟨c, 0, none⟩)] w fun e w' => e = .returned (.pointer (some ⟨p, 0, none⟩)) /\ w' = w) /\
  (Calls Tryz.prog 78 #[.pointer (some ⟨p, 0, none⟩)] w fun e w' => e = .returned (.int .i64 (N : Nat)) /\ Below w.heap.size w w') := by
 obtain ⟨L, C, h⟩ := h
 refine ⟨L.p, blog_any w h.at_, ?_⟩
 have := log_pages w h.at_.log h.at_.fits
 rwa [<- h.at_.pages, h.nn] at this
theorem dkD_none (N : Nat) : dkD N (fun _ => false) = [] := by simp [dkD]
theorem Pc.commitT (h : Pc w c F size N Pg Cm D o u) (ho : o <= 800000) :
  Calls Tryz.prog 13 #[.pointer (some ⟨c, 0, none⟩)] w fun e w' => e = .returned (.int .i64 0) /\ Keeps F w w' /\ ∃ F', (∀ i, F i -> F' i) /\ (∀ i, F' i -> F i \/ w.heap.size <= i) /\ Pc w' c F' size N Pg Pg (fun _ => false) (o + (2 * (dkD N D).length + 6)) u := by
 obtain ⟨L, C, h⟩ := h
 have hr : C.dirtyKeys.length <= min C.size 100 := by rw [h.sz]; exact h.room
 have hmd := h.at_.comMade h.made hr
 have hco : C.com.ops.length <= C.S.ops.length + (2 * (dkD N D).length + 6) := by
  have := comS_ops C.S C.size (L.ps C.dirtyKeys) (fun j => (C.dirty (C.dirtyKeys.getD j 0)).getD [])
  rw [(h.at_.com hr).2] at this
  have hpl : (L.ps C.dirtyKeys).length = C.dirtyKeys.length := by simp [CLay.ps]
  rw [hpl, h.keys] at this
  split at this <;> omega
 have hse := h.at_.comSee hr
 refine (bcommit_any w h.at_ hr (by have := h.ops; omega)).mono ?_
 rintro e w' ⟨rfl, d', F', hF1, hF2, hC, hK⟩
 have hft : ∀ i, L.F i \/ i = L.dm -> F i := fun i hi => h.foot i (hi.elim .inl (fun e => .inr (.inr (.inl e))))
 refine ⟨rfl, hK.mono hft, fun i => F i \/ (F' i /\ w.heap.size <= i), fun i hi => .inl hi, fun i hi => hi.imp id (fun h => h.2), _, _, hC, h.sz, h.nn, hmd, ?_, h.uses, fun n hn => ?_, fun n hn => ?_, fun n => rfl, ?_, fun i hi => ?_, fun i hi => ?_, Nat.lt_of_lt_of_le h.p0 hK.size, fun q hq => ?_, ⟨h.at_.comWaits hr h.quiet.1, h.at_.comHead hr h.quiet.2⟩⟩
 ·show C.com.ops.length <= _
  have := h.ops
  omega
 ·have h1 := hse n (by rw [h.nn]; exact hn)
  rw [h.pg n hn] at h1
  exact h1
 ·have h1 := hse n (by rw [h.nn]; exact hn)
  rw [h.pg n hn, h.sz] at h1
  exact h1
 ·rw [CS.dirtyKeys_none rfl]; simp
 ·rcases hi with hi | hi | hi | hi
  ·rcases hF2 i hi with h1 | h1
   ·exact .inl (h.foot i (.inl h1))
   ·exact .inr ⟨hi, h1⟩
  ·exact .inl (h.foot i (.inr (.inl hi)))
  ·exact .inl (h.foot i (.inr (.inr (.inl hi))))
  ·exact .inl (h.foot i (.inr (.inr (.inr hi))))
 ·rcases hi with hi | hi
  ·exact Nat.lt_of_lt_of_le (h.lt i hi) hK.size
  ·exact hC.lt i hi.1
 ·obtain ⟨h1, h2, h3⟩ := h.sep q (.inl (hq.elim id id))
  exact ⟨Nat.lt_of_lt_of_le h1 hK.size, fun hh => (hF2 q hh).elim h2 (fun e => by omega), fun k cp e => by cases e⟩
theorem Pc.commit (h : Pc w c F size N Pg Cm D o u) (ho : o <= 800000) :
  Calls Tryz.prog 13 #[.pointer (some ⟨c, 0, none⟩)] w fun e w' => e = .returned (.int .i64 0) /\ Keeps F w w' /\ ∃ F', (∀ i, F i -> F' i) /\ (∀ i, F' i -> F i \/ w.heap.size <= i) /\ Pc w' c F' size N Pg Pg (fun _ => false) (o + (2 * size + 6)) u := by
 have hl := h.keysLen
 refine (h.commitT ho).mono ?_
 rintro e w' ⟨rfl, hk, F', h1, h2, hp⟩
 exact ⟨rfl, hk, F', h1, h2, hp.more (by omega) (Nat.le_refl _)⟩
theorem Pc.abort (h : Pc w c F size N Pg Cm D o u) :
  Calls Tryz.prog 91 #[.pointer (some ⟨c, 0, none⟩)] w fun e w' => (∃ v, e = .returned v) /\ Keeps F w w' /\ Pc w' c F size N Cm Cm (fun _ => false) o u := by
 obtain ⟨L, C, h⟩ := h
 refine (babort_any w h.at_).mono ?_
 rintro e w' ⟨rfl, hC, hK⟩
 refine ⟨⟨_, rfl⟩, hK.mono (fun i e => h.foot i (.inr (.inr (.inl e)))), _, _, hC, h.sz, h.nn, h.made, h.ops, h.uses, fun n hn => ?_, h.cm, fun n => rfl, ?_, h.foot, fun i hi => Nat.lt_of_lt_of_le (h.lt i hi) hK.size, Nat.lt_of_lt_of_le h.p0 hK.size, fun q hq => ⟨Nat.lt_of_lt_of_le (h.sep q (.inr (hq.elim id id))).1 hK.size, (h.sep q (.inr (hq.elim id id))).2.1, fun k cp e => by cases e⟩, h.quiet⟩
 ·show secL C.S (1 + C.size + n) = Cm n
  rw [h.sz]; exact h.cm n hn
 ·rw [CS.dirtyKeys_none rfl]; simp
end
end
section
open Go.RowKit Go.Maps
def offN (w : World) (b : Nat) : Prop := ∃ cs t fr, w.heap[b]? = some (.cells cs t fr) /\ (t ≠ 138 /\ t ≠ 105 /\ t ≠ 97) /\ ∀ v ∈ cs.toList, (∃ n, v = .int .i64 n) \/ (∃ x, v = .bool x) \/ (∃ a n c, v = .slice a n c) \/ ∃ a, v = .pointer a
theorem offN.not {w : World} {b : Nat} {ad : Addr} {v : Value} (h : offN w b) (hc : w.cell? ad = some v) (hv : (∀ n, v ≠ .int .i64 n) /\ (∀ x, v ≠ .bool x) /\ (∀ a n c, v ≠ .slice a n c) /\ ∀ a, v ≠ .pointer a) : ad.block ≠ b := fun e => by
 obtain ⟨cs, t, fr, hb, -, hk⟩ := h
 have hp := plain_addr hc
 rw [hp, e, cell_of_block hb] at hc
 have hm : v ∈ cs.toList := by
  obtain ⟨h1, h2⟩ := Array.getElem?_eq_some_iff.1 hc
  rw [<- h2]; simp
 rcases hk v hm with ⟨n, rfl⟩ | ⟨x, rfl⟩ | ⟨a, n, c, rfl⟩ | ⟨a, rfl⟩
 ·exact hv.1 n rfl
 ·exact hv.2.1 x rfl
 ·exact hv.2.2.1 a n c rfl
 ·exact hv.2.2.2 a rfl
theorem offN.noMap {w : World} {b : Nat} (h : offN w b) (e : Array MapEntry) (k : Nat) : w.heap[b]? ≠ some (.map e k) := fun hm => by
 obtain ⟨cs, t, fr, hb, -⟩ := h
 rw [hb] at hm; cases hm
theorem offN.type {w : World} {b : Nat} (h : offN w b) {cs : Array Value} {t : TypeId} {fr : Nat × Nat} (hm : w.heap[b]? = some (.cells cs t fr)) : t ≠ 138 /\ t ≠ 105 /\ t ≠ 97 := by
 obtain ⟨cs', t', fr', hb, ht, -⟩ := h
 rw [hb] at hm
 simp only [Option.some.injEq, Obj.cells.injEq] at hm
 rw [<- hm.2.1]; exact ht
theorem AnyAt.keepY {w w' : World} {d : DL} {S : DiskS} {F G : Nat -> Prop} (h : AnyAt w d S F) (hb : ∀ b, G b -> offN w b) (hF : ∀ b, G b -> ¬ F b) (k : Keeps G w w') : AnyAt w' d S F := by
 rcases h with ⟨h, hf⟩ | ⟨h, hf⟩
 ·refine .inl ⟨?_, hf⟩
  have hne : ∀ i, d.cutFoot S.waits i -> ¬ G i := fun i hi e => hF i e (hf i hi)
  obtain ⟨h1, ⟨a, e1, e2, e3⟩, ⟨ad, c, e4, e5, e6⟩, h4⟩ := h
  refine ⟨h1.keep k (hne _ (.inl rfl)) (fun i hi => hne i (.inr hi)), ⟨a, e1, e2, fun q hq => ⟨fun j u hu => ?_, Nat.lt_of_lt_of_le (e3 q hq).2 k.size⟩⟩, ⟨ad, c, e4, fun j s hj => ?_, e6⟩, h4⟩
  ·refine k.cell ((e3 q hq).1 j u hu) (fun hG => (hb _ hG).not ((e3 q hq).1 j u hu) ?_ rfl)
   rw [List.getElem?_map] at hu
   cases ho : S.ops[j]? with
   | none => rw [ho] at hu; cases hu
   | some o => rw [ho] at hu; obtain rfl := Option.some.inj hu; cases o <;> simp [encOp]
  ·exact k.cell (e5 j s hj) (fun hG => (hb _ hG).not (e5 j s hj) (by simp) rfl)
 ·refine .inr ⟨?_, hf⟩
  have hne : ∀ i, d.foot S.waits i -> ¬ G i := fun i hi e => hF i e (hf i hi)
  refine h.keep k hne (fun i hi e => ?_)
  obtain ⟨ad, c, e4, e5, e6⟩ := h.first
  have hpos : 0 < S.first.length := by rw [h.flen]; exact h.plates.pos
  have hc := e5 0 S.first[0] (List.getElem?_eq_getElem hpos)
  have h1 := (hb i e).not hc (by simp)
  rw [add_block] at h1
  rw [e4] at hi
  exact h1 (Option.some.inj hi)
theorem LogIn.keepY {w w' : World} {p : Nat} {d : DL} {S : DiskS} {size rec : Nat} {F G : Nat -> Prop} (h : LogIn w p d S size rec F) (hb : ∀ b, G b -> offN w b) (hF : ∀ b, G b -> ¬ F b) (k : Keeps G w w') : LogIn w' p d S size rec F := by
 refine ⟨k.heap h.heap (fun e => ?_), h.disk.keepY hb hF k, h.off⟩
 exact absurd ((hb p e).type h.heap) (by decide)
theorem CacheAt.keepY {w w' : World} {c : Nat} {L : CLay} {C : CS} (h : CacheAt w c L C) {G : Nat -> Prop} (hg : ∀ b, G b -> offN w b) (hF : ∀ b, G b -> ¬ L.F b) (k : Keeps G w w') : CacheAt w' c L C := by
 obtain ⟨es, kk, hm⟩ := h.dmap
 obtain ⟨es', kk', hu⟩ := h.umap
 have hmap : ∀ m e k0, w.heap[m]? = some (.map e k0) -> ¬ G m := fun m e k0 hm e1 => (hg m e1).noMap _ _ hm
 exact {
  heap := k.heap h.heap (fun e => absurd ((hg c e).type h.heap) (by decide))
  log := h.log.keepY hg hF k
  lt := fun i hi => Nat.lt_of_lt_of_le (h.lt i hi) k.size
  dirty := h.dirty.keep k (hmap _ _ _ hm)
  bytes := fun n v hv => by
   obtain ⟨g', cap, bs, h1, h2, h3, h4, h5⟩ := h.bytes n v hv
   subst h2
   refine ⟨g', cap, bs, h1, rfl, fun j hj => k.cell (h3 j hj) (fun hG => (hg _ hG).not (h3 j hj) (by simp) rfl), h4, h5⟩
  clean := h.clean
  used := h.used.keep k (hmap _ _ _ hu)
  offc := h.offc
  offd := h.offd
  offu := h.offu
  ne := h.ne
  pages := h.pages
  fits := h.fits
  few := h.few
  ub := h.ub }
section
variable {w w' : World} {c : Nat} {F : Nat -> Prop} {size N : Nat} {Pg Cm : Nat -> List UInt8} {D : Int -> Bool} {o u : Nat}
theorem Pc.keepYs (h : Pc w c F size N Pg Cm D o u) {G : Nat -> Prop} (hg : ∀ b, G b -> offN w b) (hF : ∀ b, G b -> ¬ F b) (k : Keeps G w w') : Pc w' c F size N Pg Cm D o u := by
 obtain ⟨L, C, h⟩ := h
 exact ⟨L, C, h.at_.keepY hg (fun b hb hf => hF b hb (h.foot _ (.inl hf))) k, h.sz, h.nn, h.made, h.ops, h.uses, h.pg, h.cm, h.dirty, h.room, h.foot, fun i hi => Nat.lt_of_lt_of_le (h.lt i hi) k.size, Nat.lt_of_lt_of_le h.p0 k.size, h.sep.mono k.size, h.quiet⟩
theorem Pc.keepY (h : Pc w c F size N Pg Cm D o u) {b : Nat} (hg : offN w b) (hF : ¬ F b) (k : Keeps (fun i => i = b) w w') : Pc w' c F size N Pg Cm D o u := h.keepYs (G := fun i => i = b) (fun i e => by have e' : i = b := e; rw [e']; exact hg) (fun i e => by have e' : i = b := e; rw [e']; exact hF) k
end
end
section
open Go.RowKit
def ownBl (w : World) (b : Nat) (L : List Bool) : Prop := w.heap[b]? = some (.cells (L.map Value.bool).toArray 4 (0, 0))
theorem ownBl.cell {w : World} {b : Nat} {L : List Bool} (h : ownBl w b L) (j : Nat) (hj : j < L.length) : w.cell? ⟨b, j, none⟩ = some (.bool L[j]) := by
 rw [cell_of_block h]; simp [hj]
theorem ownBl.set {w : World} {b : Nat} {L : List Bool} (h : ownBl w b L) (j : Nat) (x : Bool) : ownBl (w.setCell ⟨b, j, none⟩ (.bool x)) b (L.set j x) := by
 have h1 := block_setCell h j (.bool x)
 rw [List.setIfInBounds_toArray] at h1
 unfold ownBl
 rw [h1, List.map_set]
theorem infoBl : (Tryz.prog.info? 4).map (fun i => (i.zero, i.size, i.bytes)) = some (some (.bool false), 1, 1) := by kernel_rfl
theorem madeBl (n : Nat) : madeCells (Value.bool false).cells (n * 1) = (List.replicate n (Value.bool false)).toArray := by
 apply Array.ext
 ·simp [madeCells]
 ·intro i h1 h2
  simp [madeCells, Value.cells, Nat.mod_one]
end
section
set_option maxRecDepth 100000
set_option maxHeartbeats 1000000
open Go.RowKit
def bitL (l : List UInt8) (n : Nat) : Bool := (l.getD (n / 8) 0).toNat.testBit (n % 8)
def flipL (l : List UInt8) (n : Nat) : List UInt8 := l.set (n / 8) (l.getD (n / 8) 0 ^^^ UInt8.ofNat (2 ^ (n % 8)))
theorem length_flipL (l : List UInt8) (n : Nat) : (flipL l n).length = l.length := List.length_set
theorem pow8 (n : Nat) : 2 ^ (n % 8) < 256 := by
 have : n % 8 < 8 := Nat.mod_lt _ (by omega)
 exact Nat.pow_lt_pow_right (by omega) this
theorem bitL_flipL (l : List UInt8) (n k : Nat) (hn : n / 8 < l.length) : bitL (flipL l n) k = if k = n then !bitL l n else bitL l k := by
 unfold bitL flipL
 by_cases e : k / 8 = n / 8
 ·rw [e, List.getD_eq_getElem?_getD, List.getElem?_set_self hn]
  simp only [Option.getD_some, UInt8.toNat_xor, Nat.testBit_xor, UInt8.toNat_ofNat', Nat.mod_eq_of_lt (pow8 n), Nat.testBit_two_pow]
  by_cases e2 : k = n
  ·subst e2
   rw [if_pos rfl, decide_eq_true rfl, Bool.xor_true]
  ·have : ¬ (n % 8 = k % 8) := by omega
   rw [if_neg e2, decide_eq_false this, Bool.xor_false]
 ·rw [if_neg (fun h => e (by rw [h])), List.getD_eq_getElem?_getD, List.getElem?_set_ne (fun h => e h.symm), <- List.getD_eq_getElem?_getD]
theorem ofNat8 (k : Nat) (hk : k < 8) : (UInt8.ofNat k).toNat % 8 = k := by
 rw [UInt8.toNat_ofNat_of_lt' (by show k < 256; omega)]; omega
theorem op_shr8 (x : UInt8) (y : Int) (h0 : 0 <= y) (h1 : y < 8) : Op.shift .shr .u8 (x.toNat : Int) .i64 y = pure (.int .u8 ((x >>> UInt8.ofNat y.toNat).toNat : Int)) := by
 rw [shift_shr_any _ _ _ _ h0]
 have : min y.toNat IntKind.u8.bits = y.toNat := by simp [IntKind.bits]; omega
 rw [this, UInt8.toNat_shiftRight, ofNat8 _ (by omega), Nat.shiftRight_eq_div_pow, Int.natCast_ediv, Int.natCast_pow]; rfl
theorem op_shl8 (y : Int) (h0 : 0 <= y) (h1 : y < 8) : Op.shift .shl .u8 1 .i64 y = pure (.int .u8 ((UInt8.ofNat (2 ^ y.toNat)).toNat : Int)) := by
 rw [shift_shl_any _ _ _ _ h0]
 have : min y.toNat IntKind.u8.bits = y.toNat := by simp [IntKind.bits]; omega
 have hp : 2 ^ y.toNat < 256 := Nat.pow_lt_pow_right (n := 8) (by omega) (by omega)
 rw [this, IntKind.wrap_u8', UInt8.toNat_ofNat_of_lt' (by show _ < 256; exact hp), Int.one_mul]
 have e : ((2 : Int) ^ y.toNat) = ((2 ^ y.toNat : Nat) : Int) := by rw [Int.natCast_pow]; rfl
 rw [e, Int.emod_eq_of_lt (Int.natCast_nonneg _) (show ((2 ^ y.toNat : Nat) : Int) < 256 from Int.ofNat_lt.2 hp)]
theorem u8_and_nat (a b : UInt8) : bits .and .u8 (a.toNat : Int) (b.toNat : Int) = ((a &&& b).toNat : Int) := by
 show IntKind.u8.wrap ((BitVec.ofInt 8 (a.toNat : Int) &&& BitVec.ofInt 8 (b.toNat : Int)).toNat : Int) = _
 have ha := a.toNat_lt
 have hb := b.toNat_lt
 rw [BitVec.toNat_and, BitVec.ofInt_natCast, BitVec.ofInt_natCast, BitVec.toNat_ofNat, BitVec.toNat_ofNat, Nat.mod_eq_of_lt (by omega), Nat.mod_eq_of_lt (by omega), <- UInt8.toNat_and, IntKind.wrap_u8']
 have := (a &&& b).toNat_lt
 omega
theorem u8_xor_nat (a b : UInt8) : bits .xor .u8 (a.toNat : Int) (b.toNat : Int) = ((a ^^^ b).toNat : Int) := by
 show IntKind.u8.wrap ((BitVec.ofInt 8 (a.toNat : Int) ^^^ BitVec.ofInt 8 (b.toNat : Int)).toNat : Int) = _
 have ha := a.toNat_lt
 have hb := b.toNat_lt
 rw [BitVec.toNat_xor, BitVec.ofInt_natCast, BitVec.ofInt_natCast, BitVec.toNat_ofNat, BitVec.toNat_ofNat, Nat.mod_eq_of_lt (by omega), Nat.mod_eq_of_lt (by omega), <- UInt8.toNat_xor, IntKind.wrap_u8']
 have := (a ^^^ b).toNat_lt
 omega
theorem op_and8 (a : UInt8) : Op.intBits .and .u8 (a.toNat : Int) 1 = pure (.int .u8 ((a &&& 1).toNat : Int)) := by rw [<- u8_and_nat]; rfl
theorem op_xor8 (a b : UInt8) : Op.intBits .xor .u8 (a.toNat : Int) (b.toNat : Int) = pure (.int .u8 ((a ^^^ b).toNat : Int)) := by rw [<- u8_xor_nat]; rfl
theorem bit_fin : ∀ x : Fin 256, ∀ s : Fin 8, (bits BinOp.and IntKind.u8 (((x.val : Nat) : Int) >>> (s.val % 8)) 1 == 1) = x.val.testBit s.val := by decide +kernel
attribute [local go_sem ↓] op_shr8 op_shl8 op_and8 op_xor8
theorem isSet_any (g n cap : Nat) (l : List UInt8) (w : World) (h : bytesAt w ⟨g, 0, none⟩ l) (hl : l.length = 512) (hn : n < 4096) :
  Calls Tryz.prog 114 #[.slice (some ⟨g, 0, none⟩) 512 cap, .int .i64 n] w fun e w' => e = .returned (.bool (bitL l n)) /\ w' = w := by
 have h8 : n / 8 < l.length := by omega
 have c0 : w.cell? ⟨g, n / 8, none⟩ = some (.int .u8 (l[n / 8].toNat : Int)) := by
  have := h (n / 8) h8
  rwa [Addr.add_mid, Nat.zero_add] at this
 have hb : bitL l n = l[n / 8].toNat.testBit (n % 8) := by unfold bitL; rw [List.getD_eq_getElem?_getD, List.getElem?_eq_getElem h8]; rfl
 have hv := bit_fin ⟨l[n / 8].toNat, l[n / 8].toNat_lt⟩ ⟨n % 8, by omega⟩
 dsimp only at hv
 rw [hb]
 clear hb h
 generalize l[n / 8] = x at *
 obtain ⟨s, hs⟩ : ∃ s, s = n % 8 := ⟨_, rfl⟩
 obtain ⟨q, hq⟩ : ∃ q, q = n / 8 := ⟨_, rfl⟩
 rw [<- hs] at hv ⊢
 rw [<- hq] at c0 h8
 have e1 : (n : Int) / 8 = (q : Int) := by omega
 have e2 : (n : Int) % 8 = (s : Int) := by omega
 have e1t : Int.tdiv (n : Int) 8 = (q : Int) := by rw [Int.tdiv_eq_ediv_of_nonneg (by omega)]; exact e1
 have e2t : Int.tmod (n : Int) 8 = (s : Int) := by rw [Int.tmod_eq_emod_of_nonneg (by omega)]; exact e2
 have hq0 : (0 : Int) <= (q : Int) := by omega
 have hq1 : (q : Int) < 512 := by omega
 have hs0 : (0 : Int) <= (s : Int) := by omega
 have hs1 : (s : Int) < 8 := by omega
 clear hs hq
 go_enter Tryz.func114, Tryz.ntmps114
 go_wp2
 go_ret
 refine ⟨?_, rfl⟩
 rw [<- hv]
 rfl
theorem flip_any (g n cap : Nat) (l : List UInt8) (w : World) (h : rowU w g l) (hl : l.length = 512) (hn : n < 4096) :
  Calls Tryz.prog 139 #[.slice (some ⟨g, 0, none⟩) 512 cap, .int .i64 n] w fun e w' => e = .returned (.tuple #[]) /\ rowU w' g (flipL l n) /\ Keeps (fun i => i = g) w w' := by
 have h8 : n / 8 < l.length := by omega
 have c0 := h.cell (n / 8) h8
 have f0 := h.frozen (n / 8) h8
 have hst := h.set (n / 8) h8 (l[n / 8] ^^^ UInt8.ofNat (2 ^ (n % 8)))
 have hb : flipL l n = l.set (n / 8) (l[n / 8] ^^^ UInt8.ofNat (2 ^ (n % 8))) := by unfold flipL; rw [List.getD_eq_getElem?_getD, List.getElem?_eq_getElem h8]; rfl
 rw [<- hb] at hst
 generalize flipL l n = fl at *
 clear hb h
 generalize l[n / 8] = x at *
 obtain ⟨s, hs⟩ : ∃ s, s = n % 8 := ⟨_, rfl⟩
 obtain ⟨q, hq⟩ : ∃ q, q = n / 8 := ⟨_, rfl⟩
 rw [<- hs, <- hq] at hst
 rw [<- hq] at c0 f0 h8
 have HSt := hid hst
 have e1 : (n : Int) / 8 = (q : Int) := by omega
 have e2 : (n : Int) % 8 = (s : Int) := by omega
 have hq0 : (0 : Int) <= (q : Int) := by omega
 have hq1 : (q : Int) < 512 := by omega
 have hs0 : (0 : Int) <= (s : Int) := by omega
 have hs1 : (s : Int) < 8 := by omega
 clear hs hq hst
 go_enter Tryz.func139, Tryz.ntmps139
 go_wp2
 go_region
 have hx : bits BinOp.xor IntKind.u8 (x.toNat : Int) (2 ^ s % 256) = ((x ^^^ UInt8.ofNat (2 ^ s)).toNat : Int) := by
  rw [<- u8_xor_nat, UInt8.toNat_ofNat', Int.natCast_emod, Int.natCast_pow]; rfl
 rw [hx]
 refine ⟨rfl, _, results_none rfl _ _ _, rfl, HSt.out, ?_⟩
 exact ((Keeps.refl _ w).grown (grown_setCell (grown_refl _ _) _ _) (fun i e => .inl (Option.some.inj e).symm)).drew
theorem noughts_any (w : World) : Calls Tryz.prog 138 #[] w fun e w' => e = .returned (.slice (some ⟨w.heap.size, 0, none⟩) 512 512) /\ ownB w' w.heap.size (zN 512) /\ Below w.heap.size w w' := by
 go_enter Tryz.func138, Tryz.ntmps138
 go_wp2_with (refine wpList_make_u8 rfl (.const (.int .i64 512)) (.const (.int .i64 512)) rfl 512 512 rfl rfl rfl (by omega) ?_; intro w1 hb1 hr1 hz1; have HB1 := hid hb1; have HR1 : Hid (ownB w1 w.heap.size (zN 512)) := (by unfold Hid ownB; rw [hr1, rep_U8]); clear hb1 hr1 hz1)
 go_ret
 exact ⟨rfl, HR1.out, HB1.out⟩
theorem afirst_any (n : Nat) (hn : n <= 512) (w : World) : Calls Tryz.prog 65 #[.int .i64 n] w fun e w' => e = .returned (.int .i64 (3 + n / 8 : Nat)) /\ w' = w := by
 obtain ⟨q, hq⟩ : ∃ q, q = n / 8 := ⟨_, rfl⟩
 rw [<- hq]
 have e1 : (n : Int) / 8 = (q : Int) := by omega
 have h0 : (0 : Int) <= (q : Int) := by omega
 have h1 : (q : Int) <= 64 := by omega
 clear hq hn
 go_enter Tryz.func65, Tryz.ntmps65
 go_wp2
 go_ret
 refine ⟨?_, rfl⟩
 rfl
end
section
set_option maxRecDepth 100000
set_option maxHeartbeats 1000000
open Go.RowKit
def mapB (w : World) (m c ino : Nat) : Prop := w.heap[m]? = some (.cells #[.pointer (some ⟨c, 0, none⟩), .int .i64 ino] 97 (0, 0))
theorem mapB.keep {w w' : World} {m c ino : Nat} {F : Nat -> Prop} (h : mapB w m c ino) (k : Keeps F w w') (hF : ¬ F m) : mapB w' m c ino := k.heap h hF
theorem mapB.below {w w' : World} {m c ino : Nat} (h : mapB w m c ino) (k : Below w.heap.size w w') : mapB w' m c ino := below_block k h (lt_of_heap h)
theorem mapB.lt {w : World} {m c ino : Nat} (h : mapB w m c ino) : m < w.heap.size := lt_of_heap h
def oneF : Nat := 4607182418800017408
def numV (b a z : Nat) (x y : Nat) : Value := .agg #[.int .i64 b, .int .i64 a, .int .i64 z, .complex .f64 x y]
theorem infoNum : (Tryz.prog.info? 120).map (·.size) = some 4 := by kernel_rfl
section
variable {w : World} {m c ino : Nat}
theorem amFirst_any (h : mapB w m c ino) (hi : ino <= 512) : Calls Tryz.prog 25 #[.pointer (some ⟨m, 0, none⟩)] w fun e w' => e = .returned (.int .i64 (3 + ino / 8 : Nat)) /\ w' = w := by
 have c1 : w.cell? ⟨m, 1, none⟩ = some (.int .i64 ino) := cell_of_block h 1
 have HA := hid (afirst_any ino hi w)
 obtain ⟨f, hf⟩ : ∃ f, f = 3 + ino / 8 := ⟨_, rfl⟩
 rw [<- hf] at HA ⊢
 clear h hi hf
 go_enter Tryz.func25, Tryz.ntmps25
 go_wp2_with fail
 refine HA.out.mono ?_
 rintro e w1 ⟨rfl, h1⟩
 obtain rfl := h1.symm
 clear h1
 go_wp2
 go_ret
 exact ⟨rfl, rfl⟩
theorem amInodes_any (h : mapB w m c ino) : Calls Tryz.prog 55 #[.pointer (some ⟨m, 0, none⟩)] w fun e w' => e = .returned (.int .i64 ino) /\ w' = w := by
 have c1 : w.cell? ⟨m, 1, none⟩ = some (.int .i64 ino) := cell_of_block h 1
 clear h
 go_enter Tryz.func55, Tryz.ntmps55
 go_wp2
 go_ret
 exact ⟨rfl, rfl⟩
theorem amCache_any (h : mapB w m c ino) : Calls Tryz.prog 12 #[.pointer (some ⟨m, 0, none⟩)] w fun e w' => e = .returned (.pointer (some ⟨c, 0, none⟩)) /\ w' = w := by
 have c0 : w.cell? ⟨m, 0, none⟩ = some (.pointer (some ⟨c, 0, none⟩)) := cell_of_block h 0
 clear h
 go_enter Tryz.func12, Tryz.ntmps12
 go_wp2
 go_ret
 exact ⟨rfl, rfl⟩
theorem amofInodes_any (h : mapB w m c ino) : Calls Tryz.prog 60 #[.pointer (some ⟨m, 0, none⟩)] w fun e w' => e = .returned (numV 1 1 ino 0 oneF) /\ Below w.heap.size w w' := by
 have hb0 := (Below.refl w.heap.size w).alloc (Nat.le_refl _) (.cells #[.int .i64 0, .int .i64 0, .int .i64 0, .complex .f64 0 0] 120)
 have hb := below_block hb0 h h.lt
 have HB0 := hid hb0
 have c1 : (w.alloc (.cells #[.int .i64 0, .int .i64 0, .int .i64 0, .complex .f64 0 0] 120)).cell? ⟨m, 1, none⟩ = some (.int .i64 ino) := cell_of_block hb 1
 have Hbl := hid (block_new w (.cells #[.int .i64 0, .int .i64 0, .int .i64 0, .complex .f64 0 0] 120))
 clear h hb hb0
 go_enter Tryz.func60, Tryz.ntmps60
 go_wp2_with (refine wpList_store_block rfl 120 (.tmp 2) (.tmp 7) rfl w.heap.size #[.int .i64 1, .int .i64 1, .int .i64 ino, .complex .f64 0 4607182418800017408] rfl rfl _ 120 Hbl.out rfl infoNum (by simp [Value.oneCell']) ?_; intro w2 hg2 hb2 hz2)
 refine bodyPost_ret (results_cell Tryz.results60 _ _ rfl hb2 _ Tryz.underlying120 rfl infoNum) rfl ⟨rfl, ?_⟩
 exact HB0.out.grown hg2 HB0.out.size (fun i e => by cases e; exact Nat.le_refl _)
variable {F : Nat -> Prop} {size N : Nat} {Pg Cm : Nat -> List UInt8} {D : Int -> Bool} {o u : Nat}
theorem ampages_any (h : mapB w m c ino) (hp : Pc w c F size N Pg Cm D o u) : Calls Tryz.prog 111 #[.pointer (some ⟨m, 0, none⟩)] w fun e w' => e = .returned (.int .i64 N) /\ Below w.heap.size w w' := by
 have c0 : w.cell? ⟨m, 0, none⟩ = some (.pointer (some ⟨c, 0, none⟩)) := cell_of_block h 0
 obtain ⟨p, h1, h2⟩ := hp.logPages
 have H1 := hid h1
 have H2 := hid h2
 clear h hp h1 h2
 go_enter Tryz.func111, Tryz.ntmps111
 go_wp2_with fail
 refine H1.out.mono ?_
 rintro e w1 ⟨rfl, h1⟩
 obtain rfl := h1.symm
 clear h1
 go_wp2_with fail
 refine H2.out.mono ?_
 rintro e w1 ⟨rfl, hb⟩
 have HB := hid hb
 clear hb
 go_wp2
 go_ret
 exact ⟨rfl, HB.out⟩
theorem amofPages_any (h : mapB w m c ino) (hi : ino <= 512) (hp : Pc w c F size N Pg Cm D o u) : Calls Tryz.prog 59 #[.pointer (some ⟨m, 0, none⟩)] w fun e w' => e = .returned (numV 2 (3 + ino / 8) N oneF 0) /\ Below w.heap.size w w' := by
 have hb0 := (Below.refl w.heap.size w).alloc (Nat.le_refl _) (.cells #[.int .i64 0, .int .i64 0, .int .i64 0, .complex .f64 0 0] 120)
 have HF := hid (amFirst_any (h.below hb0) hi)
 have HP := hid (ampages_any (h.below hb0) (hp.below hb0))
 have HB0 := hid hb0
 have Hbl := hid (block_new w (.cells #[.int .i64 0, .int .i64 0, .int .i64 0, .complex .f64 0 0] 120))
 obtain ⟨f, hf⟩ : ∃ f, f = 3 + ino / 8 := ⟨_, rfl⟩
 rw [<- hf] at HF ⊢
 clear h hp hb0 hi hf
 go_enter Tryz.func59, Tryz.ntmps59
 go_wp2_with fail
 generalize w.alloc (.cells #[.int .i64 0, .int .i64 0, .int .i64 0, .complex .f64 0 0] 120) = wa at *
 refine HF.out.mono ?_
 rintro e w1 ⟨rfl, h1⟩
 obtain rfl := h1.symm
 clear h1
 go_wp2_with fail
 refine HP.out.mono ?_
 rintro e w1 ⟨rfl, hb⟩
 have HB1 := hid (HB0.out.trans (hb.mono HB0.out.size))
 have Hb1 := hid (below_block hb Hbl.out (lt_of_heap Hbl.out))
 clear hb HF HP
 go_wp2_with (refine wpList_store_block rfl 120 (.tmp 2) (.tmp 7) rfl w.heap.size #[.int .i64 2, .int .i64 f, .int .i64 N, .complex .f64 4607182418800017408 0] rfl rfl _ 120 Hb1.out rfl infoNum (by simp [Value.oneCell']) ?_; intro w2 hg2 hb2 hz2)
 refine bodyPost_ret (results_cell Tryz.results59 _ _ rfl hb2 _ Tryz.underlying120 rfl infoNum) rfl ⟨rfl, ?_⟩
 exact HB1.out.grown hg2 HB1.out.size (fun i e => by cases e; exact Nat.le_refl _)
theorem abits_any {w0 : World} (h : mapB w m c ino) (hmF : ¬ F m) (b a z x y : Nat) (hb : b < N) (hu : u < 1000000) (hp : Pc w0 c F size N Pg Cm D o u) (hw : Below w0.heap.size w0 w) :
  Calls Tryz.prog 110 #[.pointer (some ⟨m, 0, none⟩), numV b a z x y] w fun e w' => ∃ g cap, e = .returned (.slice (some ⟨g, 0, none⟩) 512 cap) /\ 512 <= cap /\ w.heap.size <= g /\ rowU w' g (Pg b) /\ Keeps F w w' /\ ∀ W, Keeps (fun i => w0.heap.size <= i) w' W -> Pc W c F size N Pg Cm D o (u + 1) := by
 have hb0 := (Below.refl w.heap.size w).alloc (Nat.le_refl _) (.cells #[.int .i64 b, .int .i64 a, .int .i64 z, .complex .f64 x y] 120)
 have hdr := (Below.refl (w.alloc (.cells #[.int .i64 b, .int .i64 a, .int .i64 z, .complex .f64 x y] 120)).heap.size (w.alloc (.cells #[.int .i64 b, .int .i64 a, .int .i64 z, .complex .f64 x y] 120))).drew
 have hm0 := h.below hb0
 have hbl := block_new w (.cells #[.int .i64 b, .int .i64 a, .int .i64 z, .complex .f64 x y] 120)
 have HFb : Hid (¬ F w.heap.size) := fun hf => by have := hp.lt _ hf; have := hw.size; omega
 have HR := hid (hp.read (hw.trans ((hb0.trans (hdr.mono hb0.size)).mono hw.size)) b hb hu)
 have HS : Hid (∀ W, Keeps F (w.alloc (.cells #[.int .i64 b, .int .i64 a, .int .i64 z, .complex .f64 x y] 120)) W -> W.cell? ⟨m, 0, none⟩ = some (.pointer (some ⟨c, 0, none⟩)) /\ W.cell? ⟨w.heap.size, 0, none⟩ = some (.int .i64 b)) := fun W hW => ⟨cell_of_block (hm0.keep hW hmF) 0, cell_of_block (hW.heap hbl HFb.out) 0⟩
 have HB0 := hid (hb0.trans (hdr.mono hb0.size))
 have HSz : Hid (w.heap.size <= (w.alloc (.cells #[.int .i64 b, .int .i64 a, .int .i64 z, .complex .f64 x y] 120)).heap.size) := hb0.size
 have hS0 := HS.out _ (Keeps.refl _ _)
 have HKd : Hid (Keeps F (w.alloc (.cells #[.int .i64 b, .int .i64 a, .int .i64 z, .complex .f64 x y] 120)) (w.alloc (.cells #[.int .i64 b, .int .i64 a, .int .i64 z, .complex .f64 x y] 120)).drew) := (Keeps.refl _ _).drew
 clear h hp hm0 hb0 hdr hbl HFb hw
 obtain ⟨n0, hn0⟩ : ∃ n0, n0 = w.heap.size := ⟨_, rfl⟩
 rw [<- hn0] at HS hS0
 unfold numV
 go_enter Tryz.func110, Tryz.ntmps110
 go_wp2_with fail
 rw [<- hn0]
 clear hn0
 generalize w.alloc (.cells #[.int .i64 b, .int .i64 a, .int .i64 z, .complex .f64 x y] 120) = wa at *
 refine wp_region_noPanic ?_
 refine wp_region_held_drew (S := fun W => W.cell? ⟨m, 0, none⟩ = some (.pointer (some ⟨c, 0, none⟩)) /\ W.cell? ⟨n0, 0, none⟩ = some (.int .i64 b)) (by kernel_rfl) hS0 (fun hHeld => ?_)
 refine tq 0 _ ?_
 try simp only [tS]
 refine tq 1 _ ?_
 try simp only [tS]
 refine tq 2 _ ?_
 try simp only [tS]
 refine tq 3 _ ?_
 try simp only [tS]
 refine tq 4 _ ?_
 try simp only [tS]
 refine tq 5 _ ?_
 try simp only [tS]
 refine wpAnyH_ready (rs := [6]) (by kernel_rfl) (by simp) (AllReadyH.cons rfl (fun K hK => ?_) AllReadyH.nil)
 rw [if_pos (by rfl)]
 go_simp
 refine HR.out.mono ?_
 clear HR
 rintro e w1 ⟨g, cap, rfl, hc, hg, hr, hKk, hW⟩
 have Hr := hid hr
 have HK := hid ((Keeps.of_below HB0.out).trans hKk (fun i e => .inl e))
 have HW := hid hW
 have hg' : w.heap.size <= g := Nat.le_trans HSz.out hg
 have hz := HS.out w1 (HKd.out.trans hKk (fun i e => .inl e))
 clear hr hKk hW hg
 go_wp2_with fail
 refine hK.out _ _ hz (fun hHeld => ?_)
 clear hK K
 try simp only [tS]
 refine tq 7 _ ?_
 try simp only [tS]
 refine tq 8 _ ?_
 try simp only [tS]
 refine tq 9 _ ?_
 try simp only [tS]
 refine tq 10 _ ?_
 try simp only [tS]
 refine tq 11 _ ?_
 try simp only [tS]
 refine wpAnyH_done (by kernel_rfl) ?_ _
 refine NoPanic.normal ?_
 clear hHeld hz
 go_wp2
 go_ret
 exact ⟨g, cap, rfl, hc, hg', Hr.out, HK.out, HW.out⟩
end
theorem ahas_any (b a z x y : Nat) (n : Int) (w : World) : Calls Tryz.prog 113 #[numV b a z x y, .int .i64 n] w fun e w' => e = .returned (.bool (decide ((a : Int) <= n /\ n < (z : Int)))) /\ Below w.heap.size w w' := by
 have hb0 := (Below.refl w.heap.size w).alloc (Nat.le_refl _) (.cells #[.int .i64 b, .int .i64 a, .int .i64 z, .complex .f64 x y] 120)
 have HB0 := hid hb0
 clear hb0
 unfold numV
 by_cases h1 : (a : Int) <= n
 ·have h1' : decide ((a : Int) <= n) = true := decide_eq_true h1
  by_cases h2 : n < (z : Int)
  ·rw [decide_eq_true ⟨h1, h2⟩]
   go_enter Tryz.func113, Tryz.ntmps113
   go_wp2
   go_ret
   exact ⟨rfl, HB0.out⟩
  ·rw [decide_eq_false (fun h => h2 h.2)]
   go_enter Tryz.func113, Tryz.ntmps113
   go_wp2
   go_ret
   exact ⟨rfl, HB0.out⟩
 ·rw [decide_eq_false (fun h => h1 h.1)]
  go_enter Tryz.func113, Tryz.ntmps113
  go_wp2
  go_ret
  exact ⟨rfl, HB0.out⟩
def mayP (pages : Nat) (ino : Int) : Prop := 8 <= ino /\ ino <= 512 /\ ino % 8 = 0 /\ 3 + ino / 8 < pages /\ pages <= 4096
instance (pages : Nat) (ino : Int) : Decidable (mayP pages ino) := by unfold mayP; exact inferInstance
theorem amayBe_any (pages : Nat) (ino : Int) (hp : pages <= 4096) (w : World) : Calls Tryz.prog 76 #[.int .i64 pages, .int .i64 ino] w fun e w' => e = .returned (.bool (decide (mayP pages ino))) /\ w' = w := by
 by_cases h1 : ino < 8
 ·rw [decide_eq_false (fun h => by have := h.1; omega)]
  clear hp
  go_enter Tryz.func76, Tryz.ntmps76
  go_wp2
  go_ret
  exact ⟨rfl, rfl⟩
 ·by_cases h2 : 512 < ino
  ·rw [decide_eq_false (fun h => by have := h.2.1; omega)]
   clear hp
   go_enter Tryz.func76, Tryz.ntmps76
   go_wp2
   go_ret
   exact ⟨rfl, rfl⟩
  ·obtain ⟨n, rfl⟩ : ∃ n : Nat, ino = (n : Int) := ⟨ino.toNat, by omega⟩
   by_cases h3 : (n : Int) % 8 = 0
   ·have hA := afirst_any n (by omega) w
    obtain ⟨f, hf⟩ : ∃ f, f = 3 + n / 8 := ⟨_, rfl⟩
    rw [<- hf] at hA
    have HA := hid hA
    have h4 : (pages : Int) <= 4096 := by omega
    have hdd : decide (mayP pages (n : Int)) = decide ((f : Int) < (pages : Int)) := by
     apply decide_eq_decide.2
     unfold mayP
     constructor
     ·intro h; have := h.2.2.2.1; omega
     ·intro h; exact ⟨by omega, by omega, h3, by omega, hp⟩
    rw [hdd]
    clear hdd hf hA hp
    by_cases h5 : (f : Int) < (pages : Int)
    ·rw [decide_eq_true h5]
     go_enter Tryz.func76, Tryz.ntmps76
     go_wp2_with fail
     refine HA.out.mono ?_
     rintro e w1 ⟨rfl, h1⟩
     obtain rfl := h1.symm
     clear h1
     go_wp2
     go_ret
     exact ⟨rfl, rfl⟩
    ·rw [decide_eq_false h5]
     go_enter Tryz.func76, Tryz.ntmps76
     go_wp2_with fail
     refine HA.out.mono ?_
     rintro e w1 ⟨rfl, h1⟩
     obtain rfl := h1.symm
     clear h1
     go_wp2
     go_ret
     exact ⟨rfl, rfl⟩
   ·rw [decide_eq_false (fun h => h3 h.2.2.1)]
    clear hp
    go_enter Tryz.func76, Tryz.ntmps76
    go_wp2
    go_ret
    exact ⟨rfl, rfl⟩
end
end Go.Proofs.YtamfgnfclamamaaGreat
namespace Go.Proofs
open Go.Shelf
def Tryz.binS_ren : Go.Shelf.Ren := ⟨fun | 49 => 135 | 59 => 173 | 60 => 174 | 68 => 186 | n => n, fun | 22 => 60 | 23 => 3 | 3 => 3 | 4 => 4 | 51 => 177 | 0 => 0 | n => n, fun | n => n⟩
theorem Tryz.binS : Go.Proofs.SlLaysN.n49 Tryz.prog Tryz.binS_ren := {
 mixed := by kernel_rfl
 f49 := ⟨Tryz.f135.name, by decide, Tryz.func135.trans (congrArg some (by kernel_rfl))⟩
 f59 := ⟨Tryz.f173.name, by decide, Tryz.func173.trans (congrArg some (by kernel_rfl))⟩
 f60 := ⟨Tryz.f174.name, by decide, Tryz.func174.trans (congrArg some (by kernel_rfl))⟩
 f68 := ⟨Tryz.f186.name, by decide, Tryz.func186.trans (congrArg some (by kernel_rfl))⟩
 t0 := Tryz.underlying0
 a0 := Tryz.isAgg0
 z0 := Tryz.sizeOf0
 v0 := Tryz.zeroValue0
 t3 := Tryz.underlying3
 a3 := Tryz.isAgg3
 z3 := Tryz.sizeOf3
 v3 := Tryz.zeroValue3
 t4 := Tryz.underlying4
 a4 := Tryz.isAgg4
 z4 := Tryz.sizeOf4
 v4 := Tryz.zeroValue4
 t22 := Tryz.underlying60
 a22 := Tryz.isAgg60
 z22 := Tryz.sizeOf60
 v22 := Tryz.zeroValue60
 t23 := Tryz.underlying3
 a23 := Tryz.isAgg3
 z23 := Tryz.sizeOf3
 v23 := Tryz.zeroValue3
 t51 := Tryz.underlying177
 a51 := Tryz.isAgg177
 z51 := Tryz.sizeOf177
 v51 := Tryz.zeroValue177 }
end Go.Proofs
set_option maxRecDepth 100000
set_option maxHeartbeats 4000000
namespace Go.Proofs.YtamfgnfclamamaaGreat
section
open Go.RowKit Go.Maps
structure WPg where
 n : Nat
 g : Nat
 cap : Nat
 l : List UInt8
def WPg.cells (p : WPg) : List Value := [.int .i64 p.n, .slice (some ⟨p.g, 0, none⟩) 512 p.cap]
structure WPgs (w : World) (pb : Nat) (ps : List WPg) (F : Nat -> Prop) (N : Nat) : Prop where
 at_ : ∀ i (hi : i < ps.length), w.cell? ⟨pb, i * 2, none⟩ = some (.int .i64 ps[i].n) /\ w.cell? ⟨pb, i * 2 + 1, none⟩ = some (.slice (some ⟨ps[i].g, 0, none⟩) 512 ps[i].cap)
 off : 0 < ps.length -> ¬ F pb
 row : ∀ p ∈ ps, p.n < N /\ p.l.length = 512 /\ bytesAt w ⟨p.g, 0, none⟩ p.l /\ ¬ F p.g
theorem WPgs.keep {w w' : World} {pb : Nat} {ps : List WPg} {F : Nat -> Prop} {N : Nat} (h : WPgs w pb ps F N) (k : Keeps F w w') : WPgs w' pb ps F N :=
 ⟨fun i hi => ⟨k.cell (h.at_ i hi).1 (h.off (by omega)), k.cell (h.at_ i hi).2 (h.off (by omega))⟩, h.off, fun p hp => ⟨(h.row p hp).1, (h.row p hp).2.1, fun j hj => k.cell ((h.row p hp).2.2.1 j hj) (by rw [add_block]; exact (h.row p hp).2.2.2), (h.row p hp).2.2.2⟩⟩
theorem WPgs.below {w w' : World} {pb : Nat} {ps : List WPg} {F : Nat -> Prop} {N : Nat} (h : WPgs w pb ps F N) (k : Below w.heap.size w w') : WPgs w' pb ps F N := h.keep (Keeps.of_below k)
def newC (D : Int -> Bool) (ps : List WPg) : Nat := (ps.filter (fun p => !D (p.n : Int))).length
theorem newC_snoc (D : Int -> Bool) (ps : List WPg) (p : WPg) : newC D (ps ++ [p]) = newC D ps + (if D (p.n : Int) then 0 else 1) := by
 unfold newC
 rw [List.filter_append, List.length_append]
 cases h : D (p.n : Int) <;> simp [h]
def putP (Pg : Nat -> List UInt8) (ps : List WPg) : Nat -> List UInt8 := ps.foldl (fun f p => updP f p.n p.l) Pg
def putD (D : Int -> Bool) (ps : List WPg) : Int -> Bool := ps.foldl (fun f p => updT f (p.n : Int)) D
theorem putP_snoc (Pg : Nat -> List UInt8) (ps : List WPg) (p : WPg) : putP Pg (ps ++ [p]) = updP (putP Pg ps) p.n p.l := by simp [putP]
theorem putD_snoc (D : Int -> Bool) (ps : List WPg) (p : WPg) : putD D (ps ++ [p]) = updT (putD D ps) (p.n : Int) := by simp [putD]
theorem mem_dkD {N : Nat} {D : Int -> Bool} {k : Int} : k ∈ dkD N D ↔ 0 <= k /\ k < N /\ D k = true := by
 simp only [dkD, List.mem_filter, List.mem_map, List.mem_range]
 constructor
 ·rintro ⟨⟨j, hj, rfl⟩, h⟩; exact ⟨by omega, by omega, h⟩
 ·rintro ⟨h0, h1, h2⟩; exact ⟨⟨k.toNat, by omega, by omega⟩, h2⟩
theorem dkD_updT (N : Nat) (D : Int -> Bool) (n : Nat) : (dkD N (updT D n)).length <= (dkD N D).length + (if D n then 0 else 1) := by
 by_cases h : D n = true
 ·have e : updT D n = D := funext fun k => by unfold updT; by_cases e : k = (n : Int); rw [if_pos e, e, h]; rw [if_neg e]
  rw [e, if_pos h]; exact Nat.le_refl _
 ·rw [if_neg h]
  exact filt_upd D (updT D n) n (fun k hk => by unfold updT; rw [if_neg hk]) _ (range_sorted N)
theorem newC_cons (D : Int -> Bool) (p : WPg) (ps : List WPg) : newC D (p :: ps) = (if D (p.n : Int) then 0 else 1) + newC D ps := by
 unfold newC
 cases h : D (p.n : Int) <;> simp [h]; omega
theorem newC_upd (D : Int -> Bool) (n : Int) : ∀ ps : List WPg, newC (updT D n) ps <= newC D ps
 | [] => Nat.le_refl _
 | p :: ps => by
  have ih := newC_upd D n ps
  rw [newC_cons, newC_cons]
  by_cases h : D (p.n : Int) = true
  ·have h2 : updT D n (p.n : Int) = true := by unfold updT; split; rfl; exact h
   rw [if_pos h, if_pos h2]; omega
  ·rw [if_neg h]; split <;> omega
theorem dkD_put (N : Nat) : ∀ (D : Int -> Bool) (ps : List WPg), (dkD N (putD D ps)).length <= (dkD N D).length + newC D ps
 | _, [] => Nat.le_refl _
 | D, p :: ps => by
  have ih := dkD_put N (updT D p.n) ps
  have h1 := dkD_updT N D p.n
  have h2 := newC_upd D p.n ps
  have e : putD D (p :: ps) = putD (updT D p.n) ps := rfl
  rw [e, newC_cons]
  omega
theorem bins_nil (c : Nat) (x : Int) (w : World) : Calls Tryz.prog 135 #[.slice none 0 c, .int .i64 x] w fun e w' => e = .returned (.tuple #[.int .i64 0, .bool false]) /\ w' = w := by
 go_enter Tryz.func135, Tryz.ntmps135
 go_wp2
 go_loopw [7, 8] (fun i j wr => i = .int .i64 0 /\ j = .int .i64 0 /\ wr = w) (fun _ _ _ => 0)
 case atStart => exact ⟨rfl, rfl, rfl⟩
 case round =>
  obtain ⟨rfl, rfl, rfl⟩ := hrel
  go_wp2
  go_returns
  exact ⟨rfl, rfl⟩
theorem dkD_sorted (N : Nat) (D : Int -> Bool) : (dkD N D).Pairwise (fun a b => a <= b) := ((range_sorted N).filter D).imp (fun h => Int.le_of_lt h)
theorem bins_dirty {w : World} {N : Nat} {D : Int -> Bool} {v : Value} {lo : Nat} (hr : w.ownsRow lo 3 1 v (dkD N D).length ((dkD N D).map encZ)) (hN : N <= 4096) (n : Nat) (hn : n < N) :
  Calls Tryz.prog 135 #[v, .int .i64 n] w fun e w' => (∃ i, e = .returned (.tuple #[.int .i64 i, .bool (D n)])) /\ Below w.heap.size w w' := by
 have hlen : (dkD N D).length <= 4096 := Nat.le_trans (List.length_filter_le _ _) (by simp; omega)
 rcases hr.2 with ⟨rfl, h0⟩ | ⟨g, cap, cur, rfl, hb, hh, hc, -⟩
 ·refine (bins_nil 0 n w).mono ?_
  rintro e w' ⟨rfl, rfl⟩
  have hD : D (n : Int) = false := by
   cases h : D (n : Int) with
   | false => rfl
   | true =>
    have hm : (n : Int) ∈ dkD N D := mem_dkD.2 ⟨by omega, by omega, h⟩
    rw [List.eq_nil_of_length_eq_zero h0] at hm
    cases hm
  rw [hD]
  exact ⟨⟨_, rfl⟩, Below.refl _ _⟩
 ·have hcon := AnyG.slices_BinarySearch_int Tryz.binS g 0 (dkD N D).length cap (dkD N D) (n : Int) w (Nat.le_refl _) (by omega) (fun j hj => by
   rw [Nat.zero_add, hr.cellAt j (by omega), List.getElem?_map, List.getElem?_eq_getElem hj, List.getD_eq_getElem?_getD, List.getElem?_eq_getElem hj]; rfl) (by rw [List.take_length]; exact dkD_sorted N D)
  change Calls Tryz.prog 135 _ _ _ at hcon
  refine hcon.mono ?_
  rintro e w' ⟨rfl, q, rfl⟩
  rw [List.take_length]
  have hD : (dkD N D).contains (n : Int) = D (n : Int) := by
   rw [Bool.eq_iff_iff, List.contains_iff_mem, mem_dkD]
   exact ⟨fun h => h.2.2, fun h => ⟨by omega, by omega, h⟩⟩
  rw [hD]
  exact ⟨⟨_, rfl⟩, ((Keeps.refl (fun _ => False) w).drewN q).below (Nat.le_refl _) (fun _ h => h.elim)⟩
theorem below_row2 {w w' : World} {lo : Nat} {v : Value} {n : Nat} {xs : List Value} (h : w.ownsRow lo 3 1 v n xs) (hb : Below w.heap.size w w') : w'.ownsRow lo 3 1 v n xs := (Keeps.of_below hb : Keeps (fun _ => False) w w').row h (fun _ _ h => h)
theorem dkD_more (N : Nat) (D : Int -> Bool) (n : Nat) (hn : n < N) (hd : D n = false) : (dkD N D).length + 1 <= (dkD N (updT D n)).length := by
 have key : ∀ l : List Int, l.Nodup -> (n : Int) ∈ l -> (l.filter D).length + 1 <= (l.filter (updT D n)).length := by
  intro l
  induction l with
  | nil => intro _ h; cases h
  | cons k l ih =>
   intro hnd hm
   obtain ⟨h1, h2⟩ := List.nodup_cons.1 hnd
   by_cases e : k = (n : Int)
   ·subst e
    have e2 : l.filter (updT D n) = l.filter D := List.filter_congr (fun x hx => by unfold updT; rw [if_neg (fun e : x = (n : Int) => h1 (by rw [<- e]; exact hx))])
    have e3 : updT D n (n : Int) = true := by unfold updT; rw [if_pos rfl]
    rw [List.filter_cons, List.filter_cons, hd, e3, e2]
    simp
   ·have hm' : (n : Int) ∈ l := (List.mem_cons.1 hm).resolve_left (fun h => e h.symm)
    have e3 : updT D n k = D k := by unfold updT; rw [if_neg e]
    have := ih h2 hm'
    rw [List.filter_cons, List.filter_cons, e3]
    split <;> simp <;> omega
 exact key _ ((range_sorted N).imp (fun h => by omega)) (List.mem_map.2 ⟨n, List.mem_range.2 hn, rfl⟩)
section
variable {w : World} {m c ino : Nat} {F : Nat -> Prop} {size N : Nat} {Pg Cm : Nat -> List UInt8} {D : Int -> Bool} {o u : Nat}
def WriteTo (w : World) (c : Nat) (F : Nat -> Prop) (size N : Nat) (Pg Cm : Nat -> List UInt8) (D : Int -> Bool) (o u : Nat) (ps : List WPg) (e : Ending) (w' : World) : Prop :=
 Keeps F w w' /\ ((min size 100 < (dkD N D).length + newC D ps /\ e = .returned (.int .i64 7) /\ Pc w' c F size N Pg Cm D o u) \/ ((dkD N D).length + newC D ps <= min size 100 /\ e = .returned (.int .i64 0) /\ Pc w' c F size N (putP Pg ps) Cm (putD D ps) o u))
theorem awrite_any (h : mapB w m c ino) (hmF : ¬ F m) (pb : Nat) (ps : List WPg) (hps : WPgs w pb ps F N) (cp : Nat) (hl : ps.length <= 100) (hl0 : 0 < ps.length) (hp : Pc w c F size N Pg Cm D o u) :
  Calls Tryz.prog 80 #[.pointer (some ⟨m, 0, none⟩), .slice (some ⟨pb, 0, none⟩) ps.length cp] w (WriteTo w c F size N Pg Cm D o u ps) := by
 have c0 : w.cell? ⟨m, 0, none⟩ = some (.pointer (some ⟨c, 0, none⟩)) := cell_of_block h 0
 have hkl := hp.keysLen
 have hN := hp.four
 have HM := hid h
 have HPs := hid hps
 have HP := hid hp
 have HDr := hid hp.dirtyRow
 have HFl := hid hp.lt
 obtain ⟨K, hK⟩ : ∃ K, K = (dkD N D).length := ⟨_, rfl⟩
 have HK := hid hK
 obtain ⟨Z, hZ⟩ : ∃ Z, Z = min size 100 := ⟨_, rfl⟩
 have hZ1 : Z <= 100 := by omega
 have HZ := hid hZ
 rw [<- hK, <- hZ] at hkl
 clear h hps hp hK hZ
 go_enter Tryz.func80, Tryz.ntmps80
 go_wp2_with fail
 refine HDr.out.mono ?_
 clear HDr
 rintro e w1 ⟨v, rfl, hrow, hb1⟩
 have HRw := hid hrow
 have HB1 := hid hb1
 clear hrow hb1 c0
 go_wp2
 go_loopw [6, 20] (fun mo i wr => ∃ k : Nat, k <= ps.length /\ i = .int .i64 k /\ mo = .int .i64 (newC D (ps.take k) : Nat) /\ Hid (Below w1.heap.size w1 wr)) (fun _ i _ => ps.length - (intOf i).toNat)
 case atStart => exact ⟨0, by omega, rfl, rfl, Below.refl _ _⟩
 case round =>
  obtain ⟨k, hk, rfl, rfl, HB⟩ := hrel
  have HBw : Hid (Below w.heap.size w wr) := HB1.out.trans (HB.out.mono HB1.out.size)
  have hnc : newC D (ps.take k) <= k := Nat.le_trans (List.length_filter_le _ _) (by rw [List.length_take]; omega)
  by_cases hlt : k < ps.length
  ·have hk0 : (0 : Int) <= (k : Int) := by omega
   have hlt' : (k : Int) < (ps.length : Int) := by omega
   obtain ⟨a0, a1⟩ := (HPs.out.below HBw.out).at_ k hlt
   have hr0 := HPs.out.row ps[k] (List.getElem_mem hlt)
   obtain ⟨p, hpe⟩ : ∃ p, p = ps[k] := ⟨_, rfl⟩
   rw [<- hpe] at a0 a1 hr0
   have hNc : newC D (ps.take (k + 1)) = newC D (ps.take k) + (if D (p.n : Int) then 0 else 1) := by
    rw [List.take_succ_eq_append_getElem hlt, newC_snoc, hpe]
   have hb2 : Below wr.heap.size wr (wr.alloc (.cells #[.int .i64 p.n, .slice (some ⟨p.g, 0, none⟩) 512 p.cap] 107)) := (Below.refl _ wr).alloc (Nat.le_refl _) _
   have hrw := below_row2 HRw.out (HB.out.trans (hb2.mono HB.out.size))
   have HBs := hid (bins_dirty hrw hN p.n hr0.1)
   have HB2 := hid (HB.out.trans (hb2.mono HB.out.size))
   clear hpe hr0 hrw hb2
   generalize newC D (ps.take k) = nc at *
   cases hD : D (p.n : Int) with
   | true =>
    rw [hD] at HBs hNc
    simp only [if_true, Nat.add_zero] at hNc
    have HNc := hid hNc
    clear hNc hD
    go_wp2_with fail
    refine HBs.out.mono ?_
    clear HBs
    rintro e w3 ⟨⟨i, rfl⟩, hb3⟩
    have HB3 := hid (HB2.out.trans (hb3.mono HB2.out.size))
    clear hb3 a0 a1
    go_wp2
    exact ⟨⟨k + 1, by omega, by go_num, by rw [HNc.out], HB3⟩, by simp [intOf]; omega⟩
   | false =>
    rw [hD] at HBs hNc
    have hNc' : newC D (ps.take (k + 1)) = nc + 1 := by rw [hNc]; rfl
    have HNc := hid hNc'
    clear hNc hNc' hD
    go_wp2_with fail
    refine HBs.out.mono ?_
    clear HBs
    rintro e w3 ⟨⟨i, rfl⟩, hb3⟩
    have HB3 := hid (HB2.out.trans (hb3.mono HB2.out.size))
    clear hb3 a0 a1
    go_wp2
    exact ⟨⟨k + 1, by omega, by go_num, by rw [HNc.out]; go_num, HB3⟩, by simp [intOf]; omega⟩
  ·obtain rfl : k = ps.length := by omega
   have hge : ¬ ((ps.length : Int) < (ps.length : Int)) := by omega
   have htk : ps.take ps.length = ps := List.take_length
   rw [htk] at hnc ⊢
   have HR := hid (HP.out.below HBw.out).roomC
   rw [<- HZ.out, <- HK.out] at HR
   have c0 : wr.cell? ⟨m, 0, none⟩ = some (.pointer (some ⟨c, 0, none⟩)) := cell_of_block (HM.out.below HBw.out) 0
   obtain ⟨nc, hncE⟩ : ∃ nc, nc = newC D ps := ⟨_, rfl⟩
   rw [<- hncE] at hnc ⊢
   have HNc := hid hncE
   clear htk hncE
   by_cases hfull : Z < K + nc
   ·have hgt : (Z : Int) - (K : Int) < (nc : Int) := by omega
    go_wp2_with fail
    refine HR.out.mono ?_
    clear HR
    rintro e w3 ⟨rfl, hb3⟩
    have HB3 := hid (HBw.out.trans (hb3.mono HBw.out.size))
    clear hb3 c0
    go_wp2
    go_ret
    exact ⟨Keeps.of_below HB3.out, .inl ⟨by rw [<- HK.out, <- HZ.out, <- HNc.out]; exact hfull, rfl, HP.out.below HB3.out⟩⟩
   ·have hgt : ¬ ((Z : Int) - (K : Int) < (nc : Int)) := by omega
    go_wp2_with fail
    refine HR.out.mono ?_
    clear HR
    rintro e w3 ⟨rfl, hb3⟩
    have HB3 := hid (HBw.out.trans (hb3.mono HBw.out.size))
    have HSt : Hid (∀ q, q <= ps.length -> (dkD N (putD D (ps.take q))).length <= Z) := fun q hq => by
     have h1 := dkD_put N D (ps.take q)
     have h2 : newC D (ps.take q) <= newC D ps := by
      conv => rhs; rw [<- List.take_append_drop q ps]
      unfold newC
      rw [List.filter_append, List.length_append]; omega
     rw [<- HK.out] at h1
     rw [<- HNc.out] at h2
     omega
    clear hb3 c0 hgt
    go_wp2
    go_loopw [45] (fun i wi => ∃ q : Nat, q <= ps.length /\ i = .int .i64 q /\ Hid (Keeps F w wi) /\ Hid (Pc wi c F size N (putP Pg (ps.take q)) Cm (putD D (ps.take q)) o u)) (fun i _ => ps.length - (intOf i).toNat)
    case atStart => exact ⟨0, by omega, rfl, Keeps.of_below HB3.out, HP.out.below HB3.out⟩
    case round =>
     obtain ⟨q, hq, rfl, HKq, HPq⟩ := hrel
     by_cases hql : q < ps.length
     ·have hq0 : (0 : Int) <= (q : Int) := by omega
      have hql' : (q : Int) < (ps.length : Int) := by omega
      have hws := HPs.out.keep HKq.out
      obtain ⟨a0, a1⟩ := hws.at_ q hql
      have hr0 := hws.row ps[q] (List.getElem_mem hql)
      have ht1 : putP Pg (ps.take (q + 1)) = updP (putP Pg (ps.take q)) ps[q].n ps[q].l := by rw [List.take_succ_eq_append_getElem hql, putP_snoc]
      have ht2 : putD D (ps.take (q + 1)) = updT (putD D (ps.take q)) (ps[q].n : Int) := by rw [List.take_succ_eq_append_getElem hql, putD_snoc]
      have hroom : putD D (ps.take q) (ps[q].n : Int) = true \/ (dkD N (putD D (ps.take q))).length < min size 100 := by
       cases hd : putD D (ps.take q) (ps[q].n : Int) with
       | true => exact .inl rfl
       | false =>
        have h1 := HSt.out (q + 1) (by omega)
        rw [ht2] at h1
        have h3 := dkD_more N (putD D (ps.take q)) ps[q].n hr0.1 hd
        have := HZ.out
        exact .inr (by omega)
      obtain ⟨p, hpe⟩ : ∃ p, p = ps[q] := ⟨_, rfl⟩
      rw [<- hpe] at a0 a1 hr0 ht1 ht2 hroom
      have hb4 : Below wr.heap.size wr (wr.alloc (.cells #[.int .i64 p.n, .slice (some ⟨p.g, 0, none⟩) 512 p.cap] 107)) := (Below.refl _ wr).alloc (Nat.le_refl _) _
      have hdr := (Below.refl (wr.alloc (.cells #[.int .i64 p.n, .slice (some ⟨p.g, 0, none⟩) 512 p.cap] 107)).heap.size (wr.alloc (.cells #[.int .i64 p.n, .slice (some ⟨p.g, 0, none⟩) 512 p.cap] 107))).drew
      have hb5 := hb4.trans (hdr.mono hb4.size)
      have HWr := hid ((HPq.out.below hb5).write p.n hr0.1 p.l hr0.2.1 ⟨p.g, 0, none⟩ p.cap (fun j hj => (hb5.cell (World.block_lt_of_cell? wr _ (hr0.2.2.1 j hj))).trans (hr0.2.2.1 j hj)) hroom)
      rw [<- ht1, <- ht2] at HWr
      have hFn : ¬ F wr.heap.size := fun hf => by have := HFl.out _ hf; have := HKq.out.size; omega
      have HCs : Hid (∀ W, Keeps F (wr.alloc (.cells #[.int .i64 p.n, .slice (some ⟨p.g, 0, none⟩) 512 p.cap] 107)) W -> W.cell? ⟨m, 0, none⟩ = some (.pointer (some ⟨c, 0, none⟩)) /\ W.cell? ⟨wr.heap.size, 0, none⟩ = some (.int .i64 p.n) /\ W.cell? ⟨wr.heap.size, 1, none⟩ = some (.slice (some ⟨p.g, 0, none⟩) 512 p.cap)) := fun W hW => by
       have h1 := ((HM.out.keep HKq.out hmF).below hb4).keep hW hmF
       have h2 := hW.heap (block_new wr (.cells #[.int .i64 p.n, .slice (some ⟨p.g, 0, none⟩) 512 p.cap] 107)) hFn
       exact ⟨cell_of_block h1 0, cell_of_block h2 0, cell_of_block h2 1⟩
      have hS0 := HCs.out _ (Keeps.refl _ _)
      have HK4 : Hid (Keeps F w (wr.alloc (.cells #[.int .i64 p.n, .slice (some ⟨p.g, 0, none⟩) 512 p.cap] 107))) := HKq.out.trans (Keeps.of_below hb4 : Keeps (fun _ => False) wr _) (fun i e => e.elim)
      clear ht1 ht2 hroom hpe hr0 hws hb4 hdr hb5 hFn
      obtain ⟨nb, hnb⟩ : ∃ nb, nb = wr.heap.size := ⟨_, rfl⟩
      rw [<- hnb] at HCs hS0
      go_wp2
      rw [<- hnb]
      clear hnb a0 a1
      generalize wr.alloc (.cells #[.int .i64 p.n, .slice (some ⟨p.g, 0, none⟩) 512 p.cap] 107) = wa at *
      refine wp_region_noPanic ?_
      refine wp_region_held_drew (S := fun W => W.cell? ⟨m, 0, none⟩ = some (.pointer (some ⟨c, 0, none⟩)) /\ W.cell? ⟨nb, 0, none⟩ = some (.int .i64 p.n) /\ W.cell? ⟨nb, 1, none⟩ = some (.slice (some ⟨p.g, 0, none⟩) 512 p.cap)) (by kernel_rfl) hS0 (fun hHeld => ?_)
      refine tq 0 _ ?_
      try simp only [tS]
      refine tq 1 _ ?_
      try simp only [tS]
      refine tq 2 _ ?_
      try simp only [tS]
      refine tq 3 _ ?_
      try simp only [tS]
      refine tq 4 _ ?_
      try simp only [tS]
      refine tq 5 _ ?_
      try simp only [tS]
      refine tq 6 _ ?_
      try simp only [tS]
      refine tq 7 _ ?_
      try simp only [tS]
      refine wpAnyH_ready (rs := [8]) (by kernel_rfl) (by simp) (AllReadyH.cons rfl (fun K hK => ?_) AllReadyH.nil)
      rw [if_pos (by rfl)]
      go_simp
      refine HWr.out.mono ?_
      clear HWr
      rintro e w5 ⟨rfl, hk5, hp5⟩
      have HP5 := hid hp5
      have HK5 := hid ((HK4.out.drew).trans hk5 (fun i e => .inl e))
      have hz := HCs.out w5 ((Keeps.refl F wa).drew.trans hk5 (fun i e => .inl e))
      clear hk5 hp5 hS0
      go_wp2_with fail
      refine hK.out _ _ hz (fun hHeld => ?_)
      clear hK K
      try simp only [tS]
      refine wpAnyH_done (by kernel_rfl) ?_ _
      refine NoPanic.normal ?_
      clear hHeld hz
      go_wp2
      exact ⟨⟨q + 1, by omega, by go_num, HK5, HP5⟩, by simp [intOf]; omega⟩
     ·obtain rfl : q = ps.length := by omega
      have hge2 : ¬ ((ps.length : Int) < (ps.length : Int)) := by omega
      have hPf := HPq.out
      rw [List.take_length] at hPf
      have HPf := hid hPf
      clear hPf
      go_wp2
      go_ret
      exact ⟨HKq.out, .inr ⟨by rw [<- HK.out, <- HZ.out, <- HNc.out]; omega, rfl, HPf.out⟩⟩
end
end
end Go.Proofs.YtamfgnfclamamaaGreat
