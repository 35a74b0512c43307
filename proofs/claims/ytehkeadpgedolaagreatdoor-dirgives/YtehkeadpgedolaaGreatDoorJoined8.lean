/- Several of my texts in one: DList, DSplit, L7Open, InFree, DLive, DSt, DOrdP, DRemP, InStZ, InStY, InStX, DRem, DDrop, DEmpty, DGiveP, DOrderW, DGiveW. -/
import Derived.Test.YtehkeadpgedolaaGreatDoorJoined7
import Derived.Sort.OwnSorted
import Derived.Test.YtehkeadpgedolaaGreatDoorJoined6
set_option maxRecDepth 100000
set_option maxHeartbeats 4000000
namespace Go.Proofs.YtehkeadpgedolaaGreatDoor
section
open Go.RowKit Go.Shelf Go.Sort
attribute [local go_sem] Oper.semAt_some
def namesK (es : List (Nat × List UInt8)) (k : Nat) : List (List UInt8) := (es.take k).filterMap fun x => if x.1 = 0 then none else some x.2
def namesS (es : List (Nat × List UInt8)) : List (List UInt8) := (namesK es es.length).mergeSort fun x y => decide (x <= y)
theorem namesK_zero {es : List (Nat × List UInt8)} {k : Nat} (hk : k < es.length) (h0 : es[k].1 = 0) : namesK es (k + 1) = namesK es k := by
 unfold namesK
 rw [List.take_succ_eq_append_getElem hk, List.filterMap_append]
 simp [h0]
theorem namesK_one {es : List (Nat × List UInt8)} {k : Nat} (hk : k < es.length) (h0 : es[k].1 ≠ 0) : namesK es (k + 1) = namesK es k ++ [es[k].2] := by
 unfold namesK
 rw [List.take_succ_eq_append_getElem hk, List.filterMap_append]
 simp [h0]
theorem namesK_le (es : List (Nat × List UInt8)) (k : Nat) : (namesK es k).length <= es.length := by
 unfold namesK
 exact Nat.le_trans (List.length_filterMap_le _ _) (by rw [List.length_take]; omega)
theorem RdT.put {w : World} {v : Value} {xs : List ByteArray} {d : Nat} {q : Option (List Deferred)} (h : RdT w v xs) (hd : w.heap[d]? = some (.deferred q)) (ob : Obj) : RdT (w.putObj d ob) v xs := by
 obtain ⟨a, c, h1, h2, h2', h3⟩ := h
 refine ⟨a, c, h1, h2, h2', fun k hk => ?_⟩
 obtain ⟨b, o, e, hb, hc⟩ := h3 k hk
 have hbd : b ≠ d := fun e => by
  subst e
  simp [World.cell?, hd] at hc
 refine ⟨b, o, e, by simpa using hb, ?_⟩
 rw [World.cell?_of_block (w := w) (World.putObj_heap_other hbd)]
 exact hc
def lsL (s i : Nat) (zz : Int) (lv : Value) : List Obj := [.cells #[.pointer (some ⟨s, 0, none⟩), .int .i64 i, .int .i64 zz] 74 (0, 0), .cells #[lv] 36 (0, 0)]
theorem FfAt.keepG {w V V' : World} {F G : Nat -> Prop} {d : Nat} {L : List Obj} {lp : Loop} (h : FfAt w V F d L lp) (hF : ∀ j, F j -> j < w.heap.size) (hG : ∀ j, G j -> (F j \/ w.heap.size + L.length <= j) /\ j ≠ d /\ j ≠ d + 1) (k : Keeps G V V') : FfAt w V' F d L lp :=
 have hn := h.len
 ⟨h.low.trans k (fun i hi => (hG i hi).1.imp id fun e => by omega), h.len, fun j ob hj => k.heap (h.own j ob hj) (fun hh => by
  have h1 := (List.getElem?_eq_some_iff.1 hj).1
  rcases (hG _ hh).1 with h2 | h2
  ·have := hF _ h2; omega
  ·omega), k.heap h.df (fun hh => (hG _ hh).2.1 rfl), k.heap h.lp (fun hh => (hG _ hh).2.2 rfl)⟩
section
variable {w w' : World} {s m c ino : Nat} {F : Nat -> Prop} {N : Nat} {Pg Cm : Nat -> List UInt8} {fs : Nat -> Option FileA} {o u : Nat} {i : Nat} {f : FileA}
theorem results_dlist {w : World} {tmps : Array Value} {x y : Value} (h1 : tmps.getD 4 undef = x) (h2 : tmps.getD 5 undef = y) :
  (results Tryz.f15 tmps).run Tryz.prog w = .ok (.tuple #[x, y]) w := by
 have h1' : tmps[4]?.getD undef = x := by simpa using h1
 have h2' : tmps[5]?.getD undef = y := by simpa using h2
 simp only [results, Tryz.results15]
 simp [go_sem, h1', h2']
theorem sort_any {base : Nat} {lv : Value} {xs : List (List UInt8)} {V : World} (h : rowT V base lv xs) (hx : xs.length <= 4096) : Calls Tryz.prog 45 #[lv] V fun e V' => e = .returned (.tuple #[]) /\ V.grownBy V' lv.ownBlock /\ RdT V' lv ((xs.mergeSort fun x y => decide (x <= y)).map fun l => ⟨l.toArray⟩) := by
 have hl : (xs.mergeSort fun x y => decide (x <= y)).length = xs.length := by simp
 rcases h.1.2 with ⟨e, h0⟩ | ⟨g, cap, cur, e, hbs, hb, h1, h2, h3, h4⟩
 ·subst e
  refine (Tryz.slices_Sort_string_none none 0 V).mono ?_
  rintro e V' ⟨rfl, rfl⟩
  exact ⟨rfl, grown_refl _ _, none, 0, by rw [List.length_map, hl, h0], by rw [List.length_map, hl]; omega, by omega, fun k hk => by rw [List.length_map, hl] at hk; omega⟩
 ·subst e
  refine (Tryz.slices_Sort_string g 0 cap xs V (holds_of_block hb (by rw [Nat.mul_one] at h4; exact h4)) (lt_of_heap hb) (by omega)).mono ?_
  rintro e V' ⟨rfl, n, os, rfl⟩
  have hr := ownsRow_sorted (n := n) (os := os) (ss := xs) (ts := xs.mergeSort fun x y => decide (x <= y)) hl hbs hb h1 h2 h3
  refine ⟨rfl, grownBy_sorted _, some ⟨g, 0, none⟩, cap, by rw [List.length_map, hl], by rw [List.length_map, hl]; exact h1, by unfold maxLen at h2; omega, fun k hk => ⟨g, 0, rfl, ?_, ?_⟩⟩
  ·rcases hr.2 with ⟨e, -⟩ | ⟨g', cap', cur', e, -, hb', -⟩
   ·cases e
   ·cases e; exact lt_of_heap hb'
  ·have hk' : k < (xs.mergeSort fun x y => decide (x <= y)).length := by rw [List.length_map] at hk; exact hk
   rw [Nat.zero_add, hr.cellAt k (by rw [Nat.mul_one, <- hl]; exact hk'), List.getElem?_map, List.getElem?_eq_getElem hk', List.getElem_map]; rfl
theorem ls_app {w1 V V4 w9 : World} {d : Nat} {s' i' : Nat} {zz : Int} {lv : Value} {ns : List (List UInt8)} {lp : Loop} {H : Nat -> Prop} (hF1 : ∀ j, F j -> j < w1.heap.size) (hFW : ∀ j, F j -> j < w1.heap.size + 2) (hj : FfAt w1 V4 F d (lsL s' i' zz lv) lp) (hs : St V4 s m c F N ino Pg Cm fs o u) (hr : rowT V4 (w1.heap.size + 2) lv ns) (hk : KeepsS H V V4) (hg : V4.grownBy w9 lv.ownBlock) :
  FfAt w1 w9 F d (lsL s' i' zz lv) lp /\ St w9 s m c F N ino Pg Cm fs o u /\ KeepsS H V w9 := by
 have hb : ∀ j, lv.ownBlock = some j -> w1.heap.size + 2 <= j /\ ∃ cs, V4.heap[j]? = some (.cells cs 9 (0, 0)) := fun j hj => by
  rcases hr.1.2 with ⟨e, -⟩ | ⟨g0, cap, cur, e, hb, hc, -⟩
  ·rw [e] at hj; cases hj
  ·rw [e] at hj
   obtain rfl : g0 = j := by simpa [Value.ownBlock] using hj
   exact ⟨hb, cur, hc⟩
 refine ⟨hj.keepG hF1 (G := fun j => lv.ownBlock = some j) (fun j e => ⟨.inr (hb j e).1, fun e2 => ?_, fun e2 => ?_⟩) (Keeps.of_grown hg (fun _ e => e)), hs.growT hr hFW hg, hk.trans ⟨hg.size, fun k ob hk _ hns => grown_block hg hk (fun e => ?_)⟩⟩
 ·obtain ⟨-, cs, hc⟩ := hb j e
  rw [e2, hj.df] at hc; cases hc
 ·obtain ⟨-, cs, hc⟩ := hb j e
  rw [e2, hj.lp] at hc; cases hc
 ·obtain ⟨-, cs, hc⟩ := hb k e
  rw [hk] at hc
  exact hns cs (0, 0) (Option.some.inj hc)
theorem dlist_any (es : List (Nat × List UInt8)) (hes : EntsOk es) (h : St w s m c F N ino Pg Cm fs o u) (hf : fs i = some f) (hk : f.kind = 2) (hd : f.data = entsB es) (hu : u + (2 + ubE es) <= 900000) :
  Calls Tryz.prog 15 #[.pointer (some ⟨s, 0, none⟩), .int .i64 i] w fun e w' => (∃ lv, e = .returned (.tuple #[lv, .int .i64 0]) /\ RdT w' lv ((namesS es).map fun l => ⟨l.toArray⟩) /\ ∀ ad n c, lv = .slice (some ad) n c -> w.heap.size <= ad.block) /\ Keeps F w w' /\ ∃ U, U <= u + (2 + ubE es) /\ St w' s m c F N ino Pg Cm fs o U := by
 refine (callsIn_wide (n := 9)).1 ?_
 have hOp := dopened_any h hf hk (by omega)
 rw [hd, length_entsB hes.2] at hOp
 have HOp := hid hOp
 have HF := hid hf
 have HD := hid hd
 have HEs := hid hes
 have HFl := hid h.lt
 clear hOp h hf hd hes hk
 have hf2 : Fence.wide.fn 44 := trivial
 have hf3 : Fence.wide.fn 43 := trivial
 have hf4 : Fence.wide.fn 45 := trivial
 unfold fldV at HOp
 obtain ⟨zz, hzz⟩ : ∃ zz : Int, zz = ((64 * es.length : Nat) : Int) := ⟨_, rfl⟩
 rw [<- hzz] at HOp
 have HZ := hid hzz
 clear hzz
 refine callsIn_of_wp_marks Tryz.func15 rfl trivial ?_ rfl
 simp only [Tryz.ntmps15, List.size_toArray, List.length_cons, List.length_nil, Nat.reduceAdd, Nat.reduceSub, Array.replicate_succ, Array.replicate_zero, List.push_toArray, List.append_toArray, List.nil_append, List.cons_append]
 gi_wp2_with fail
 refine (callsIn_wide.2 HOp.out).mono ?_
 clear HOp
 rintro e w1 ⟨rfl, hk1, hs1⟩
 obtain ⟨wA, hA⟩ : ∃ wA, wA = (w1.alloc (.cells #[.pointer (some ⟨s, 0, none⟩), .int .i64 i, .int .i64 zz] 74)).alloc (.cells #[.slice none 0 0] 36) := ⟨_, rfl⟩
 have hOwn : OwnL w1 wA (lsL s i zz (.slice none 0 0)) := by rw [hA]; exact ((OwnL.nil w1).alloc _).alloc _
 have HK1 := hid hk1
 have HSA := hid (hs1.below hOwn.below)
 have HA0 := hid hOwn.own
 have HAs : Hid (wA.heap.size = w1.heap.size + 2) := hOwn.size
 have HBA := hid hOwn.below
 have HF1 : Hid (∀ j, F j -> j < w1.heap.size) := fun j hj => Nat.lt_of_lt_of_le (HFl.out j hj) hk1.size
 have HEn := hid (dtaken_any s i (64 * es.length) wA)
 unfold fldV at HEn
 rw [<- HZ.out] at HEn
 clear hOwn hk1 hs1
 gi_wp2_with fail
 rw [<- hA]
 clear hA
 refine (callsIn_wide.2 HEn.out).mono ?_
 clear HEn
 rintro e wD ⟨rfl, hbD, hfD⟩
 rw [HZ.out] at hfD
 have HKD : Hid (Keeps F w1 wD) := Keeps.of_below (HBA.out.trans (hbD.mono HBA.out.size))
 have HSD := hid (HSA.out.below hbD)
 have HrD := hid (fun k ob hk => below_block hbD (HA0.out k ob hk) (lt_of_heap (HA0.out k ob hk)))
 have HfD := hid hfD
 have HsD : Hid (w1.heap.size + 2 < wD.heap.size) := by have := lt_of_heap hfD; have := HAs.out; unfold Hid; omega
 clear hbD hfD HSA HA0 hf2 hf3 HBA
 gi_wp2
 refine range_world (gf := 94) (lb := #[.pointer (some ⟨wA.heap.size, 0, none⟩)]) (by omega) rfl (enters_of Tryz.func94 (by kernel_rfl) rfl) (fun fn => ?_)
 generalize hrc : recOf fn _ _ _ _ _ = rc
 have hb0 := (Below.refl wD.heap.size wD).alloc (Nat.le_refl _) (.deferred (some []))
 have hb1 := hb0.alloc (by simp) (.loop (rc .ready none))
 have y0 := block_new wD (.deferred (some []))
 have y1 := block_new (wD.alloc (.deferred (some []))) (.loop (rc .ready none))
 rw [World.size_alloc] at y1
 have hsz : ((wD.alloc (.deferred (some []))).alloc (.loop (rc .ready none))).heap.size = wD.heap.size + 2 := by simp
 have hge := HsD.out
 have hAs := HAs.out
 have hHH : ∀ j, (F j \/ j = wD.heap.size + 1 \/ j = w1.heap.size + 1) -> j < ((wD.alloc (.deferred (some []))).alloc (.loop (rc .ready none))).heap.size := fun j hj => by
  rw [hsz]
  rcases hj with hj | hj | hj
  ·have := HF1.out j hj; omega
  ·omega
  ·omega
 have hbb1 : ¬ (F wA.heap.size \/ wA.heap.size = wD.heap.size + 1 \/ wA.heap.size = w1.heap.size + 1) := fun hh => by
  rcases hh with hh | hh | hh
  ·have := HF1.out _ hh; omega
  ·omega
  ·omega
 have hg0 : FfAt w1 ((wD.alloc (.deferred (some []))).alloc (.loop (rc .ready none))) F wD.heap.size (lsL s i zz (.slice none 0 0)) (rc .ready none) :=
  ⟨HKD.out.andBelow hb1, by show w1.heap.size + 2 <= _; omega, fun k ob hk => block_alloc (block_alloc (HrD.out k ob hk) _) _, block_alloc y0 _, y1⟩
 have HFW : Hid (∀ j, F j -> j < w1.heap.size + 2) := fun j hj => by have := HF1.out j hj; omega
 have HHW : Hid (∀ j, F j -> j < wD.heap.size) := fun j hj => by have := HF1.out j hj; omega
 have HRk : Hid (∀ (V V' : World) (lv : Value) (xs : List (List UInt8)), rowT V (w1.heap.size + 2) lv xs -> Keeps F V V' -> rowT V' (w1.heap.size + 2) lv xs) := fun V V' lv xs h k => h.keep k (fun g hg hh => by
  rcases h.1.2 with ⟨e, -⟩ | ⟨g0, cap, cur, e, hb, -⟩
  ·rw [e] at hg; cases hg
  ·rw [e] at hg
   have e2 : g0 = g := by simpa [Value.ownBlock] using hg
   have := HF1.out _ hh
   omega)
 have HRp : Hid (∀ (V : World) (lv : Value) (xs : List (List UInt8)) (q : Nat) (ob ob' : Obj), rowT V (w1.heap.size + 2) lv xs -> V.heap[q]? = some ob -> ob.isCells = false -> rowT (V.putObj q ob') (w1.heap.size + 2) lv xs) := fun V lv xs q ob ob' h hb hc => h.keep (keeps_put V q ob') (fun g hg hh => by
  rcases h.1.2 with ⟨e, -⟩ | ⟨g0, cap, cur, e, -, hb0, -⟩
  ·rw [e] at hg; cases hg
  ·rw [e] at hg
   have e2 : g0 = g := by simpa [Value.ownBlock] using hg
   have e3 : g = q := hh
   rw [e2, e3, hb] at hb0
   rw [Option.some.inj hb0] at hc
   cases hc)
 refine (dtaken1_in (wD.heap.size + 1) wA.heap.size es HEs.out (fun j => F j \/ j = wD.heap.size + 1 \/ j = w1.heap.size + 1)
  (fun k V => ∃ lv, FfAt w1 V F wD.heap.size (lsL s i zz lv) (rc .ready none) /\ rowT V (w1.heap.size + 2) lv (namesK es k))
  (fun _ _ => False) _
  (HSD.out.below hb1) HF.out HD.out (by omega) hHH (fun j hj => .inl hj) hbb1
  (block_alloc (block_alloc HfD.out _) _) (fun k V V' ⟨lv, h1, h2⟩ hk => ⟨lv, h1.keep HF1.out hk, HRk.out V V' lv _ h2 hk⟩)
  (fun k V q ob ob' ⟨lv, h1, h2⟩ hq hb hc => ⟨lv, h1.off (by rw [hsz] at hq; omega) hb _, HRp.out V lv _ q ob ob' h2 hb hc⟩)
  (fun k V q ob ob' hJk hq hb hc => hJk)
  (fun k V hk hz ⟨lv, h1, h2⟩ => ⟨lv, h1, by rw [namesK_zero hk hz]; exact h2⟩)
  (fun k U V hk hk0 hU hS hJk => ?round) ⟨_, hg0, rowT_nil _ _⟩).mono ?_
 case round =>
  obtain ⟨lv, hj, hrow⟩ := hJk
  have hl' := hj.lp
  rw [<- hrc] at hl'
  refine round_world hl' rfl ?_
  rw [hrc]
  clear hl' y0 y1 hb0 hb1 hsz hg0 hHH hbb1
  have hn1 := namesK_one hk hk0
  rw [hn1]
  have hx9 : es[k].2.length <= 59 := (HEs.out.2 _ (List.getElem_mem hk)).2
  have hnl : (namesK es k).length < 4096 := by have := namesK_le es k; have := HEs.out.1; omega
  obtain ⟨xi, hxi⟩ : ∃ xi, xi = es[k].1 := ⟨_, rfl⟩
  obtain ⟨xn, hxn⟩ : ∃ xn, xn = es[k].2 := ⟨_, rfl⟩
  obtain ⟨ns, hns⟩ : ∃ ns, ns = namesK es k := ⟨_, rfl⟩
  rw [<- hxn] at hx9 ⊢
  rw [<- hxi]
  rw [<- hns] at hnl hrow ⊢
  unfold entV strD
  clear hxi hxn hk0 hns hn1
  have HSV := hid hS
  have HJV := hid hj
  have HU := hid hU
  have HRow := hid hrow
  have HX9 := hid hx9
  have HNl := hid hnl
  obtain ⟨la, lc, rfl⟩ := hrow.form
  obtain ⟨kk, hkk⟩ : ∃ kk : Int, kk = ((64 * k : Nat) : Int) := ⟨_, rfl⟩
  rw [<- hkk]
  clear hS hj hU hkk hrow hx9 hnl
  have hbx := block_new V (.cells #[.int .i64 xi, .string ⟨xn.toArray⟩] 84)
  have hBx := (Below.refl V.heap.size V).alloc (Nat.le_refl _) (.cells #[.int .i64 xi, .string ⟨xn.toArray⟩] 84)
  gi_wp2
  have hj2 := HJV.out.keep HF1.out (Keeps.of_below hBx : Keeps F V _)
  have hs2 := HSV.out.below hBx
  have hr2 := HRk.out _ _ _ _ HRow.out (Keeps.of_below hBx)
  refine ⟨hj2.lp, ?_⟩
  have hKV : KeepsS (fun j => F j \/ j = wD.heap.size + 1 \/ j = w1.heap.size + 1) V (World.alloc V (.cells #[.int .i64 xi, .string ⟨xn.toArray⟩] 84)) := (Keeps.of_below hBx : Keeps F V _).toS (fun _ e => .inl e)
  generalize V.alloc _ = V1 at *
  have hne : V.heap.size ≠ wD.heap.size + 1 := by have := lt_of_heap HJV.out.lp; omega
  have hj3 : FfAt w1 (V1.putObj (wD.heap.size + 1) (.loop (rc .busy none))) F wD.heap.size (lsL s i zz (.slice la ns.length lc)) (rc .busy none) := hj2.put
  have hx3 : (V1.putObj (wD.heap.size + 1) (.loop (rc .busy none))).heap[V.heap.size]? = some (.cells #[.int .i64 xi, .string ⟨xn.toArray⟩] 84 (0, 0)) := (World.putObj_heap_other hne).trans hbx
  have hs3 : St (V1.putObj (wD.heap.size + 1) (.loop (rc .busy none))) s m c F N ino Pg Cm fs o U := hs2.put HHW.out (by omega) hj2.lp rfl _
  have hr3 := HRp.out _ _ _ _ _ (.loop (rc .busy none)) hr2 hj2.lp rfl
  have hK3 : KeepsS (fun j => F j \/ j = wD.heap.size + 1 \/ j = w1.heap.size + 1) V (V1.putObj (wD.heap.size + 1) (.loop (rc .busy none))) := hKV.trans ((keeps_put V1 _ _).toS (fun _ e => .inr (.inl e)))
  have hge3 : wD.heap.size + 1 < V.heap.size := lt_of_heap HJV.out.lp
  generalize V1.putObj _ _ = V2 at *
  have c1 : V2.cell? ⟨V.heap.size, 1, none⟩ = some (.string ⟨xn.toArray⟩) := cell_of_block hx3 1
  have cn : V2.cell? ⟨w1.heap.size + 1, 0, none⟩ = some (.slice la ns.length lc) := cell_of_block (hj3.own 1 _ rfl) 0
  have hb4 := (Below.refl V2.heap.size V2).alloc (Nat.le_refl _) (.cells #[.string ⟨xn.toArray⟩] 9)
  have hj4 := hj3.keep HF1.out (Keeps.of_below hb4 : Keeps F V2 _)
  have hs4 := hs3.below hb4
  have hr4 := HRk.out _ _ _ _ hr3 (Keeps.of_below hb4)
  have hK4 : KeepsS (fun j => F j \/ j = wD.heap.size + 1 \/ j = w1.heap.size + 1) V (V2.alloc (.cells #[.string ⟨xn.toArray⟩] 9)) := hK3.trans ((Keeps.of_below hb4 : Keeps F V2 _).toS (fun _ e => .inl e))
  have hx4 := cell_of_block (block_new V2 (.cells #[.string ⟨xn.toArray⟩] 9)) 0
  have hv4 : w1.heap.size + 2 <= (V2.alloc (.cells #[.string ⟨xn.toArray⟩] 9)).heap.size := by have := lt_of_heap hj4.lp; omega
  have HJ4 := hid hj4
  have HS4 := hid hs4
  have HR4 := hid hr4
  have HK4 := hid hK4
  have HX4 : Hid ((V2.alloc (.cells #[.string ⟨xn.toArray⟩] 9)).cell? ⟨V2.heap.size, 0, none⟩ = some (strD xn)) := hx4
  have HV4 := hid hv4
  clear hj2 hs2 hr2 hKV hne hj3 hs3 hr3 hK3 hbx hBx hx3 hj4 hs4 hr4 hK4 hx4 hb4 hv4
  gi_upto_region 7 with fail
  refine wpInR_list (by kernel_rfl) ?_
  go_wp2_with (refine wpList_append_str rfl (.tmp 24) (.tmp 27) rfl rfl xn HX9.out V2.heap.size 1 rfl HR4.out HX4.out HNl.out HV4.out ?_; intro g9 cp9 w9 hr9 hgr9 _; have HP9 := hid (ls_app HF1.out HFW.out HJ4.out HS4.out HR4.out HK4.out hgr9); have c9 : w9.cell? ⟨w1.heap.size + 1, 0, none⟩ = some (.slice la ns.length lc) := (cell_of_block (HP9.out.1.own 1 _ rfl) 0); have f9 : w9.frozen? ⟨w1.heap.size + 1, 0, none⟩ = false := (frozen_of_block (HP9.out.1.own 1 _ rfl) 0); have HR9 := hid hr9; clear hgr9 hr9)
  refine JustN.normal ?_
  obtain ⟨hj9, hs9, hk9⟩ := HP9.out
  have hj5 := hj9.set (k := 1) (b := w1.heap.size + 1) (y := .slice (some ⟨g9, 0, none⟩) (ns.length + 1) cp9) rfl rfl
  have hs5 := hs9.setI (hj9.own 1 _ rfl) (.inr ⟨_, _, _, rfl⟩) (by decide) (fun hh => by have := HF1.out _ hh; omega) (.slice (some ⟨g9, 0, none⟩) (ns.length + 1) cp9)
  have hr5 := HR9.out.keep (keeps_set w9 (w1.heap.size + 1) (.slice (some ⟨g9, 0, none⟩) (ns.length + 1) cp9)) (fun g hg hh => by
   have e3 : g = w1.heap.size + 1 := hh
   rcases HR9.out.1.2 with ⟨e, -⟩ | ⟨g0, cap, cur, e, hb, -⟩
   ·cases e
   ·rw [e] at hg
    have e2 : g0 = g := by simpa [Value.ownBlock] using hg
    omega)
  have hk5 := hk9.trans ((keeps_set w9 (w1.heap.size + 1) (.slice (some ⟨g9, 0, none⟩) (ns.length + 1) cp9)).toS (H := (fun j => F j \/ j = wD.heap.size + 1 \/ j = w1.heap.size + 1)) (fun _ e => .inr (.inr e)))
  exact ⟨hj5.lp, ⟨rfl, ⟨_, hj5.put, HRp.out _ _ _ _ _ _ hr5 hj5.lp rfl⟩, hs5.put HHW.out (by omega) hj5.lp rfl _, hk5.trans ((keeps_put _ _ _).toS (fun _ e => .inr (.inl e)))⟩⟩
 rintro e W2 ⟨⟨v, rfl⟩, hE⟩
 refine ⟨⟨_, rfl⟩, ?_⟩
 rcases hE with ⟨⟨lv, hj, hrow⟩, U, hU, hS⟩ | ⟨k, hk, hX⟩
 ·refine ⟨_, _, ?_, hj.lp, ?_⟩
  ·intro h; cases h
  have hj9 : FfAt w1 (W2.putObj (wD.heap.size + 1) (.loop (rc .exhausted none))) F wD.heap.size (lsL s i zz lv) (rc .exhausted none) := hj.put
  have HS9 : Hid (St (W2.putObj (wD.heap.size + 1) (.loop (rc .exhausted none))) s m c F N ino Pg Cm fs o U) := hS.put HHW.out (by omega) hj.lp rfl _
  have HR9 := hid (HRp.out _ _ _ _ _ (.loop (rc .exhausted none)) hrow hj.lp rfl)
  have HU := hid hU
  have HJ9 := hid hj9
  obtain ⟨la, lc, rfl⟩ := hrow.form
  subst hrc
  clear hj hj9 hrow hS hU
  generalize W2.putObj _ _ = W3 at *
  show Exit.inBlock 0 _ .normal _ _
  have cn : W3.cell? ⟨w1.heap.size + 1, 0, none⟩ = some (.slice la (namesK es es.length).length lc) := cell_of_block (HJ9.out.own 1 _ rfl) 0
  have hnl : (namesK es es.length).length <= 4096 := by have := namesK_le es es.length; have := HEs.out.1; omega
  have HSo := hid (sort_any HR9.out hnl)
  clear hnl
  gi_wp2_with fail
  refine (callsIn_wide.2 HSo.out).mono ?_
  rintro e W4 ⟨rfl, hg4, hrd4⟩
  have HGe : Hid (∀ ad n c, Value.slice la (namesK es es.length).length lc = .slice (some ad) n c -> w.heap.size <= ad.block) := fun ad n c e => by
   have h1 := (HR9.out.1.lt ad.block (by rw [e]; rfl)).1
   have := HK1.out.size
   omega
  obtain ⟨hj4, hs4, -⟩ := ls_app HF1.out HFW.out HJ9.out HS9.out HR9.out (KeepsS.refl (fun _ => False) W3) hg4
  have c4 : W4.cell? ⟨w1.heap.size + 1, 0, none⟩ = some (.slice la (namesK es es.length).length lc) := cell_of_block (hj4.own 1 _ rfl) 0
  have HJ4 := hid hj4
  have HS4 := hid hs4
  have HRd := hid hrd4
  clear hg4 hj4 hs4 hrd4 cn HSo HR9 HS9 HJ9
  gi_wp2
  refine ⟨by simp, .inl ⟨_, _, rfl, run_takeDeferred HJ4.out.df, ?_⟩⟩
  refine ⟨_, results_dlist rfl rfl, ⟨_, rfl, HRd.out.put HJ4.out.df _, HGe.out⟩, HK1.out.trans (HJ4.out.low.putNew (by omega) _) (fun _ e => .inl e), U, by have := HU.out; omega, HS4.out.put HHW.out (Nat.le_refl _) HJ4.out.df rfl _⟩
 ·exact hX.elim
end
end
section
set_option maxRecDepth 100000
set_option maxHeartbeats 2000000
open Go.RowKit
theorem splitB_segs (r : List UInt8) : Lib.splitB ⟨#[47]⟩ 0 (Lib.countB ⟨r.toArray⟩ ⟨#[47]⟩) ⟨r.toArray⟩ = (segs r).map fun l => ⟨l.toArray⟩ := by
 have h := Lib.splitB_data ⟨#[47]⟩ 0 (Lib.countB ⟨r.toArray⟩ ⟨#[47]⟩) ⟨r.toArray⟩
 have hc : Lib.countB ⟨r.toArray⟩ ⟨#[47]⟩ = r.count 47 := Lib.count_one 47 r
 rw [hc] at h ⊢
 rw [show Lib.splitK (⟨#[47]⟩ : ByteArray).data.toList 0 (r.count 47) (⟨r.toArray⟩ : ByteArray).data.toList = segs r from splitK_segs r] at h
 rw [<- h, List.map_map]
 have e : ((fun l : List UInt8 => (⟨l.toArray⟩ : ByteArray)) ∘ fun b : ByteArray => b.data.toList) = id := by funext b; simp
 rw [e, List.map_id]
theorem segs_length (r : List UInt8) : (segs r).length = r.count 47 + 1 := by
 have h := Lib.splitB_all ⟨#[47]⟩ (by decide) 0 (Lib.countB ⟨r.toArray⟩ ⟨#[47]⟩) ⟨r.toArray⟩ rfl
 rw [splitB_segs, List.length_map] at h
 rw [h, show Lib.countB ⟨r.toArray⟩ ⟨#[47]⟩ = r.count 47 from Lib.count_one 47 r]
def SplitTo (w : World) (o : Option (List (List UInt8))) (e : Ending) (w' : World) : Prop := Below w.heap.size w w' /\ match o with
 | none => e = .returned (.tuple #[.slice none 0 0, .int .i64 8])
 | some ns => ∃ v, e = .returned (.tuple #[v, .int .i64 0]) /\ RdT w' v (ns.map fun l => ⟨l.toArray⟩)
theorem SplitTo.none {w w' : World} (h : Below w.heap.size w w') : SplitTo w .none (.returned (.tuple #[.slice .none 0 0, .int .i64 8])) w' := ⟨h, rfl⟩
theorem SplitTo.some {w w' : World} {ns : List (List UInt8)} {v : Value} (h : Below w.heap.size w w') (hr : RdT w' v (ns.map fun l => ⟨l.toArray⟩)) : SplitTo w (.some ns) (.returned (.tuple #[v, .int .i64 0])) w' := ⟨h, v, rfl, hr⟩
theorem map_back (ns : List (List UInt8)) : (ns.map fun l => (⟨l.toArray⟩ : ByteArray)).map (·.data.toList) = ns := by
 rw [List.map_map]
 have e : ((fun b : ByteArray => b.data.toList) ∘ fun l : List UInt8 => (⟨l.toArray⟩ : ByteArray)) = id := by funext b; simp
 rw [e, List.map_id]
theorem dSplit_any (s : ByteArray) (hs : (s.size : Int) <= 9223372036854775807) (w : World) (hV : ∃ m, w.cell? ⟨0, 0, none⟩ = some (.int .i64 m)) : Calls Tryz.prog 31 #[.string s] w (SplitTo w (splitL s.data.toList)) := by
 obtain ⟨m, hm⟩ := hV
 have HC := hid (Tryz.strings_CutPrefix s ⟨#[47]⟩ w)
 obtain ⟨l, hl⟩ : ∃ l, l = s.data.toList := ⟨_, rfl⟩
 have hsz : s.size = l.length := by rw [hl, <- Lib.size_eq]
 rw [<- hl] at HC ⊢
 by_cases hp : ∃ r, l = 47 :: r
 ·obtain ⟨r, rfl⟩ := hp
  rw [show Lib.hasPrefix (47 :: r) (⟨#[47]⟩ : ByteArray).data.toList = true from by simp [Lib.hasPrefix, List.isPrefixOf], show Lib.trimPrefix (47 :: r) (⟨#[47]⟩ : ByteArray).data.toList = r from by simp [Lib.trimPrefix, Lib.hasPrefix, List.isPrefixOf]] at HC
  simp only [List.length_cons] at hsz
  by_cases h25 : 254 < r.length
  ·have HS : Hid (splitL (47 :: r) = none) := if_pos h25
   have q : (255 : Int) < (s.size : Int) := by omega
   clear hl hm
   go_enter Tryz.func31, Tryz.ntmps31
   go_wp2_with fail
   refine HC.out.mono ?_
   rintro e w1 ⟨rfl, rfl⟩
   go_wp2
   go_returns
   rw [HS.out]
   exact SplitTo.none (Below.refl _ _)
  ·have q : ¬ (255 : Int) < (s.size : Int) := by omega
   by_cases h0 : r = []
   ·subst h0
    have HS : Hid (splitL [47] = some []) := rfl
    clear hl hm
    have e0 : (⟨([] : List UInt8).toArray⟩ : ByteArray).toList = [] := by rw [Lib.toList_data]
    go_enter Tryz.func31, Tryz.ntmps31
    go_wp2_with fail
    refine HC.out.mono ?_
    rintro e w1 ⟨rfl, rfl⟩
    go_wp2
    go_returns
    rw [HS.out]
    exact SplitTo.some (Below.refl _ _) ⟨none, 0, rfl, by simp, by simp, fun k hk => by simp at hk⟩
   ·have HS : Hid (splitL (47 :: r) = if (segs r).length <= 16 /\ ∀ x ∈ segs r, nameL x = true then some (segs r) else none) := by
     unfold Hid
     show (if 254 < r.length then none else if r = [] then some [] else _) = _
     rw [if_neg h25, if_neg h0]
    have hrl : (⟨r.toArray⟩ : ByteArray).toList = r := by rw [Lib.toList_data]
    have hrs : (⟨r.toArray⟩ : ByteArray).size = r.length := size_strD r
    have hsp := Tryz.strings_Split ⟨r.toArray⟩ ⟨#[47]⟩ m w (by omega) hm (by decide)
    rw [splitB_segs, show Lib.countB ⟨r.toArray⟩ ⟨#[47]⟩ + 1 = (segs r).length from by rw [segs_length]; exact congrArg (· + 1) (Lib.count_one 47 r)] at hsp
    have HSp := hid hsp
    have hsl : (segs r).length <= 300 := by have := List.count_le_length (a := (47 : UInt8)) (l := r); rw [segs_length]; omega
    have hjs := join_segs r
    have HJs := hid hjs
    have hr2 : ¬ (⟨r.toArray⟩ : ByteArray).toList = [] := by rw [hrl]; exact h0
    generalize (⟨r.toArray⟩ : ByteArray) = rb at *
    have hr3 : (rb.toList == []) = false := by rw [hrl]; cases r with | nil => exact absurd rfl h0 | cons _ _ => rfl
    have HH := hid h25
    clear hl hm hsp hjs hrl hrs
    go_enter Tryz.func31, Tryz.ntmps31
    go_wp2_with fail
    refine HC.out.mono ?_
    rintro e w1 ⟨rfl, h1⟩
    obtain rfl := h1.symm
    clear h1 HC
    go_wp2_with fail
    refine HSp.out.mono ?_
    clear HSp
    rintro e w2 ⟨rfl, hw2⟩
    have hb2 : Below w.heap.size w w2 := by rw [hw2]; exact (Below.refl _ w).alloc (Nat.le_refl _) _
    have hrd : RdT w2 (.slice (some ⟨w.heap.size, 0, none⟩) (segs r).length (segs r).length) ((segs r).map fun l => ⟨l.toArray⟩) := by
     refine ⟨some ⟨w.heap.size, 0, none⟩, (segs r).length, by rw [List.length_map], by rw [List.length_map]; omega, by omega, fun k hk => ⟨w.heap.size, 0, rfl, ?_, ?_⟩⟩
     ·rw [hw2]; simp
     ·rw [hw2, cell_of_block (block_new w _)]
      have hk' : k < (segs r).length := by rw [List.length_map] at hk; exact hk
      simp [hk']
    have HJ := hid (dJoin_any _ _ w2 hrd)
    rw [map_back] at HJ
    have HB2 := hid hb2
    have HRd := hid hrd
    clear hw2 hb2 hrd
    obtain ⟨n, hn⟩ : ∃ n, n = (segs r).length := ⟨_, rfl⟩
    rw [<- hn] at HJ HRd ⊢
    have HN := hid hn
    clear hn
    by_cases hok : (segs r).length <= 16 /\ ∀ x ∈ segs r, nameL x = true
    ·have hj : joinL (segs r) = some (47 :: r) := by
      unfold joinL
      rw [HJs.out, if_pos ⟨hok.1, hok.2, by have := HH.out; omega⟩]
     rw [hj] at HJ
     have HS2 : Hid (splitL (47 :: r) = some (segs r)) := by unfold Hid; rw [HS.out, if_pos hok]
     unfold joinV at HJ
     clear hj hok HS
     go_wp2_with fail
     refine HJ.out.mono ?_
     clear HJ
     rintro e w3 ⟨rfl, hb3⟩
     have HR3 := hid (HRd.out.up hb3)
     have HB3 := hid (HB2.out.trans (hb3.mono HB2.out.size))
     clear hb3
     go_wp2
     go_returns
     rw [HS2.out]
     exact SplitTo.some HB3.out HR3.out
    ·have hj : joinL (segs r) = none := by
      unfold joinL
      rw [if_neg (fun hh => hok ⟨hh.1, hh.2.1⟩)]
     rw [hj] at HJ
     have HS2 : Hid (splitL (47 :: r) = none) := by unfold Hid; rw [HS.out, if_neg hok]
     unfold joinV at HJ
     clear hj hok HS
     go_wp2_with fail
     refine HJ.out.mono ?_
     clear HJ
     rintro e w3 ⟨rfl, hb3⟩
     have HB3 := hid (HB2.out.trans (hb3.mono HB2.out.size))
     clear hb3
     go_wp2
     go_returns
     rw [HS2.out]
     exact SplitTo.none HB3.out
 ·have hpf : Lib.hasPrefix l (⟨#[47]⟩ : ByteArray).data.toList = false := by
   cases l with
   | nil => rfl
   | cons x l =>
    have hx : x ≠ 47 := fun e => hp ⟨l, by rw [e]⟩
    simp [Lib.hasPrefix, List.isPrefixOf, Ne.symm hx]
  have HS : Hid (splitL l = none) := by
   unfold Hid splitL
   split
   ·exact absurd ⟨_, rfl⟩ hp
   ·rfl
  rw [hpf] at HC
  generalize Lib.trimPrefix l _ = t at HC
  clear hl hm hp
  go_enter Tryz.func31, Tryz.ntmps31
  go_wp2_with fail
  refine HC.out.mono ?_
  rintro e w1 ⟨rfl, rfl⟩
  go_wp2
  go_returns
  rw [HS.out]
  exact SplitTo.none (Below.refl _ _)
end
section
set_option maxRecDepth 100000
set_option maxHeartbeats 4000000
open Go.RowKit
def kdD (i : Nat) : Nat := if i = 1 then 1 else 2
def fsD : Nat -> Nat -> Option FileA
 | 0 => fun _ => none
 | i + 1 => updA (fsD i) (i + 1) (some (newA (kdD i) 420))
theorem fsD_at : ∀ i j, (fsD i j).isSome = decide (1 <= j /\ j <= i)
 | 0, j => by simp [fsD]; omega
 | i + 1, j => by
  unfold fsD updA
  by_cases e : j = i + 1
  ·rw [if_pos e, decide_eq_true ⟨by omega, by omega⟩]; rfl
  ·rw [if_neg e, fsD_at i j]
   exact decide_eq_decide.2 ⟨fun h => ⟨h.1, by omega⟩, fun h => ⟨h.1, by omega⟩⟩
theorem GoodX.firstI {sk : Nat -> Prop} {N ino : Nat} {Pg : Nat -> List UInt8} {fs : Nat -> Option FileA} (h : GoodX sk N ino Pg fs) (q : Nat) (hq : 0 < q) (hqi : q < ino) (hlo : ∀ j, 0 < j -> j < q -> (fs j).isSome = true) (hno : (fs q).isSome = false) : ∃ rest, freeTo (Pg 1) 1 ino 4096 = q :: rest := by
 have hi5 := h.i5
 refine freeTo_is (fun j hj => ?_) ?_ (by omega)
 ·unfold isFree
  by_cases h0 : j = 0
  ·rw [decide_eq_false (by omega), Bool.false_and]
  ·rw [(h.ibit j (by omega)).2 (.inr (hlo j (by omega) hj)), Bool.not_true, Bool.and_false]
 ·unfold isFree
  rw [decide_eq_true ⟨by omega, by omega⟩, Bool.true_and]
  cases hb : bitL (Pg 1) q
  ·rfl
  ·rcases (h.ibit q hqi).1 hb with e | e
   ·omega
   ·rw [hno] at e; cases e
def MkAt (w : World) (s m c : Nat) (F : Nat -> Prop) (N : Nat) (i : Nat) : Prop := mapB w m c 16 /\ storeB w s m /\ ¬ F m /\ ¬ F s /\ ∃ Pg Cm D, GoodX noSk N 16 Pg (fsD i) /\ Pc w c F 100 N Pg Cm D 0 (3 * i) /\ (dkD N D).length <= 5 + 3 * i
theorem MkAt.keep {w w' : World} {s m c N i r mr : Nat} {F : Nat -> Prop} (h : MkAt w s m c F N i) (hr : Ref6 w F r mr) (k : Keeps (fun i => i = r \/ i = mr) w w') : MkAt w' s m c F N i := by
 obtain ⟨h1, h2, h3, h4, Pg, Cm, D, h5, h6, h7⟩ := h
 have ho := hr.off
 have hm : ¬ (m = r \/ m = mr) := fun e => by
  obtain ⟨⟨cs, t, fr, hb, ht, -⟩, -⟩ := ho m e
  unfold mapB at h1
  rw [hb] at h1
  simp only [Option.some.injEq, Obj.cells.injEq] at h1
  exact absurd h1.2.1 ht.2.2
 have hs : ¬ (s = r \/ s = mr) := fun e => by
  obtain ⟨lb, lc, km, kb, kc, fl, kl, h3, -⟩ := hr.heap
  obtain ⟨g, cp, gi, ci, Lp, Li, h4, -⟩ := hr.map
  unfold storeB at h2
  rcases e with rfl | rfl
  ·rw [h3] at h2; simp at h2
  ·rw [h4.heap] at h2; simp at h2
 exact ⟨h1.keep k hm, h2.keep k hs, h3, h4, Pg, Cm, D, h5, h6.keepYs (fun b e => (ho b e).1) (fun b e => (ho b e).2) k, h7⟩
theorem MkAt.below {w w' : World} {s m c N i : Nat} {F : Nat -> Prop} (h : MkAt w s m c F N i) (hb : Below w.heap.size w w') : MkAt w' s m c F N i := by
 obtain ⟨h1, h2, h3, h4, Pg, Cm, D, h5, h6, h7⟩ := h
 exact ⟨h1.below hb, h2.below hb, h3, h4, Pg, Cm, D, h5, h6.below hb, h7⟩
theorem mkAt_make {w : World} {s m c N i : Nat} {F : Nat -> Prop} (h : MkAt w s m c F N i) (hi : i < 3) : Calls Tryz.prog 28 #[.pointer (some ⟨s, 0, none⟩), .int .i64 (kdD i : Nat), .int .i64 420] w fun e w' => e = .returned (.tuple #[.int .i64 (i + 1 : Nat), .int .i64 0]) /\ Keeps F w w' /\ MkAt w' s m c F N (i + 1) := by
 obtain ⟨h1, h2, h3, h4, Pg, Cm, D, h5, h6, h7⟩ := h
 obtain ⟨rest, hq⟩ := h5.firstI (i + 1) (by omega) (by omega) (fun j hj1 hj2 => by rw [fsD_at]; exact decide_eq_true ⟨by omega, by omega⟩) (by rw [fsD_at]; exact decide_eq_false (by omega))
 have hk1 : 1 <= kdD i := by unfold kdD; split <;> omega
 have hk3 : kdD i <= 3 := by unfold kdD; split <;> omega
 refine (iMake_ok h1 h3 h2 h4 h5.i5 h5.h8 h5.nf (kdD i) 420 (i + 1) rest hk1 hk3 (by omega) hq (by omega) (by omega) h6).mono ?_
 rintro e w' ⟨rfl, hk, hp'⟩
 refine ⟨rfl, hk, h1.keep hk h3, h2.keep hk h4, h3, h4, _, _, _, h5.make hq hk3 (by omega), hp'.more (Nat.le_refl _) (by omega), ?_⟩
 have d1 := dkD_upd1 N (inoD Pg D (i + 1)) (3 + (i + 1) / 8)
 have d2 := dkD_ino2 N Pg D (i + 1)
 omega
def OpenD (w : World) (e : Ending) (w' : World) : Prop := ∃ s m c F r Pg, e = .returned (.tuple #[.pointer (some ⟨s, 0, none⟩), .pointer (some ⟨r, 0, none⟩), .bool true]) /\ (∀ i, F i -> w.heap.size <= i) /\ Below w.heap.size w w' /\ St w' s m c F 100 16 Pg Pg (fsD 3) 206 9
theorem l7opened_any (w : World) : Calls Tryz.prog 7 #[] w (OpenD w) := by
 obtain ⟨N, hN0⟩ : ∃ N : Nat, N = 100 := ⟨_, rfl⟩
 obtain ⟨n, hn⟩ : ∃ n : Nat, n = N + 101 := ⟨_, rfl⟩
 have hn3 : n <= 4096 := by omega
 have hNp : pagesS (freshN n) 100 = N := by unfold pagesS; rw [freshN_len]; omega
 have HNp := hid hNp
 have HN := hid hn
 have hmy : mayP N 16 := by rw [hN0]; decide
 have HMy := hid hmy
 have hma := made_at N 16 2 (fun _ => zN 512)
 have hdk := dkD_putLD N (empK N 16 2) (fun _ => false)
 rw [dkD_none, length_empK, List.length_nil] at hdk
 have HMa := hid hma
 have HDk := hid hdk
 have hz : ∀ k, k < N -> secL (freshN n) (1 + 100 + k) = zN 512 := fun k hk => by
  unfold secL
  rw [freshN_seen n (1 + 100 + k) (by omega)]
  exact blank_zeros
 have HZ := hid hz
 have HC201 : Hid ((201 : Int) = (n : Int)) := by unfold Hid; omega
 have HC100 : Hid ((100 : Int) = (N : Int)) := by unfold Hid; omega
 have hN8 : 8 <= N := by omega
 have hN1 : N <= 100 := by omega
 have hn2 : 102 <= n := by omega
 have HN0 := hid hN0
 clear hNp hma hdk hz hmy hn hN0
 go_enter Tryz.func7, Tryz.ntmps7
 go_wp2_with fail
 rw [HC201.out]
 refine (new_disk n (by omega) hn3 _).mono ?_
 rintro e w1 ⟨d, rfl, hD, -, -, hB⟩
 have HD : Hid (DiskIn w1 d (freshN n)) := hD
 have HB1 := hid hB
 have HOp := hid (open_zero d (freshN n) 100 w1 HD.out (by show 0 <= 4096; decide) (by omega) (by rw [freshN_len]; omega) (by rw [show ((0 : Int)) = ((0 : Nat) : Int) from rfl, freshN_seen n 0 (by omega)]; exact blank_zeros))
 clear hD hB HD
 go_wp2_with fail
 refine HOp.out.mono ?_
 clear HOp
 rintro e w2 ⟨hb2, p, d2, rfl, hp2, hL2⟩
 have hpl := lt_of_heap hL2.heap
 have HB2 := hid (HB1.out.trans (hb2.mono HB1.out.size))
 have HNw := hid (bnew_ok p d2 (freshN n) 100 (fun i => w1.heap.size <= i /\ i < p) 16 (by omega) (by omega) w2 hL2 (fun i hi => by omega) (by rw [freshN_len]; omega))
 have hs1 := HB1.out.size
 have hs2 := hb2.size
 clear hb2 hL2
 go_wp2_with fail
 refine HNw.out.mono ?_
 clear HNw
 rintro e w3 ⟨hb3, c, L, rfl, hc3, hdv, hLF, hft, hC3⟩
 have HB3 := hid (HB2.out.trans (hb3.mono HB2.out.size))
 have hlt3 := lt_of_heap hC3.log.heap
 have hp3 : Pc w3 c (fun i => L.foot c i) 100 N (fun _ => zN 512) (fun _ => zN 512) (fun _ => false) 0 0 := by
  have hC := hC3
  rw [HNp.out] at hC
  exact ⟨L, _, ⟨hC, rfl, rfl, made_fresh _ (by simp; omega) (fun s hs => by rw [List.eq_of_mem_replicate hs]; exact blank_size), Nat.le_refl _, Nat.le_refl _, fun k hk => HZ.out k hk, fun k hk => HZ.out k hk, fun _ => rfl, by rw [CS.dirtyKeys_none rfl]; simp, fun i hi => hi, fun i hi => hC.footLt i hi, hlt3, SepX.zeros _ _ _, rfl, headOk_fresh n (by omega)⟩⟩
 have HF : Hid (∀ i, L.foot c i -> w.heap.size <= i) := fun i hi => by
  rcases hft i hi with h | h
  ·omega
  ·omega
 have HMk := hid (amake_any 16 hp3)
 have HP3 := hid hp3
 clear hb3 hC3 hft hdv hLF hp3
 go_wp2_with fail
 refine HMk.out.mono ?_
 clear HMk
 rintro e w4 ⟨hk4, hx⟩
 rcases hx with ⟨h, -⟩ | ⟨k, hk, -, hx⟩
 ·exact absurd HMy.out h
 obtain rfl : k = 16 := by omega
 rcases hx with ⟨h, -⟩ | ⟨-, m, hm, hmF, hmb, rfl, hp4⟩
 ·rw [dkD_none] at h; exact absurd h (by decide)
 have HK4 := hid hk4
 have HMm := hid hmb
 have HP4 := hid hp4
 have HmF := hid hmF
 have HNi := hid (iNew_ok m w4)
 clear hk4 hmb hp4 hmF hk
 go_wp2_with fail
 refine HNi.out.mono ?_
 clear HNi
 rintro e w5 ⟨rfl, hs5, hb5⟩
 have HS5 := hid hs5
 have HB5 := hid hb5
 have HMr := hid (v5Make_any N 16 (by omega) w5)
 clear hs5 hb5
 go_wp2_with fail
 rw [HC100.out]
 refine HMr.out.mono ?_
 clear HMr
 rintro e w6 ⟨hb6, hx⟩
 rcases hx with ⟨h, -⟩ | ⟨k, r, g, gi, hk, -, rfl, hr1, hr2, hr3, hR6⟩
 ·exact absurd HMy.out h
 obtain rfl : k = 16 := by omega
 have hp6 := (HP4.out.below HB5.out).below hb6
 have hFl := HP3.out.lt
 have h34 := HK4.out.size
 have h45 := HB5.out.size
 have h56 := hb6.size
 have hw3 := HB3.out.size
 have hsF : ¬ L.foot c w4.heap.size := fun hh => by have := hFl _ hh; omega
 have hM6 : MkAt w6 w4.heap.size m c (fun i => L.foot c i) N 0 := ⟨(HMm.out.below HB5.out).below hb6, HS5.out.below hb6, HmF.out, hsF, _, _, _, good_none hN8 hN1 (fun p hp => hp6.len p hp) HMa.out.2.1 HMa.out.2.2, hp6, HDk.out⟩
 have hn5 : ∀ i, w5.heap.size <= i -> ¬ L.foot c i := fun i h1 hh => by have := hFl _ hh; omega
 have HNw := hid (v6New_any (F := fun i => L.foot c i) hR6 (by rw [length_startB]) (fun i hi => hp6.lt i hi) (hn5 _ hr1) (hn5 _ hr2) (hn5 _ hr3))
 have HB6 : Hid (Below w.heap.size w w6) := (HB3.out.trans (HK4.out.below hw3 (fun i hi => HF.out i hi))).trans ((HB5.out.trans (hb6.mono h45)).mono (by omega))
 have HM6 := hid hM6
 have HF6 := hid (And.intro (fun i hi => HF.out i hi : ∀ i, L.foot c i -> w.heap.size <= i) (show w.heap.size <= r by omega))
 clear hb6 hR6 hp6 hFl hsF hM6 hn5 HF HMm HS5 HB5 HP4 HP3 HK4 HB3 HB2 HB1 HZ HDk HMa hk hr1 hr2 hr3
 generalize hFd : (fun i => L.foot c i) = F at *
 go_wp2_with fail
 refine HNw.out.mono ?_
 clear HNw
 rintro e w8 ⟨q, rfl, hq, hb8, hr8⟩
 have hFw : ∀ i, F i -> w.heap.size <= i := fun i hi => HF6.out.1 i (by rw [<- hFd] at hi; exact hi)
 have HFw := hid hFw
 have HI8 : Hid (MkAt w8 w4.heap.size m c F N 0 /\ (∃ mr, Ref6 w8 F q mr /\ w.heap.size <= mr) /\ Below w.heap.size w w8) := ⟨HM6.out.below hb8, ⟨r, hr8, HF6.out.2⟩, HB6.out.trans (hb8.mono HB6.out.size)⟩
 have HQ : Hid (w.heap.size <= q) := Nat.le_trans HB6.out.size hq
 clear hb8 hr8 hFw hFd HF6 HM6 HB6 hq hpl hs1 hs2 h34 h45 h56 hw3 hlt3 hc3 hp2
 generalize w4.heap.size = s at *
 go_wp2
 go_loopw [16] (fun iv W => ∃ i : Nat, i <= 3 /\ iv = .int .i64 i /\ Hid (MkAt W s m c F N i /\ (∃ mr, Ref6 W F q mr /\ w.heap.size <= mr) /\ Below w.heap.size w W)) (fun iv _ => 3 - (intOf iv).toNat)
 case atStart => exact ⟨0, by omega, rfl, HI8⟩
 case round =>
  obtain ⟨i, hi3, rfl, HI⟩ := hrel
  by_cases hi : i < 3
  ·obtain ⟨hM, ⟨mr, hr, hmr⟩, hB⟩ := HI.out
   have HMk := hid (fun W' (hb : Below wr.heap.size wr W') => mkAt_make (hM.below hb) hi)
   have HR := hid hr
   have HB := hid hB
   have HFl : Hid (∀ i, F i -> i < wr.heap.size) := by obtain ⟨-, -, -, -, Pg, Cm, D, -, h, -⟩ := hM; exact h.lt
   clear HI HI8 hM hr hB
   obtain ⟨i', hii⟩ : ∃ i' : Nat, i' = i := ⟨i, rfl⟩
   rcases (show i = 0 \/ i = 1 \/ i = 2 by omega) with rfl | rfl | rfl
   all_goals
    go_wp2_with fail
    have hba := (Below.refl wr.heap.size wr).alloc (Nat.le_refl _) (.cells #[.int .i64 2, .int .i64 1, .int .i64 2] 68)
    have hRa := HR.out.below hba
    refine (HMk.out _ hba).mono ?_
    clear HMk
    rintro e w2 ⟨rfl, hk2, hM2⟩
    have hR2 : Ref6 w2 F q mr := hRa.keep hk2 (fun _ e => e) (fun _ e => .inl e)
    have HB2 : Hid (Below w.heap.size w w2) := (HB.out.trans (hba.mono HB.out.size)).trans (hk2.below (Nat.le_trans HB.out.size hba.size) (fun i hi => HFw.out i hi))
    have HRm := hid (fun kd => v6Make_r hR2 (fun i hi => by have h1 := HFl.out i hi; have h2 := hba.size; have h3 := hk2.size; omega) kd 420)
    have HM2 := hid hM2
    have HR2 := hid hR2
    clear hba hRa hk2 hM2 hR2 HR HB
    go_wp2_with fail
    refine (HRm.out _).mono ?_
    clear HRm
    rintro e w3' ⟨⟨hk3, mr3, hm3, hr3⟩, a3, c3, rfl⟩
    have HI3 : Hid (MkAt w3' s m c F N (i' + 1) /\ (∃ mr, Ref6 w3' F q mr /\ w.heap.size <= mr) /\ Below w.heap.size w w3') := by
     rw [hii]
     exact ⟨HM2.out.keep HR2.out hk3, ⟨mr3, hr3, hm3.elim (fun e => by omega) (fun e => by have := HB2.out.size; omega)⟩, HB2.out.trans (hk3.below HB2.out.size (fun i e => by have h1 := HQ.out; have e' : i = q \/ i = mr := e; omega))⟩
    rw [hii] at HI3
    clear hk3 hm3 hr3 HM2 HR2 HB2
    go_wp2
    exact ⟨⟨_, by omega, by go_num, HI3⟩, by simp [intOf]⟩
  ·obtain rfl : i = 3 := by omega
   obtain ⟨hM, ⟨mr, hr, hmr⟩, hB⟩ := HI.out
   have HCr := hid (v6Commit_r hr (by obtain ⟨-, -, -, -, Pg, Cm, D, -, h, -⟩ := hM; exact h.lt))
   have HM := hid hM
   have HR := hid hr
   have HB := hid hB
   clear HI HI8 hM hr hB
   go_wp2_with fail
   refine HCr.out.mono ?_
   clear HCr
   rintro e w2 ⟨rfl, hk2, hr2⟩
   obtain ⟨m1, m2, m3, m4, Pg, Cm, D, m5, m6, m7⟩ := HM.out.keep HR.out (hk2.mono (fun i e => .inl e))
   have HCo := hid (m6.commit (by omega))
   have HB2 : Hid (Below w.heap.size w w2) := HB.out.trans (hk2.below HB.out.size (fun i e => by have h1 := HQ.out; have e' : i = q := e; omega))
   have HMs := hid (And.intro m1 (And.intro m2 (And.intro m3 m4)))
   have HGd := hid m5
   clear hk2 hr2 m1 m2 m3 m4 m5 m6 m7 HM HR HB
   go_wp2_with fail
   refine HCo.out.mono ?_
   clear HCo
   rintro e w7 ⟨rfl, hk7, F7, hF7, hF7', hp7⟩
   obtain ⟨m1, m2, m3, m4⟩ := HMs.out
   have hmF7 : ¬ F7 m := fun hh => (hF7' m hh).elim m3 (fun e => by have := lt_of_heap m1; omega)
   have hsF7 : ¬ F7 s := fun hh => (hF7' _ hh).elim m4 (fun e => by have := lt_of_heap m2; omega)
   obtain rfl := HN0.out
   have hst : St w7 s m c F7 100 16 Pg Pg (fsD 3) 206 9 := ⟨m1.keep hk7 m3, m2.keep hk7 m4, hmF7, hsF7, by omega, ⟨_, hp7⟩, HGd.out⟩
   have HSt := hid hst
   have HF7 : Hid (∀ i, F7 i -> w.heap.size <= i) := fun i hi => (hF7' i hi).elim (fun e => HFw.out i e) (fun e => Nat.le_trans HB2.out.size e)
   have HB7 : Hid (Below w.heap.size w w7) := HB2.out.trans (hk7.below HB2.out.size (fun i hi => HFw.out i hi))
   clear hst hk7 hF7 hF7' hp7 m1 m2 m3 m4 hmF7 hsF7
   go_wp2
   go_returns
   exact ⟨s, m, c, F7, q, Pg, rfl, HF7.out, HB7.out, HSt.out⟩
end
section
open Go.RowKit
def cntO : Option FileA -> Nat
 | some f => f.cnt
 | none => 0
def slotsO : Option FileA -> List Nat
 | some f => (List.range f.cnt).map f.slot
 | none => []
def sumC (fs : Nat -> Option FileA) (n : Nat) : Nat := ((List.range n).map (fun i => cntO (fs i))).sum
def allS (fs : Nat -> Option FileA) (n : Nat) : List Nat := (List.range n).flatMap (fun i => slotsO (fs i))
theorem length_slotsO (a : Option FileA) : (slotsO a).length = cntO a := by cases a <;> simp [slotsO, cntO]
theorem mem_slotsO {a : Option FileA} {p : Nat} : p ∈ slotsO a ↔ ∃ f j, a = some f /\ j < f.cnt /\ f.slot j = p := by
 cases a with
 | none => simp [slotsO]
 | some f => simp [slotsO]
theorem length_allS (fs : Nat -> Option FileA) (n : Nat) : (allS fs n).length = sumC fs n := by
 unfold allS sumC
 rw [List.length_flatMap]
 congr 1
 exact List.map_congr_left (fun i _ => length_slotsO _)
theorem mem_freeTo {L : List UInt8} {a z p : Nat} (hz : z <= 4096) : p ∈ freeTo L a z 4096 ↔ a <= p /\ p < z /\ bitL L p = false := by
 unfold freeTo isFree
 rw [List.mem_filter, List.mem_range]
 simp
 constructor
 ·intro h; exact ⟨h.2.1.1, h.2.1.2, h.2.2⟩
 ·intro h; exact ⟨by omega, ⟨h.1, h.2.1⟩, h.2.2⟩
theorem nodup_freeTo (L : List UInt8) (a z : Nat) : (freeTo L a z 4096).Nodup := List.Pairwise.filter _ List.nodup_range
section
variable {sk : Nat -> Prop} {N ino : Nat} {Pg : Nat -> List UInt8} {fs : Nat -> Option FileA} {i : Nat} {f : FileA}
theorem GoodX.nodupS (h : GoodX sk N ino Pg fs) : (allS fs ino).Nodup := by
 unfold allS List.Nodup
 rw [List.pairwise_flatMap]
 constructor
 ·intro i _
  unfold slotsO
  split
  ·rename_i f hf
   rw [List.pairwise_map]
   refine (List.nodup_range (n := f.cnt)).imp_of_mem (fun {a b} ha hb hab e => hab ?_)
   exact (h.apart i f a i f b hf hf (List.mem_range.1 ha) (List.mem_range.1 hb) e).2
  ·exact List.Pairwise.nil
 ·refine (List.nodup_range (n := ino)).imp (fun {a b} hab => ?_)
  intro p hp q hq e
  obtain ⟨f, j, h1, h2, h3⟩ := mem_slotsO.1 hp
  obtain ⟨g, k, h4, h5, h6⟩ := mem_slotsO.1 hq
  exact hab (h.apart a f j b g k h1 h4 h2 h5 (by rw [h3, h6, e])).1
theorem GoodX.free (h : GoodX sk N ino Pg fs) : (frL Pg N ino).length + sumC fs ino + (3 + ino / 8) = N := by
 have hnf := h.nf
 have hn4 := h.n4
 have hmem : ∀ p, p ∈ allS fs ino ↔ 3 + ino / 8 <= p /\ p < N /\ bitL (Pg 2) p = true := fun p => by
  unfold allS
  rw [List.mem_flatMap]
  constructor
  ·rintro ⟨i, -, hp⟩
   obtain ⟨f, j, h1, h2, h3⟩ := mem_slotsO.1 hp
   have h4 := (h.file i f h1).in_ j h2
   rw [h3] at h4
   exact ⟨h4.1, h4.2, (h.pbit p h4.1 h4.2).2 ⟨i, f, j, h1, h2, h3⟩⟩
  ·rintro ⟨h1, h2, h3⟩
   obtain ⟨i, f, j, h4, h5, h6⟩ := (h.pbit p h1 h2).1 h3
   exact ⟨i, List.mem_range.2 (h.out i f h4).2, mem_slotsO.2 ⟨f, j, h4, h5, h6⟩⟩
 have hnd : (allS fs ino ++ frL Pg N ino).Nodup := by
  rw [List.nodup_append]
  refine ⟨h.nodupS, nodup_freeTo _ _ _, fun p hp q hq e => ?_⟩
  have h1 := (hmem p).1 hp
  have h2 := (mem_freeTo hn4).1 hq
  rw [<- e] at h2
  rw [h1.2.2] at h2
  cases h2.2.2
 have hp : List.Perm (allS fs ino ++ frL Pg N ino) (List.range' (3 + ino / 8) (N - (3 + ino / 8))) := (List.perm_ext_iff_of_nodup hnd (List.nodup_range' (step := 1))).2 (fun p => by
  rw [List.mem_append, hmem, List.mem_range'_1]
  unfold frL
  rw [mem_freeTo hn4]
  constructor
  ·rintro (h1 | h1) <;> omega
  ·intro h1
   cases hb : bitL (Pg 2) p
   ·exact .inr ⟨by omega, by omega, rfl⟩
   ·exact .inl ⟨by omega, by omega, rfl⟩)
 have hl := hp.length_eq
 rw [List.length_append, length_allS, List.length_range'] at hl
 omega
end
end
section
set_option maxRecDepth 100000
set_option maxHeartbeats 4000000
open Go.RowKit
theorem sumD0 : sumC (fsD 3) 16 = 0 := rfl
theorem ube_0 : ubE [] = 141 := rfl
theorem ube_1 : ubE [(2, [98])] = 141 := rfl
theorem ube_2 : ubE [(2, [98]), (3, [97])] = 141 := rfl
theorem fsD_1 : fsD 3 1 = some (newA 2 420) := rfl
theorem live_names : namesS [(2, [98]), (3, [97])] = [[97], [98]] := by
 have e : namesK [(2, [98]), (3, [97])] 2 = [[98], [97]] := rfl
 unfold namesS
 rw [show ([(2, [98]), (3, [97])] : List (Nat × List UInt8)).length = 2 from rfl, e]
 have h : ¬ ([98] : List UInt8) <= [97] := by decide
 simp [List.mergeSort, h]
theorem live_split : splitL [47, 97, 47, 98] = some [[97], [98]] := by decide +kernel
theorem name_97 : nameOk ⟨#[97]⟩ = true := by rw [nameOk_eq]; decide +kernel
theorem name_98 : nameOk ⟨#[98]⟩ = true := by rw [nameOk_eq]; decide +kernel
theorem es1_ok : EntsOk [(2, [98])] := ⟨by decide, by decide⟩
theorem es2_ok : EntsOk [(2, [98]), (3, [97])] := ⟨by decide, by decide⟩
theorem l7live_any (w : World) (hV : ∃ m, w.cell? ⟨0, 0, none⟩ = some (.int .i64 m)) : Calls Tryz.prog 8 #[] w fun e w' => e = .returned (.bool true) /\ Below w.heap.size w w' := by
 go_enter Tryz.func8, Tryz.ntmps8
 go_wp2_with fail
 refine (l7opened_any w).mono ?_
 rintro e w1 ⟨s, m, c, F, r, Pg, rfl, hF, hb1, hs1⟩
 have hlen : (entsB [] : List UInt8) = [] := rfl
 have hfree := hs1.good.free
 rw [sumD0] at hfree
 have hN98 := fun W => dIsName_all ⟨#[98]⟩ W
 rw [name_98] at hN98
 have hN97 := fun W => dIsName_all ⟨#[97]⟩ W
 rw [name_97] at hN97
 have HN97 := hid hN97
 have HAd := hid (dadd_grow (s := s) (i := 1) [] [98] 2 ⟨by decide, by simp⟩ hs1 fsD_1 rfl (by decide) (dasked_ok hs1 fsD_1 rfl (by decide) ⟨#[98]⟩ hN98) (by decide) (by decide) (by decide) rfl (by decide) (by
  show needN (max (64 * 0 + 64) 0) - 0 <= (frL Pg 100 16).length
  have : needN 64 = 1 := rfl
  rw [show max (64 * 0 + 64) 0 = 64 from rfl, this]
  omega))
 have HFm := hid hF
 have HB1 := hid hb1
 clear hlen hfree hN98 hN97 hs1 hF hb1
 unfold strD at HAd
 go_wp2_with fail
 refine HAd.out.mono ?_
 clear HAd
 rintro e w2 ⟨rfl, hk2, Pg2, f2, U2, hU2, h21, -, -, h24, hs2⟩
 have HB2 : Hid (Below w.heap.size w w2) := HB1.out.trans (hk2.below HB1.out.size HFm.out)
 have h24' : f2.data = entsB [(2, [98])] := h24
 have hl2 : f2.data.length = 64 := by rw [h24']; exact length_entsB es1_ok.2
 have hn2 := (hs2.good.node 1 f2 (updA_self _ _ _) (fun e => e)).2.1
 have HAd := hid (dadd_grow (s := s) (i := 1) [(2, [98])] [97] 3 es1_ok hs2 (updA_self _ _ _) h24' (by have := ube_0; have := ube_1; omega) (dasked_ok hs2 (updA_self _ _ _) (by rw [h21]; rfl) (by have := ube_0; omega) ⟨#[97]⟩ HN97.out) (by decide) (by decide) (by decide) rfl (by decide) (by
  rw [hn2, hl2, show freeIx [(2, [98])] = 1 from rfl, show max (64 * 1 + 64) 64 = 128 from rfl, show needN 128 = 1 from rfl, show needN 64 = 1 from rfl]
  exact Nat.zero_le _))
 have hk21 : f2.kind = 2 := h21
 have HK21 := hid hk21
 have HU2 := hid hU2
 clear hk2 hU2 h21 h24 hs2 h24' hl2 hn2 hk21
 unfold strD at HAd
 go_wp2_with fail
 refine HAd.out.mono ?_
 clear HAd
 rintro e w3 ⟨rfl, hk3, Pg3, f3, U3, hU3, h31, -, -, h34, hs3⟩
 have HB3 : Hid (Below w.heap.size w w3) := HB2.out.trans (hk3.below HB2.out.size HFm.out)
 have h34' : f3.data = entsB [(2, [98]), (3, [97])] := h34
 have HLs := hid (dlist_any (s := s) (i := 1) [(2, [98]), (3, [97])] es2_ok hs3 (updA_self _ _ _) (by rw [h31, HK21.out]) h34' (by have := HU2.out; have := ube_0; have := ube_1; have := ube_2; omega))
 rw [live_names] at HLs
 clear hk3 hU3 h31 h34 hs3 h34'
 go_wp2_with fail
 refine HLs.out.mono ?_
 clear HLs
 rintro e w4 ⟨⟨lv, rfl, hrd, -⟩, hk4, -⟩
 have HB4 : Hid (Below w.heap.size w w4) := HB3.out.trans (hk4.below HB3.out.size HFm.out)
 obtain ⟨mv, hm⟩ := hV
 have hm4 : w4.cell? ⟨0, 0, none⟩ = some (.int .i64 mv) := (World.cell?_of_block (w := w) (HB4.out.block 0 (World.block_lt_of_cell? w _ hm))).trans hm
 have HSp := hid (dSplit_any ⟨#[47, 97, 47, 98]⟩ (by decide) w4 ⟨mv, hm4⟩)
 rw [show splitL (⟨#[47, 97, 47, 98]⟩ : ByteArray).data.toList = some [[97], [98]] from live_split] at HSp
 have HRd := hid hrd
 obtain ⟨la, lc, rfl, -⟩ := hrd
 clear hk4 hm hm4
 go_wp2_with fail
 refine HSp.out.mono ?_
 clear HSp
 rintro e w5 ⟨hb5, v, rfl, hr5⟩
 obtain ⟨pa, pc, rfl, -⟩ := hr5
 have HB5 := hid (HB4.out.trans (hb5.mono HB4.out.size))
 have HR5 := hid (HRd.out.up hb5)
 clear hb5 HRd
 go_wp2_with fail
 have hb6 := (Below.refl w5.heap.size w5).alloc (Nat.le_refl _) (.cells #[.string ⟨#[97]⟩, .string ⟨#[98]⟩] 9)
 have hx6 := block_new w5 (.cells #[.string ⟨#[97]⟩, .string ⟨#[98]⟩] 9)
 have hrd6 : RdT (w5.alloc (.cells #[.string ⟨#[97]⟩, .string ⟨#[98]⟩] 9)) (.slice (some ⟨w5.heap.size, 0, none⟩) 2 2) ([[97], [98]].map fun l => ⟨l.toArray⟩) := by
  refine ⟨_, _, rfl, by simp, by simp, fun k hk => ⟨_, _, rfl, lt_of_heap hx6, ?_⟩⟩
  match k, hk with
  | 0, _ => exact cell_of_block hx6 0
  | 1, _ => exact cell_of_block hx6 1
 refine (stexts_true _ _ _ _ (HR5.out.up hb6) hrd6).mono ?_
 rintro e w7 ⟨rfl, hb7⟩
 have HB7 := hid (HB5.out.trans ((hb6.trans (hb7.mono hb6.size)).mono HB5.out.size))
 clear hb6 hx6 hrd6 hb7 HR5
 go_wp2
 go_ret
 exact ⟨rfl, HB7.out⟩
end
section
open Go.RowKit
structure DrAt (w W : World) (s m c : Nat) (F : Nat -> Prop) (e1 e3 : List (Nat × List UInt8)) (u : Nat) : Prop where
 low : Below w.heap.size w W
 new : ∀ i, F i -> w.heap.size <= i
 st : ∃ Pg Cm fs f1 f3, St W s m c F 100 16 Pg Cm fs 206 u /\ fs 1 = some f1 /\ f1.kind = 2 /\ f1.data = entsB e1 /\ fs 3 = some f3 /\ f3.kind = 2 /\ f3.data = entsB e3 /\ ∀ j, j ≠ 1 -> j ≠ 3 -> fs j = fsD 3 j
 ok1 : EntsOk e1
 ok3 : EntsOk e3
theorem sumC_two {fs : Nat -> Option FileA} {f1 f3 : FileA} (h1 : fs 1 = some f1) (h3 : fs 3 = some f3) (ho : ∀ j, j ≠ 1 -> j ≠ 3 -> fs j = fsD 3 j) : sumC fs 16 = f1.cnt + f3.cnt := by
 have e : ∀ j, j ≠ 1 -> j ≠ 3 -> j < 16 -> cntO (fs j) = 0 := fun j a b hj => by
  rw [ho j a b]
  have : ∀ j, j < 16 -> j ≠ 1 -> j ≠ 3 -> cntO (fsD 3 j) = 0 := by decide
  exact this j hj a b
 unfold sumC
 rw [show List.range 16 = [0, 1, 2, 3, 4, 5, 6, 7, 8, 9, 10, 11, 12, 13, 14, 15] from rfl]
 simp only [List.map_cons, List.map_nil, List.sum_cons, List.sum_nil]
 rw [e 0 (by omega) (by omega) (by omega), e 2 (by omega) (by omega) (by omega), e 4 (by omega) (by omega) (by omega), e 5 (by omega) (by omega) (by omega), e 6 (by omega) (by omega) (by omega), e 7 (by omega) (by omega) (by omega), e 8 (by omega) (by omega) (by omega), e 9 (by omega) (by omega) (by omega), e 10 (by omega) (by omega) (by omega), e 11 (by omega) (by omega) (by omega), e 12 (by omega) (by omega) (by omega), e 13 (by omega) (by omega) (by omega), e 14 (by omega) (by omega) (by omega), e 15 (by omega) (by omega) (by omega), h1, h3]
 show 0 + (f1.cnt + (0 + (f3.cnt + _))) = _
 omega
theorem need_small {k : Nat} (h : k <= 64) : needN (64 * k) <= 8 := by
 unfold needN fillN
 rw [if_neg (by omega), if_neg (by omega)]
 omega
theorem ube_small {es : List (Nat × List UInt8)} (h : es.length <= 60) : 400 + 2 * ubE es <= 3000 := by unfold ubE; omega
def addR (es : List (Nat × List UInt8)) (nm : List UInt8) (j : Nat) : Int × List (Nat × List UInt8) := if nameL nm = false then (8, es) else if (lookE es nm).isSome then (5, es) else (0, addE es j nm)
theorem addR_of {w w' : World} {s m c ino : Nat} {F : Nat -> Prop} {N : Nat} {Pg Cm : Nat -> List UInt8} {fs : Nat -> Option FileA} {o u i : Nat} {f : FileA} {es : List (Nat × List UInt8)} {nm : List UInt8} {j : Nat} {e : Ending} (h : AddTo w s m c F N ino Pg Cm fs o u i f es nm j e w') (hf : fs i = some f) (hd : f.data = entsB es) :
  Keeps F w w' /\ e = .returned (.int .i64 (addR es nm j).1) /\ ∃ Pg' f', f'.kind = f.kind /\ f'.data = entsB (addR es nm j).2 /\ St w' s m c F N ino Pg' Cm (updA fs i (some f')) o (u + (400 + 2 * ubE es)) := by
 have hup : updA fs i (some f) = fs := by
  funext k
  unfold updA
  by_cases e : k = i
  ·rw [if_pos e, e, hf]
  ·rw [if_neg e]
 obtain ⟨hk, h | h | h⟩ := h
 ·obtain ⟨h1, rfl, h3⟩ := h
  refine ⟨hk, by unfold addR; rw [if_pos h1], Pg, f, rfl, by unfold addR; rw [if_pos h1]; exact hd, by rw [hup]; exact h3⟩
 ·obtain ⟨h1, ⟨k, h2⟩, rfl, h3⟩ := h
  have e : addR es nm j = (5, es) := by unfold addR; rw [if_neg (by rw [h1]; decide), if_pos (by rw [h2]; rfl)]
  rw [e]
  exact ⟨hk, rfl, Pg, f, rfl, hd, by rw [hup]; exact h3⟩
 ·obtain ⟨h1, h2, rfl, Pg', f', h4, h5, h3⟩ := h
  have e : addR es nm j = (0, addE es j nm) := by unfold addR; rw [if_neg (by rw [h1]; decide), if_neg (by rw [h2]; decide)]
  rw [e]
  exact ⟨hk, rfl, Pg', f', h4, h5, h3⟩
theorem addR_ok {es : List (Nat × List UInt8)} {nm : List UInt8} {j : Nat} (h : EntsOk es) (hj : j < 512) (hl : es.length <= 60) : EntsOk (addR es nm j).2 /\ (addR es nm j).2.length <= es.length + 1 := by
 unfold addR
 by_cases h1 : nameL nm = false
 ·rw [if_pos h1]; exact ⟨h, Nat.le_succ _⟩
 ·rw [if_neg h1]
  have hn : nameL nm = true := by cases hh : nameL nm; exact absurd hh h1; rfl
  by_cases h2 : (lookE es nm).isSome
  ·rw [if_pos h2]; exact ⟨h, Nat.le_succ _⟩
  ·rw [if_neg h2]
   have := addE_length es j nm
   exact ⟨⟨by show (addE es j nm).length <= 1112; omega, addE_ok h.2 hj (nameL_len hn).2⟩, this⟩
theorem DrAt.up {w W W' : World} {s m c : Nat} {F : Nat -> Prop} {e1 e3 : List (Nat × List UInt8)} {u : Nat} (h : DrAt w W s m c F e1 e3 u) (hb : Below W.heap.size W W') : DrAt w W' s m c F e1 e3 u := by
 obtain ⟨Pg, Cm, fs, f1, f3, h0, h1⟩ := h.st
 exact ⟨h.low.trans (hb.mono h.low.size), h.new, ⟨Pg, Cm, fs, f1, f3, h0.below hb, h1⟩, h.ok1, h.ok3⟩
theorem DrAt.more {w W : World} {s m c : Nat} {F : Nat -> Prop} {e1 e3 : List (Nat × List UInt8)} {u u' : Nat} (h : DrAt w W s m c F e1 e3 u) (hu : u <= u') : DrAt w W s m c F e1 e3 u' := by
 obtain ⟨Pg, Cm, fs, f1, f3, h0, h1⟩ := h.st
 exact ⟨h.low, h.new, ⟨Pg, Cm, fs, f1, f3, h0.more hu, h1⟩, h.ok1, h.ok3⟩
theorem room_ok {fs : Nat -> Option FileA} {f1 f3 f : FileA} {Pg : Nat -> List UInt8} {e1 e3 es : List (Nat × List UInt8)} (hg : GoodX noSk 100 16 Pg fs) (h1 : fs 1 = some f1) (h3 : fs 3 = some f3) (ho : ∀ j, j ≠ 1 -> j ≠ 3 -> fs j = fsD 3 j) (hd1 : f1.data = entsB e1) (hd3 : f3.data = entsB e3) (k1 : EntsOk e1) (k3 : EntsOk e3) (l1 : e1.length <= 60) (l3 : e3.length <= 60) (hes : EntsOk es) (hl : es.length <= 60) (hd : f.data = entsB es) :
  needN (max (64 * freeIx es + 64) f.data.length) - f.cnt <= (freeTo (Pg 2) (3 + 16 / 8) 100 4096).length := by
 have hs := sumC_two h1 h3 ho
 have hf := hg.free
 rw [hs] at hf
 have c1 := (hg.node 1 f1 h1 (fun e => e)).2.1
 have c3 := (hg.node 3 f3 h3 (fun e => e)).2.1
 rw [hd1, length_entsB k1.2] at c1
 rw [hd3, length_entsB k3.2] at c3
 have n1 := need_small (k := e1.length) (by omega)
 have n3 := need_small (k := e3.length) (by omega)
 have hq := freeIx_le es
 have e : max (64 * freeIx es + 64) f.data.length = 64 * max (freeIx es + 1) es.length := by rw [hd, length_entsB hes.2]; omega
 have n := need_small (k := max (freeIx es + 1) es.length) (by omega)
 rw [e]
 unfold frL at hf
 omega
theorem DrAt.start {w W : World} {s m c : Nat} {F : Nat -> Prop} {Pg : Nat -> List UInt8} (hF : ∀ i, F i -> w.heap.size <= i) (hb : Below w.heap.size w W) (h : St W s m c F 100 16 Pg Pg (fsD 3) 206 9) : DrAt w W s m c F [] [] 9 :=
 ⟨hb, hF, ⟨Pg, Pg, fsD 3, _, _, h, rfl, rfl, rfl, rfl, rfl, rfl, fun _ _ _ => rfl⟩, ⟨by decide, by simp⟩, ⟨by decide, by simp⟩⟩
theorem DrAt.list3 {w W : World} {s m c : Nat} {F : Nat -> Prop} {e1 e3 : List (Nat × List UInt8)} {u : Nat} (h : DrAt w W s m c F e1 e3 u) (l3 : e3.length <= 60) (hu : u <= 700000) :
  Calls Tryz.prog 15 #[.pointer (some ⟨s, 0, none⟩), .int .i64 3] W fun e W' => (∃ lv, e = .returned (.tuple #[lv, .int .i64 0]) /\ RdT W' lv ((namesS e3).map fun l => ⟨l.toArray⟩) /\ ∀ ad n c, lv = .slice (some ad) n c -> W.heap.size <= ad.block) /\ (∀ i, F i -> i < W.heap.size) /\ DrAt w W' s m c F e1 e3 (u + 3000) /\ Keeps F W W' := by
 obtain ⟨Pg, Cm, fs, f1, f3, h0, g1, k1, d1, g3, k3, d3, ho⟩ := h.st
 have hb := ube_small l3
 refine (dlist_any (s := s) (i := 3) e3 h.ok3 h0 g3 k3 d3 (by omega)).mono ?_
 rintro e W' ⟨hl, hk, U, hU, h2⟩
 exact ⟨hl, h0.lt, ⟨h.low.trans (hk.below h.low.size h.new), h.new, ⟨Pg, Cm, fs, f1, f3, h2.more (by omega), g1, k1, d1, g3, k3, d3, ho⟩, h.ok1, h.ok3⟩, hk⟩
end
section
open Go.RowKit
def adN (acc : List (List UInt8)) (x : List UInt8) : List (List UInt8) := if nameL x = true /\ x ∉ acc then acc ++ [x] else acc
def adAll (l : List (List UInt8)) : List (List UInt8) := l.foldl adN []
def fives (acc : List (List UInt8)) : List (Nat × List UInt8) := acc.map fun x => (5, x)
theorem lookE_fives (acc : List (List UInt8)) (x : List UInt8) : (lookE (fives acc) x).isSome = decide (x ∈ acc) := by
 unfold lookE fives
 rw [List.findIdx?_isSome, List.any_map]
 by_cases h : x ∈ acc
 ·rw [decide_eq_true h, List.any_eq_true]
  exact ⟨x, h, by simp⟩
 ·rw [decide_eq_false h, List.any_eq_false]
  intro y hy
  simp only [Function.comp]
  have : y ≠ x := fun e => h (e ▸ hy)
  simp [this]
theorem addR_fives (acc : List (List UInt8)) (x : List UInt8) : (addR (fives acc) x 5).2 = fives (adN acc x) := by
 unfold addR adN
 have hl := lookE_fives acc x
 by_cases h1 : nameL x = true
 ·rw [if_neg (by rw [h1]; decide)]
  by_cases h2 : x ∈ acc
  ·rw [if_pos (by rw [hl, decide_eq_true h2]), if_neg (fun h => h.2 h2)]
  ·rw [if_neg (by rw [hl, decide_eq_false h2]; decide), if_pos ⟨h1, h2⟩]
   have hf : freeIx (fives acc) = acc.length := by
    have := freeIx_none (es := fives acc) (fun j hj => by
     unfold fives at hj ⊢
     rw [List.getElem_map]; exact Nat.succ_ne_zero 4)
    rw [this]; unfold fives; simp
   show addE (fives acc) 5 x = _
   unfold addE
   rw [hf]
   unfold fives
   rw [List.take_of_length_le (by simp), List.drop_of_length_le (by simp), List.map_append]
   rfl
 ·rw [if_pos (by cases h : nameL x <;> simp_all), if_neg (fun h => h1 h.1)]
theorem adN_len (acc : List (List UInt8)) (x : List UInt8) : (adN acc x).length <= acc.length + 1 := by
 unfold adN
 split
 ·rw [List.length_append, List.length_singleton]; exact Nat.le_refl _
 ·exact Nat.le_succ _
theorem adN_nodup {acc : List (List UInt8)} (h : acc.Nodup) (x : List UInt8) : (adN acc x).Nodup := by
 unfold adN
 split
 ·rename_i h1
  rw [List.nodup_append]
  exact ⟨h, by simp, fun a ha b hb => by rw [List.mem_singleton.1 hb]; exact fun e => h1.2 (e ▸ ha)⟩
 ·exact h
theorem mem_adN (acc : List (List UInt8)) (x y : List UInt8) : y ∈ adN acc x ↔ y ∈ acc \/ (y = x /\ nameL x = true) := by
 unfold adN
 split
 ·rename_i h
  rw [List.mem_append, List.mem_singleton]
  constructor
  ·rintro (h1 | h1)
   ·exact .inl h1
   ·exact .inr ⟨h1, h.1⟩
  ·rintro (h1 | h1)
   ·exact .inl h1
   ·exact .inr h1.1
 ·rename_i h
  constructor
  ·exact .inl
  ·rintro (h1 | ⟨rfl, h2⟩)
   ·exact h1
   ·exact Classical.byContradiction fun h3 => h ⟨h2, h3⟩
theorem adAll_snoc (l : List (List UInt8)) (x : List UInt8) : adAll (l ++ [x]) = adN (adAll l) x := by unfold adAll; rw [List.foldl_append]; rfl
theorem foldl_facts (l acc : List (List UInt8)) (h : acc.Nodup) : (l.foldl adN acc).Nodup /\ (∀ y, y ∈ l.foldl adN acc ↔ y ∈ acc \/ (y ∈ l /\ nameL y = true)) /\ (l.foldl adN acc).length <= acc.length + l.length := by
 induction l generalizing acc with
 | nil => exact ⟨h, fun y => by simp, by simp⟩
 | cons x l ih =>
  obtain ⟨h1, h2, h3⟩ := ih (adN acc x) (adN_nodup h x)
  refine ⟨h1, fun y => ?_, ?_⟩
  ·rw [List.foldl_cons, h2, mem_adN, List.mem_cons]
   constructor
   ·rintro ((h | ⟨rfl, h⟩) | h)
    ·exact .inl h
    ·exact .inr ⟨.inl rfl, h⟩
    ·exact .inr ⟨.inr h.1, h.2⟩
   ·rintro (h | ⟨rfl | h, h'⟩)
    ·exact .inl (.inl h)
    ·exact .inl (.inr ⟨rfl, h'⟩)
    ·exact .inr ⟨h, h'⟩
  ·have := adN_len acc x
   rw [List.foldl_cons, List.length_cons]
   omega
theorem adAll_facts (l : List (List UInt8)) : (adAll l).Nodup /\ (∀ y, y ∈ adAll l ↔ y ∈ l /\ nameL y = true) /\ (adAll l).length <= l.length := by
 obtain ⟨h1, h2, h3⟩ := foldl_facts l [] List.nodup_nil
 exact ⟨h1, fun y => by rw [show adAll l = l.foldl adN [] from rfl, h2]; simp, by rw [List.length_nil, Nat.zero_add] at h3; exact h3⟩
theorem namesK_fives (acc : List (List UInt8)) : namesK (fives acc) (fives acc).length = acc := by
 unfold namesK fives
 rw [List.take_length, List.filterMap_map]
 induction acc with
 | nil => rfl
 | cons x l ih => rw [List.filterMap_cons]; simpa using ih
theorem namesS_fives (acc : List (List UInt8)) : namesS (fives acc) = acc.mergeSort fun x y => decide (x <= y) := by unfold namesS; rw [namesK_fives]
end
section
open Go.RowKit
def endN (es : List (Nat × List UInt8)) (g : Nat) : Nat -> Nat
 | 0 => 0
 | k + 1 => if (es.getD k (0, [])).1 ≠ 0 /\ k ≠ g then 64 * k / 512 * 512 + 512 else endN es g k
def remE (es : List (Nat × List UInt8)) (g : Nat) : List (Nat × List UInt8) := if endN es g es.length <= 64 * g then es.take (endN es g es.length / 64) else es.set g (0, [])
theorem endN_mod (es : List (Nat × List UInt8)) (g : Nat) : ∀ k, endN es g k % 512 = 0 /\ endN es g k <= 64 * k + 448
 | 0 => ⟨rfl, Nat.zero_le _⟩
 | k + 1 => by
  rw [endN]
  split
  ·omega
  ·have := endN_mod es g k; omega
theorem rsz_entsB {es : List (Nat × List UInt8)} (h : ∀ x ∈ es, x.1 < 512 /\ x.2.length <= 59) (e : Nat) (he : e % 64 = 0) (hl : e <= 64 * es.length) : rsz (entsB es) e = entsB (es.take (e / 64)) := by
 have e1 : e = 64 * (e / 64) := by omega
 unfold rsz
 rw [length_entsB h, show e - 64 * es.length = 0 by omega, show zN 0 = [] from rfl, List.append_nil]
 conv => lhs; rw [e1]
 exact entsB_take h _ (by omega)
theorem encE_zero : encE 0 [] = zN 64 := by decide
theorem entsB_set {es : List (Nat × List UInt8)} (h : ∀ x ∈ es, x.1 < 512 /\ x.2.length <= 59) (g : Nat) (hg : g < es.length) : wrD (entsB es) (64 * g) (zN 64) = entsB (es.set g (0, [])) := by
 rw [<- encE_zero, wrD_cut (by rw [length_entsB h]; omega), length_encE (by simp), show 64 * g + 64 = 64 * (g + 1) by omega, entsB_take h _ (by omega), entsB_drop h, List.set_eq_take_append_cons_drop, if_pos hg, entsB_append, entsB_cons, List.append_assoc]
theorem remE_ok {es : List (Nat × List UInt8)} (h : EntsOk es) (g : Nat) : EntsOk (remE es g) /\ (remE es g).length <= es.length := by
 unfold remE
 split
 ·refine ⟨⟨?_, fun x hx => h.2 x (List.mem_of_mem_take hx)⟩, by rw [List.length_take]; omega⟩
  have := h.1
  rw [List.length_take]; omega
 ·refine ⟨⟨by rw [List.length_set]; exact h.1, fun x hx => ?_⟩, by rw [List.length_set]; exact Nat.le_refl _⟩
  rcases List.mem_or_eq_of_mem_set hx with hx | rfl
  ·exact h.2 x hx
  ·exact ⟨by decide, by simp⟩
end
section
set_option maxRecDepth 100000
open Go.RowKit
section
variable {w w' : World} {s m c ino : Nat} {F : Nat -> Prop} {N : Nat} {Pg Cm : Nat -> List UInt8} {fs : Nat -> Option FileA} {o u : Nat} {i : Nat} {f : FileA}
theorem iResize_by (h : St w s m c F N ino Pg Cm fs o u) (hf : fs i = some f) (hu : u < 900000) (a : Nat) (ha7 : a <= 70656) (R Q : Int -> World -> Prop)
  (hw : ∀ W p D, Keeps F w W -> Pc W c F 100 N Pg Cm D o (u + 3) -> mapB W m c ino -> fileB W p m (f.S i f.data.length) -> w.heap.size <= p ->
   Calls Tryz.prog 158 #[.pointer (some ⟨p, 0, none⟩), .int .i64 a] W fun e w' => ∃ r : Int, e = .returned (.int .i64 r) /\ Keeps (fun i => F i \/ i = p) W w' /\ R r w')
  (hen : ∀ W r, storeB W s m -> mapB W m c ino -> R r W -> Calls Tryz.prog 74 #[.pointer (some ⟨s, 0, none⟩), .int .i64 r] W fun e w' => e = .returned (.int .i64 r) /\ Keeps F W w' /\ Q r w') :
  Calls Tryz.prog 90 #[.pointer (some ⟨s, 0, none⟩), .int .i64 i, .int .i64 a] w fun e w' => ∃ r : Int, e = .returned (.int .i64 r) /\ Keeps F w w' /\ Q r w' := by
 have HGt := hid (iGet_st h hf (by omega))
 have HOp := hid (fun W D (hm : mapB W m c ino) (hp : Pc W c F 100 N Pg Cm D o (u + 2)) => iopen_good hm hp h.good hf (by omega))
 have HWr := hid hw
 have HEn0 := hid hen
 have hok := h.good.file i f hf
 have hnf := h.good.nf
 have HNl : Hid ((nodeC f.node).length = 15) := by unfold Hid nodeC; rw [List.length_append, List.length_map, (hok.node (by omega) h.good.n4).pages]; rfl
 have ha0 : ¬ ((a : Int) < 0) := by omega
 have ha1 : ¬ ((70656 : Int) < (a : Int)) := by omega
 have HFl := hid h.lt
 have HSl : Hid (s < w.heap.size) := lt_of_heap h.store
 have HMl : Hid (m < w.heap.size) := lt_of_heap h.map
 unfold nodeV at HGt HOp
 unfold gV at HOp
 clear hw h hf hok hnf hen
 have hnc1 := nodeC_one f.node
 generalize nodeC f.node = nc at *
 have HN1 := hid hnc1
 clear hnc1
 go_enter Tryz.func90, Tryz.ntmps90
 go_wp2_with fail
 refine HGt.out.mono ?_
 clear HGt
 rintro e w1 ⟨rfl, hk1, hs1⟩
 have c1 := hs1.store.cell
 have HS1 := hid hs1
 have HK1 := hid hk1
 clear hk1 hs1
 go_wp2_with (refine wpList_store_block rfl 153 (.tmp 7) (.tmp 13) rfl w1.heap.size nc.toArray rfl rfl _ _ (block_new w1 _) (by rw [List.size_toArray, HNl.out]; rfl) (by rw [List.size_toArray, HNl.out]; kernel_rfl) HN1.out ?_; intro w2 hg2 hb2 hz2)
 have hb12 : Below w1.heap.size w1 w2 := ((Below.refl _ w1).alloc (Nat.le_refl _) _).grown hg2 (by simp) (fun k e => by cases e; exact Nat.le_refl _)
 have hs2 := HS1.out.below hb12
 have HB12 := hid hb12
 have HS2 := hid hs2
 have HR2 := hid hb2
 have hbd : Below w2.heap.size w2 w2.drew := (Below.refl _ w2).drew
 have hs3 := hs2.below hbd
 have hr3 := below_block hbd hb2 (lt_of_heap hb2)
 have d0 := hs3.store.cell
 have HBd := hid hbd
 have HS3 := hid hs3
 have HR3 := hid hr3
 obtain ⟨D, hp3⟩ := hs3.pc
 have HO3 := hid (HOp.out w2.drew D hs3.map hp3)
 clear hg2 hz2 hbd hs2 hb12 hs3 hp3 HOp c1
 refine wp_region_noPanic ?_
 refine wp_region_held_drew (S := fun W => W.cell? ⟨s, 0, none⟩ = some (.pointer (some ⟨m, 0, none⟩)) /\ W.heap[w1.heap.size]? = some (.cells nc.toArray 153 (0, 0))) (by kernel_rfl) ⟨d0, hr3⟩ (fun hHeld => ?_)
 clear hb2 hr3
 generalize w2.drew = wd at *
 refine tq 0 _ ?_
 try simp only [tS]
 refine tq 1 _ ?_
 try simp only [tS]
 refine tq 2 _ ?_
 try simp only [tS]
 refine tq 3 _ ?_
 try simp only [tS]
 refine tq 4 _ ?_
 try simp only [tS]
 refine tq 5 _ ?_
 try simp only [tS]
 refine wpAnyH_take (i := 6) (v := .agg nc.toArray) rfl (by kernel_rfl) (by kernel_rfl) (by kernel_rfl) (fun _ _ _ h => h) (yieldsIf_load_mid (by rfl) 153 (.tmp 7) rfl w1.heap.size 0 rfl nc _ (fun W hW => by have := range_of_block hW.2; exact this) Tryz.underlying153 rfl (by rw [HNl.out]; kernel_rfl)) (by assumption) ?_
 try simp only [tS]
 refine tq 8 _ ?_
 try simp only [tS]
 refine tr 7 (fun K hK => ?_)
 go_simp
 refine HO3.out.mono ?_
 clear HO3
 rintro e w4 ⟨p, rfl, hp4, hf4, hk4, hq4⟩
 have hwl := HB12.out.size
 have hwk := HK1.out.size
 have hwd := HBd.out.size
 have kw4 : Keeps F w w4 := ((HK1.out.trans (Keeps.of_below HB12.out : Keeps F w1 w2) (fun i e => .inl e)).trans (Keeps.of_below HBd.out : Keeps F w2 wd) (fun i e => .inl e)).trans hk4 (fun i e => .inl e)
 have hnF : ∀ j, w.heap.size <= j -> ¬ F j := fun j hj hh => by have := HFl.out j hh; omega
 have HW4 := hid (HWr.out w4 p D kw4 hq4 (HS3.out.map.keep hk4 HS3.out.mF) hf4 (by omega))
 have hst4 := HS3.out.store.keep hk4 HS3.out.sF
 have e0 := hst4.cell
 have r4 := hk4.heap HR3.out (hnF _ (by omega))
 have HST4 := hid hst4
 have HMp4 := hid (HS3.out.map.keep hk4 HS3.out.mF)
 have HR4 := hid r4
 have HK4 := hid kw4
 have HNF := hid hnF
 have HP4 := hid hp4
 clear hf4 hk4 hq4 kw4 hst4 hnF HWr HR3 d0
 go_wp2_with fail
 refine hK.out _ _ ⟨e0, r4⟩ (fun hHeld => ?_)
 clear hK K r4
 try simp only [tS]
 refine tr 9 (fun K hK => ?_)
 go_simp
 refine HW4.out.mono ?_
 clear HW4
 rintro e w5 ⟨r, rfl, hk5, hR5⟩
 have hp4 := HP4.out
 have hsl := HSl.out
 have hbl := lt_of_heap HR2.out
 have hst5 := HST4.out.keep hk5 (fun hh => hh.elim HS3.out.sF (fun e => by omega))
 have r5 := hk5.heap HR4.out (fun hh => hh.elim (HNF.out _ (by omega)) (fun e => by omega))
 have g0 := hst5.cell
 have hm5 := HMp4.out.keep hk5 (fun hh => hh.elim HS3.out.mF (fun e => by have := HMl.out; omega))
 have HEn := hid (HEn0.out w5 r hst5 hm5 hR5)
 have HK5 : Hid (Keeps F w w5) := HK4.out.trans hk5 (fun i e => e.elim .inl (fun e => .inr (by omega)))
 have HST5 := hid hst5
 have HR5 := hid r5
 clear hk5 hR5 hst5 hp4 hsl hbl e0 hm5
 go_wp2_with fail
 refine hK.out _ _ ⟨g0, r5⟩ (fun hHeld => ?_)
 clear hK K
 try simp only [tS]
 refine tr 10 (fun K hK => ?_)
 go_simp
 refine HEn.out.mono ?_
 clear HEn
 rintro e w6 ⟨rfl, hk6, hQ6⟩
 have g6 := (HST5.out.keep hk6 HS3.out.sF).cell
 have r6 := hk6.heap HR5.out (HNF.out _ (by have := HB12.out.size; have := HK1.out.size; omega))
 have HK6 := hid (HK5.out.trans hk6 (fun i e => .inl e))
 have HQ6 := hid hQ6
 clear hk6 hQ6 g0 r5
 go_wp2_with fail
 refine hK.out _ _ ⟨g6, r6⟩ (fun hHeld => ?_)
 clear hK K
 try simp only [tS]
 refine tq 11 _ ?_
 try simp only [tS]
 refine wpAnyH_done (by kernel_rfl) ?_ _
 refine NoPanic.normal ?_
 clear hHeld
 go_wp2_with fail
 go_ret
 exact ⟨r, rfl, HK6.out, HQ6.out⟩
end
end
section
set_option maxRecDepth 100000
open Go.RowKit
section
variable {w w' : World} {m c ino p : Nat} {F : Nat -> Prop} {size N : Nat} {Pg Cm : Nat -> List UInt8} {fs : Nat -> Option FileA} {o u k kk : Nat} {i : Nat} {f : FileA}
theorem ifresize_good (hm : mapB w m c ino) (hmF : ¬ F m) (hp : Pe w c F size N Pg Cm o u (k + kk)) (hg : GoodX noSk N ino Pg fs) (hf : fs i = some f) (hfi : fileB w p m (f.S i f.data.length)) (hpF : ¬ F p) (hmp : m ≠ p) (hu : u < 880000) (t : Nat) (ht : t <= 70656)
  (hkk : 1 + 2 * (needN t - f.cnt) + (f.cnt - needN t) + 2 <= kk) :
  Calls Tryz.prog 158 #[.pointer (some ⟨p, 0, none⟩), .int .i64 t] w fun e w' => Keeps (fun i => F i \/ i = p) w w' /\
   ((needN t - f.cnt <= (frL Pg N ino).length /\ e = .returned (.int .i64 0) /\ ∃ Pg' f', f'.kind = f.kind /\ f'.mode = f.mode /\ f'.links = f.links /\ f'.data = rsz f.data t /\ GoodX noSk N ino Pg' (updA fs i (some f')) /\ Pe w' c F size N Pg' Cm o (u + 150) k) \/
   ((frL Pg N ino).length < needN t - f.cnt /\ e = .returned (.int .i64 7) /\ ∃ Pg' D', Pc w' c F size N Pg' Cm D' o (u + 150))) := by
 have HHo := hid (ihold_good (k := k + 2) (kk := kk - 2) hm hmF (by obtain ⟨D, h1, h2⟩ := hp; exact ⟨D, h1.le (by omega), h2⟩) hg hf hfi hpF (by omega) t ht (by omega))
 have HG := hid hg
 have HFs := hid hf
 have HMp := hid hm
 clear hp hg hf hfi hm hkk
 go_enter Tryz.func158, Tryz.ntmps158
 go_wp2_with fail
 refine HHo.out.mono ?_
 clear HHo
 rintro e w1 ⟨hk1, ⟨hy, rfl, hf1, hp1⟩ | ⟨hx, rfl, Pg', D', hp1⟩⟩
 ·obtain ⟨q1, q2, q3, q4, q5, q6⟩ := HG.out.hold HFs.out t ht hy
  have HSv := hid (isave_good (z := t) hmF q6 (updA_self _ _ _) (by rw [q4, length_rsz]) q5 hpF (by omega) hf1 (HMp.out.keep hk1 (fun hh => hh.elim hmF hmp)) hp1)
  have HQ := hid (And.intro q1 (And.intro q2 (And.intro q3 (And.intro q4 (And.intro q5 q6)))))
  have HK1 := hid hk1
  clear hk1 hf1 hp1 q1 q2 q3 q4 q5 q6
  go_wp2_with fail
  refine HSv.out.mono ?_
  clear HSv
  rintro e w2 ⟨rfl, hk2, hp2⟩
  have HK2 := hid hk2
  have HP2 := hid hp2
  clear hk2 hp2
  go_wp2_with fail
  go_ret
  obtain ⟨q1, q2, q3, q4, q5, q6⟩ := HQ.out
  refine ⟨HK1.out.trans HK2.out (fun i e => .inl (.inl e)), .inl ⟨hy, rfl, _, _, q1, q2, q3, q4, q6.save (updA_self _ _ _) (by rw [q4, length_rsz]; exact q5), ?_⟩⟩
  obtain ⟨D, h1, h2⟩ := HP2.out
  exact ⟨D, h1, h2.more (Nat.le_refl _) (by omega)⟩
 ·have HK1 := hid hk1
  have HP1 := hid hp1
  clear hk1 hp1
  go_wp2_with fail
  go_ret
  exact ⟨HK1.out, .inr ⟨hx, rfl, Pg', D', HP1.out.more (Nat.le_refl _) (by omega)⟩⟩
end
end
section
open Go.RowKit
section
variable {w w' : World} {s m c ino : Nat} {F : Nat -> Prop} {N : Nat} {Pg Cm : Nat -> List UInt8} {fs cs : Nat -> Option FileA} {o u : Nat} {i : Nat} {f : FileA}
def ChgTo (w' : World) (s m c : Nat) (F : Nat -> Prop) (N ino : Nat) (Cm : Nat -> List UInt8) (fs : Nat -> Option FileA) (o u i : Nat) (f : FileA) (d : List UInt8) : Prop :=
 ∃ Pg' f', f'.kind = f.kind /\ f'.mode = f.mode /\ f'.links = f.links /\ f'.data = d /\ St w' s m c F N ino Pg' Cm (updA fs i (some f')) o u
theorem iResize_ok (h : St w s m c F N ino Pg Cm fs o u) (hf : fs i = some f) (hu : u < 800000) (t : Nat) (ht : t <= 70656) (hfr : needN t - f.cnt <= (frL Pg N ino).length) :
  Calls Tryz.prog 90 #[.pointer (some ⟨s, 0, none⟩), .int .i64 i, .int .i64 t] w fun e w' => e = .returned (.int .i64 0) /\ Keeps F w w' /\ ChgTo w' s m c F N ino Cm fs o (u + 303) i f (rsz f.data t) := by
 refine (iResize_by h hf (by omega) t ht
  (fun r W => r = 0 /\ ∃ Pg' f', f'.kind = f.kind /\ f'.mode = f.mode /\ f'.links = f.links /\ f'.data = rsz f.data t /\ GoodX noSk N ino Pg' (updA fs i (some f')) /\ ∃ D', Pc W c F 100 N Pg' Cm D' o (u + 303))
  (fun r W => r = 0 /\ ∃ Pg' f', f'.kind = f.kind /\ f'.mode = f.mode /\ f'.links = f.links /\ f'.data = rsz f.data t /\ GoodX noSk N ino Pg' (updA fs i (some f')) /\ ∃ D', Pc W c F 100 N Pg' Cm D' o (u + 303))
  (fun W p D hk hp hm hfi hpl => ?_) (fun W r hs hm hR => ?_)).mono ?_
 ·have hml : m < w.heap.size := lt_of_heap h.map
  refine (ifresize_good (k := 0) (kk := 1 + 2 * (needN t - f.cnt) + (f.cnt - needN t) + 2) hm h.mF ⟨D, rm100 h.few _ _, hp⟩ h.good hf hfi (fun hh => by have := h.lt _ hh; omega) (by omega) (by omega) t ht (Nat.le_refl _)).mono ?_
  rintro e w' ⟨hk', ⟨hy, rfl, Pg', f', h1, h2, h3, h4, h5, D', -, h6⟩ | ⟨hx, -⟩⟩
  ·exact ⟨0, rfl, hk', rfl, Pg', f', h1, h2, h3, h4, h5, D', h6.more (Nat.le_refl _) (by omega)⟩
  ·exact absurd hfr (Nat.not_le.2 hx)
 ·obtain ⟨rfl, hR⟩ := hR
  refine (iend_ok s W).mono ?_
  rintro e w' ⟨rfl, rfl⟩
  exact ⟨rfl, Keeps.refl _ _, rfl, hR⟩
 ·rintro e w' ⟨r, rfl, hk, rfl, Pg', f', h1, h2, h3, h4, h5, h6⟩
  exact ⟨rfl, hk, Pg', f', h1, h2, h3, h4, h.map.keep hk h.mF, h.store.keep hk h.sF, h.mF, h.sF, h.few, h6, h5⟩
end
end
section
set_option maxRecDepth 100000
set_option maxHeartbeats 4000000
open Go.RowKit Go.Shelf
attribute [local go_sem] Oper.semAt_some
theorem results_drem {w : World} {tmps : Array Value} {x : Value} (h1 : tmps.getD 4 undef = x) :
  (results Tryz.f39 tmps).run Tryz.prog w = .ok x w := by
 have h1' : tmps[4]?.getD undef = x := by simpa using h1
 simp only [results, Tryz.results39]
 simp [go_sem, h1']
theorem madeN64 (n : Nat) : madeCells (Value.int .u8 0).cells (n * 1) = ((zN n).map U8).toArray := by
 rw [<- rep_U8]
 apply Array.ext
 ·simp [madeCells]
 ·intro i h1 h2
  simp [madeCells, Value.cells, Nat.mod_one]
theorem infoU8rm : (Tryz.prog.info? 5).map (fun i => (i.zero, i.size, i.bytes)) = some (some (.int .u8 0), 1, 1) := by kernel_rfl
theorem run_mk64 (w : World) : (Instr.makeSlice 81 (.int .i64 64) (.int .i64 64)).run Tryz.prog w = .ok (.slice (some ⟨w.heap.size, 0, none⟩) 64 64) (w.alloc (.cells ((zN 64).map U8).toArray 5)) := by
 obtain ⟨i, hi, hz, hs, hb⟩ := info_parts infoU8rm
 have hrun := run_make (P := Tryz.prog) w 81 5 i (.int .u8 0) Tryz.underlying81 hi hz .i64 .i64 64 64 (by omega) (by omega) (by rw [hb]; omega) (by omega)
 simp only [hs] at hrun
 have e : madeCells (Value.int .u8 0).cells (Int.toNat 64 * 1) = ((zN 64).map U8).toArray := madeN64 64
 rw [e] at hrun
 exact hrun
def rmL (s i : Nat) (zz g x : Int) : List Obj := [.cells #[.pointer (some ⟨s, 0, none⟩), .int .i64 i, .int .i64 zz] 74 (0, 0), .cells #[.int .i64 g] 3 (0, 0), .cells #[.int .i64 x] 3 (0, 0)]
section
variable {w w' : World} {s m c ino : Nat} {F : Nat -> Prop} {N : Nat} {Pg Cm : Nat -> List UInt8} {fs : Nat -> Option FileA} {o u : Nat} {i : Nat} {f : FileA}
theorem drem_any (es : List (Nat × List UInt8)) (g : Nat) (hg : g < es.length) (hes : EntsOk es) (hl : es.length < 1104) (h : St w s m c F N ino Pg Cm fs o u) (hf : fs i = some f) (hd : f.data = entsB es) (hu : u + ubE es <= 700000) :
  Calls Tryz.prog 39 #[fldV s i (64 * es.length), .int .i64 (64 * g : Nat)] w fun e w' => e = .returned (.int .i64 0) /\ Keeps F w w' /\ ∃ Pg' f', f'.kind = f.kind /\ f'.data = entsB (remE es g) /\ St w' s m c F N ino Pg' Cm (updA fs i (some f')) o (u + ubE es + 303) := by
 refine (callsIn_wide (n := 9)).1 ?_
 obtain ⟨zz, hzz⟩ : ∃ zz : Int, zz = ((64 * es.length : Nat) : Int) := ⟨_, rfl⟩
 obtain ⟨gg, hgg⟩ : ∃ gg : Int, gg = ((64 * g : Nat) : Int) := ⟨_, rfl⟩
 obtain ⟨wA, hA⟩ : ∃ wA, wA = ((w.alloc (.cells #[.pointer (some ⟨s, 0, none⟩), .int .i64 i, .int .i64 zz] 74)).alloc (.cells #[.int .i64 gg] 3)).alloc (.cells #[.int .i64 0] 3) := ⟨_, rfl⟩
 have hOwn : OwnL w wA (rmL s i zz gg 0) := by rw [hA]; exact (((OwnL.nil w).alloc _).alloc _).alloc _
 have HSA := hid (h.below hOwn.below)
 have HF := hid hf
 have HD := hid hd
 have HEs := hid hes
 have HA0 := hid hOwn.own
 have HAs : Hid (wA.heap.size = w.heap.size + 3) := hOwn.size
 have HBA := hid hOwn.below
 have HFl := hid h.lt
 clear h hf hd hes hOwn
 have hf2 : Fence.wide.fn 44 := trivial
 have hf3 : Fence.wide.fn 36 := trivial
 have hf4 : Fence.wide.fn 90 := trivial
 have HEn := hid (dtaken_any s i (64 * es.length) wA)
 unfold fldV at HEn ⊢
 refine callsIn_of_wp_marks Tryz.func39 rfl trivial ?_ rfl
 simp only [Tryz.ntmps39, List.size_toArray, List.length_cons, List.length_nil, Nat.reduceAdd, Nat.reduceSub, Array.replicate_succ, Array.replicate_zero, List.push_toArray, List.append_toArray, List.nil_append, List.cons_append]
 rw [<- hzz] at HEn ⊢
 rw [<- hgg]
 have HZ := hid hzz
 have HG := hid hgg
 clear hzz hgg
 gi_wp2_with fail
 rw [<- hA]
 clear hA
 refine (callsIn_wide.2 HEn.out).mono ?_
 clear HEn
 rintro e wD ⟨rfl, hbD, hfD⟩
 rw [HZ.out] at hfD
 have HKD : Hid (Keeps F w wD) := Keeps.of_below (HBA.out.trans (hbD.mono HBA.out.size))
 have HSD := hid (HSA.out.below hbD)
 have HrD := hid (fun k ob hk => below_block hbD (HA0.out k ob hk) (lt_of_heap (HA0.out k ob hk)))
 have HfD := hid hfD
 have HsD : Hid (w.heap.size + 3 < wD.heap.size) := by have := lt_of_heap hfD; have := HAs.out; unfold Hid; omega
 clear hbD hfD HSA HA0 hf2 HBA
 gi_wp2
 refine range_world (gf := 94) (lb := #[.pointer (some ⟨wA.heap.size, 0, none⟩)]) (by omega) rfl (enters_of Tryz.func94 (by kernel_rfl) rfl) (fun fn => ?_)
 generalize hrc : recOf fn _ _ _ _ _ = rc
 have hb0 := (Below.refl wD.heap.size wD).alloc (Nat.le_refl _) (.deferred (some []))
 have hb1 := hb0.alloc (by simp) (.loop (rc .ready none))
 have y0 := block_new wD (.deferred (some []))
 have y1 := block_new (wD.alloc (.deferred (some []))) (.loop (rc .ready none))
 rw [World.size_alloc] at y1
 have hsz : ((wD.alloc (.deferred (some []))).alloc (.loop (rc .ready none))).heap.size = wD.heap.size + 2 := by simp
 have hge := HsD.out
 have hAs := HAs.out
 have hHH : ∀ j, (F j \/ j = wD.heap.size + 1 \/ j = w.heap.size + 2) -> j < ((wD.alloc (.deferred (some []))).alloc (.loop (rc .ready none))).heap.size := fun j hj => by
  rw [hsz]
  rcases hj with hj | hj | hj
  ·have := HFl.out j hj; omega
  ·omega
  ·omega
 have hbb1 : ¬ (F wA.heap.size \/ wA.heap.size = wD.heap.size + 1 \/ wA.heap.size = w.heap.size + 2) := fun hh => by
  rcases hh with hh | hh | hh
  ·have := HFl.out _ hh; omega
  ·omega
  ·omega
 have hg0 : FfAt w ((wD.alloc (.deferred (some []))).alloc (.loop (rc .ready none))) F wD.heap.size (rmL s i zz gg 0) (rc .ready none) :=
  ⟨HKD.out.andBelow hb1, by show w.heap.size + 3 <= _; omega, fun k ob hk => block_alloc (block_alloc (HrD.out k ob hk) _) _, block_alloc y0 _, y1⟩
 have HHW : Hid (∀ j, F j -> j < wD.heap.size) := fun j hj => by have := HFl.out j hj; omega
 refine (dtaken1_in (wD.heap.size + 1) wA.heap.size es HEs.out (fun j => F j \/ j = wD.heap.size + 1 \/ j = w.heap.size + 2)
  (fun k V => FfAt w V F wD.heap.size (rmL s i zz gg (endN es g k : Nat)) (rc .ready none))
  (fun _ _ => False) _
  (HSD.out.below hb1) HF.out HD.out (by omega) hHH (fun j hj => .inl hj) hbb1
  (block_alloc (block_alloc HfD.out _) _) (fun k V V' hJk hk => hJk.keep HFl.out hk)
  (fun k V q ob ob' hJk hq hb hc => hJk.off (by rw [hsz] at hq; omega) hb _)
  (fun k V q ob ob' hJk hq hb hc => hJk)
  (fun k V hk hz hJk => by
   have e : endN es g (k + 1) = endN es g k := by
    rw [endN, if_neg]
    rintro ⟨h1, -⟩
    exact h1 (by rw [List.getD_eq_getElem?_getD, List.getElem?_eq_getElem hk, Option.getD_some]; exact hz)
   rw [e]; exact hJk)
  (fun k U V hk hk0 hU hS hJk => ?round) hg0).mono ?_
 case round =>
  have hj := hJk
  have hl' := hj.lp
  rw [<- hrc] at hl'
  refine round_world hl' rfl ?_
  rw [hrc]
  clear hl' y0 y1 hb0 hb1 hsz hg0 hHH hbb1
  have hgd : (es.getD k (0, [])).1 ≠ 0 := by rw [List.getD_eq_getElem?_getD, List.getElem?_eq_getElem hk, Option.getD_some]; exact hk0
  have HE1 : Hid (k ≠ g -> endN es g (k + 1) = 64 * k / 512 * 512 + 512) := fun h1 => by rw [endN, if_pos ⟨hgd, h1⟩]
  have HE2 : Hid (k = g -> endN es g (k + 1) = endN es g k) := fun h1 => by rw [endN, if_neg (fun hh => hh.2 h1)]
  obtain ⟨xi, hxi⟩ : ∃ xi, xi = es[k].1 := ⟨_, rfl⟩
  obtain ⟨xn, hxn⟩ : ∃ xn, xn = es[k].2 := ⟨_, rfl⟩
  rw [<- hxi, <- hxn]
  unfold entV strD
  clear hxi hxn hgd hk0
  have HSV := hid hS
  have HJV := hid hj
  have HU := hid hU
  have hkb : k <= 1112 := by have := HEs.out.1; omega
  obtain ⟨kk, hkk⟩ : ∃ kk : Int, kk = ((64 * k : Nat) : Int) := ⟨_, rfl⟩
  rw [<- hkk]
  have hkk0 : 0 <= kk := by omega
  have hkk1 : kk <= 80000 := by omega
  have HKK := hid hkk
  clear hS hj hJk hU hkk hkb
  gi_wp2
  refine ⟨HJV.out.lp, ?_⟩
  have hj3 : FfAt w (V.putObj (wD.heap.size + 1) (.loop (rc .busy none))) F wD.heap.size (rmL s i zz gg (endN es g k : Nat)) (rc .busy none) := HJV.out.put
  have hs3 : St (V.putObj (wD.heap.size + 1) (.loop (rc .busy none))) s m c F N ino Pg Cm fs o U := HSV.out.put HHW.out (by omega) HJV.out.lp rfl _
  have hK3 : KeepsS (fun j => F j \/ j = wD.heap.size + 1 \/ j = w.heap.size + 2) V (V.putObj (wD.heap.size + 1) (.loop (rc .busy none))) := (keeps_put V _ _).toS (fun _ e => .inr (.inl e))
  generalize V.putObj _ _ = V2 at *
  have cg : V2.cell? ⟨w.heap.size + 1, 0, none⟩ = some (.int .i64 gg) := cell_of_block (hj3.own 1 _ rfl) 0
  have HJ3 := hid hj3
  have HS3 := hid hs3
  have HK3 := hid hK3
  clear hj3 hs3 hK3
  by_cases hkg : k = g
  ·have hq : kk = gg := by rw [HKK.out, HG.out, hkg]
   have hq0 : (kk != gg) = false := by rw [hq]; simp
   rw [HE2.out hkg]
   clear HE1 HE2 hkg hq
   gi_wp2
   exact ⟨HJ3.out.lp, ⟨rfl, HJ3.out.put, HS3.out.put HHW.out (by omega) HJ3.out.lp rfl _, HK3.out.trans ((keeps_put V2 _ _).toS (fun _ e => .inr (.inl e)))⟩⟩
  ·have hq : kk ≠ gg := by rw [HKK.out, HG.out]; omega
   have hq0 : (kk != gg) = true := bne_iff_ne.2 hq
   rw [HE1.out hkg]
   clear HE1 HE2 hkg
   have ce : V2.cell? ⟨w.heap.size + 2, 0, none⟩ = some (.int .i64 (endN es g k : Nat)) := cell_of_block (HJ3.out.own 2 _ rfl) 0
   have fe : V2.frozen? ⟨w.heap.size + 2, 0, none⟩ = false := frozen_of_block (HJ3.out.own 2 _ rfl) 0
   obtain ⟨q, hq9⟩ : ∃ q : Nat, q = 64 * k / 512 := ⟨_, rfl⟩
   have e1t : Int.tdiv kk 512 = (q : Int) := by rw [Int.tdiv_eq_ediv_of_nonneg hkk0, HKK.out, hq9]; omega
   have hq5 : (q : Int) <= 200 := by omega
   have hq6 : (0 : Int) <= (q : Int) := by omega
   gi_wp2
   have hS4 := HJ3.out.set (k := 2) (b := w.heap.size + 2) (y := .int .i64 ((64 * k / 512 * 512 + 512 : Nat) : Int)) rfl rfl
   have hs4 := HS3.out.setI (HJ3.out.own 2 _ rfl) (.inl ⟨_, rfl⟩) (by decide) (fun hh => by have := HFl.out _ hh; omega) (.int .i64 ((64 * k / 512 * 512 + 512 : Nat) : Int))
   have hk4 := HK3.out.trans ((keeps_set V2 (w.heap.size + 2) (.int .i64 ((64 * k / 512 * 512 + 512 : Nat) : Int))).toS (H := (fun j => F j \/ j = wD.heap.size + 1 \/ j = w.heap.size + 2)) (fun _ e => .inr (.inr e)))
   have eq : 64 * (k : Int) / 512 * 512 + 512 = ((64 * k / 512 * 512 + 512 : Nat) : Int) := by omega
   rw [eq]
   exact ⟨hS4.lp, ⟨rfl, hS4.put, hs4.put HHW.out (by omega) hS4.lp rfl _, hk4.trans ((keeps_put _ _ _).toS (fun _ e => .inr (.inl e)))⟩⟩
 rintro e W2 ⟨⟨v, rfl⟩, hE⟩
 refine ⟨⟨_, rfl⟩, ?_⟩
 rcases hE with ⟨hj, U, hU, hS⟩ | ⟨k, hk, hX⟩
 ·refine ⟨_, _, ?_, hj.lp, ?_⟩
  ·intro h; cases h
  have HJ9 : Hid (FfAt w (W2.putObj (wD.heap.size + 1) (.loop (rc .exhausted none))) F wD.heap.size (rmL s i zz gg (endN es g es.length : Nat)) (rc .exhausted none)) := hj.put
  have HS9 : Hid (St (W2.putObj (wD.heap.size + 1) (.loop (rc .exhausted none))) s m c F N ino Pg Cm fs o U) := hS.put HHW.out (by omega) hj.lp rfl _
  have HU := hid hU
  subst hrc
  clear hj hS hU
  generalize W2.putObj _ _ = W3 at *
  show Exit.inBlock 0 _ .normal _ _
  have cg : W3.cell? ⟨w.heap.size + 1, 0, none⟩ = some (.int .i64 gg) := cell_of_block (HJ9.out.own 1 _ rfl) 0
  have ce : W3.cell? ⟨w.heap.size + 1 + 1, 0, none⟩ = some (.int .i64 (endN es g es.length : Nat)) := cell_of_block (HJ9.out.own 2 _ rfl) 0
  have cs0 : W3.cell? ⟨w.heap.size, 0, none⟩ = some (.pointer (some ⟨s, 0, none⟩)) := cell_of_block (HJ9.out.own 0 _ rfl) 0
  have cs1 : W3.cell? ⟨w.heap.size, 1, none⟩ = some (.int .i64 i) := cell_of_block (HJ9.out.own 0 _ rfl) 1
  have hem := endN_mod es g es.length
  have hln := length_entsB HEs.out.2
  have hcn := (HS9.out.good.node i f HF.out (fun e => e)).2.1
  rw [HD.out, hln] at hcn
  have he7 := HEs.out.1
  by_cases hge2 : endN es g es.length <= 64 * g
  ·have q1 : ((endN es g es.length : Nat) : Int) <= gg := by rw [HG.out]; omega
   have hR : remE es g = es.take (endN es g es.length / 64) := by unfold remE; rw [if_pos hge2]
   have hrz := rsz_entsB HEs.out.2 (endN es g es.length) (by omega) (by omega)
   rw [<- hR] at hrz
   have hnm : needN (endN es g es.length) <= needN (64 * es.length) := need_mono (by omega) (by omega)
   generalize endN es g es.length = ee at *
   have HRz := hid (iResize_ok HS9.out HF.out (by have := HU.out; omega) ee (by omega) (by omega))
   rw [HD.out, hrz] at HRz
   clear hrz hR hem hln hcn he7 hge2 hnm
   gi_wp2_with fail
   refine (callsIn_wide.2 HRz.out).mono ?_
   clear HRz
   rintro e W4 ⟨rfl, hk4, Pg', f', g1, -, -, g2, hs4⟩
   have hj4 := HJ9.out.keep HFl.out hk4
   have HJ4 := hid hj4
   have HS4 := hid hs4
   have HG1 := hid g1
   have HG2 := hid g2
   clear hk4 hj4 hs4 HJ9 HS9 g1 g2
   gi_wp2
   refine ⟨by simp, .inl ⟨_, _, rfl, run_takeDeferred HJ4.out.df, ?_⟩⟩
   exact ⟨_, results_drem rfl, rfl, HJ4.out.low.putNew (by omega) _, Pg', f', HG1.out, HG2.out, (HS4.out.put HHW.out (Nat.le_refl _) HJ4.out.df rfl _).more (by have := HU.out; omega)⟩
  ·have q1 : ¬ ((endN es g es.length : Nat) : Int) <= gg := by rw [HG.out]; omega
   have hR : remE es g = es.set g (0, []) := by unfold remE; rw [if_neg hge2]
   have hst := entsB_set HEs.out.2 g hg
   rw [<- hR] at hst
   clear hR
   generalize endN es g es.length = ee at *
   have HST := hid hst
   have HLN := hid hln
   have HCN := hid hcn
   have HE7 := hid he7
   clear hst hem hln hcn he7 hge2
   gi_wp2
   have hbd := (Below.refl W3.heap.size W3).drew
   have hj4 := HJ9.out.keep HFl.out (Keeps.of_below hbd : Keeps F W3 _)
   have hs4 := HS9.out.below hbd
   have ds0 : W3.drew.cell? ⟨w.heap.size, 0, none⟩ = some (.pointer (some ⟨s, 0, none⟩)) := cell_of_block (hj4.own 0 _ rfl) 0
   have ds1 : W3.drew.cell? ⟨w.heap.size, 1, none⟩ = some (.int .i64 i) := cell_of_block (hj4.own 0 _ rfl) 1
   have dg : W3.drew.cell? ⟨w.heap.size + 1, 0, none⟩ = some (.int .i64 gg) := cell_of_block (hj4.own 1 _ rfl) 0
   refine wpIn_wide.2 (wp_region_noPanic ?_)
   refine wp_region_held_drew (S := fun W => W.cell? ⟨w.heap.size, 0, none⟩ = some (.pointer (some ⟨s, 0, none⟩)) /\ W.cell? ⟨w.heap.size, 1, none⟩ = some (.int .i64 i) /\ W.cell? ⟨w.heap.size + 1, 0, none⟩ = some (.int .i64 gg)) (by kernel_rfl) ⟨ds0, ds1, dg⟩ (fun hHeld => ?_)
   clear ds0 ds1 dg cs0 cs1 cg ce
   generalize W3.drew = V4 at *
   obtain ⟨Z, hZ⟩ : ∃ Z, Z = ((zN 64).map U8).toArray := ⟨_, rfl⟩
   have hmk := run_mk64 V4
   rw [<- hZ] at hmk
   have hbn : Below V4.heap.size V4 (V4.alloc (.cells Z 5)) := (Below.refl V4.heap.size V4).alloc (Nat.le_refl _) _
   have hown : ownB (V4.alloc (.cells Z 5)) V4.heap.size (zN 64) := by unfold ownB; rw [hZ]; exact block_new V4 _
   have hz64 : (zN 64).length = 64 := by decide
   have hgF : ¬ F V4.heap.size := fun hh => by have := HHW.out _ hh; have := lt_of_heap hj4.df; omega
   have hln := HLN.out
   have hcn := HCN.out
   have he7 := HE7.out
   have HWr := hid (iWrite_grow (hs4.below hbn) HF.out (by have := HU.out; omega) (64 * g) (64 * g + 64) (zN 64) V4.heap.size 0 64 hown.at (by rw [hz64]; exact Nat.le_refl _) hgF hown.lt (by rw [hz64]) (by rw [hz64]; omega) (by omega) (by rw [HD.out, hln, Nat.max_eq_right (by omega)]; omega))
   rw [hz64, HD.out, HST.out, <- HG.out] at HWr
   have HJn := hid (hj4.keep HFl.out (Keeps.of_below hbn : Keeps F V4 _))
   clear hown hz64 hgF hZ HS9 HJ9 hbn hbd hj4 hs4 HST HLN HCN HE7 hln hcn he7
   refine tq 0 _ ?_
   try simp only [tS]
   refine tq 1 _ ?_
   try simp only [tS]
   refine tq 2 _ ?_
   try simp only [tS]
   refine tq 3 _ ?_
   try simp only [tS]
   refine tq 4 _ ?_
   try simp only [tS]
   refine tr 5 (fun K hK => ?_)
   go_simp
   refine hK.out _ _ ⟨cell_of_block (HJn.out.own 0 _ rfl) 0, cell_of_block (HJn.out.own 0 _ rfl) 1, cell_of_block (HJn.out.own 1 _ rfl) 0⟩ (fun hHeld => ?_)
   clear hK K
   try simp only [tS]
   refine tr 6 (fun K hK => ?_)
   go_simp
   refine HWr.out.mono ?_
   clear HWr
   rintro e W4 ⟨rfl, hk4, Pg', f', g1, -, -, g2, hs4⟩
   have hj4 := HJn.out.keep HFl.out hk4
   have e0 := cell_of_block (hj4.own 0 _ rfl) 0
   have e1 := cell_of_block (hj4.own 0 _ rfl) 1
   have e2 := cell_of_block (hj4.own 1 _ rfl) 0
   have HJ4 := hid hj4
   have HS4 := hid hs4
   have HG1 := hid g1
   have HG2 := hid g2
   clear hk4 hj4 hs4 HJn g1 g2
   go_wp2_with fail
   refine hK.out _ _ ⟨e0, e1, e2⟩ (fun hHeld => ?_)
   clear hK K
   try simp only [tS]
   refine tq 7 _ ?_
   try simp only [tS]
   refine wpAnyH_done (by kernel_rfl) ?_ _
   refine NoPanic.normal ?_
   clear hHeld e0 e1 e2
   gi_wp2
   refine ⟨by simp, .inl ⟨_, _, rfl, run_takeDeferred HJ4.out.df, ?_⟩⟩
   exact ⟨_, results_drem rfl, rfl, HJ4.out.low.putNew (by omega) _, Pg', f', HG1.out, HG2.out, (HS4.out.put HHW.out (Nat.le_refl _) HJ4.out.df rfl _).more (by have := HU.out; omega)⟩
 ·exact hX.elim
end
end
section
set_option maxRecDepth 100000
set_option maxHeartbeats 4000000
open Go.RowKit
section
variable {w w' : World} {s m c ino : Nat} {F : Nat -> Prop} {N : Nat} {Pg Cm : Nat -> List UInt8} {fs : Nat -> Option FileA} {o u : Nat} {i : Nat} {f : FileA}
theorem ddrop_known (es : List (Nat × List UInt8)) (nm : List UInt8) (hes : EntsOk es) (hl : es.length < 1104) (h : St w s m c F N ino Pg Cm fs o u) (hf : fs i = some f) (hd : f.data = entsB es) (hu : u + (400 + 2 * ubE es) <= 700000)
  (hA : Calls Tryz.prog 34 #[.pointer (some ⟨s, 0, none⟩), .int .i64 i, strD nm] w fun e w' => e = .returned (.tuple #[fldV s i f.data.length, .int .i64 0]) /\ Keeps F w w' /\ St w' s m c F N ino Pg Cm fs o (u + 2))
  {k : Nat} (hlk : lookE es nm = some k) (hk : k < es.length) :
  Calls Tryz.prog 12 #[.pointer (some ⟨s, 0, none⟩), .int .i64 i, strD nm] w fun e w' => e = .returned (.tuple #[.int .i64 (es.getD k (0, [])).1, .int .i64 0]) /\ Keeps F w w' /\ ∃ Pg' f', f'.kind = f.kind /\ f'.data = entsB (remE es k) /\ St w' s m c F N ino Pg' Cm (updA fs i (some f')) o (u + (400 + 2 * ubE es)) := by
 have hlen := length_entsB hes.2
 rw [hd, hlen] at hA
 have HA := hid hA
 have HF := hid hf
 have HD := hid hd
 have HEs := hid hes
 have HFl := hid h.lt
 have HLk := hid hlk
 have HRm := hid (fun W U (hU : U <= u + 2 + ubE es) (hS : St W s m c F N ino Pg Cm fs o U) => drem_any (s := s) (i := i) es k hk hes hl hS hf hd (by omega))
 unfold fldV strD at HA
 unfold fldV at HRm
 unfold strD
 obtain ⟨zz, hzz⟩ : ∃ zz : Int, zz = ((64 * es.length : Nat) : Int) := ⟨_, rfl⟩
 rw [<- hzz] at HA HRm
 have HZ := hid hzz
 obtain ⟨k2, hk2⟩ : ∃ k2 : Int, k2 = (((es.getD k (0, [])).1 : Nat) : Int) := ⟨_, rfl⟩
 rw [<- hk2]
 have HK2' := hid hk2
 clear hA h hf hd hes hlk hlen hzz hk hl hk2
 go_enter Tryz.func12, Tryz.ntmps12
 go_wp2_with fail
 refine HA.out.mono ?_
 clear HA
 rintro e w1 ⟨rfl, hk1, hs1⟩
 obtain ⟨wa, hwa⟩ : ∃ wa, wa = w1.alloc (.cells #[.pointer (some ⟨s, 0, none⟩), .int .i64 i, .int .i64 zz] 74) := ⟨_, rfl⟩
 have hba : Below w1.heap.size w1 wa := by rw [hwa]; exact (Below.refl w1.heap.size w1).alloc (Nat.le_refl _) _
 have hxa : wa.heap[w1.heap.size]? = some (.cells #[.pointer (some ⟨s, 0, none⟩), .int .i64 i, .int .i64 zz] 74 (0, 0)) := by rw [hwa]; exact block_new w1 _
 have HF1 : Hid (∀ j, F j -> j < w1.heap.size) := fun j hj => Nat.lt_of_lt_of_le (HFl.out j hj) hk1.size
 have HK1 := hid (hk1.andBelow hba)
 have HSa := hid (hs1.below hba)
 have HXa := hid hxa
 have HFd := hid (fun W (hS : St W s m c F N ino Pg Cm fs o (u + 2)) => dfind_any (s := s) (i := i) es nm HEs.out hS HF.out HD.out (by omega))
 unfold fldV strD at HFd
 rw [<- HZ.out] at HFd
 have hfv : foundV es nm = .tuple #[.int .i64 (64 * k : Nat), .int .i64 (es.getD k (0, [])).1, .int .i64 0] := by unfold foundV; rw [HLk.out]
 rw [hfv, <- HK2'.out] at HFd
 generalize ((64 * k : Nat) : Int) = k1 at *
 have c0 := cell_of_block hxa 0
 have c1 := cell_of_block hxa 1
 have c2 := cell_of_block hxa 2
 clear hfv hk1 hs1 hba hxa
 go_wp2_with (rw [<- hwa])
 refine (HFd.out _ HSa.out).mono ?_
 clear HFd hwa
 rintro e w2 ⟨rfl, hk2, U2, hU2, hs2⟩
 have hx2 := hk2.heap HXa.out (fun hh => by have := HF1.out _ hh; omega)
 have HK2 : Hid (Keeps F w w2) := HK1.out.trans hk2 (fun _ e => .inl e)
 have HR2 := hid (HRm.out w2 U2 hU2 hs2)
 have HU2 := hid hU2
 have d0 := cell_of_block hx2 0
 have d1 := cell_of_block hx2 1
 have d2 := cell_of_block hx2 2
 clear hk2 hs2 hU2 hx2 HSa HXa HK1 HRm c0 c1 c2
 go_wp2_with fail
 refine HR2.out.mono ?_
 clear HR2
 rintro e w3 ⟨rfl, hk3, Pg', f', g1, g2, hs3⟩
 have HE : Hid (Keeps F w w3 /\ ∃ Pg' f', f'.kind = f.kind /\ f'.data = entsB (remE es k) /\ St w3 s m c F N ino Pg' Cm (updA fs i (some f')) o (u + (400 + 2 * ubE es))) := ⟨HK2.out.trans hk3 (fun _ e => .inl e), Pg', f', g1, g2, hs3.more (by have := HU2.out; omega)⟩
 clear hk3 hs3 g1 g2
 go_wp2
 go_returns
 exact ⟨rfl, HE.out⟩
end
end
section
set_option maxRecDepth 100000
set_option maxHeartbeats 4000000
open Go.RowKit Go.Shelf
attribute [local go_sem] Oper.semAt_some
theorem results_dempty {w : World} {tmps : Array Value} {b1 b2 : Nat} {x y : Value} (h1 : tmps.getD 4 undef = .pointer (some ⟨b1, 0, none⟩)) (h2 : tmps.getD 5 undef = .pointer (some ⟨b2, 0, none⟩))
  (r1 : w.heap[b1]? = some (.cells #[x] 4 (0, 0))) (r2 : w.heap[b2]? = some (.cells #[y] 31 (0, 0))) :
  (results Tryz.f16 tmps).run Tryz.prog w = .ok (.tuple #[x, y]) w := by
 have c1 : w.cell? ⟨b1, 0, none⟩ = some x := cell_of_block r1 0
 have c2 : w.cell? ⟨b2, 0, none⟩ = some y := cell_of_block r2 0
 have h1' : tmps[4]?.getD undef = .pointer (some ⟨b1, 0, none⟩) := by simpa using h1
 have h2' : tmps[5]?.getD undef = .pointer (some ⟨b2, 0, none⟩) := by simpa using h2
 simp only [results, Tryz.results16]
 simp [go_sem, h1', h2', asAddr, c1, c2]
def emL (x y : Value) : List Obj := [.cells #[x] 4 (0, 0), .cells #[y] 31 (0, 0)]
section
variable {w w' : World} {s m c ino : Nat} {F : Nat -> Prop} {N : Nat} {Pg Cm : Nat -> List UInt8} {fs : Nat -> Option FileA} {o u : Nat} {i : Nat} {f : FileA}
theorem dempty_none (h : St w s m c F N ino Pg Cm fs o u) (hf : fs i = some f) (hk : f.kind = 2) (hd : f.data = []) (hu : u <= 800000) :
  Calls Tryz.prog 16 #[.pointer (some ⟨s, 0, none⟩), .int .i64 i] w fun e w' => e = .returned (.tuple #[.bool true, .int .i64 0]) /\ Keeps F w w' := by
 refine (callsIn_wide (n := 9)).1 ?_
 obtain ⟨wA, hA⟩ : ∃ wA, wA = (w.alloc (.cells #[.bool false] 4)).alloc (.cells #[.int .i64 0] 31) := ⟨_, rfl⟩
 have hOwn : OwnL w wA (emL (.bool false) (.int .i64 0)) := by rw [hA]; exact ((OwnL.nil w).alloc _).alloc _
 have HOp := hid (dopened_any (h.below hOwn.below) hf hk (by omega))
 rw [hd] at HOp
 have HF := hid hf
 have HD := hid hd
 have HA0 := hid hOwn.own
 have HAs : Hid (wA.heap.size = w.heap.size + 2) := hOwn.size
 have HBA := hid hOwn.below
 have HFl := hid h.lt
 clear h hf hd hk hOwn
 have hf2 : Fence.wide.fn 44 := trivial
 have hf3 : Fence.wide.fn 43 := trivial
 unfold fldV at HOp
 have e00 : ((([] : List UInt8).length : Nat) : Int) = 0 := rfl
 rw [e00] at HOp
 refine callsIn_of_wp_marks Tryz.func16 rfl trivial ?_ rfl
 simp only [Tryz.ntmps16, List.size_toArray, List.length_cons, List.length_nil, Nat.reduceAdd, Nat.reduceSub, Array.replicate_succ, Array.replicate_zero, List.push_toArray, List.append_toArray, List.nil_append, List.cons_append]
 gi_wp2_with fail
 rw [<- hA]
 clear hA
 refine (callsIn_wide.2 HOp.out).mono ?_
 clear HOp
 rintro e w1 ⟨rfl, hk1, hs1⟩
 obtain ⟨wB, hB⟩ : ∃ wB, wB = w1.alloc (.cells #[.pointer (some ⟨s, 0, none⟩), .int .i64 i, .int .i64 0] 74) := ⟨_, rfl⟩
 have hbB : Below w1.heap.size w1 wB := by rw [hB]; exact (Below.refl w1.heap.size w1).alloc (Nat.le_refl _) _
 have hxB : wB.heap[w1.heap.size]? = some (.cells #[.pointer (some ⟨s, 0, none⟩), .int .i64 i, .int .i64 0] 74 (0, 0)) := by rw [hB]; exact block_new w1 _
 have HZB : Hid (wB.heap.size = w1.heap.size + 1) := by rw [hB]; exact World.size_alloc _ _
 have hFA : ∀ j, F j -> j < w.heap.size := HFl.out
 have HKB : Hid (Keeps F w wB) := ((Keeps.of_below HBA.out : Keeps F w wA).trans hk1 (fun _ e => .inl e)).andBelow hbB
 have HSB := hid (hs1.below hbB)
 have HrB : Hid (∀ k ob, (emL (.bool false) (.int .i64 0))[k]? = some ob -> wB.heap[w.heap.size + k]? = some ob) := fun k ob hk => by
  have h1 := HA0.out k ob hk
  have h2 := hk1.heap h1 (fun hh => by have := hFA _ hh; omega)
  exact below_block hbB h2 (lt_of_heap h2)
 have HsB : Hid (w.heap.size + 2 <= w1.heap.size) := by have := hk1.size; have := HAs.out; unfold Hid; omega
 have c0 := cell_of_block hxB 0
 have c1 := cell_of_block hxB 1
 have c2 := cell_of_block hxB 2
 have HEn := hid (dtaken_any s i 0 wB)
 unfold fldV at HEn
 have e01 : (((0 : Nat) : Nat) : Int) = 0 := rfl
 rw [e01] at HEn
 clear hbB hxB hk1 hs1 hFA HBA HA0 HAs hf3 e00 e01
 gi_wp2_with (rw [<- hB])
 clear hB
 refine (callsIn_wide.2 HEn.out).mono ?_
 clear HEn
 rintro e wD ⟨rfl, hbD, hfD⟩
 have HKD : Hid (Keeps F w wD) := HKB.out.andBelow hbD
 have HSD := hid (HSB.out.below hbD)
 have HrD := hid (fun k ob hk => below_block hbD (HrB.out k ob hk) (lt_of_heap (HrB.out k ob hk)))
 have HfD := hid hfD
 have HsD : Hid (w.heap.size + 2 < wD.heap.size) := by have := lt_of_heap hfD; have := HsB.out; have := HZB.out; unfold Hid; omega
 clear hbD hfD hf2 c0 c1 c2
 gi_wp2
 refine range_world (gf := 94) (lb := #[.pointer (some ⟨wB.heap.size, 0, none⟩)]) (by omega) rfl (enters_of Tryz.func94 (by kernel_rfl) rfl) (fun fn => ?_)
 generalize hrc : recOf fn _ _ _ _ _ = rc
 have hb0 := (Below.refl wD.heap.size wD).alloc (Nat.le_refl _) (.deferred (some []))
 have hb1 := hb0.alloc (by simp) (.loop (rc .ready none))
 have y0 := block_new wD (.deferred (some []))
 have y1 := block_new (wD.alloc (.deferred (some []))) (.loop (rc .ready none))
 rw [World.size_alloc] at y1
 have hsz : ((wD.alloc (.deferred (some []))).alloc (.loop (rc .ready none))).heap.size = wD.heap.size + 2 := by simp
 have hge := HsD.out
 have hge1 := HsB.out
 have hge2 := HZB.out
 have hHH : ∀ j, (F j \/ j = wD.heap.size + 1) -> j < ((wD.alloc (.deferred (some []))).alloc (.loop (rc .ready none))).heap.size := fun j hj => by
  rw [hsz]
  rcases hj with hj | hj
  ·have := HFl.out j hj; omega
  ·omega
 have hlB := lt_of_heap HfD.out
 have hbb1 : ¬ (F wB.heap.size \/ wB.heap.size = wD.heap.size + 1) := fun hh => by
  rcases hh with hh | hh
  ·have := HFl.out _ hh; omega
  ·omega
 have hg0 : FfAt w ((wD.alloc (.deferred (some []))).alloc (.loop (rc .ready none))) F wD.heap.size (emL (.bool false) (.int .i64 0)) (rc .ready none) :=
  ⟨HKD.out.andBelow hb1, by show w.heap.size + 2 <= _; omega, fun k ob hk => block_alloc (block_alloc (HrD.out k ob hk) _) _, block_alloc y0 _, y1⟩
 have HHW : Hid (∀ j, F j -> j < wD.heap.size) := fun j hj => by have := HFl.out j hj; omega
 refine (dtaken1_in (wD.heap.size + 1) wB.heap.size [] ⟨by decide, by simp⟩ (fun j => F j \/ j = wD.heap.size + 1)
  (fun k V => FfAt w V F wD.heap.size (emL (.bool false) (.int .i64 0)) (rc .ready none))
  (fun _ _ => False) _
  (HSD.out.below hb1) HF.out HD.out (by unfold ubE; simp; omega) hHH (fun j hj => .inl hj) hbb1
  (block_alloc (block_alloc HfD.out _) _) (fun k V V' hJk hk => hJk.keep HFl.out hk)
  (fun k V q ob ob' hJk hq hb hc => hJk.off (by rw [hsz] at hq; omega) hb _)
  (fun k V q ob ob' hJk hq hb hc => hJk)
  (fun k V hk hz hJk => absurd hk (by simp))
  (fun k U V hk hk0 hU hS hJk => absurd hk (by simp)) hg0).mono ?_
 rintro e W2 ⟨⟨v, rfl⟩, hE⟩
 refine ⟨⟨_, rfl⟩, ?_⟩
 rcases hE with ⟨hj, U, hU, hS⟩ | ⟨k, hk, hX⟩
 ·refine ⟨_, _, ?_, hj.lp, ?_⟩
  ·intro h; cases h
  have HJ9 : Hid (FfAt w (W2.putObj (wD.heap.size + 1) (.loop (rc .exhausted none))) F wD.heap.size (emL (.bool false) (.int .i64 0)) (rc .exhausted none)) := hj.put
  subst hrc
  clear hj hS hU
  generalize W2.putObj _ _ = W3 at *
  show Exit.inBlock 0 _ .normal _ _
  have c2 : W3.cell? ⟨w.heap.size, 0, none⟩ = some (.bool false) := cell_of_block (HJ9.out.own 0 _ rfl) 0
  have c3 : W3.cell? ⟨w.heap.size + 1, 0, none⟩ = some (.int .i64 0) := cell_of_block (HJ9.out.own 1 _ rfl) 0
  have f2 : W3.frozen? ⟨w.heap.size, 0, none⟩ = false := frozen_of_block (HJ9.out.own 0 _ rfl) 0
  have f3 : W3.frozen? ⟨w.heap.size + 1, 0, none⟩ = false := frozen_of_block (HJ9.out.own 1 _ rfl) 0
  gi_wp2
  have hj4 := HJ9.out.set (k := 0) (b := w.heap.size) (y := .bool true) rfl rfl
  have hj5 := hj4.set (k := 1) (b := w.heap.size + 1) (y := .int .i64 0) rfl rfl
  refine ⟨by simp, .inl ⟨_, _, rfl, run_takeDeferred hj5.df, ?_⟩⟩
  exact ⟨_, results_dempty rfl rfl ((World.putObj_heap_other (by omega)).trans (hj5.own 0 _ rfl)) ((World.putObj_heap_other (by omega)).trans (hj5.own 1 _ rfl)), rfl, hj5.low.putNew (by omega) _⟩
 ·exact hX.elim
end
end
section
open Go.RowKit
def gone (L : List (List UInt8)) (j : Nat) : List (Nat × List UInt8) := if j = L.length then [] else List.replicate j (0, []) ++ fives (L.drop j)
theorem gone_zero (L : List (List UInt8)) : gone L 0 = fives L := by
 unfold gone
 by_cases h : 0 = L.length
 ·rw [if_pos h, List.eq_nil_of_length_eq_zero h.symm]; rfl
 ·rw [if_neg h]; rfl
theorem gone_end (L : List (List UInt8)) : gone L L.length = [] := by unfold gone; rw [if_pos rfl]
theorem gone_length {L : List (List UInt8)} {j : Nat} (hj : j < L.length) : (gone L j).length = L.length := by
 unfold gone fives
 rw [if_neg (by omega), List.length_append, List.length_replicate, List.length_map, List.length_drop]; omega
theorem gone_lo {L : List (List UInt8)} {j k : Nat} (hj : j < L.length) (hk : k < j) : (gone L j)[k]? = some (0, []) := by
 unfold gone
 rw [if_neg (by omega), List.getElem?_append_left (by rw [List.length_replicate]; exact hk), List.getElem?_replicate, if_pos hk]
theorem gone_hi {L : List (List UInt8)} {j k : Nat} (hj : j <= k) (hk : k < L.length) : (gone L j)[k]? = some (5, L[k]) := by
 unfold gone fives
 rw [if_neg (by omega), List.getElem?_append_right (by rw [List.length_replicate]; exact hj), List.length_replicate, List.getElem?_map, List.getElem?_drop, show j + (k - j) = k by omega, List.getElem?_eq_getElem hk]
 rfl
theorem lookE_gone {L : List (List UInt8)} {j : Nat} (hj : j < L.length) : lookE (gone L j) L[j] = some j := by
 have hl := gone_length hj
 have h5 : (gone L j)[j]'(by omega) = (5, L[j]) := by
  have := gone_hi (Nat.le_refl j) hj
  rw [List.getElem?_eq_getElem (by omega)] at this
  exact Option.some.inj this
 refine lookE_is (by omega) (fun i hi hij => ?_) (by rw [h5]; exact Nat.succ_ne_zero 4) (by rw [h5])
 have := gone_lo hj hij
 rw [List.getElem?_eq_getElem hi] at this
 rw [Option.some.inj this]
 exact fun hh => hh.1 rfl
theorem endN_zero {es : List (Nat × List UInt8)} {g : Nat} : ∀ n, (∀ k, k < n -> k ≠ g -> (es.getD k (0, [])).1 = 0) -> endN es g n = 0
 | 0, _ => rfl
 | n + 1, h => by
  rw [endN, if_neg (fun hh => hh.1 (h n (Nat.lt_succ_self n) hh.2))]
  exact endN_zero n fun k hk => h k (Nat.lt_succ_of_lt hk)
theorem remE_gone {L : List (List UInt8)} {j : Nat} (hj : j < L.length) : remE (gone L j) j = gone L (j + 1) := by
 have hl := gone_length hj
 by_cases he : j + 1 = L.length
 ·have h0 : endN (gone L j) j (gone L j).length = 0 := endN_zero _ fun k hk hkj => by
   rw [List.getD_eq_getElem?_getD, gone_lo hj (by omega)]; rfl
  unfold remE
  rw [h0, if_pos (by omega), he, gone_end]
  rfl
 ·obtain ⟨q, hq⟩ : ∃ q, L.length = q + 1 := ⟨L.length - 1, by omega⟩
  have h0 : endN (gone L j) j (gone L j).length = 64 * q / 512 * 512 + 512 := by
   rw [hl, hq, endN, if_pos ⟨by rw [List.getD_eq_getElem?_getD, gone_hi (by omega) (by omega)]; exact Nat.succ_ne_zero 4, by omega⟩]
  unfold remE
  rw [h0, if_neg (by omega)]
  unfold gone
  rw [if_neg (by omega), if_neg he, List.set_append_right _ _ (by rw [List.length_replicate]; exact Nat.le_refl _), List.length_replicate, Nat.sub_self, List.drop_eq_getElem_cons hj]
  show List.replicate j (0, []) ++ (0, []) :: fives (L.drop (j + 1)) = _
  rw [List.replicate_succ', List.append_assoc]
  rfl
theorem addR_cases (acc : List (List UInt8)) (x : List UInt8) : (nameL x = true /\ (addR (fives acc) x 5).1 = 0 /\ adN acc x = acc ++ [x]) \/ ((addR (fives acc) x 5).1 ≠ 0 /\ adN acc x = acc) := by
 have hl := lookE_fives acc x
 unfold addR adN
 by_cases h1 : nameL x = true
 ·rw [if_neg (by rw [h1]; decide)]
  by_cases h2 : x ∈ acc
  ·rw [if_pos (by rw [hl, decide_eq_true h2]), if_neg (fun h => h.2 h2)]
   exact .inr ⟨show (5 : Int) ≠ 0 by decide, rfl⟩
  ·rw [if_neg (by rw [hl, decide_eq_false h2]; decide), if_pos ⟨h1, h2⟩]
   exact .inl ⟨h1, rfl, rfl⟩
 ·rw [if_pos (by cases h : nameL x <;> simp_all), if_neg (fun h => h1 h.1)]
  exact .inr ⟨show (8 : Int) ≠ 0 by decide, rfl⟩
structure KpAt (w W : World) (s m c : Nat) (F : Nat -> Prop) (B : Nat) (kv : Value) (ks : List (List UInt8)) (e3 : List (Nat × List UInt8)) (u : Nat) : Prop where
 dr : DrAt w W s m c F [] e3 u
 row : rowT W B kv ks
 low : ∀ i, F i -> i < B
 ge : w.heap.size <= B
 le : B <= W.heap.size
section
variable {w W W' : World} {s m c : Nat} {F : Nat -> Prop} {B : Nat} {kv : Value} {ks : List (List UInt8)} {e3 : List (Nat × List UInt8)} {u : Nat}
theorem KpAt.own (h : KpAt w W s m c F B kv ks e3 u) (g : Nat) (hg : kv.ownBlock = some g) : B <= g /\ g < W.heap.size := by
 rcases h.row.1.2 with ⟨e, -⟩ | ⟨g0, cap, cur, e, hb, h0, -⟩
 ·rw [e] at hg; cases hg
 ·rw [e] at hg
  have e2 : g0 = g := by simpa [Value.ownBlock] using hg
  subst e2
  exact ⟨hb, lt_of_heap h0⟩
theorem KpAt.to (h : KpAt w W s m c F B kv ks e3 u) {e4 : List (Nat × List UInt8)} {u' : Nat} (hd : DrAt w W' s m c F [] e4 u') (hk : Keeps F W W') : KpAt w W' s m c F B kv ks e4 u' :=
 ⟨hd, h.row.keep hk (fun g hg hh => by have := (h.own g hg).1; have := h.low _ hh; omega), h.low, h.ge, Nat.le_trans h.le hk.size⟩
theorem KpAt.up (h : KpAt w W s m c F B kv ks e3 u) (hb : Below W.heap.size W W') : KpAt w W' s m c F B kv ks e3 u := h.to (h.dr.up hb) (Keeps.of_below hb)
theorem KpAt.app (h : KpAt w W s m c F B kv ks e3 u) {kv' : Value} {ks' : List (List UInt8)} (hr : rowT W' B kv' ks') (hg : W.grownBy W' kv.ownBlock) : KpAt w W' s m c F B kv' ks' e3 u := by
 obtain ⟨Pg, Cm, fs, f1, f3, h0, h1⟩ := h.dr.st
 have hb : Below w.heap.size W W' := below_of_row hg h.dr.low.size (fun i e => by have := (h.own i e).1; have := h.ge; omega)
 exact ⟨⟨h.dr.low.trans hb, h.dr.new, ⟨Pg, Cm, fs, f1, f3, h0.growT h.row h.low hg, h1⟩, h.dr.ok1, h.dr.ok3⟩, hr, h.low, h.ge, Nat.le_trans h.le hg.size⟩
theorem KpAt.add (h : KpAt w W s m c F B kv ks e3 u) (nm : ByteArray) (l3 : e3.length <= 60) (hu : u <= 600000) :
  Calls Tryz.prog 11 #[.pointer (some ⟨s, 0, none⟩), .int .i64 3, .string nm, .int .i64 5] W fun e W' => e = .returned (.int .i64 (addR e3 nm.data.toList 5).1) /\ KpAt w W' s m c F B kv ks (addR e3 nm.data.toList 5).2 (u + 3000) := by
 have hD := h.dr
 obtain ⟨Pg, Cm, fs, f1, f3, h0, g1, k1, d1, g3, k3, d3, ho⟩ := hD.st
 have hb := ube_small l3
 refine (dadd_all e3 nm 5 hD.ok3 h0 g3 k3 d3 (by omega) (by omega) (by omega) (by omega) (room_ok h0.good g1 g3 ho d1 d3 hD.ok1 hD.ok3 (by decide) l3 hD.ok3 l3 d3)).mono ?_
 intro e W' hA
 obtain ⟨hk, he, Pg', f', q1, q2, q3⟩ := addR_of hA g3 d3
 refine ⟨he, h.to ⟨hD.low.trans (hk.below hD.low.size hD.new), hD.new, ⟨Pg', Cm, _, f1, f', q3.more (by omega), ?_, k1, d1, updA_self _ _ _, by rw [q1, k3], q2, fun j a b => ?_⟩, hD.ok1, (addR_ok hD.ok3 (by omega) l3).1⟩ hk⟩
 ·unfold updA; rw [if_neg (by decide)]; exact g1
 ·unfold updA; rw [if_neg b]; exact ho j a b
theorem KpAt.drop {L : List (List UInt8)} {j : Nat} (h : KpAt w W s m c F B kv ks (gone L j) u) (hj : j < L.length) (hL : L.length <= 60) (hn : nameL L[j] = true) (hu : u <= 600000) :
  Calls Tryz.prog 12 #[.pointer (some ⟨s, 0, none⟩), .int .i64 3, strD L[j]] W fun e W' => e = .returned (.tuple #[.int .i64 5, .int .i64 0]) /\ KpAt w W' s m c F B kv ks (gone L (j + 1)) (u + 3000) := by
 have hD := h.dr
 obtain ⟨Pg, Cm, fs, f1, f3, h0, g1, k1, d1, g3, k3, d3, ho⟩ := hD.st
 have hl := gone_length hj
 have l3 : (gone L j).length <= 60 := by omega
 have hb := ube_small l3
 have hN := fun W => dIsName_all (⟨L[j].toArray⟩ : ByteArray) W
 rw [nameOk_eq] at hN
 have e1 : ((⟨L[j].toArray⟩ : ByteArray)).data.toList = L[j] := by simp
 rw [e1, hn] at hN
 have hA := dasked_ok h0 g3 k3 (by omega) ⟨L[j].toArray⟩ hN
 refine (ddrop_known (gone L j) L[j] hD.ok3 (by omega) h0 g3 d3 (by omega) hA (lookE_gone hj) (by omega)).mono ?_
 rintro e W' ⟨rfl, hk, Pg', f', q1, q2, q3⟩
 have e5 : ((gone L j).getD j (0, [])).1 = 5 := by rw [List.getD_eq_getElem?_getD, gone_hi (Nat.le_refl j) hj]; rfl
 rw [e5]
 have hok := (remE_ok hD.ok3 j).1
 rw [remE_gone hj] at q2 hok
 refine ⟨rfl, h.to ⟨hD.low.trans (hk.below hD.low.size hD.new), hD.new, ⟨Pg', Cm, _, f1, f', q3.more (by omega), ?_, k1, d1, updA_self _ _ _, by rw [q1, k3], q2, fun j a b => ?_⟩, hD.ok1, hok⟩ hk⟩
 ·unfold updA; rw [if_neg (by decide)]; exact g1
 ·unfold updA; rw [if_neg b]; exact ho j a b
theorem KpAt.list (h : KpAt w W s m c F B kv ks e3 u) (l3 : e3.length <= 60) (hu : u <= 600000) :
  Calls Tryz.prog 15 #[.pointer (some ⟨s, 0, none⟩), .int .i64 3] W fun e W' => (∃ a n, e = .returned (.tuple #[.slice a (namesS e3).length n, .int .i64 0])) /\ KpAt w W' s m c F B kv ks e3 (u + 3000) := by
 refine (h.dr.list3 l3 (by omega)).mono ?_
 rintro e W' ⟨⟨lv, rfl, ⟨a, n, rfl, -⟩, -⟩, -, hd, hk⟩
 rw [List.length_map]
 exact ⟨⟨a, n, rfl⟩, h.to hd hk⟩
theorem DrAt.free (h : DrAt w W s m c F [] [] u) (hu : u <= 700000) :
  Calls Tryz.prog 14 #[.pointer (some ⟨m, 0, none⟩)] W fun e W' => (∃ x : Int, e = .returned (.tuple #[.int .i64 95, .int .i64 x])) /\ DrAt w W' s m c F [] [] (u + 2) /\ Keeps F W W' := by
 obtain ⟨Pg, Cm, fs, f1, f3, h0, g1, k1, d1, g3, k3, d3, ho⟩ := h.st
 have hfr := h0.good.free
 have c1 := (h0.good.node 1 f1 g1 (fun e => e)).2.1
 have c3 := (h0.good.node 3 f3 g3 (fun e => e)).2.1
 rw [d1] at c1
 rw [d3] at c3
 rw [sumC_two g1 g3 ho, c1, c3] at hfr
 have e0 : needN (entsB []).length = 0 := by decide
 rw [e0] at hfr
 obtain ⟨D, hp⟩ := h0.pc
 refine (aFree_any h0.map h0.mF (by omega) (by omega) h0.good.i5 (by omega) hp).mono ?_
 rintro e W' ⟨rfl, hk, hp'⟩
 have e9 : (freeTo (Pg 2) (3 + 16 / 8) 100 4096).length = 95 := by unfold frL at hfr; omega
 refine ⟨⟨_, by rw [e9]; rfl⟩, ⟨h.low.trans (hk.below h.low.size h.new), h.new, ⟨Pg, Cm, fs, f1, f3, ⟨h0.map.keep hk h0.mF, h0.store.keep hk h0.sF, h0.mF, h0.sF, h0.few, ⟨D, hp'⟩, h0.good⟩, g1, k1, d1, g3, k3, d3, ho⟩, h.ok1, h.ok3⟩, hk⟩
theorem DrAt.map {e1 : List (Nat × List UInt8)} (h : DrAt w W s m c F e1 e3 u) : Calls Tryz.prog 13 #[.pointer (some ⟨s, 0, none⟩)] W fun e w' => e = .returned (.pointer (some ⟨m, 0, none⟩)) /\ w' = W := by
 obtain ⟨Pg, Cm, fs, f1, f3, h0, -⟩ := h.st
 exact iMap_any h0.store
theorem DrAt.empty3 {e1 : List (Nat × List UInt8)} (h : DrAt w W s m c F e1 [] u) (hu : u <= 700000) :
  Calls Tryz.prog 16 #[.pointer (some ⟨s, 0, none⟩), .int .i64 3] W fun e W' => e = .returned (.tuple #[.bool true, .int .i64 0]) /\ Below w.heap.size w W' := by
 obtain ⟨Pg, Cm, fs, f1, f3, h0, g1, k1, d1, g3, k3, d3, ho⟩ := h.st
 refine (dempty_none h0 g3 k3 d3 (by omega)).mono ?_
 rintro e W' ⟨rfl, hk⟩
 exact ⟨rfl, h.low.trans (hk.below h.low.size h.new)⟩
theorem DrAt.lt {e1 : List (Nat × List UInt8)} (h : DrAt w W s m c F e1 e3 u) : ∀ i, F i -> i < W.heap.size := by
 obtain ⟨Pg, Cm, fs, f1, f3, h0, -⟩ := h.st
 exact h0.lt
end
end
section
open Go.RowKit
theorem binOp_geq_str (t : TypeId) (a b : ByteArray) : binOp .geq t (.string a) (.string b) = pure (.bool !(Op.bytesLess a.toList b.toList)) := by simp [binOp, Op.stringOp]
attribute [local go_sem] binOp_geq_str
theorem RdT.get {w : World} {a : Option Addr} {n c : Nat} {xs : List ByteArray} (h : RdT w (.slice a n c) xs) {k : Nat} (hk : k < xs.length) : n = xs.length /\ ∃ b o, a = some ⟨b, o, none⟩ /\ w.cell? ⟨b, o + k, none⟩ = some (.string xs[k]) := by
 obtain ⟨a', c', e1, -, -, f1⟩ := h
 simp only [Value.slice.injEq] at e1
 obtain ⟨rfl, rfl, rfl⟩ := e1
 obtain ⟨b, o, e, -, hc⟩ := f1 k hk
 exact ⟨rfl, b, o, e, hc⟩
end
section
set_option maxRecDepth 100000
set_option maxHeartbeats 4000000
open Go.RowKit
theorem namesS_len (acc : List (List UInt8)) : (namesS (fives acc)).length = acc.length := by rw [namesS_fives, List.length_mergeSort]
theorem strD_data (x : ByteArray) : strD x.data.toList = .string x := by unfold strD; simp
theorem dirGives_walk (v : Value) (xs : List ByteArray) (w : World) (hr : RdT w v xs) (hV : ∃ m, w.cell? ⟨0, 0, none⟩ = some (.int .i64 m)) : Calls Tryz.prog 4 #[v] w fun e w' => e = .returned (.bool true) /\ Below w.heap.size w w' := by
 have HV : Hid (∀ W, Below w.heap.size w W -> ∃ m, W.cell? ⟨0, 0, none⟩ = some (.int .i64 m)) := fun W hb => hV.imp fun m hm => (World.cell?_of_block (w := w) (hb.block 0 (World.block_lt_of_cell? w _ hm))).trans hm
 have HR := hid hr
 obtain ⟨a, c, rfl, hc, hcm, -⟩ := hr
 have hxl : (xs.length : Int) <= 9223372036854775807 := by omega
 clear hV hcm hc
 go_enter Tryz.func4, Tryz.ntmps4
 go_wp2_with fail
 refine (l7opened_any w).mono ?_
 rintro e w1 ⟨s, m, c1, F, r, Pg, rfl, hF, hb1, hs1⟩
 have HD1 := hid (DrAt.start hF hb1 hs1)
 clear hF hs1 hb1
 go_wp2_with fail
 refine (l7live_any w1 (HV.out _ HD1.out.low)).mono ?_
 rintro e w2 ⟨rfl, hb2⟩
 have HD2 := hid (HD1.out.up hb2)
 clear hb2 HD1
 go_wp2_with fail
 refine HD2.out.map.mono ?_
 rintro e w3 ⟨rfl, h3⟩
 obtain rfl := h3.symm
 clear h3
 go_wp2_with fail
 refine (HD2.out.free (by omega)).mono ?_
 rintro e w3 ⟨⟨x3, rfl⟩, hd3, -⟩
 obtain ⟨B, hB⟩ : ∃ B, B = w3.heap.size := ⟨_, rfl⟩
 have HK3 : Hid (KpAt w w3 s m c1 F B (.slice none 0 0) [] (fives (adAll [])) (11 + 3000 * 0)) := by rw [hB]; exact ⟨hd3, rowT_nil _ _, hd3.lt, hd3.low.size, Nat.le_refl _⟩
 clear hd3 HD2 hB
 go_wp2
 go_loopw [8, 9] (fun kv iv wr => ∃ (k n : Nat) (ka : Option Addr) (kc : Nat), k <= xs.length /\ k <= 40 /\ kv = .slice ka n kc /\ iv = .int .i64 k /\ Hid (n = (adAll ((xs.take k).map (·.data.toList))).length) /\ Hid (KpAt w wr s m c1 F B (.slice ka n kc) (adAll ((xs.take k).map (·.data.toList))) (fives (adAll ((xs.take k).map (·.data.toList)))) (11 + 3000 * k))) (fun _ iv _ => xs.length - (intOf iv).toNat)
 case atStart => exact ⟨0, 0, none, 0, by omega, by omega, rfl, rfl, rfl, HK3⟩
 case round =>
  obtain ⟨k, n, ka, kc, hk, hk40, rfl, rfl, HN, HK⟩ := hrel
  clear HK3
  have hfc := adAll_facts ((xs.take k).map (·.data.toList))
  have hlen := hfc.2.2
  rw [List.length_map, List.length_take] at hlen
  have hn40 : n <= 40 := by rw [HN.out]; omega
  by_cases hlt : k < xs.length /\ k < 40
  ·obtain ⟨hlt, hk4⟩ := hlt
   have hi0 : (0 : Int) <= (k : Int) := by omega
   have hi1 : (k : Int) < (xs.length : Int) := by omega
   have hi2 : (k : Int) < 40 := by omega
   obtain ⟨-, b0, o0, rfl, d0⟩ := (HR.out.up HK.out.dr.low).get hlt
   have htk : adAll ((xs.take (k + 1)).map (·.data.toList)) = adN (adAll ((xs.take k).map (·.data.toList))) xs[k].data.toList := by
    rw [List.take_succ_eq_append_getElem hlt, List.map_append, <- adAll_snoc]; rfl
   have HRx : Hid (∀ W, Below w.heap.size w W -> W.cell? ⟨b0, o0 + k, none⟩ = some (.string xs[k])) := fun W hb => by
    obtain ⟨-, b0', o0', e', d'⟩ := (HR.out.up hb).get hlt
    simp only [Option.some.injEq, Addr.mk.injEq, and_true] at e'
    obtain ⟨rfl, rfl⟩ := e'
    exact d'
   have HTk := hid htk
   generalize adAll ((xs.take k).map (·.data.toList)) = A at *
   have hAd := HK.out.add xs[k] (by unfold fives; rw [List.length_map]; omega) (by omega)
   rw [addR_fives] at hAd
   have HCs := hid (addR_cases A xs[k].data.toList)
   have HAd := hid hAd
   generalize (addR _ _ 5).1 = z at *
   obtain ⟨x, hx⟩ : ∃ x, x = xs[k] := ⟨_, rfl⟩
   rw [<- hx] at HAd HCs HTk HRx d0
   clear hAd htk hlen hfc hx HK
   go_wp2_with fail
   refine HAd.out.mono ?_
   clear HAd
   rintro e w4 ⟨rfl, hk4'⟩
   have e3k : 11 + 3000 * k + 3000 = 11 + 3000 * (k + 1) := by omega
   rw [e3k] at hk4'
   have d4 := HRx.out w4 hk4'.dr.low
   rcases HCs.out with ⟨hnm, rfl, hA⟩ | ⟨hz, hA⟩
   ·rw [hA] at hk4'
    have hx9 := (nameL_len hnm).2
    have hbx := (Below.refl w4.heap.size w4).alloc (Nat.le_refl _) (.cells #[.string x] 9)
    have hcx := cell_of_block (block_new w4 (.cells #[.string x] 9)) 0
    have HCx : Hid ((w4.alloc (.cells #[.string x] 9)).cell? ⟨w4.heap.size, 0, none⟩ = some (strD x.data.toList)) := by rw [strD_data]; exact hcx
    have HK4 := hid (hk4'.up hbx)
    have HX9 := hid hx9
    have HA := hid hA
    have HLn : Hid (A.length < 4096) := by have := HN.out; unfold Hid; omega
    clear HCs hk4' hx9 hbx hcx hnm hA
    go_wp2_with (refine wpList_append_str rfl (.tmp 53) (.tmp 58) rfl rfl x.data.toList HX9.out w4.heap.size 1 rfl HK4.out.row HCx.out HLn.out HK4.out.le ?_; intro g9 cap9 w9 hr9 hg9 _; have HK9 := hid (HK4.out.app hr9 hg9); clear hr9 hg9; rw [<- HN.out] at HK9; rw [<- HN.out])
    have HK5 : Hid (KpAt w w9 s m c1 F B (.slice (some ⟨g9, 0, none⟩) (n + 1) cap9) (adAll ((xs.take (k + 1)).map (·.data.toList))) (fives (adAll ((xs.take (k + 1)).map (·.data.toList)))) (11 + 3000 * (k + 1))) := by rw [HTk.out, HA.out]; exact HK9.out
    have HN5 : Hid (n + 1 = (adAll ((xs.take (k + 1)).map (·.data.toList))).length) := by rw [HTk.out, HA.out, List.length_append, <- HN.out]; rfl
    clear HK9 HK4 HTk HA HCx d4 HRx
    go_wp2
    exact ⟨⟨k + 1, n + 1, _, _, by omega, by omega, rfl, by go_num, HN5, HK5⟩, by simp [intOf]; omega⟩
   ·have hz0 : (z == 0) = false := beq_false_of_ne hz
    rw [hA] at hk4'
    have HK5 : Hid (KpAt w w4 s m c1 F B (.slice ka n kc) (adAll ((xs.take (k + 1)).map (·.data.toList))) (fives (adAll ((xs.take (k + 1)).map (·.data.toList)))) (11 + 3000 * (k + 1))) := by rw [HTk.out, hA]; exact hk4'
    have HN5 : Hid (n = (adAll ((xs.take (k + 1)).map (·.data.toList))).length) := by rw [HTk.out, hA]; exact HN.out
    clear HCs hk4' hA HTk d4 HRx hz
    go_wp2
    exact ⟨⟨k + 1, n, ka, kc, by omega, by omega, rfl, by go_num, HN5, HK5⟩, by simp [intOf]; omega⟩
  ·have hke : k = xs.length \/ k = 40 := by omega
   have HLn : Hid (∀ (j : Nat) (hj : j < (adAll ((xs.take k).map (·.data.toList))).length), nameL (adAll ((xs.take k).map (·.data.toList)))[j] = true) := fun j hj => ((hfc.2.1 _).1 (List.getElem_mem hj)).2
   have HKx : Hid (KpAt w wr s m c1 F B (.slice ka n kc) (adAll ((xs.take k).map (·.data.toList))) (fives (adAll ((xs.take k).map (·.data.toList)))) 130000) := ⟨HK.out.dr.more (by omega), HK.out.row, HK.out.low, HK.out.ge, HK.out.le⟩
   have hcs : (k = xs.length) \/ (k = 40 /\ 40 < xs.length) := by omega
   clear hfc hlen HK hlt hke
   generalize adAll ((xs.take k).map (·.data.toList)) = L at *
   have HLi := hid (HKx.out.list (by unfold fives; rw [List.length_map, <- HN.out]; omega) (by omega))
   rw [namesS_len, <- HN.out] at HLi
   clear HKx
   rcases hcs with hcs | hcs
   case' inl =>
    have q1 : ¬ (k : Int) < (xs.length : Int) := by omega
    clear hcs
    go_wp2_with fail
   case' inr =>
    have q1 : (k : Int) < (xs.length : Int) := by omega
    have q2 : ¬ (k : Int) < 40 := by omega
    clear hcs
    go_wp2_with fail
    clear q2
   all_goals
    clear q1
    refine HLi.out.mono ?_
    clear HLi
    rintro e w5 ⟨⟨la, ln, rfl⟩, hk5⟩
    have HK5 : Hid (KpAt w w5 s m c1 F B (.slice ka n kc) L (gone L 0) (133000 + 3000 * 0)) := by rw [gone_zero]; exact hk5
    have hne : ((n : Int) != (n : Int)) = false := by rw [bne_eq_false_iff_eq]
    clear hk5
    go_wp2
    clear hne
    go_loopw [12] (fun iv wr => ∃ j : Nat, j <= n /\ iv = .int .i64 j /\ Hid (KpAt w wr s m c1 F B (.slice ka n kc) L (gone L j) (133000 + 3000 * j))) (fun iv _ => n - (intOf iv).toNat)
    case atStart => exact ⟨0, Nat.zero_le _, rfl, HK5⟩
    case round =>
     obtain ⟨j, hj, rfl, HK⟩ := hrel
     clear HK5
     by_cases hjn : j < n
     ·have hi0 : (0 : Int) <= (j : Int) := by omega
      have hi1 : (j : Int) < (n : Int) := by omega
      have hjL : j < L.length := by rw [<- HN.out]; exact hjn
      obtain ⟨g, cap, ev, d0⟩ := HK.out.row.cell j hjL
      simp only [Value.slice.injEq] at ev
      obtain ⟨rfl, -, -⟩ := ev
      have HDr := hid (HK.out.drop hjL (by rw [<- HN.out]; omega) (HLn.out j hjL) (by omega))
      unfold strD at d0 HDr
      generalize (⟨L[j].toArray⟩ : ByteArray) = y at *
      clear HK
      go_wp2_with fail
      refine HDr.out.mono ?_
      clear HDr
      rintro e w6 ⟨rfl, hk6⟩
      have e3k : 133000 + 3000 * j + 3000 = 133000 + 3000 * (j + 1) := by omega
      rw [e3k] at hk6
      have HK6 := hid hk6
      clear hk6 d0 e3k
      go_wp2
      exact ⟨⟨j + 1, by omega, by go_num, HK6⟩, by simp [intOf]; omega⟩
     ·have hge : ¬ (j : Int) < (n : Int) := by omega
      have hjL : j = L.length := by rw [<- HN.out]; omega
      have HKe : Hid (DrAt w wr s m c1 F [] [] 400000) := by
       have h1 := HK.out.dr
       rw [hjL, gone_end] at h1
       exact h1.more (by have := HN.out; omega)
      clear HK hjL
      go_wp2_with fail
      refine HKe.out.map.mono ?_
      rintro e w7 ⟨rfl, h7⟩
      obtain rfl := h7.symm
      clear h7
      go_wp2_with fail
      refine (HKe.out.free (by omega)).mono ?_
      rintro e w8 ⟨⟨x8, rfl⟩, hd8, -⟩
      have HEm := hid (hd8.empty3 (by omega))
      clear hd8 HKe
      go_wp2_with fail
      refine HEm.out.mono ?_
      clear HEm
      rintro e w9 ⟨rfl, hb9⟩
      have HB9 := hid hb9
      clear hb9
      go_wp2
      go_ret
      exact ⟨rfl, HB9.out⟩
end
end Go.Proofs.YtehkeadpgedolaaGreatDoor
