/- Several of my texts in one: R6Size, R6Writ, R6Ops, L6DoG, R6Get, L6MuchA, L6Much, IDeeds, InGivesP, InApartP, InApartW. -/
import Derived.Test.YtamfgnfclamamaaGreatJoined7
import Derived.Test.YtamfgnfclamamaaGreatJoined4
import Derived.Test.YtamfgnfclamamaaGreatJoined1
import Derived.Test.YtamfgnfclamamaaGreatJoined3
set_option maxRecDepth 100000
set_option maxHeartbeats 2000000
namespace Go.Proofs.YtamfgnfclamamaaGreat
section
open Go.RowKit
section
variable {w w' : World} {F : Nat -> Prop} {r m : Nat}
theorem v6data_any (s : Nat) (hs : s <= 1000000) (w : World) : Calls Tryz.prog 149 #[.int .i64 s] w fun e w' => e = .returned (.int .i64 (fillN s : Nat)) /\ w' = w := by
 have h1 : IntKind.i64.wrap ((s : Int) + 511) = (s : Int) + 511 := IntWalk.i64_in _ (by omega)
 go_enter Tryz.func149, Tryz.ntmps149
 go_wp2_with fail
 go_ret
 refine ⟨?_, rfl⟩
 have : ((s : Int) + 511) / 512 = ((fillN s : Nat) : Int) := by unfold fillN; omega
 simp [this]
theorem row_ge {base n : Nat} {e : TypeId} {v : Value} {xs : List Value} (h : w.ownsRow base e 1 v n xs) (i : Nat) (hi : v.ownBlock = some i) : base <= i /\ i < w.heap.size := by
 rcases h.2 with ⟨rfl, -⟩ | ⟨g, cap, cur, rfl, h1, h2, -⟩
 ·cases hi
 ·cases hi; exact ⟨h1, lt_of_heap h2⟩
theorem Ref6.cell0 (h : Ref6 w F r m) : w.cell? ⟨r, 0, none⟩ = some (.pointer (some ⟨m, 0, none⟩)) := by
 obtain ⟨lb, lc, km, kb, kc, fl, kl, h1, -⟩ := h.heap
 exact cell_of_block h1 0
theorem numsI_snoc (xs : List Int) (x : Int) : numsI (xs ++ [x]) = numsI xs ++ numsI [x] := by simp [numsI]
def sliceLen : Value -> Nat
 | .slice _ n _ => n
 | _ => 0
def szF (w : World) (F : Nat -> Prop) (pv : Value) : Nat -> Prop := fun i => F i \/ i = w.heap.size \/ pv.ownBlock = some i
structure SzI (w wr : World) (F : Nat -> Prop) (r m : Nat) (k0 m0 l0 : Int) (bv dv : Value) (pv : Value) (xs : List Int) : Prop where
 ref : Ref6 wr (szF w F pv) r m
 box : ∃ ind : Int, wr.heap[w.heap.size]? = some (.cells #[.int .i64 k0, .int .i64 m0, .int .i64 l0, bv, dv, .int .i64 ind] 94 (0, 0))
 row : wr.ownsRow (w.heap.size + 1) 3 1 pv xs.length (numsI xs)
 keep : Keeps (fun i => i = m) w wr
theorem sz_next {W2 W3 W4 : World} {k0 m0 l0 ind1 : Int} {bv dv : Value} {pa : Option Addr} {pc n2 ds : Nat} {xs : List Int} {pv' : Value} (hlt : xs.length < ds) (hds : ds <= 138) (hr : Ref6 W2 (szF w F (.slice pa xs.length pc)) r m)
  (hbx : W2.heap[w.heap.size]? = some (.cells #[.int .i64 k0, .int .i64 m0, .int .i64 l0, bv, dv, .int .i64 ind1] 94 (0, 0))) (hrw : W2.ownsRow (w.heap.size + 1) 3 1 (.slice pa xs.length pc) xs.length (numsI xs)) (hk : Keeps (fun i => i = m) w W2)
  (hb3 : Below W2.heap.size W2 W3) (hs3 : W3.heap.size = W2.heap.size + 1) (hown : W4.ownsRow (w.heap.size + 1) 3 1 pv' (xs.length + 1) (numsI (xs ++ [(n2 : Int)]))) (hgr : W3.grownBy W4 (Value.slice pa xs.length pc).ownBlock) (hat : pv'.ownBlock = (Value.slice pa xs.length pc).ownBlock \/ pv'.ownBlock = some W3.heap.size) :
  (∃ (xs' : List Int) (pa' : Option Addr) (pc' : Nat), pv' = .slice pa' xs'.length pc' /\ xs'.length <= 138 /\ Hid (SzI w W4 F r m k0 m0 l0 bv dv pv' xs')) /\ ds - sliceLen pv' < ds - sliceLen (.slice pa xs.length pc) := by
 have hl : (xs ++ [(n2 : Int)]).length = xs.length + 1 := by simp
 obtain ⟨pa', pc', rfl⟩ : ∃ pa' pc', pv' = .slice pa' (xs.length + 1) pc' := by
  rcases hown.2 with ⟨e, h0⟩ | ⟨g, cap, cur, e, -⟩
  ·omega
  ·exact ⟨_, cap, e⟩
 have k34 : Keeps (fun i => (Value.slice pa xs.length pc).ownBlock = some i) W3 W4 := Keeps.of_grown hgr (fun i e => e)
 have k24 : Keeps (fun i => (Value.slice pa xs.length pc).ownBlock = some i) W2 W4 := (Keeps.of_below hb3 : Keeps (fun i => (Value.slice pa xs.length pc).ownBlock = some i) W2 W3).trans k34 (fun i e => .inl e)
 have hbi : ∀ i, (Value.slice pa xs.length pc).ownBlock = some i -> w.heap.size + 1 <= i := fun i e => (row_ge hrw i e).1
 refine ⟨⟨xs ++ [(n2 : Int)], pa', pc', by rw [hl], by omega, ?_⟩, by show ds - (xs.length + 1) < ds - xs.length; omega⟩
 refine ⟨hr.keep k24 (fun i e => .inr (.inr e)) (fun i e => ?_), ⟨ind1, k24.heap hbx (fun e => by have := hbi _ e; omega)⟩, by rw [hl]; exact hown, hk.trans k24 (fun i e => .inr (by have := hbi i e; omega))⟩
 rcases e with e | e | e
 ·exact .inl (.inl e)
 ·exact .inl (.inr (.inl e))
 ·rcases hat with h1 | h1
  ·exact .inl (.inr (.inr (h1.symm.trans e)))
  ·rw [h1] at e; cases e; exact .inr (by omega)
theorem sz_cut {W2 : World} {k0 m0 l0 ind1 : Int} {bv dv : Value} {g pc q ds : Nat} {xs : List Int} (hq : q + 1 = xs.length) (hxl : xs.length <= 138) (hgt : ds < xs.length) (hr : Ref6 W2 (szF w F (.slice (some ⟨g, 0, none⟩) xs.length pc)) r m)
  (hbx : W2.heap[w.heap.size]? = some (.cells #[.int .i64 k0, .int .i64 m0, .int .i64 l0, bv, dv, .int .i64 ind1] 94 (0, 0))) (hrw : W2.ownsRow (w.heap.size + 1) 3 1 (.slice (some ⟨g, 0, none⟩) xs.length pc) xs.length (numsI xs)) (hk : Keeps (fun i => i = m) w W2) :
  (∃ (xs' : List Int) (pa' : Option Addr) (pc' : Nat), Value.slice (some ⟨g, 0, none⟩) q pc = .slice pa' xs'.length pc' /\ xs'.length <= 138 /\ ds <= xs'.length /\ Hid (SzI w W2 F r m k0 m0 l0 bv dv (.slice (some ⟨g, 0, none⟩) q pc) xs')) /\ sliceLen (.slice (some ⟨g, 0, none⟩) q pc) < sliceLen (.slice (some ⟨g, 0, none⟩) xs.length pc) := by
 have hl : (xs.take q).length = q := by rw [List.length_take]; omega
 refine ⟨⟨xs.take q, _, pc, by rw [hl], by omega, by omega, hr, ⟨ind1, hbx⟩, ?_, hk⟩, by show q < xs.length; omega⟩
 rw [hl]
 rcases hrw.2 with ⟨e, h0⟩ | ⟨g', cap, cur, e, h1, h2, h3, h4, h5, h6⟩
 ·omega
 ·rw [Value.slice.injEq] at e
  obtain ⟨e, -, rfl⟩ := e
  cases e
  refine ⟨by simp [numsI]; omega, .inr ⟨g, pc, cur, rfl, h1, h2, by omega, h4, h5, ?_⟩⟩
  have h7 := congrArg (List.take (q * 1)) h6
  rw [List.take_take, Nat.min_eq_left (by omega)] at h7
  rw [h7, numsI, numsI, List.map_take, Nat.mul_one]
structure BzI (w W : World) (F : Nat -> Prop) (r m : Nat) (k0 m0 l0 : Int) (bv dv pv : Value) (xs : List Int) (B : Nat) (v : Value) (l : List UInt8) : Prop where
 ref : Ref6 W (fun i => F i \/ i = w.heap.size \/ v.ownBlock = some i) r m
 box : ∃ ind : Int, W.heap[w.heap.size]? = some (.cells #[.int .i64 k0, .int .i64 m0, .int .i64 l0, bv, dv, .int .i64 ind] 94 (0, 0))
 row : W.ownsRow (w.heap.size + 1) 3 1 pv xs.length (numsI xs)
 own : W.ownsRow B 5 1 v l.length (l.map U8)
 keep : Keeps (fun i => i = m) w W
 pvB : ∀ i, pv.ownBlock = some i -> i < B
 boxB : w.heap.size < B
 size : B <= W.heap.size
theorem bz_next {W2 W3 W4 : World} {k0 m0 l0 : Int} {bv dv pv : Value} {xs : List Int} {B : Nat} {va : Option Addr} {vc : Nat} {l : List UInt8} {v' : Value} (h : BzI w W2 F r m k0 m0 l0 bv dv pv xs B (.slice va l.length vc) l)
  (hb3 : Below W2.heap.size W2 W3) (hs3 : W3.heap.size = W2.heap.size + 1) (hown : W4.ownsRow B 5 1 v' (l.length + 1) ((l ++ [0]).map U8)) (hgr : W3.grownBy W4 (Value.slice va l.length vc).ownBlock) (hat : v'.ownBlock = (Value.slice va l.length vc).ownBlock \/ v'.ownBlock = some W3.heap.size) :
  ∃ va' vc', v' = .slice va' (l ++ [(0 : UInt8)]).length vc' /\ BzI w W4 F r m k0 m0 l0 bv dv pv xs B v' (l ++ [0]) := by
 have hl : (l ++ [(0 : UInt8)]).length = l.length + 1 := by simp
 obtain ⟨va', vc', rfl⟩ : ∃ va' vc', v' = .slice va' (l.length + 1) vc' := by
  rcases hown.2 with ⟨e, h0⟩ | ⟨g, cap, cur, e, -⟩
  ·omega
  ·exact ⟨_, cap, e⟩
 have k34 : Keeps (fun i => (Value.slice va l.length vc).ownBlock = some i) W3 W4 := Keeps.of_grown hgr (fun i e => e)
 have k24 : Keeps (fun i => (Value.slice va l.length vc).ownBlock = some i) W2 W4 := (Keeps.of_below hb3 : Keeps (fun i => (Value.slice va l.length vc).ownBlock = some i) W2 W3).trans k34 (fun i e => .inl e)
 have hbi : ∀ i, (Value.slice va l.length vc).ownBlock = some i -> B <= i := fun i e => (row_ge h.own i e).1
 have hbb := h.boxB
 have hws := h.keep.size
 obtain ⟨ind, hbx⟩ := h.box
 refine ⟨va', vc', by rw [hl], h.ref.keep k24 (fun i e => .inr (.inr e)) (fun i e => ?_), ⟨ind, k24.heap hbx (fun e => by have := hbi _ e; omega)⟩, k24.row h.row (fun i e => by have h5 := h.pvB i e; intro e2; have := hbi i e2; omega), by rw [hl]; exact hown, h.keep.trans k24 (fun i e => .inr (by have := hbi i e; omega)), h.pvB, hbb, Nat.le_trans h.size k24.size⟩
 rcases e with e | e | e
 ·exact .inl (.inl e)
 ·exact .inl (.inr (.inl e))
 ·rcases hat with h1 | h1
  ·exact .inl (.inr (.inr (h1.symm.trans e)))
  ·rw [h1] at e; cases e; exact .inr (by omega)
theorem v6resize_r (h : Ref6 w F r m) (hFl : ∀ i, F i -> i < w.heap.size) (j : Nat) (hj : j < 16) (s : Nat) (hs : s <= 70656) : Calls Tryz.prog 100 #[.pointer (some ⟨r, 0, none⟩), .int .i64 j, .int .i64 s] w fun e w' => R6To w F r m w' /\ ((∃ b : Bool, b = false /\ e = .returned (.bool b)) \/ (e = .returned (.bool true) /\ Keeps (fun i => i = r \/ i = m) w w' /\ Ref6 w' F r m /\ ∃ g cp f, w'.cell? ⟨r, 1, none⟩ = some (.slice (some ⟨g, 0, none⟩) 16 cp) /\ w'.rangeAt g (j * 6) (RF.cells f) /\ f.ok w' (zOf F r m) /\ f.b.length = s)) := by
 obtain ⟨lb, lc, km, kb, kc, fl, kl, h1, h2, -⟩ := h.heap
 have c1 : w.cell? ⟨r, 1, none⟩ = some (.slice (some ⟨lb, 0, none⟩) 16 lc) := cell_of_block h1 1
 obtain ⟨k0, m0, l0, b0, ba, bc, d0, da, dc, ind, x0, x1, x2, x3, x4, x5, hok⟩ := h2.six j hj
 have HFl := hid hFl
 have HR := hid h
 have HOk := hid hok
 obtain ⟨i0, hi0, hz0, hz1, hz2⟩ := info_parts infoInt
 have HII := hid hi0
 obtain ⟨w1, hw1⟩ : ∃ w1, w1 = w.alloc (.cells #[.int .i64 k0, .int .i64 m0, .int .i64 l0, .slice ba b0.length bc, .slice da d0.length dc, .int .i64 ind] 94) := ⟨_, rfl⟩
 have HB1 : Hid (Below w.heap.size w w1) := by rw [hw1]; exact (Below.refl _ w).alloc (Nat.le_refl _) _
 have HX1 : Hid (w1.heap[w.heap.size]? = some (.cells #[.int .i64 k0, .int .i64 m0, .int .i64 l0, .slice ba b0.length bc, .slice da d0.length dc, .int .i64 ind] 94 (0, 0))) := by rw [hw1]; exact block_new w _
 have HS1 : Hid (w1.heap.size = w.heap.size + 1) := by rw [hw1]; exact World.size_alloc _ _
 have HW1 := hid hw1
 have HD1 : Hid (0 < d0.length -> ∃ ad, da = some ad /\ ∀ j u, (numsI d0)[j]? = some u -> w1.cell? (ad.add j) = some u) := fun hp => by
  obtain ⟨b, o, e, hc⟩ := hok.data 0 hp
  refine ⟨⟨b, o, none⟩, e, fun t u hu => ?_⟩
  have ht : t < d0.length := by have := (List.getElem?_eq_some_iff.1 hu).1; simpa [numsI] using this
  have h5 := hc t ht
  rw [Addr.add_mid, HB1.out.cell (World.block_lt_of_cell? w _ h5), h5]
  rw [numsI, List.getElem?_map, List.getElem?_eq_getElem ht] at hu
  exact hu
 have hdl : d0.length <= 138 := hok.dl
 clear h h1 h2 hFl hok hi0 hw1
 go_enter Tryz.func100, Tryz.ntmps100
 go_wp2_with (rw [<- HW1.out]; refine wpList_append_row Tryz.underlying60 HII.out hz0 hz1 hz2 rfl (by omega) rfl (.tmp 21) (.tmp 23) rfl (w.heap.size + 1) (.slice none 0 0) 0 [] rfl (World.ownsRow_nil _ _ _ _) da d0.length dc (numsI d0) rfl (by simp [numsI]) HD1.out (fun u hu => by obtain ⟨n, rfl⟩ := numsI_int u hu; rfl) (by omega) (by rw [HS1.out]; exact Nat.le_refl _) ?_; intro pv w2 hown hgr hat; rw [Nat.zero_add, List.nil_append] at hown)
 have hb12 : Below w1.heap.size w1 w2 := ⟨hgr.os, hgr.tape, hgr.output, hgr.size, fun k hk => hgr.block k hk (by simp [Value.ownBlock])⟩
 have hb02 := HB1.out.trans (hb12.mono HB1.out.size)
 obtain ⟨pa, pc, hpv⟩ : ∃ pa pc, pv = .slice pa d0.length pc := by
  rcases hown.2 with ⟨e, h0⟩ | ⟨g, cap, cur, e, -⟩
  ·exact ⟨none, 0, by rw [e, h0]⟩
  ·exact ⟨_, cap, e⟩
 have HSt : Hid (SzI w w2 F r m k0 m0 l0 (.slice ba b0.length bc) (.slice da d0.length dc) pv d0) := ⟨HR.out.keep (Keeps.of_below hb02 : Keeps (fun _ => False) w w2) (fun _ e => e.elim) (fun i e => by rcases e with e | e | e; exact .inl e; exact .inr (by omega); exact .inr (by have := (row_ge hown i e).1; omega)), ⟨ind, below_block hb12 HX1.out (lt_of_heap HX1.out)⟩, hown, Keeps.of_below hb02⟩
 subst hpv
 have HDt := hid (fun W => v6data_any s (by omega) W)
 have HML : Hid (m < w.heap.size) := HR.out.lt.2
 have hds : fillN s <= 138 := by unfold fillN; omega
 generalize fillN s = ds at *
 clear hown hgr hat hb12 hb02 c1 x0 x1 x2 x3 x4 x5 HX1 HD1 HW1 HS1 HB1
 go_loopw [8] (fun v wr => ∃ (xs : List Int) (pa : Option Addr) (pc : Nat), v = .slice pa xs.length pc /\ xs.length <= 138 /\ Hid (SzI w wr F r m k0 m0 l0 (.slice ba b0.length bc) (.slice da d0.length dc) v xs)) (fun v _ => ds - sliceLen v)
 case atStart => exact ⟨d0, pa, pc, rfl, hdl, HSt⟩
 case round =>
  obtain ⟨xs, pa, pc, rfl, hxl, HI⟩ := hrel
  clear HSt
  by_cases hlt : xs.length < ds
  ·have hlt' : (xs.length : Int) < (ds : Int) := by omega
   obtain ⟨ind1, hbx⟩ := HI.out.box
   have HRf := hid HI.out.ref
   have HRw := hid HI.out.row
   have HKp := hid HI.out.keep
   have HBx := hid hbx
   have y5 : wr.cell? ⟨w.heap.size, 5, none⟩ = some (.int .i64 ind1) := cell_of_block hbx 5
   clear HI hbx
   by_cases h10 : xs.length = 10
   ·have hq10 : ((xs.length : Int) == 10) = true := by rw [h10]; rfl
    clear h10
    by_cases hi0 : ind1 = 0
    ·go_wp2_with fail
     refine (HDt.out wr).mono ?_
     rintro e W0 ⟨rfl, h3⟩
     obtain rfl := h3.symm
     clear h3
     have hsz : ∀ i, szF w F (.slice pa xs.length pc) i -> i < wr.heap.size := fun i hi => by
      rcases hi with hi | hi | hi
      ·exact Nat.lt_of_lt_of_le (HFl.out i hi) HKp.out.size
      ·rw [hi]; exact lt_of_heap HBx.out
      ·exact (row_ge HRw.out i hi).2
     have HPg := hid (v5Page_r HRf.out hsz)
     have cr : wr.cell? ⟨r, 0, none⟩ = some (.pointer (some ⟨m, 0, none⟩)) := HRf.out.cell0
     clear hsz
     go_wp2_with fail
     refine HPg.out.mono ?_
     clear HPg
     rintro e W1 ⟨hk2, hr2, rfl | ⟨n1, rfl⟩⟩
     ·have HK2 := hid (HKp.out.trans hk2 (fun i e => .inl e))
      have HR2 := hid (hr2.keep (Keeps.refl (fun _ => False) W1) (fun _ e => e.elim) (F' := F) (fun i e => .inl (.inl e)))
      clear hk2 hr2 cr
      go_wp2_with fail
      go_ret
      exact ⟨⟨HK2.out.mono (fun i e => .inr e), m, .inl rfl, HR2.out⟩, .inl ⟨false, rfl, rfl⟩⟩
     ·have HK2 := hid (HKp.out.trans hk2 (fun i e => .inl e))
      have HR2 := hid hr2
      have HRw2 := hid (hk2.row HRw.out (fun i e => by have h5 := row_ge HRw.out i e; have h7 := HML.out; intro e2; have e2' : i = m := e2; omega))
      have HBx2 := hid (hk2.heap HBx.out (fun e => by have e' : w.heap.size = m := e; have h7 := HML.out; omega))
      clear hk2 hr2 cr HRf HRw HKp HBx
      have z5 : W1.cell? ⟨w.heap.size, 5, none⟩ = some (.int .i64 ind1) := cell_of_block HBx2.out 5
      have g5 : W1.frozen? ⟨w.heap.size, 5, none⟩ = false := frozen_of_block HBx2.out 5
      obtain ⟨W5, hW5⟩ : ∃ W5, W5 = W1.setCell ⟨w.heap.size, 5, none⟩ (.int .i64 (n1 : Int)) := ⟨_, rfl⟩
      have k5 : Keeps (fun i => i = w.heap.size) W1 W5 := by rw [hW5]; exact (Keeps.refl _ W1).grown (grown_setCell (grown_refl _ _) _ _) (fun i e => .inl (Option.some.inj e).symm)
      have HBx : Hid (W5.heap[w.heap.size]? = some (.cells #[.int .i64 k0, .int .i64 m0, .int .i64 l0, .slice ba b0.length bc, .slice da d0.length dc, .int .i64 (n1 : Int)] 94 (0, 0))) := by rw [hW5]; exact block_setCell HBx2.out 5 _
      have HRf := hid (HR2.out.keep k5 (fun i e => .inr (.inl e)) (fun i e => .inl e))
      have HRw := hid (k5.row HRw2.out (fun i e => by have h5 := (row_ge HRw2.out i e).1; intro e2; have e2' : i = w.heap.size := e2; omega))
      have HKp := hid (HK2.out.trans k5 (fun i e => .inr (by have e' : i = w.heap.size := e; omega)))
      have HW5 := hid hW5
      clear k5 hW5 HR2 HRw2 HK2 HBx2 y5
      have hsz : ∀ i, szF w F (.slice pa xs.length pc) i -> i < W5.heap.size := fun i hi => by
       rcases hi with hi | hi | hi
       ·exact Nat.lt_of_lt_of_le (HFl.out i hi) HKp.out.size
       ·rw [hi]; exact lt_of_heap HBx.out
       ·exact (row_ge HRw.out i hi).2
      have HPg := hid (v5Page_r HRf.out hsz)
      have cr : (W1.setCell ⟨w.heap.size, 5, none⟩ (.int .i64 (n1 : Int))).cell? ⟨r, 0, none⟩ = some (.pointer (some ⟨m, 0, none⟩)) := by rw [<- HW5.out]; exact HRf.out.cell0
      clear hsz
      go_wp2_with fail
      rw [<- HW5.out]
      refine HPg.out.mono ?_
      clear HPg
      rintro e W2 ⟨hk2, hr2, rfl | ⟨n2, rfl⟩⟩
      ·have HK2 := hid (HKp.out.trans hk2 (fun i e => .inl e))
       have HR2 := hid (hr2.keep (Keeps.refl (fun _ => False) W2) (fun _ e => e.elim) (F' := F) (fun i e => .inl (.inl e)))
       clear hk2 hr2 cr
       go_wp2_with fail
       go_ret
       exact ⟨⟨HK2.out.mono (fun i e => .inr e), m, .inl rfl, HR2.out⟩, .inl ⟨false, rfl, rfl⟩⟩
      ·have HK2 := hid (HKp.out.trans hk2 (fun i e => .inl e))
       have HR2 := hid hr2
       have HRw2 := hid (hk2.row HRw.out (fun i e => by have h5 := row_ge HRw.out i e; have h7 := HML.out; intro e2; have e2' : i = m := e2; omega))
       have HBx2 := hid (hk2.heap HBx.out (fun e => by have e' : w.heap.size = m := e; have h7 := HML.out; omega))
       clear hk2 hr2 cr HRf HRw HKp HBx
       obtain ⟨W3, hW3⟩ : ∃ W3, W3 = W2.alloc (.cells #[.int .i64 (n2 : Int)] 3) := ⟨_, rfl⟩
       have hb3 : Below W2.heap.size W2 W3 := by rw [hW3]; exact (Below.refl _ W2).alloc (Nat.le_refl _) _
       have hc3 : W3.cell? ⟨W2.heap.size, 0, none⟩ = some (.int .i64 (n2 : Int)) := by rw [hW3]; exact cell_of_block (block_new W2 _) 0
       have hs3 : W3.heap.size = W2.heap.size + 1 := by rw [hW3]; exact World.size_alloc _ _
       have HRw3 := hid ((Keeps.of_below hb3 : Keeps (fun _ => False) W2 W3).row HRw2.out (fun _ _ e => e))
       have HW3 := hid hW3
       have HB3 := hid hb3
       have HC3 := hid hc3
       have HS3 := hid hs3
       clear hW3 hb3 hc3 hs3
       go_wp2_with (rw [<- HW3.out]; refine wpList_append_row Tryz.underlying60 HII.out hz0 hz1 hz2 rfl (by omega) rfl (.tmp 60) (.tmp 62) rfl (w.heap.size + 1) (.slice pa xs.length pc) xs.length (numsI xs) rfl HRw3.out (some ⟨W2.heap.size, 0, none⟩) 1 1 (numsI [(n2 : Int)]) rfl rfl (fun _ => ⟨_, rfl, fun t u hu => by obtain ⟨ht, e⟩ := List.getElem?_eq_some_iff.1 hu; have ht' : t = 0 := (by simp [numsI] at ht; omega); subst ht'; rw [<- e]; exact HC3.out⟩) (fun u hu => by obtain ⟨n, rfl⟩ := numsI_int u hu; rfl) (by omega) (by have h1 := lt_of_heap HBx2.out; have h2 := HS3.out; omega) ?_; intro pv' W4 hown4 hgr4 hat4; rw [<- numsI_snoc] at hown4)
       exact sz_next hlt hds HR2.out HBx2.out HRw2.out HK2.out HB3.out HS3.out hown4 hgr4 hat4
    ·go_wp2_with fail
     refine (HDt.out wr).mono ?_
     rintro e W0 ⟨rfl, h3⟩
     obtain rfl := h3.symm
     clear h3
     have hsz : ∀ i, szF w F (.slice pa xs.length pc) i -> i < wr.heap.size := fun i hi => by
      rcases hi with hi | hi | hi
      ·exact Nat.lt_of_lt_of_le (HFl.out i hi) HKp.out.size
      ·rw [hi]; exact lt_of_heap HBx.out
      ·exact (row_ge HRw.out i hi).2
     have HPg := hid (v5Page_r HRf.out hsz)
     have cr : wr.cell? ⟨r, 0, none⟩ = some (.pointer (some ⟨m, 0, none⟩)) := HRf.out.cell0
     clear hsz
     go_wp2_with fail
     refine HPg.out.mono ?_
     clear HPg
     rintro e W2 ⟨hk2, hr2, rfl | ⟨n2, rfl⟩⟩
     ·have HK2 := hid (HKp.out.trans hk2 (fun i e => .inl e))
      have HR2 := hid (hr2.keep (Keeps.refl (fun _ => False) W2) (fun _ e => e.elim) (F' := F) (fun i e => .inl (.inl e)))
      clear hk2 hr2 cr
      go_wp2_with fail
      go_ret
      exact ⟨⟨HK2.out.mono (fun i e => .inr e), m, .inl rfl, HR2.out⟩, .inl ⟨false, rfl, rfl⟩⟩
     ·have HK2 := hid (HKp.out.trans hk2 (fun i e => .inl e))
      have HR2 := hid hr2
      have HRw2 := hid (hk2.row HRw.out (fun i e => by have h5 := row_ge HRw.out i e; have h7 := HML.out; intro e2; have e2' : i = m := e2; omega))
      have HBx2 := hid (hk2.heap HBx.out (fun e => by have e' : w.heap.size = m := e; have h7 := HML.out; omega))
      clear hk2 hr2 cr HRf HRw HKp HBx
      clear y5
      obtain ⟨W3, hW3⟩ : ∃ W3, W3 = W2.alloc (.cells #[.int .i64 (n2 : Int)] 3) := ⟨_, rfl⟩
      have hb3 : Below W2.heap.size W2 W3 := by rw [hW3]; exact (Below.refl _ W2).alloc (Nat.le_refl _) _
      have hc3 : W3.cell? ⟨W2.heap.size, 0, none⟩ = some (.int .i64 (n2 : Int)) := by rw [hW3]; exact cell_of_block (block_new W2 _) 0
      have hs3 : W3.heap.size = W2.heap.size + 1 := by rw [hW3]; exact World.size_alloc _ _
      have HRw3 := hid ((Keeps.of_below hb3 : Keeps (fun _ => False) W2 W3).row HRw2.out (fun _ _ e => e))
      have HW3 := hid hW3
      have HB3 := hid hb3
      have HC3 := hid hc3
      have HS3 := hid hs3
      clear hW3 hb3 hc3 hs3
      go_wp2_with (rw [<- HW3.out]; refine wpList_append_row Tryz.underlying60 HII.out hz0 hz1 hz2 rfl (by omega) rfl (.tmp 60) (.tmp 62) rfl (w.heap.size + 1) (.slice pa xs.length pc) xs.length (numsI xs) rfl HRw3.out (some ⟨W2.heap.size, 0, none⟩) 1 1 (numsI [(n2 : Int)]) rfl rfl (fun _ => ⟨_, rfl, fun t u hu => by obtain ⟨ht, e⟩ := List.getElem?_eq_some_iff.1 hu; have ht' : t = 0 := (by simp [numsI] at ht; omega); subst ht'; rw [<- e]; exact HC3.out⟩) (fun u hu => by obtain ⟨n, rfl⟩ := numsI_int u hu; rfl) (by omega) (by have h1 := lt_of_heap HBx2.out; have h2 := HS3.out; omega) ?_; intro pv' W4 hown4 hgr4 hat4; rw [<- numsI_snoc] at hown4)
      exact sz_next hlt hds HR2.out HBx2.out HRw2.out HK2.out HB3.out HS3.out hown4 hgr4 hat4
   ·have h10' : ¬ (xs.length : Int) = 10 := by omega
    go_wp2_with fail
    refine (HDt.out wr).mono ?_
    rintro e W0 ⟨rfl, h3⟩
    obtain rfl := h3.symm
    clear h3 y5
    have hsz : ∀ i, szF w F (.slice pa xs.length pc) i -> i < wr.heap.size := fun i hi => by
     rcases hi with hi | hi | hi
     ·exact Nat.lt_of_lt_of_le (HFl.out i hi) HKp.out.size
     ·rw [hi]; exact lt_of_heap HBx.out
     ·exact (row_ge HRw.out i hi).2
    have HPg := hid (v5Page_r HRf.out hsz)
    have cr : wr.cell? ⟨r, 0, none⟩ = some (.pointer (some ⟨m, 0, none⟩)) := HRf.out.cell0
    clear hsz
    go_wp2_with fail
    refine HPg.out.mono ?_
    clear HPg
    rintro e W2 ⟨hk2, hr2, rfl | ⟨n2, rfl⟩⟩
    ·have HK2 := hid (HKp.out.trans hk2 (fun i e => .inl e))
     have HR2 := hid (hr2.keep (Keeps.refl (fun _ => False) W2) (fun _ e => e.elim) (F' := F) (fun i e => .inl (.inl e)))
     clear hk2 hr2 cr
     go_wp2_with fail
     go_ret
     exact ⟨⟨HK2.out.mono (fun i e => .inr e), m, .inl rfl, HR2.out⟩, .inl ⟨false, rfl, rfl⟩⟩
    ·have HK2 := hid (HKp.out.trans hk2 (fun i e => .inl e))
     have HR2 := hid hr2
     have HRw2 := hid (hk2.row HRw.out (fun i e => by have h5 := row_ge HRw.out i e; have h7 := HML.out; intro e2; have e2' : i = m := e2; omega))
     have HBx2 := hid (hk2.heap HBx.out (fun e => by have e' : w.heap.size = m := e; have h7 := HML.out; omega))
     clear hk2 hr2 cr HRf HRw HKp HBx
     obtain ⟨W3, hW3⟩ : ∃ W3, W3 = W2.alloc (.cells #[.int .i64 (n2 : Int)] 3) := ⟨_, rfl⟩
     have hb3 : Below W2.heap.size W2 W3 := by rw [hW3]; exact (Below.refl _ W2).alloc (Nat.le_refl _) _
     have hc3 : W3.cell? ⟨W2.heap.size, 0, none⟩ = some (.int .i64 (n2 : Int)) := by rw [hW3]; exact cell_of_block (block_new W2 _) 0
     have hs3 : W3.heap.size = W2.heap.size + 1 := by rw [hW3]; exact World.size_alloc _ _
     have HRw3 := hid ((Keeps.of_below hb3 : Keeps (fun _ => False) W2 W3).row HRw2.out (fun _ _ e => e))
     have HW3 := hid hW3
     have HB3 := hid hb3
     have HC3 := hid hc3
     have HS3 := hid hs3
     clear hW3 hb3 hc3 hs3
     go_wp2_with (rw [<- HW3.out]; refine wpList_append_row Tryz.underlying60 HII.out hz0 hz1 hz2 rfl (by omega) rfl (.tmp 60) (.tmp 62) rfl (w.heap.size + 1) (.slice pa xs.length pc) xs.length (numsI xs) rfl HRw3.out (some ⟨W2.heap.size, 0, none⟩) 1 1 (numsI [(n2 : Int)]) rfl rfl (fun _ => ⟨_, rfl, fun t u hu => by obtain ⟨ht, e⟩ := List.getElem?_eq_some_iff.1 hu; have ht' : t = 0 := (by simp [numsI] at ht; omega); subst ht'; rw [<- e]; exact HC3.out⟩) (fun u hu => by obtain ⟨n, rfl⟩ := numsI_int u hu; rfl) (by omega) (by have h1 := lt_of_heap HBx2.out; have h2 := HS3.out; omega) ?_; intro pv' W4 hown4 hgr4 hat4; rw [<- numsI_snoc] at hown4)
     exact sz_next hlt hds HR2.out HBx2.out HRw2.out HK2.out HB3.out HS3.out hown4 hgr4 hat4
  ·have hge : ¬ (xs.length : Int) < (ds : Int) := by omega
   go_wp2_with fail
   refine (HDt.out wr).mono ?_
   rintro e W0 ⟨rfl, h3⟩
   obtain rfl := h3.symm
   clear h3
   go_wp2_with fail
   have HSt := hid HI.out
   have hdx0 : ds <= xs.length := by omega
   clear HI hlt hge
   go_loopw [8] (fun v wr => ∃ (xs : List Int) (pa : Option Addr) (pc : Nat), v = .slice pa xs.length pc /\ xs.length <= 138 /\ ds <= xs.length /\ Hid (SzI w wr F r m k0 m0 l0 (.slice ba b0.length bc) (.slice da d0.length dc) v xs)) (fun v _ => sliceLen v)
   case atStart => exact ⟨xs, pa, pc, rfl, hxl, hdx0, HSt⟩
   case round =>
    obtain ⟨xs, pa, pc, rfl, hxl, hdx, HI⟩ := hrel
    clear HSt
    by_cases hgt : ds < xs.length
    ·have hgt' : (ds : Int) < (xs.length : Int) := by omega
     obtain ⟨ind1, hbx⟩ := HI.out.box
     have HRf := hid HI.out.ref
     have HRw := hid HI.out.row
     have HKp := hid HI.out.keep
     have HBx := hid hbx
     clear hbx
     obtain ⟨q, hq⟩ : ∃ q, q + 1 = xs.length := ⟨xs.length - 1, by omega⟩
     obtain ⟨g, z, hpa, hcl⟩ : ∃ g z, pa = some ⟨g, 0, none⟩ /\ wr.cell? ⟨g, q, none⟩ = some (.int .i64 z) := by
      rcases HRw.out.2 with ⟨e, h0⟩ | ⟨g, cap, cur, e, -⟩
      ·omega
      ·rw [Value.slice.injEq] at e
       obtain ⟨rfl, -, rfl⟩ := e
       refine ⟨g, xs[q]'(by omega), rfl, ?_⟩
       rw [HRw.out.cellAt _ (by omega), numsI, List.getElem?_map, List.getElem?_eq_getElem (by omega)]; rfl
     subst hpa
     have hqw : IntKind.i64.wrap ((xs.length : Int) - 1) = (q : Int) := by rw [IntWalk.i64_in _ (by omega)]; omega
     have hql : q < xs.length := by omega
     have hql' : (q : Int) < (xs.length : Int) := by omega
     have HQ := hid hq
     clear HI hq
     go_wp2_with fail
     refine (HDt.out wr).mono ?_
     rintro e W0 ⟨rfl, h3⟩
     obtain rfl := h3.symm
     clear h3
     have hsz : ∀ i, szF w F (.slice (some ⟨g, 0, none⟩) xs.length pc) i -> i < wr.heap.size := fun i hi => by
      rcases hi with hi | hi | hi
      ·exact Nat.lt_of_lt_of_le (HFl.out i hi) HKp.out.size
      ·rw [hi]; exact lt_of_heap HBx.out
      ·exact (row_ge HRw.out i hi).2
     have hbd : Below wr.heap.size wr wr.drew := (Below.refl _ wr).drew
     have HGv := hid (v5GivePage_r (HRf.out.below hbd) (fun i hi => Nat.lt_of_lt_of_le (hsz i hi) hbd.size) z)
     have cr := (HRf.out.below hbd).cell0
     have hcd := (hbd.cell (World.block_lt_of_cell? wr _ hcl)).trans hcl
     have HBd := hid hbd
     have HSz := hid hsz
     clear hsz hbd hcl
     go_wp2_with fail
     refine wp_region_noPanic ?_
     refine wp_region_held_drew (S := fun W => W.cell? ⟨r, 0, none⟩ = some (.pointer (some ⟨m, 0, none⟩)) /\ W.cell? ⟨g, q, none⟩ = some (.int .i64 z)) (by kernel_rfl) ⟨cr, hcd⟩ (fun hHeld => ?_)
     generalize wr.drew = wd at *
     refine tq 0 _ ?_
     try simp only [tS]
     refine tq 1 _ ?_
     try simp only [tS]
     refine tq 2 _ ?_
     try simp only [tS]
     refine tq 3 _ ?_
     try simp only [tS]
     refine tq 4 _ ?_
     try simp only [tS]
     refine tq 5 _ ?_
     try simp only [tS]
     refine tq 6 _ ?_
     try simp only [tS]
     refine tq 7 (.int .i64 (q : Int)) ?_
     try simp only [tS]
     refine tq 8 _ ?_
     try simp only [tS]
     refine tq 9 _ ?_
     try simp only [tS]
     refine wpAnyH_ready (rs := [10]) (by kernel_rfl) (by simp) (AllReadyH.cons rfl (fun K hK => ?_) AllReadyH.nil)
     rw [if_pos (by rfl)]
     go_simp
     refine HGv.out.mono ?_
     clear HGv
     rintro e W2 ⟨hk2, hr2, c2, rfl⟩
     have HK2 := hid ((HKp.out.trans (Keeps.of_below HBd.out : Keeps (fun _ => False) wr wd) (fun _ e => e.elim)).trans hk2 (fun i e => .inl e))
     have hgm : g ≠ m := fun e => by have h5 := (row_ge HRw.out g rfl).1; have h7 := HML.out; omega
     have e0 := hr2.cell0
     have e1 := hk2.cell hcd (fun e => hgm e)
     have HR2 := hid hr2
     have HRw2 := hid (hk2.row ((Keeps.of_below HBd.out : Keeps (fun _ => False) wr wd).row HRw.out (fun _ _ e => e)) (fun i e => by have h5 := row_ge HRw.out i e; have h7 := HML.out; intro e2; have e2' : i = m := e2; omega))
     have HBx2 := hid (hk2.heap (below_block HBd.out HBx.out (lt_of_heap HBx.out)) (fun e => by have e' : w.heap.size = m := e; have h7 := HML.out; omega))
     clear hk2 hr2 hgm cr hcd
     go_wp2_with fail
     refine hK.out _ _ ⟨e0, e1⟩ (fun hHeld => ?_)
     clear hK K
     try simp only [tS]
     refine wpAnyH_done (by kernel_rfl) ?_ _
     refine NoPanic.normal ?_
     clear hHeld e1
     have hpc : xs.length <= pc := by
      rcases HRw2.out.2 with ⟨e, h0⟩ | ⟨g', cap, cur, e, -, -, hle, -⟩
      ·omega
      ·rw [Value.slice.injEq] at e
       obtain ⟨-, -, rfl⟩ := e
       exact hle
     have hqc : q <= pc := by omega
     have hqc' : (q : Int) <= (pc : Int) := by omega
     have hq0' : (0 : Int) <= (q : Int) := by omega
     by_cases h10 : q = 10
     ·have hq10 : ((q : Int) == 10) = true := by rw [h10]; rfl
      clear h10
      have y5 : W2.cell? ⟨w.heap.size, 5, none⟩ = some (.int .i64 ind1) := cell_of_block HBx2.out 5
      have hsz2 : ∀ i, szF w F (.slice (some ⟨g, 0, none⟩) xs.length pc) i -> i < W2.heap.size := fun i hi => by
       rcases hi with hi | hi | hi
       ·exact Nat.lt_of_lt_of_le (HFl.out i hi) HK2.out.size
       ·rw [hi]; exact lt_of_heap HBx2.out
       ·exact (row_ge HRw2.out i hi).2
      have hbd2 : Below W2.heap.size W2 W2.drew := (Below.refl _ W2).drew
      have HGv := hid (v5GivePage_r (HR2.out.below hbd2) (fun i hi => Nat.lt_of_lt_of_le (hsz2 i hi) hbd2.size) ind1)
      have cr := (HR2.out.below hbd2).cell0
      have hcd := (hbd2.cell (World.block_lt_of_cell? W2 _ y5)).trans y5
      have HBd2 := hid hbd2
      clear hsz2 hbd2 y5 e0
      go_wp2_with fail
      refine wp_region_noPanic ?_
      refine wp_region_held_drew (S := fun W => W.cell? ⟨r, 0, none⟩ = some (.pointer (some ⟨m, 0, none⟩)) /\ W.cell? ⟨w.heap.size, 5, none⟩ = some (.int .i64 ind1)) (by kernel_rfl) ⟨cr, hcd⟩ (fun hHeld => ?_)
      generalize W2.drew = we at *
      refine tq 0 _ ?_
      try simp only [tS]
      refine tq 1 _ ?_
      try simp only [tS]
      refine tq 2 _ ?_
      try simp only [tS]
      refine tq 3 _ ?_
      try simp only [tS]
      refine tq 4 _ ?_
      try simp only [tS]
      refine tq 5 _ ?_
      try simp only [tS]
      refine wpAnyH_ready (rs := [6]) (by kernel_rfl) (by simp) (AllReadyH.cons rfl (fun K hK => ?_) AllReadyH.nil)
      rw [if_pos (by rfl)]
      go_simp
      refine HGv.out.mono ?_
      clear HGv
      rintro e W6 ⟨hk6, hr6, c6, rfl⟩
      have hbm : ¬ w.heap.size = m := fun e => by have h7 := HML.out; omega
      have k26 : Keeps (fun i => i = m) W2 W6 := (Keeps.of_below HBd2.out : Keeps (fun i => i = m) W2 we).trans hk6 (fun i e => .inl e)
      have HK6 := hid (HK2.out.trans k26 (fun i e => .inl e))
      have hbx6 := k26.heap HBx2.out (fun e => hbm e)
      have e0 := hr6.cell0
      have e1 : W6.cell? ⟨w.heap.size, 5, none⟩ = some (.int .i64 ind1) := cell_of_block hbx6 5
      have g1 : W6.frozen? ⟨w.heap.size, 5, none⟩ = false := frozen_of_block hbx6 5
      have HR6 := hid hr6
      have HBx6 := hid hbx6
      have HRw6 := hid (k26.row HRw2.out (fun i e => by have h5 := row_ge HRw2.out i e; have h7 := HML.out; intro e2; have e2' : i = m := e2; omega))
      clear hk6 hr6 hbx6 k26 hbm cr hcd
      go_wp2_with fail
      refine hK.out _ _ ⟨e0, e1⟩ (fun hHeld => ?_)
      clear hK K
      try simp only [tS]
      refine wpAnyH_done (by kernel_rfl) ?_ _
      refine NoPanic.normal ?_
      clear hHeld
      go_wp2_with fail
      have k7 : Keeps (fun i => i = w.heap.size) W6 (W6.setCell ⟨w.heap.size, 5, none⟩ (.int .i64 0)) := (Keeps.refl _ W6).grown (grown_setCell (grown_refl _ _) _ _) (fun i e => .inl (Option.some.inj e).symm)
      exact sz_cut HQ.out hxl hgt (HR6.out.keep k7 (fun i e => .inr (.inl e)) (fun i e => .inl e)) (block_setCell HBx6.out 5 (.int .i64 0)) (k7.row HRw6.out (fun i e => by have h5 := (row_ge HRw6.out i e).1; intro e2; have e2' : i = w.heap.size := e2; omega)) (HK6.out.trans k7 (fun i e => .inr (by have e' : i = w.heap.size := e; omega)))
     ·have h10' : ¬ (q : Int) = 10 := by omega
      go_wp2_with fail
      exact sz_cut HQ.out hxl hgt HR2.out HBx2.out HRw2.out HK2.out
    ·have hle : ¬ (ds : Int) < (xs.length : Int) := by omega
     have hxe : xs.length = ds := by omega
     obtain ⟨ind1, hbx⟩ := HI.out.box
     have y3 : wr.cell? ⟨w.heap.size, 3, none⟩ = some (.slice ba b0.length bc) := cell_of_block hbx 3
     have HXe := hid hxe
     clear hbx hxe
     go_wp2_with fail
     refine (HDt.out wr).mono ?_
     rintro e W0 ⟨rfl, h3⟩
     obtain rfl := h3.symm
     clear h3
     obtain ⟨i8, hi8, hy0, hy1, hy2⟩ := info_parts infoU8
     have HI8 := hid hi8
     have HBb : Hid (0 < b0.length -> ∃ ad, ba = some ad /\ ∀ t u, (b0.map U8)[t]? = some u -> wr.cell? (ad.add t) = some u) := fun hp => by
      obtain ⟨b, o, e, hc⟩ := HOk.out.bytes 0 hp
      refine ⟨⟨b, o, none⟩, e, fun t u hu => ?_⟩
      have ht : t < b0.length := by have := (List.getElem?_eq_some_iff.1 hu).1; simpa using this
      have h5 := HI.out.keep.cell (hc t ht) (fun e2 => (HOk.out.bz b o e).1 (.inr (.inr e2)))
      rw [Addr.add_mid, h5]
      rw [List.getElem?_map, List.getElem?_eq_getElem ht] at hu
      exact hu
     have hbl : b0.length <= 70656 := HOk.out.bl
     clear hi8
     go_wp2_with (refine wpList_append_row Tryz.underlying42 HI8.out hy0 hy1 hy2 rfl (by omega) rfl (.tmp 96) (.tmp 98) rfl wr.heap.size (.slice none 0 0) 0 [] rfl (World.ownsRow_nil _ _ _ _) ba b0.length bc (b0.map U8) rfl (by simp) HBb.out (fun u hu => by obtain ⟨x, -, rfl⟩ := List.mem_map.1 hu; rfl) (by omega) (Nat.le_refl _) ?_; intro bv W2 hown hgr hat; rw [Nat.zero_add, List.nil_append] at hown)
     have hb2 : Below wr.heap.size wr W2 := ⟨hgr.os, hgr.tape, hgr.output, hgr.size, fun k hk => hgr.block k hk (by simp [Value.ownBlock])⟩
     obtain ⟨va, vc, hbv⟩ : ∃ va vc, bv = .slice va b0.length vc := by
      rcases hown.2 with ⟨e, h0⟩ | ⟨g, cap, cur, e, -⟩
      ·exact ⟨none, 0, by rw [e, h0]⟩
      ·exact ⟨_, cap, e⟩
     subst hbv
     have HBz : Hid (BzI w W2 F r m k0 m0 l0 (.slice ba b0.length bc) (.slice da d0.length dc) (.slice pa xs.length pc) xs wr.heap.size (.slice va b0.length vc) b0) := by
      have hI := HI.out
      obtain ⟨ind2, hbx⟩ := hI.box
      exact ⟨hI.ref.keep (Keeps.of_below hb2 : Keeps (fun _ => False) wr W2) (fun _ e => e.elim) (fun i e => by rcases e with e | e | e; exact .inl (.inl e); exact .inl (.inr (.inl e)); exact .inr (row_ge hown i e).1), ⟨ind2, below_block hb2 hbx (lt_of_heap hbx)⟩, (Keeps.of_below hb2 : Keeps (fun _ => False) wr W2).row hI.row (fun _ _ e => e), hown, hI.keep.trans (Keeps.of_below hb2 : Keeps (fun _ => False) wr W2) (fun _ e => e.elim), fun i e => (row_ge hI.row i e).2, lt_of_heap hbx, hb2.size⟩
     generalize wr.heap.size = B at *
     clear hgr hat hb2 hown HI HBb
     go_loopw [13] (fun v wr => ∃ (l : List UInt8) (va : Option Addr) (vc : Nat), v = .slice va l.length vc /\ l.length <= 70656 /\ Hid (BzI w wr F r m k0 m0 l0 (.slice ba b0.length bc) (.slice da d0.length dc) (.slice pa xs.length pc) xs B v l)) (fun v _ => s - sliceLen v)
     case atStart => exact ⟨b0, va, vc, rfl, hbl, HBz⟩
     case round =>
      obtain ⟨l, va, vc, rfl, hll, HI⟩ := hrel
      clear HBz
      by_cases hlt : l.length < s
      ·have hlt' : (l.length : Int) < (s : Int) := by omega
       obtain ⟨W3, hW3⟩ : ∃ W3, W3 = wr.alloc (.cells #[.int .u8 0] 5) := ⟨_, rfl⟩
       have hb3 : Below wr.heap.size wr W3 := by rw [hW3]; exact (Below.refl _ wr).alloc (Nat.le_refl _) _
       have hc3 : W3.cell? ⟨wr.heap.size, 0, none⟩ = some (.int .u8 0) := by rw [hW3]; exact cell_of_block (block_new wr _) 0
       have hs3 : W3.heap.size = wr.heap.size + 1 := by rw [hW3]; exact World.size_alloc _ _
       have HOw3 := hid ((Keeps.of_below hb3 : Keeps (fun _ => False) wr W3).row HI.out.own (fun _ _ e => e))
       have HW3 := hid hW3
       have HB3 := hid hb3
       have HC3 := hid hc3
       have HS3 := hid hs3
       clear hW3 hb3 hc3 hs3
       go_wp2_with (rw [<- HW3.out]; refine wpList_append_row Tryz.underlying42 HI8.out hy0 hy1 hy2 rfl (by omega) rfl (.tmp 104) (.tmp 105) rfl B (.slice va l.length vc) l.length (l.map U8) rfl HOw3.out (some ⟨wr.heap.size, 0, none⟩) 1 1 ([(0 : UInt8)].map U8) rfl rfl (fun _ => ⟨_, rfl, fun t u hu => by obtain ⟨ht, e⟩ := List.getElem?_eq_some_iff.1 hu; have ht' : t = 0 := (by simp at ht; omega); subst ht'; rw [<- e]; exact HC3.out⟩) (fun u hu => by obtain ⟨x, -, rfl⟩ := List.mem_map.1 hu; rfl) (by omega) (by have h1 := HI.out.size; have h2 := HS3.out; omega) ?_; intro v' W4 hown4 hgr4 hat4; rw [<- List.map_append] at hown4)
       obtain ⟨va', vc', rfl, hnx⟩ := bz_next HI.out HB3.out HS3.out hown4 hgr4 hat4
       exact ⟨⟨l ++ [0], va', vc', rfl, by simp; omega, hnx⟩, by show s - (l ++ [(0 : UInt8)]).length < s - l.length; simp; omega⟩
      ·have hge : ¬ (l.length : Int) < (s : Int) := by omega
       have hsl : s <= l.length := by omega
       obtain ⟨ind2, hbx⟩ := HI.out.box
       have hvc : l.length <= vc := by
        rcases HI.out.own.2 with ⟨e, h0⟩ | ⟨g, cap, cur, e, -, -, hle, -⟩
        ·omega
        ·rw [Value.slice.injEq] at e
         obtain ⟨-, -, rfl⟩ := e
         exact hle
       have hsc : (s : Int) <= (vc : Int) := by omega
       have hs0 : (0 : Int) <= (s : Int) := by omega
       have HBx := hid hbx
       clear hbx
       have hrs : ∀ W, (Instr.slice 42 (.slice va l.length vc) none (some (.int .i64 (s : Int))) none).run Tryz.prog W = .ok (.slice va s vc) W := fun W => by
        cases va with
        | none => simp [Instr.slice, Instr.sliceBounds, go_sem, hs0, hsc]
        | some ad => simp [Instr.slice, Instr.sliceBounds, go_sem, hs0, hsc]
       have HRs := hid hrs
       clear hrs
       go_wp2_with fail
       have hbd : Below wr.heap.size wr wr.drew := (Below.refl _ wr).drew
       have hbxd := below_block hbd HBx.out (lt_of_heap HBx.out)
       have HId : Hid (BzI w wr.drew F r m k0 m0 l0 (.slice ba b0.length bc) (.slice da d0.length dc) (.slice pa xs.length pc) xs B (.slice va l.length vc) l) :=
        ⟨HI.out.ref.below hbd, ⟨ind2, hbxd⟩, (Keeps.of_below hbd : Keeps (fun _ => False) wr wr.drew).row HI.out.row (fun _ _ e => e), (Keeps.of_below hbd : Keeps (fun _ => False) wr wr.drew).row HI.out.own (fun _ _ e => e), HI.out.keep.trans (Keeps.of_below hbd : Keeps (fun _ => False) wr wr.drew) (fun _ e => e.elim), HI.out.pvB, HI.out.boxB, Nat.le_trans HI.out.size hbd.size⟩
       refine wp_region_noPanic ?_
       refine wp_region_held_drew (S := fun _ => True) (by kernel_rfl) trivial (fun hHeld => ?_)
       generalize wr.drew = wd at *
       have z3 : wd.cell? ⟨w.heap.size, 3, none⟩ = some (.slice ba b0.length bc) := cell_of_block hbxd 3
       have z4 : wd.cell? ⟨w.heap.size, 4, none⟩ = some (.slice da d0.length dc) := cell_of_block hbxd 4
       have q3 : wd.frozen? ⟨w.heap.size, 3, none⟩ = false := frozen_of_block hbxd 3
       have q4 : wd.frozen? ⟨w.heap.size, 4, none⟩ = false := frozen_of_block hbxd 4
       have HBd := hid hbxd
       clear hbd hbxd HI HBx
       refine tq 0 _ ?_
       try simp only [tS]
       refine tq 1 _ ?_
       try simp only [tS]
       refine tq 2 _ ?_
       try simp only [tS]
       have hrs := HRs.out
       refine tq 3 (.slice va s vc) ?_
       try simp only [tS]
       clear hrs
       refine tq 4 _ ?_
       try simp only [tS]
       refine wpAnyH_ready (rs := [5]) (by kernel_rfl) (by simp) (AllReadyH.cons rfl (fun K hK => ?_) AllReadyH.nil)
       rw [if_pos (by rfl)]
       go_simp
       refine hK _ _ trivial (fun hHeld => ?_)
       clear hK K z3 z4 q3 q4
       try simp only [tS]
       obtain ⟨we, hwe⟩ : ∃ we, we = wd.setCell ⟨w.heap.size, 4, none⟩ (.slice pa xs.length pc) := ⟨_, rfl⟩
       rw [<- hwe]
       have hbe : we.heap[w.heap.size]? = some (.cells #[.int .i64 k0, .int .i64 m0, .int .i64 l0, .slice ba b0.length bc, .slice pa xs.length pc, .int .i64 ind2] 94 (0, 0)) := by rw [hwe]; exact block_setCell HBd.out 4 _
       have hke : Keeps (fun i => i = w.heap.size) wd we := by rw [hwe]; exact (Keeps.refl _ wd).grown (grown_setCell (grown_refl _ _) _ _) (fun i e => .inl (Option.some.inj e).symm)
       have z3 : we.cell? ⟨w.heap.size, 3, none⟩ = some (.slice ba b0.length bc) := cell_of_block hbe 3
       have q3 : we.frozen? ⟨w.heap.size, 3, none⟩ = false := frozen_of_block hbe 3
       have HBe := hid hbe
       have HKe := hid hke
       clear hbe hke hwe
       refine tq 6 _ ?_
       try simp only [tS]
       refine wpAnyH_ready (rs := [7]) (by kernel_rfl) (by simp) (AllReadyH.cons rfl (fun K hK => ?_) AllReadyH.nil)
       rw [if_pos (by rfl)]
       go_simp
       refine hK _ _ trivial (fun hHeld => ?_)
       clear hK K z3 q3
       try simp only [tS]
       refine wpAnyH_done (by kernel_rfl) ?_ _
       refine NoPanic.normal ?_
       clear hHeld
       obtain ⟨wf, hwf⟩ : ∃ wf, wf = we.setCell ⟨w.heap.size, 3, none⟩ (.slice va s vc) := ⟨_, rfl⟩
       rw [<- hwf]
       have hbf : wf.heap[w.heap.size]? = some (.cells #[.int .i64 k0, .int .i64 m0, .int .i64 l0, .slice va s vc, .slice pa xs.length pc, .int .i64 ind2] 94 (0, 0)) := by rw [hwf]; exact block_setCell HBe.out 3 _
       have hkf : Keeps (fun i => i = w.heap.size) wd wf := by rw [hwf]; exact HKe.out.grown (grown_setCell (grown_refl _ _) _ _) (fun i e => .inl (Option.some.inj e).symm)
       have z0 : wf.cell? ⟨w.heap.size, 0, none⟩ = some (.int .i64 k0) := cell_of_block hbf 0
       have z1 : wf.cell? ⟨w.heap.size, 1, none⟩ = some (.int .i64 m0) := cell_of_block hbf 1
       have z2 : wf.cell? ⟨w.heap.size, 2, none⟩ = some (.int .i64 l0) := cell_of_block hbf 2
       have z3 : wf.cell? ⟨w.heap.size, 3, none⟩ = some (.slice va s vc) := cell_of_block hbf 3
       have z4 : wf.cell? ⟨w.heap.size, 4, none⟩ = some (.slice pa xs.length pc) := cell_of_block hbf 4
       have z5 : wf.cell? ⟨w.heap.size, 5, none⟩ = some (.int .i64 ind2) := cell_of_block hbf 5
       have hI := HId.out
       have hBb := hI.boxB
       have hrl := HR.out.lt
       have hown := hkf.row hI.own (fun i e e2 => by have h5 := (row_ge hI.own i e).1; have e3 : i = w.heap.size := e2; omega)
       have hrow := hkf.row hI.row (fun i e e2 => by have h5 := (row_ge hI.row i e).1; have e3 : i = w.heap.size := e2; omega)
       have hl' : (l.take s).length = s := by rw [List.length_take]; omega
       have hnew : ∀ i, w.heap.size < i -> i < wf.heap.size -> rdZ wf (zOf F r m) i := fun i h1 h2 => ⟨fun hh => by
        rcases hh with hh | hh | hh
        ·have := HFl.out i hh; omega
        ·omega
        ·omega, h2⟩
       have hok' : RF.ok wf (zOf F r m) ⟨k0, m0, l0, l.take s, va, vc, xs, pa, pc, ind2⟩ := by
        refine ⟨fun j hj => ?_, fun b o e => ?_, fun j hj => ?_, fun b o e => ?_, by show (l.take s).length <= 70656; omega, hxl⟩
        ·have hj' : j < l.length := by have h5 : j < (l.take s).length := hj; omega
         rcases hown.2 with ⟨e, h0⟩ | ⟨g, cap, cur, e, -⟩
         ·omega
         ·rw [Value.slice.injEq] at e
          obtain ⟨e, -, rfl⟩ := e
          subst e
          refine ⟨g, 0, rfl, fun i hi => ?_⟩
          have hi' : i < l.length := by have h5 : i < (l.take s).length := hi; omega
          rw [Nat.zero_add, hown.cellAt i (by omega), List.getElem?_map, List.getElem?_eq_getElem hi']
          simp [U8]
        ·have hv : va = some ⟨b, o, none⟩ := e
         subst hv
         rcases hown.2 with ⟨e, h0⟩ | ⟨g, cap, cur, e, h5, h6, -⟩
         ·cases e
         ·cases e
          exact hnew b (by omega) (lt_of_heap h6)
        ·have hj' : j < xs.length := hj
         rcases hrow.2 with ⟨e, h0⟩ | ⟨g, cap, cur, e, -⟩
         ·omega
         ·rw [Value.slice.injEq] at e
          obtain ⟨e, -, rfl⟩ := e
          subst e
          refine ⟨g, 0, rfl, fun i hi => ?_⟩
          have hi' : i < xs.length := hi
          rw [Nat.zero_add, hrow.cellAt i (by omega), numsI, List.getElem?_map, List.getElem?_eq_getElem hi']
          rfl
        ·have hv : pa = some ⟨b, o, none⟩ := e
         subst hv
         rcases hrow.2 with ⟨e, h0⟩ | ⟨g, cap, cur, e, h5, h6, -⟩
         ·cases e
         ·cases e
          exact hnew b (by omega) (lt_of_heap h6)
       have href : Ref6 wf F r m := hI.ref.keep hkf (fun i e => .inr (.inl e)) (fun i e => .inl (.inl e))
       have hwl : w.heap.size <= wf.heap.size := by have h5 := lt_of_heap hbf; omega
       have hse := v6set_any href (fun i hi => Nat.lt_of_lt_of_le (HFl.out i hi) hwl) j hj ⟨k0, m0, l0, l.take s, va, vc, xs, pa, pc, ind2⟩ hok'
       have hce : (RF.cells ⟨k0, m0, l0, l.take s, va, vc, xs, pa, pc, ind2⟩).toArray = #[.int .i64 k0, .int .i64 m0, .int .i64 l0, .slice va s vc, .slice pa xs.length pc, .int .i64 ind2] := by
        unfold RF.cells
        rw [hl']
       rw [hce] at hse
       have HSe := hid hse
       have HKf : Hid (Keeps (fun i => i = m) w wf) := hI.keep.trans hkf (fun i e => .inr (by have e' : i = w.heap.size := e; omega))
       have HOk2 := hid hok'
       have HLs := hid hl'
       clear hse hce href hwl hok' hnew hl' hrow hown hrl hBb hI hkf hbf hwf HId HKe HBe HBd
       go_wp2_with fail
       refine HSe.out.mono ?_
       clear HSe
       rintro e wg ⟨rfl, hkg, hrg, g, cp, hcg, hrowg⟩
       have HKg := hid hkg
       have HRg := hid (And.intro hrg (And.intro hcg hrowg))
       clear hkg hrg hcg hrowg
       go_wp2
       go_ret
       obtain ⟨hrg, hcg, hrowg⟩ := HRg.out
       have kk : Keeps (fun i => i = r \/ i = m) w wg := (HKf.out.mono (fun i e => .inr e)).trans HKg.out (fun i e => .inl (.inl e))
       exact ⟨⟨kk, m, .inl rfl, hrg⟩, .inr ⟨rfl, kk, hrg, g, cp, _, hcg, hrowg, HOk2.out.keep HKg.out (fun i _ hn e => hn (.inr (.inl e))) (fun _ _ hn => hn), HLs.out⟩⟩
end
end
section
set_option maxRecDepth 100000
set_option maxHeartbeats 2000000
open Go.RowKit
theorem own_set {w : World} {B g n c : Nat} {l : List UInt8} (h : w.ownsRow B 5 1 (.slice (some ⟨g, 0, none⟩) n c) n (l.map U8)) (hl : l.length = n) (j : Nat) (hj : j < n) (x : UInt8) :
  (∃ old, w.cell? ⟨g, j, none⟩ = some old) /\ w.frozen? ⟨g, j, none⟩ = false /\ (w.setCell ⟨g, j, none⟩ (.int .u8 (x.toNat : Int))).ownsRow B 5 1 (.slice (some ⟨g, 0, none⟩) n c) n ((l.set j x).map U8) := by
 refine ⟨?_, ?_, ?_⟩
 ·rw [h.cellAt j (by omega), List.getElem?_map, List.getElem?_eq_getElem (by omega)]
  exact ⟨_, rfl⟩
 ·rcases h.2 with ⟨e, h0⟩ | ⟨g', cap, cur, e, h1, h2, -⟩
  ·cases e
  ·cases e
   exact frozen_of_block h2 _
 ·rcases h.2 with ⟨e, h0⟩ | ⟨g', cap, cur, e, h1, h2, h3, h4, h5, h6⟩
  ·cases e
  ·cases e
   refine ⟨by simp [hl], .inr ⟨g, c, _, rfl, h1, block_setCell h2 j _, h3, h4, by rw [Array.size_setIfInBounds]; exact h5, ?_⟩⟩
   rw [Array.toList_setIfInBounds, List.take_set, h6, List.map_set]
   rfl
section
variable {w w' : World} {F : Nat -> Prop} {r m : Nat}
theorem v6Write_r (h : Ref6 w F r m) (hFl : ∀ i, F i -> i < w.heap.size) (i a : Int) (g : Nat) (l : List UInt8) (hl : ownB w g l) (hgz : ¬ zOf F r m g) (hL : l.length <= 8000) : Calls Tryz.prog 45 #[.pointer (some ⟨r, 0, none⟩), .int .i64 i, .int .i64 a, .slice (some ⟨g, 0, none⟩) l.length l.length] w fun e w' => R6To w F r m w' /\ ∃ c : Int, e = .returned (.int .i64 c) := by
 obtain ⟨lb, lc, km, kb, kc, fl, kl, h1, h2, -⟩ := h.heap
 have c1 : w.cell? ⟨r, 1, none⟩ = some (.slice (some ⟨lb, 0, none⟩) 16 lc) := cell_of_block h1 1
 have HLk := hid (v6look_any h i)
 have HFl := hid hFl
 have HR := hid h
 have HSd := hid h2
 have HOb := hid hl
 have HGz := hid hgz
 obtain ⟨n, hn⟩ : ∃ n, n = l.length := ⟨_, rfl⟩
 rw [<- hn] at hL ⊢
 have HN := hid hn
 clear h h1 h2 hFl hl hgz hn
 go_enter Tryz.func45, Tryz.ntmps45
 go_wp2_with fail
 refine HLk.out.mono ?_
 clear HLk
 rintro e w1 ⟨h1, nn, rfl, hn⟩
 obtain rfl := h1.symm
 clear h1
 rcases hn with rfl | rfl | ⟨rfl, hi1, hi2⟩
 ·go_wp2_with fail
  go_ret
  exact ⟨R6To.refl HR.out, 2, rfl⟩
 ·go_wp2_with fail
  go_ret
  exact ⟨R6To.refl HR.out, 4, rfl⟩
 ·obtain ⟨j, rfl⟩ : ∃ j : Nat, i = (j : Int) := ⟨i.toNat, by omega⟩
  have HK := hid (R6To.refl HR.out)
  by_cases b1 : a < 0
  ·clear HSd HR
   go_wp2_with fail
   go_ret
   exact ⟨HK.out, 2, rfl⟩
  ·by_cases b2 : n = 0
   ·by_cases b3 : a <= 70656
    ·clear HSd HR
     go_wp2_with fail
     go_ret
     exact ⟨HK.out, 0, rfl⟩
    ·have b3' : 70656 < a := by omega
     clear HSd HR
     go_wp2_with fail
     go_ret
     exact ⟨HK.out, 6, rfl⟩
   ·have b2' : ¬ ((n : Int) = 0) := by omega
    by_cases b3 : 70656 < a
    ·clear HSd HR
     go_wp2_with fail
     go_ret
     exact ⟨HK.out, 6, rfl⟩
    ·by_cases b4 : 70656 - a < (n : Int)
     ·clear HSd HR
      go_wp2_with fail
      go_ret
      exact ⟨HK.out, 6, rfl⟩
     ·obtain ⟨an, rfl⟩ : ∃ an : Nat, a = (an : Int) := ⟨a.toNat, by omega⟩
      obtain ⟨q, hq⟩ : ∃ q : Nat, (an : Int) + (n : Int) = (q : Int) := ⟨an + n, by omega⟩
      have hq7 : q <= 70656 := by omega
      have hqn : an + n = q := by omega
      obtain ⟨k0, m0, l0, b0, ba, bc, d0, da, dc, ind, x0, x1, x2, x3, x4, x5, hok⟩ := HSd.out.six j (by omega)
      have hb7 : b0.length <= 70656 := hok.bl
      have hj16 : j < 16 := by omega
      clear hok HSd
      by_cases b5 : b0.length < q
      ·have b5' : (b0.length : Int) < (q : Int) := by omega
       have HRz := hid (v6resize_r HR.out HFl.out j hj16 q hq7)
       have hqs : an + n <= q := by omega
       clear x0 x1 x2 x4 x5
       go_wp2_with fail
       refine HRz.out.mono ?_
       clear HRz
       rintro e w1 ⟨hto, ⟨b, rfl, rfl⟩ | ⟨rfl, hk1, hr1, g1, cp1, f1, hc1, hrow1, hok1, hl1⟩⟩
       ·obtain ⟨kk, m', hm', hr'⟩ := hto
        have HFu := hid (v6full_r hr' (fun i hi => Nat.lt_of_lt_of_le (HFl.out i hi) kk.size))
        have HKk := hid kk
        clear kk hr' c1 x3
        go_wp2_with fail
        refine HFu.out.mono ?_
        clear HFu
        rintro e w2 ⟨rfl, hk2, m2, hm2, hr2⟩
        have HK2 := hid hk2
        have HR2 := hid hr2
        clear hk2 hr2
        go_wp2_with fail
        go_ret
        have hs := HKk.out.size
        exact ⟨⟨HKk.out.trans HK2.out (fun i e => .inl (.inl e)), m2, .inr (by omega), HR2.out⟩, 7, rfl⟩
       ·clear hto
        obtain ⟨k1, m1, l1, b1, ba1, bc1, d1, da1, dc1, ind1⟩ := f1
        have y0 : w1.cell? ⟨g1, j * 6, none⟩ = some (.int .i64 k1) := hrow1 0 _ rfl
        have y1 : w1.cell? ⟨g1, j * 6 + 1, none⟩ = some (.int .i64 m1) := hrow1 1 _ rfl
        have y2 : w1.cell? ⟨g1, j * 6 + 2, none⟩ = some (.int .i64 l1) := hrow1 2 _ rfl
        have y3 : w1.cell? ⟨g1, j * 6 + 3, none⟩ = some (.slice ba1 b1.length bc1) := hrow1 3 _ rfl
        have y4 : w1.cell? ⟨g1, j * 6 + 4, none⟩ = some (.slice da1 d1.length dc1) := hrow1 4 _ rfl
        have y5 : w1.cell? ⟨g1, j * 6 + 5, none⟩ = some (.int .i64 ind1) := hrow1 5 _ rfl
        have HOk1 := hid hok1
        have HK1 := hid hk1
        have HR1 := hid hr1
        have HL1 := hid hl1
        clear hrow1 hok1 hk1 hr1 hl1 x3 c1
        obtain ⟨W2, hW2⟩ : ∃ W2, W2 = w1.alloc (.cells #[.int .i64 k1, .int .i64 m1, .int .i64 l1, .slice ba1 b1.length bc1, .slice da1 d1.length dc1, .int .i64 ind1] 94) := ⟨_, rfl⟩
        have HB12 : Hid (Below w1.heap.size w1 W2) := by rw [hW2]; exact (Below.refl _ w1).alloc (Nat.le_refl _) _
        have HBx : Hid (W2.heap[w1.heap.size]? = some (.cells #[.int .i64 k1, .int .i64 m1, .int .i64 l1, .slice ba1 b1.length bc1, .slice da1 d1.length dc1, .int .i64 ind1] 94 (0, 0))) := by rw [hW2]; exact block_new w1 _
        have HS2 : Hid (W2.heap.size = w1.heap.size + 1) := by rw [hW2]; exact World.size_alloc _ _
        have HW2 := hid hW2
        have hb17 : b1.length <= 70656 := HOk1.out.bl
        have HBb : Hid (0 < b1.length -> ∃ ad, ba1 = some ad /\ ∀ t u, (b1.map U8)[t]? = some u -> W2.cell? (ad.add t) = some u) := fun hp => by
         obtain ⟨b, o, e, hc⟩ := HOk1.out.bytes 0 hp
         refine ⟨⟨b, o, none⟩, e, fun t u hu => ?_⟩
         have ht : t < b1.length := by have := (List.getElem?_eq_some_iff.1 hu).1; simpa using this
         have h5 := hc t ht
         rw [Addr.add_mid, HB12.out.cell (World.block_lt_of_cell? w1 _ h5), h5]
         rw [List.getElem?_map, List.getElem?_eq_getElem ht] at hu
         exact hu
        obtain ⟨i8, hi8, hy0, hy1, hy2⟩ := info_parts infoU8
        have HI8 := hid hi8
        clear hi8 hW2
        go_wp2_with (rw [<- HW2.out]; refine wpList_append_row Tryz.underlying42 HI8.out hy0 hy1 hy2 rfl (by omega) rfl (.tmp 74) (.tmp 76) rfl W2.heap.size (.slice none 0 0) 0 [] rfl (World.ownsRow_nil _ _ _ _) ba1 b1.length bc1 (b1.map U8) rfl (by simp) HBb.out (fun u hu => by obtain ⟨x, -, rfl⟩ := List.mem_map.1 hu; rfl) (by omega) (Nat.le_refl _) ?_; intro bv W3 hown hgr hat; rw [Nat.zero_add, List.nil_append] at hown)
        have hb23 : Below W2.heap.size W2 W3 := ⟨hgr.os, hgr.tape, hgr.output, hgr.size, fun k hk => hgr.block k hk (by simp [Value.ownBlock])⟩
        have hb1q := HL1.out
        obtain ⟨gc, cc, hbv⟩ : ∃ gc cc, bv = .slice (some ⟨gc, 0, none⟩) b1.length cc := by
         rcases hown.2 with ⟨e, h0⟩ | ⟨g0, cap, cur, e, -⟩
         ·omega
         ·exact ⟨g0, cap, e⟩
        subst hbv
        have hgc := row_ge hown gc rfl
        have hbx3 := below_block hb23 HBx.out (by have := HS2.out; omega)
        have hzg : g < w.heap.size := HOb.out.lt
        have hob1 := HOb.out.keep HK1.out (fun hh => HGz.out (hh.elim (fun e => .inr (.inl e)) (fun e => .inr (.inr e))))
        have hob3 := (hob1.below HB12.out).below hb23
        have hw1 := HK1.out.size
        have HRow : Hid (∃ l' : List UInt8, l'.length = b1.length /\ W3.ownsRow W2.heap.size 5 1 (.slice (some ⟨gc, 0, none⟩) b1.length cc) b1.length (l'.map U8)) := ⟨b1, rfl, hown⟩
        have HOb3 := hid hob3
        have HBx3 := hid hbx3
        have HB13 := hid (HB12.out.trans (hb23.mono HB12.out.size))
        have hgcg : gc ≠ g := by have := HS2.out; omega
        have hgcb : gc ≠ w1.heap.size := by have := HS2.out; omega
        have HGc := hid hgc
        clear hown hgr hat hb23 hbx3 hob1 hob3 HBb HI8 HW2 HBx y0 y1 y2 y3 y4 y5 hgc
        obtain ⟨bl, hbl⟩ : ∃ bl, bl = b1.length := ⟨_, rfl⟩
        rw [<- hbl] at hb1q HRow hb17 ⊢
        have HBl := hid hbl
        clear hbl
        subst hb1q
        go_loopw [13] (fun kv wr => ∃ k : Nat, k <= n /\ kv = .int .i64 k /\ Hid (∃ l' : List UInt8, l'.length = bl /\ wr.ownsRow W2.heap.size 5 1 (.slice (some ⟨gc, 0, none⟩) bl cc) bl (l'.map U8)) /\ Hid (Keeps (fun i => i = gc) W3 wr)) (fun kv _ => n - (intOf kv).toNat)
        case atStart => exact ⟨0, by omega, rfl, HRow, Keeps.refl _ _⟩
        case round =>
         obtain ⟨k, hk, rfl, HRw, HKw⟩ := hrel
         by_cases hkn : k < n
         ·have hkn' : (k : Int) < (n : Int) := by omega
          obtain ⟨l', hl', hrw⟩ := HRw.out
          obtain ⟨t, ht⟩ : ∃ t : Nat, (an : Int) + (k : Int) = (t : Int) := ⟨an + k, by omega⟩
          have htb : t < bl := by omega
          have htb' : (t : Int) < (bl : Int) := by omega
          have hln : k < l.length := by have := HN.out; omega
          have c3 := (HOb3.out.keep HKw.out (fun e => hgcg (by have e' : g = gc := e; exact e'.symm))).cell k hln
          obtain ⟨⟨old, c4⟩, f4, hset⟩ := own_set hrw hl' t htb (l[k])
          have HSet : Hid (∃ l'' : List UInt8, l''.length = bl /\ (wr.setCell ⟨gc, t, none⟩ (.int .u8 ((l[k]).toNat : Int))).ownsRow W2.heap.size 5 1 (.slice (some ⟨gc, 0, none⟩) bl cc) bl (l''.map U8)) := ⟨l'.set t l[k], by rw [List.length_set]; exact hl', hset⟩
          generalize ((l[k]).toNat : Int) = x at *
          clear hrw hset HRw hl'
          go_wp2
          exact ⟨⟨k + 1, by omega, by go_num, HSet, HKw.out.grown (grown_setCell (grown_refl _ _) _ _) (fun i e => .inl (Option.some.inj e).symm)⟩, by simp [intOf]; omega⟩
         ·have hge : ¬ (k : Int) < (n : Int) := by omega
          have hbx := HKw.out.heap HBx3.out (fun e => hgcb (by have e' : w1.heap.size = gc := e; exact e'.symm))
          have z3 : wr.cell? ⟨w1.heap.size, 3, none⟩ = some (.slice ba1 b1.length bc1) := cell_of_block hbx 3
          have f3 : wr.frozen? ⟨w1.heap.size, 3, none⟩ = false := frozen_of_block hbx 3
          have z0 : wr.cell? ⟨w1.heap.size, 0, none⟩ = some (.int .i64 k1) := cell_of_block hbx 0
          have z1 : wr.cell? ⟨w1.heap.size, 1, none⟩ = some (.int .i64 m1) := cell_of_block hbx 1
          have z2 : wr.cell? ⟨w1.heap.size, 2, none⟩ = some (.int .i64 l1) := cell_of_block hbx 2
          have z4 : wr.cell? ⟨w1.heap.size, 4, none⟩ = some (.slice da1 d1.length dc1) := cell_of_block hbx 4
          have z5 : wr.cell? ⟨w1.heap.size, 5, none⟩ = some (.int .i64 ind1) := cell_of_block hbx 5
          have HBx4 := hid hbx
          clear hbx
          go_wp2_with fail
          obtain ⟨W4, hW4⟩ : ∃ W4, W4 = wr.setCell ⟨w1.heap.size, 3, none⟩ (.slice (some ⟨gc, 0, none⟩) bl cc) := ⟨_, rfl⟩
          rw [<- hW4]
          obtain ⟨l', hl', hrw⟩ := HRw.out
          have hgc := HGc.out
          have hs2 := HS2.out
          have hs13 := HB13.out.size
          have hs1 := HK1.out.size
          have hs3 := HKw.out.size
          have hbl4 := lt_of_heap HBx4.out
          have k34 : Keeps (fun i => i = w1.heap.size) wr W4 := by rw [hW4]; exact (Keeps.refl _ wr).grown (grown_setCell (grown_refl _ _) _ _) (fun i e => .inl (Option.some.inj e).symm)
          have k14 : Keeps (fun i => w1.heap.size <= i) w1 W4 := ((Keeps.of_below HB13.out : Keeps (fun i => w1.heap.size <= i) w1 W3).trans HKw.out (fun i e => .inl (by have e' : i = gc := e; show w1.heap.size <= i; omega))).trans k34 (fun i e => .inl (by have e' : i = w1.heap.size := e; show w1.heap.size <= i; omega))
          have kw4 : Keeps (fun i => i = r \/ i = m) w W4 := HK1.out.trans k14 (fun i e => .inr (by have e' : w1.heap.size <= i := e; omega))
          have hrw4 := k34.row hrw (fun i e e2 => by have h5 := (row_ge hrw i e).1; have e3 : i = w1.heap.size := e2; omega)
          have href : Ref6 W4 F r m := by
           have q3 : Ref6 W3 (fun i => F i \/ i = gc \/ i = w1.heap.size) r m := HR1.out.keep (Keeps.of_below HB13.out : Keeps (fun _ => False) w1 W3) (fun _ e => e.elim) (fun i e => by rcases e with e | e | e; exact .inl e; exact .inr (by omega); exact .inr (by omega))
           have q4 : Ref6 wr (fun i => F i \/ i = gc \/ i = w1.heap.size) r m := q3.keep HKw.out (fun i e => .inr (.inl e)) (fun i e => .inl e)
           exact q4.keep k34 (fun i e => .inr (.inr e)) (fun i e => .inl (.inl e))
          have hrl := HR.out.lt
          have hok4 : RF.ok W4 (zOf F r m) ⟨k1, m1, l1, l', some ⟨gc, 0, none⟩, cc, d1, da1, dc1, ind1⟩ := by
           have h9 := HOk1.out.keep k14 (Z' := zOf F r m) (fun i hi _ e => by have e' : w1.heap.size <= i := e; omega) (fun _ _ hn => hn)
           refine ⟨fun j hj => ⟨gc, 0, rfl, fun i hi => ?_⟩, fun b o e => ?_, h9.data, h9.dz, by show l'.length <= 70656; omega, h9.dl⟩
           ·have hi' : i < l'.length := hi
            rw [Nat.zero_add, hrw4.cellAt i (by omega), List.getElem?_map, List.getElem?_eq_getElem hi']
            rfl
           ·have e' : (⟨gc, 0, none⟩ : Addr) = ⟨b, o, none⟩ := Option.some.inj e
            cases e'
            refine ⟨fun hh => ?_, by have := k34.size; have := (row_ge hrw gc rfl).2; omega⟩
            rcases hh with hh | hh | hh
            ·have := HFl.out _ hh; omega
            ·omega
            ·omega
          have hse := v6set_any href (fun i hi => Nat.lt_of_lt_of_le (HFl.out i hi) kw4.size) j hj16 ⟨k1, m1, l1, l', some ⟨gc, 0, none⟩, cc, d1, da1, dc1, ind1⟩ hok4
          have hce : (RF.cells ⟨k1, m1, l1, l', some ⟨gc, 0, none⟩, cc, d1, da1, dc1, ind1⟩).toArray = #[.int .i64 k1, .int .i64 m1, .int .i64 l1, .slice (some ⟨gc, 0, none⟩) bl cc, .slice da1 d1.length dc1, .int .i64 ind1] := by
           unfold RF.cells
           rw [hl']
          rw [hce] at hse
          have HSe := hid hse
          have HK4 := hid kw4
          clear hse hce hok4 hrl href hrw4 k34 k14 kw4 hrw hl' hgc hs2 hs13 hs1 hs3 hbl4 hW4 z0 z1 z2 z3 z4 z5 f3
          refine HSe.out.mono ?_
          clear HSe
          rintro e wg ⟨rfl, hkg, hrg, -⟩
          have HKg := hid hkg
          have HRg := hid hrg
          clear hkg hrg
          go_wp2
          go_ret
          exact ⟨⟨HK4.out.trans HKg.out (fun i e => .inl (.inl e)), m, .inl rfl, HRg.out⟩, 0, rfl⟩
      ·have b5' : ¬ (b0.length : Int) < (q : Int) := by omega
       have hqs : an + n <= b0.length := by omega
       clear x0 x1 x2 x4 x5
       generalize b0.length = qz at *
       have HRz := hid (v6resize_r HR.out HFl.out j hj16 qz hb7)
       go_wp2_with fail
       refine HRz.out.mono ?_
       clear HRz
       rintro e w1 ⟨hto, ⟨b, rfl, rfl⟩ | ⟨rfl, hk1, hr1, g1, cp1, f1, hc1, hrow1, hok1, hl1⟩⟩
       ·obtain ⟨kk, m', hm', hr'⟩ := hto
        have HFu := hid (v6full_r hr' (fun i hi => Nat.lt_of_lt_of_le (HFl.out i hi) kk.size))
        have HKk := hid kk
        clear kk hr' c1 x3
        go_wp2_with fail
        refine HFu.out.mono ?_
        clear HFu
        rintro e w2 ⟨rfl, hk2, m2, hm2, hr2⟩
        have HK2 := hid hk2
        have HR2 := hid hr2
        clear hk2 hr2
        go_wp2_with fail
        go_ret
        have hs := HKk.out.size
        exact ⟨⟨HKk.out.trans HK2.out (fun i e => .inl (.inl e)), m2, .inr (by omega), HR2.out⟩, 7, rfl⟩
       ·clear hto
        obtain ⟨k1, m1, l1, b1, ba1, bc1, d1, da1, dc1, ind1⟩ := f1
        have y0 : w1.cell? ⟨g1, j * 6, none⟩ = some (.int .i64 k1) := hrow1 0 _ rfl
        have y1 : w1.cell? ⟨g1, j * 6 + 1, none⟩ = some (.int .i64 m1) := hrow1 1 _ rfl
        have y2 : w1.cell? ⟨g1, j * 6 + 2, none⟩ = some (.int .i64 l1) := hrow1 2 _ rfl
        have y3 : w1.cell? ⟨g1, j * 6 + 3, none⟩ = some (.slice ba1 b1.length bc1) := hrow1 3 _ rfl
        have y4 : w1.cell? ⟨g1, j * 6 + 4, none⟩ = some (.slice da1 d1.length dc1) := hrow1 4 _ rfl
        have y5 : w1.cell? ⟨g1, j * 6 + 5, none⟩ = some (.int .i64 ind1) := hrow1 5 _ rfl
        have HOk1 := hid hok1
        have HK1 := hid hk1
        have HR1 := hid hr1
        have HL1 := hid hl1
        clear hrow1 hok1 hk1 hr1 hl1 x3 c1
        obtain ⟨W2, hW2⟩ : ∃ W2, W2 = w1.alloc (.cells #[.int .i64 k1, .int .i64 m1, .int .i64 l1, .slice ba1 b1.length bc1, .slice da1 d1.length dc1, .int .i64 ind1] 94) := ⟨_, rfl⟩
        have HB12 : Hid (Below w1.heap.size w1 W2) := by rw [hW2]; exact (Below.refl _ w1).alloc (Nat.le_refl _) _
        have HBx : Hid (W2.heap[w1.heap.size]? = some (.cells #[.int .i64 k1, .int .i64 m1, .int .i64 l1, .slice ba1 b1.length bc1, .slice da1 d1.length dc1, .int .i64 ind1] 94 (0, 0))) := by rw [hW2]; exact block_new w1 _
        have HS2 : Hid (W2.heap.size = w1.heap.size + 1) := by rw [hW2]; exact World.size_alloc _ _
        have HW2 := hid hW2
        have hb17 : b1.length <= 70656 := HOk1.out.bl
        have HBb : Hid (0 < b1.length -> ∃ ad, ba1 = some ad /\ ∀ t u, (b1.map U8)[t]? = some u -> W2.cell? (ad.add t) = some u) := fun hp => by
         obtain ⟨b, o, e, hc⟩ := HOk1.out.bytes 0 hp
         refine ⟨⟨b, o, none⟩, e, fun t u hu => ?_⟩
         have ht : t < b1.length := by have := (List.getElem?_eq_some_iff.1 hu).1; simpa using this
         have h5 := hc t ht
         rw [Addr.add_mid, HB12.out.cell (World.block_lt_of_cell? w1 _ h5), h5]
         rw [List.getElem?_map, List.getElem?_eq_getElem ht] at hu
         exact hu
        obtain ⟨i8, hi8, hy0, hy1, hy2⟩ := info_parts infoU8
        have HI8 := hid hi8
        clear hi8 hW2
        go_wp2_with (rw [<- HW2.out]; refine wpList_append_row Tryz.underlying42 HI8.out hy0 hy1 hy2 rfl (by omega) rfl (.tmp 74) (.tmp 76) rfl W2.heap.size (.slice none 0 0) 0 [] rfl (World.ownsRow_nil _ _ _ _) ba1 b1.length bc1 (b1.map U8) rfl (by simp) HBb.out (fun u hu => by obtain ⟨x, -, rfl⟩ := List.mem_map.1 hu; rfl) (by omega) (Nat.le_refl _) ?_; intro bv W3 hown hgr hat; rw [Nat.zero_add, List.nil_append] at hown)
        have hb23 : Below W2.heap.size W2 W3 := ⟨hgr.os, hgr.tape, hgr.output, hgr.size, fun k hk => hgr.block k hk (by simp [Value.ownBlock])⟩
        have hb1q := HL1.out
        obtain ⟨gc, cc, hbv⟩ : ∃ gc cc, bv = .slice (some ⟨gc, 0, none⟩) b1.length cc := by
         rcases hown.2 with ⟨e, h0⟩ | ⟨g0, cap, cur, e, -⟩
         ·omega
         ·exact ⟨g0, cap, e⟩
        subst hbv
        have hgc := row_ge hown gc rfl
        have hbx3 := below_block hb23 HBx.out (by have := HS2.out; omega)
        have hzg : g < w.heap.size := HOb.out.lt
        have hob1 := HOb.out.keep HK1.out (fun hh => HGz.out (hh.elim (fun e => .inr (.inl e)) (fun e => .inr (.inr e))))
        have hob3 := (hob1.below HB12.out).below hb23
        have hw1 := HK1.out.size
        have HRow : Hid (∃ l' : List UInt8, l'.length = b1.length /\ W3.ownsRow W2.heap.size 5 1 (.slice (some ⟨gc, 0, none⟩) b1.length cc) b1.length (l'.map U8)) := ⟨b1, rfl, hown⟩
        have HOb3 := hid hob3
        have HBx3 := hid hbx3
        have HB13 := hid (HB12.out.trans (hb23.mono HB12.out.size))
        have hgcg : gc ≠ g := by have := HS2.out; omega
        have hgcb : gc ≠ w1.heap.size := by have := HS2.out; omega
        have HGc := hid hgc
        clear hown hgr hat hb23 hbx3 hob1 hob3 HBb HI8 HW2 HBx y0 y1 y2 y3 y4 y5 hgc
        obtain ⟨bl, hbl⟩ : ∃ bl, bl = b1.length := ⟨_, rfl⟩
        rw [<- hbl] at hb1q HRow hb17 ⊢
        have HBl := hid hbl
        clear hbl
        subst hb1q
        go_loopw [13] (fun kv wr => ∃ k : Nat, k <= n /\ kv = .int .i64 k /\ Hid (∃ l' : List UInt8, l'.length = bl /\ wr.ownsRow W2.heap.size 5 1 (.slice (some ⟨gc, 0, none⟩) bl cc) bl (l'.map U8)) /\ Hid (Keeps (fun i => i = gc) W3 wr)) (fun kv _ => n - (intOf kv).toNat)
        case atStart => exact ⟨0, by omega, rfl, HRow, Keeps.refl _ _⟩
        case round =>
         obtain ⟨k, hk, rfl, HRw, HKw⟩ := hrel
         by_cases hkn : k < n
         ·have hkn' : (k : Int) < (n : Int) := by omega
          obtain ⟨l', hl', hrw⟩ := HRw.out
          obtain ⟨t, ht⟩ : ∃ t : Nat, (an : Int) + (k : Int) = (t : Int) := ⟨an + k, by omega⟩
          have htb : t < bl := by omega
          have htb' : (t : Int) < (bl : Int) := by omega
          have hln : k < l.length := by have := HN.out; omega
          have c3 := (HOb3.out.keep HKw.out (fun e => hgcg (by have e' : g = gc := e; exact e'.symm))).cell k hln
          obtain ⟨⟨old, c4⟩, f4, hset⟩ := own_set hrw hl' t htb (l[k])
          have HSet : Hid (∃ l'' : List UInt8, l''.length = bl /\ (wr.setCell ⟨gc, t, none⟩ (.int .u8 ((l[k]).toNat : Int))).ownsRow W2.heap.size 5 1 (.slice (some ⟨gc, 0, none⟩) bl cc) bl (l''.map U8)) := ⟨l'.set t l[k], by rw [List.length_set]; exact hl', hset⟩
          generalize ((l[k]).toNat : Int) = x at *
          clear hrw hset HRw hl'
          go_wp2
          exact ⟨⟨k + 1, by omega, by go_num, HSet, HKw.out.grown (grown_setCell (grown_refl _ _) _ _) (fun i e => .inl (Option.some.inj e).symm)⟩, by simp [intOf]; omega⟩
         ·have hge : ¬ (k : Int) < (n : Int) := by omega
          have hbx := HKw.out.heap HBx3.out (fun e => hgcb (by have e' : w1.heap.size = gc := e; exact e'.symm))
          have z3 : wr.cell? ⟨w1.heap.size, 3, none⟩ = some (.slice ba1 b1.length bc1) := cell_of_block hbx 3
          have f3 : wr.frozen? ⟨w1.heap.size, 3, none⟩ = false := frozen_of_block hbx 3
          have z0 : wr.cell? ⟨w1.heap.size, 0, none⟩ = some (.int .i64 k1) := cell_of_block hbx 0
          have z1 : wr.cell? ⟨w1.heap.size, 1, none⟩ = some (.int .i64 m1) := cell_of_block hbx 1
          have z2 : wr.cell? ⟨w1.heap.size, 2, none⟩ = some (.int .i64 l1) := cell_of_block hbx 2
          have z4 : wr.cell? ⟨w1.heap.size, 4, none⟩ = some (.slice da1 d1.length dc1) := cell_of_block hbx 4
          have z5 : wr.cell? ⟨w1.heap.size, 5, none⟩ = some (.int .i64 ind1) := cell_of_block hbx 5
          have HBx4 := hid hbx
          clear hbx
          go_wp2_with fail
          obtain ⟨W4, hW4⟩ : ∃ W4, W4 = wr.setCell ⟨w1.heap.size, 3, none⟩ (.slice (some ⟨gc, 0, none⟩) bl cc) := ⟨_, rfl⟩
          rw [<- hW4]
          obtain ⟨l', hl', hrw⟩ := HRw.out
          have hgc := HGc.out
          have hs2 := HS2.out
          have hs13 := HB13.out.size
          have hs1 := HK1.out.size
          have hs3 := HKw.out.size
          have hbl4 := lt_of_heap HBx4.out
          have k34 : Keeps (fun i => i = w1.heap.size) wr W4 := by rw [hW4]; exact (Keeps.refl _ wr).grown (grown_setCell (grown_refl _ _) _ _) (fun i e => .inl (Option.some.inj e).symm)
          have k14 : Keeps (fun i => w1.heap.size <= i) w1 W4 := ((Keeps.of_below HB13.out : Keeps (fun i => w1.heap.size <= i) w1 W3).trans HKw.out (fun i e => .inl (by have e' : i = gc := e; show w1.heap.size <= i; omega))).trans k34 (fun i e => .inl (by have e' : i = w1.heap.size := e; show w1.heap.size <= i; omega))
          have kw4 : Keeps (fun i => i = r \/ i = m) w W4 := HK1.out.trans k14 (fun i e => .inr (by have e' : w1.heap.size <= i := e; omega))
          have hrw4 := k34.row hrw (fun i e e2 => by have h5 := (row_ge hrw i e).1; have e3 : i = w1.heap.size := e2; omega)
          have href : Ref6 W4 F r m := by
           have q3 : Ref6 W3 (fun i => F i \/ i = gc \/ i = w1.heap.size) r m := HR1.out.keep (Keeps.of_below HB13.out : Keeps (fun _ => False) w1 W3) (fun _ e => e.elim) (fun i e => by rcases e with e | e | e; exact .inl e; exact .inr (by omega); exact .inr (by omega))
           have q4 : Ref6 wr (fun i => F i \/ i = gc \/ i = w1.heap.size) r m := q3.keep HKw.out (fun i e => .inr (.inl e)) (fun i e => .inl e)
           exact q4.keep k34 (fun i e => .inr (.inr e)) (fun i e => .inl (.inl e))
          have hrl := HR.out.lt
          have hok4 : RF.ok W4 (zOf F r m) ⟨k1, m1, l1, l', some ⟨gc, 0, none⟩, cc, d1, da1, dc1, ind1⟩ := by
           have h9 := HOk1.out.keep k14 (Z' := zOf F r m) (fun i hi _ e => by have e' : w1.heap.size <= i := e; omega) (fun _ _ hn => hn)
           refine ⟨fun j hj => ⟨gc, 0, rfl, fun i hi => ?_⟩, fun b o e => ?_, h9.data, h9.dz, by show l'.length <= 70656; omega, h9.dl⟩
           ·have hi' : i < l'.length := hi
            rw [Nat.zero_add, hrw4.cellAt i (by omega), List.getElem?_map, List.getElem?_eq_getElem hi']
            rfl
           ·have e' : (⟨gc, 0, none⟩ : Addr) = ⟨b, o, none⟩ := Option.some.inj e
            cases e'
            refine ⟨fun hh => ?_, by have := k34.size; have := (row_ge hrw gc rfl).2; omega⟩
            rcases hh with hh | hh | hh
            ·have := HFl.out _ hh; omega
            ·omega
            ·omega
          have hse := v6set_any href (fun i hi => Nat.lt_of_lt_of_le (HFl.out i hi) kw4.size) j hj16 ⟨k1, m1, l1, l', some ⟨gc, 0, none⟩, cc, d1, da1, dc1, ind1⟩ hok4
          have hce : (RF.cells ⟨k1, m1, l1, l', some ⟨gc, 0, none⟩, cc, d1, da1, dc1, ind1⟩).toArray = #[.int .i64 k1, .int .i64 m1, .int .i64 l1, .slice (some ⟨gc, 0, none⟩) bl cc, .slice da1 d1.length dc1, .int .i64 ind1] := by
           unfold RF.cells
           rw [hl']
          rw [hce] at hse
          have HSe := hid hse
          have HK4 := hid kw4
          clear hse hce hok4 hrl href hrw4 k34 k14 kw4 hrw hl' hgc hs2 hs13 hs1 hs3 hbl4 hW4 z0 z1 z2 z3 z4 z5 f3
          refine HSe.out.mono ?_
          clear HSe
          rintro e wg ⟨rfl, hkg, hrg, -⟩
          have HKg := hid hkg
          have HRg := hid hrg
          clear hkg hrg
          go_wp2
          go_ret
          exact ⟨⟨HK4.out.trans HKg.out (fun i e => .inl (.inl e)), m, .inl rfl, HRg.out⟩, 0, rfl⟩
end
end
section
set_option maxRecDepth 100000
set_option maxHeartbeats 1000000
open Go.RowKit
section
variable {w w' : World} {F : Nat -> Prop} {r m : Nat}
theorem rowY.keepE {base : Nat} {v : Value} {xs : List UInt8} (h : rowY w base v xs) (hb : Below w.heap.size w w') : rowY w' base v xs := (Keeps.of_below hb : Keeps (fun _ => False) w w').row h (fun _ _ e => e)
def RszTo (w : World) (F : Nat -> Prop) (r m : Nat) (i : Int) (e : Ending) (w' : World) : Prop := R6To w F r m w' /\ ∃ c : Int, e = .returned (.int .i64 c) /\ (c = 0 -> 1 <= i /\ i < 16 /\ Keeps (fun i => i = r \/ i = m) w w' /\ Ref6 w' F r m)
theorem rszTo_mk {i c : Int} (h : R6To w F r m w') (hc : c ≠ 0) : RszTo w F r m i (.returned (.int .i64 c)) w' := ⟨h, c, rfl, fun e => absurd e hc⟩
theorem v6Resize_r (h : Ref6 w F r m) (hFl : ∀ i, F i -> i < w.heap.size) (i s : Int) : Calls Tryz.prog 48 #[.pointer (some ⟨r, 0, none⟩), .int .i64 i, .int .i64 s] w fun e w' => RszTo w F r m i e w' := by
 have HLk := hid (v6look_any h i)
 have HFl := hid hFl
 have HR := hid h
 clear h hFl
 go_enter Tryz.func48, Tryz.ntmps48
 go_wp2_with fail
 refine HLk.out.mono ?_
 clear HLk
 rintro e w1 ⟨h1, n, rfl, hn⟩
 obtain rfl := h1.symm
 clear h1
 have HK := hid (R6To.refl HR.out)
 rcases hn with rfl | rfl | ⟨rfl, hi1, hi2⟩
 ·go_wp2_with fail
  go_ret
  exact rszTo_mk HK.out (by decide)
 ·go_wp2_with fail
  go_ret
  exact rszTo_mk HK.out (by decide)
 ·by_cases b1 : s < 0
  ·go_wp2_with fail
   go_ret
   exact rszTo_mk HK.out (by decide)
  ·by_cases b2 : 70656 < s
   ·go_wp2_with fail
    go_ret
    exact rszTo_mk HK.out (by decide)
   ·obtain ⟨j, rfl⟩ : ∃ j : Nat, i = (j : Int) := ⟨i.toNat, by omega⟩
    obtain ⟨t, rfl⟩ : ∃ t : Nat, s = (t : Int) := ⟨s.toNat, by omega⟩
    have HRz := hid (v6resize_r HR.out HFl.out j (by omega) t (by omega))
    clear HK
    go_wp2_with fail
    refine HRz.out.mono ?_
    clear HRz
    rintro e w1 ⟨⟨kk, m', hm', hr'⟩, ⟨b, rfl, rfl⟩ | ⟨rfl, hk1, hr1, -⟩⟩
    ·have HFu := hid (v6full_r hr' (fun i hi => Nat.lt_of_lt_of_le (HFl.out i hi) kk.size))
     have HKk := hid kk
     clear kk hr'
     go_wp2_with fail
     refine HFu.out.mono ?_
     clear HFu
     rintro e w2 ⟨rfl, hk2, m2, hm2, hr2⟩
     have HK2 := hid hk2
     have HR2 := hid hr2
     clear hk2 hr2
     go_wp2_with fail
     go_ret
     have hs := HKk.out.size
     exact rszTo_mk ⟨HKk.out.trans HK2.out (fun i e => .inl (.inl e)), m2, .inr (by omega), HR2.out⟩ (by decide)
    ·have HK1 := hid hk1
     have HR1 := hid hr1
     clear kk hr' hk1 hr1 hm'
     go_wp2_with fail
     go_ret
     exact ⟨⟨HK1.out, m, .inl rfl, HR1.out⟩, 0, rfl, fun _ => ⟨hi1, hi2, HK1.out, HR1.out⟩⟩
def rfNone : RF := ⟨0, 0, 0, [], none, 0, [], none, 0, 0⟩
theorem rfNone_ok (w : World) (Z : Nat -> Prop) : rfNone.ok w Z := ⟨fun j hj => (by cases hj), fun b o e => (by cases e), fun j hj => (by cases hj), fun b o e => (by cases e), Nat.zero_le _, Nat.zero_le _⟩
theorem v6Drop_r (h : Ref6 w F r m) (hFl : ∀ i, F i -> i < w.heap.size) (i : Int) : Calls Tryz.prog 51 #[.pointer (some ⟨r, 0, none⟩), .int .i64 i] w fun e w' => R6To w F r m w' /\ ∃ c : Int, e = .returned (.int .i64 c) := by
 have HRz := hid (v6Resize_r h hFl i 0)
 have HFl := hid hFl
 clear h hFl
 go_enter Tryz.func51, Tryz.ntmps51
 go_wp2_with fail
 refine HRz.out.mono ?_
 clear HRz
 rintro e w1 ⟨hto, c, rfl, hc⟩
 by_cases h0 : c = 0
 ·subst h0
  obtain ⟨hi1, hi2, hk1, hr1⟩ := hc rfl
  obtain ⟨j, rfl⟩ : ∃ j : Nat, i = (j : Int) := ⟨i.toNat, by omega⟩
  have hF1 : ∀ i, F i -> i < w1.heap.size := fun i hi => Nat.lt_of_lt_of_le (HFl.out i hi) hk1.size
  have HSe := hid (v6set_any hr1 hF1 j (by omega) rfNone (rfNone_ok _ _))
  have HF1 := hid hF1
  have HK1 := hid hk1
  clear hto hc hk1 hr1 hF1
  go_wp2_with fail
  refine HSe.out.mono ?_
  clear HSe
  rintro e w2 ⟨rfl, hk2, hr2, -⟩
  have c0 := hr2.cell0
  have HGi := hid (v5GiveInode_r hr2 (fun i hi => Nat.lt_of_lt_of_le (HF1.out i hi) hk2.size) j)
  have HK2 := hid hk2
  clear hk2 hr2
  go_wp2_with fail
  refine HGi.out.mono ?_
  clear HGi
  rintro e w3 ⟨hk3, hr3, c3, rfl⟩
  have HK3 := hid hk3
  have HR3 := hid hr3
  clear hk3 hr3
  go_wp2_with fail
  go_ret
  exact ⟨⟨(HK1.out.trans HK2.out (fun i e => .inl (.inl e))).trans HK3.out (fun i e => .inl (.inr e)), m, .inl rfl, HR3.out⟩, 0, rfl⟩
 ·have HTo := hid hto
  clear hc hto
  go_wp2_with fail
  go_ret
  exact ⟨HTo.out, c, rfl⟩
def RdTo (w : World) (e : Ending) (w' : World) : Prop := Below w.heap.size w w' /\ ∃ (v : Value) (l : List UInt8) (c : Int), e = .returned (.tuple #[v, .int .i64 c]) /\ rowY w' w.heap.size v l /\ l.length <= 70656
theorem rdTo_mk {v : Value} {l : List UInt8} {c : Int} (hb : Below w.heap.size w w') (hr : rowY w' w.heap.size v l) (hl : l.length <= 70656) : RdTo w (.returned (.tuple #[v, .int .i64 c])) w' := ⟨hb, v, l, c, rfl, hr, hl⟩
theorem v6Read_r (h : Ref6 w F r m) (i a n : Int) : Calls Tryz.prog 46 #[.pointer (some ⟨r, 0, none⟩), .int .i64 i, .int .i64 a, .int .i64 n] w fun e w' => RdTo w e w' := by
 obtain ⟨lb, lc, km, kb, kc, fl, kl, h1, h2, -⟩ := h.heap
 have c1 : w.cell? ⟨r, 1, none⟩ = some (.slice (some ⟨lb, 0, none⟩) 16 lc) := cell_of_block h1 1
 have HLk := hid (v6look_any h i)
 have HSd := hid h2
 clear h h1 h2
 go_enter Tryz.func46, Tryz.ntmps46
 go_wp2_with fail
 refine HLk.out.mono ?_
 clear HLk
 rintro e w1 ⟨h1, nn, rfl, hn⟩
 obtain rfl := h1.symm
 clear h1
 rcases hn with rfl | rfl | ⟨rfl, hi1, hi2⟩
 ·go_wp2_with fail
  go_returns
  exact rdTo_mk (l := []) (Below.refl _ _) (World.ownsRow_nil _ _ _ _) (Nat.zero_le _)
 ·go_wp2_with fail
  go_returns
  exact rdTo_mk (l := []) (Below.refl _ _) (World.ownsRow_nil _ _ _ _) (Nat.zero_le _)
 ·by_cases b1 : a < 0
  ·go_wp2_with fail
   go_returns
   exact rdTo_mk (l := []) (Below.refl _ _) (World.ownsRow_nil _ _ _ _) (Nat.zero_le _)
  ·by_cases b2 : n < 0
   ·go_wp2_with fail
    go_returns
    exact rdTo_mk (l := []) (Below.refl _ _) (World.ownsRow_nil _ _ _ _) (Nat.zero_le _)
   ·obtain ⟨j, rfl⟩ : ∃ j : Nat, i = (j : Int) := ⟨i.toNat, by omega⟩
    obtain ⟨a0, rfl⟩ : ∃ a0 : Nat, a = (a0 : Int) := ⟨a.toNat, by omega⟩
    obtain ⟨k0, m0, l0, b0, ba, bc, d0, da, dc, ind, x0, x1, x2, x3, x4, x5, hok⟩ := HSd.out.six j (by omega)
    have hb7 : b0.length <= 70656 := hok.bl
    have hj16 : j < 16 := by omega
    have HBb := hid hok.bytes
    clear hok HSd
    obtain ⟨i8, hi8, hy0, hy1, hy2⟩ := info_parts infoU8
    have HI8 := hid hi8
    clear hi8
    go_wp2_with fail
    go_loopw [11, 13] (fun v kv W => ∃ (k : Nat) (l : List UInt8) (va : Option Addr) (vc : Nat), kv = .int .i64 k /\ v = .slice va l.length vc /\ a0 + l.length = k /\ (l.length = 0 \/ k <= b0.length) /\ Hid (rowY W w.heap.size v l) /\ Hid (Below w.heap.size w W)) (fun _ kv _ => b0.length - (intOf kv).toNat)
    case atStart => exact ⟨a0, [], none, 0, rfl, rfl, rfl, .inl rfl, World.ownsRow_nil _ _ _ _, Below.refl _ _⟩
    case round =>
     obtain ⟨k, l, va, vc, rfl, rfl, hkl, hlk, HRo, HBl⟩ := hrel
     by_cases hlt : k < b0.length
     ·have hlt' : (k : Int) < (b0.length : Int) := by omega
      by_cases hln : (l.length : Int) < n
      ·obtain ⟨b1, o1, rfl, hcs⟩ := HBb.out k hlt
       have hgk := (HBl.out.cell (World.block_lt_of_cell? w _ (hcs k hlt))).trans (hcs k hlt)
       have hi0 : (0 : Int) <= (k : Int) := by omega
       generalize b0[k] = y at *
       obtain ⟨W3, hW3⟩ : ∃ W3, W3 = wr.alloc (.cells #[.int .u8 (y.toNat : Int)] 5) := ⟨_, rfl⟩
       have hb3 : Below wr.heap.size wr W3 := by rw [hW3]; exact (Below.refl _ wr).alloc (Nat.le_refl _) _
       have hc3 : W3.cell? ⟨wr.heap.size, 0, none⟩ = some (.int .u8 (y.toNat : Int)) := by rw [hW3]; exact cell_of_block (block_new wr _) 0
       have HOw3 := hid (HRo.out.keepE hb3)
       have HW3 := hid hW3
       have HB3 := hid hb3
       have HC3 := hid hc3
       clear hcs hW3 hb3 hc3
       go_wp2_with (rw [<- HW3.out]; refine wpList_append_row Tryz.underlying42 HI8.out hy0 hy1 hy2 rfl (by omega) rfl (.tmp 47) (.tmp 52) rfl w.heap.size (.slice va l.length vc) l.length (l.map U8) rfl HOw3.out (some ⟨wr.heap.size, 0, none⟩) 1 1 ([y].map U8) rfl rfl (fun _ => ⟨_, rfl, fun t u hu => by obtain ⟨ht, e⟩ := List.getElem?_eq_some_iff.1 hu; have ht' : t = 0 := (by simp at ht; omega); subst ht'; rw [<- e]; exact HC3.out⟩) (fun u hu => by obtain ⟨x, -, rfl⟩ := List.mem_map.1 hu; rfl) (by omega) (by have h1 := HBl.out.size; have h2 := HB3.out.size; omega) ?_; intro v' W4 hown4 hgr4 hat4; rw [<- List.map_append] at hown4)
       obtain ⟨va', vc', rfl⟩ : ∃ va' vc', v' = .slice va' (l.length + 1) vc' := by
        rcases hown4.2 with ⟨e, h0⟩ | ⟨g, cap, cur, e, -⟩
        ·omega
        ·exact ⟨_, cap, e⟩
       have hbW : Below w.heap.size w W4 := (HBl.out.trans (HB3.out.mono HBl.out.size)).trans (below_of_row hgr4 (by have h1 := HBl.out.size; have h2 := HB3.out.size; omega) (fun i e => (row_ge HOw3.out i e).1))
       have hl1 : (l ++ [y]).length = l.length + 1 := by simp
       exact ⟨⟨k + 1, l ++ [y], va', vc', by go_num, by rw [hl1], by omega, by omega, by unfold Hid rowY; rw [hl1]; exact hown4, hbW⟩, by simp [intOf]; omega⟩
      ·have hbl : Hid (l.length <= 70656) := by unfold Hid; omega
       go_wp2_with fail
       go_returns
       exact rdTo_mk HBl.out HRo.out hbl.out
     ·have hge : ¬ (k : Int) < (b0.length : Int) := by omega
      have hbl : Hid (l.length <= 70656) := by unfold Hid; omega
      go_wp2_with fail
      go_returns
      exact rdTo_mk HBl.out HRo.out hbl.out
end
end
section
set_option maxRecDepth 100000
set_option maxHeartbeats 8000000
open Go.RowKit
def xD (kd ii aa n nd md lk : Int) (x : UInt8) : List Value := [.int .i64 kd, .int .i64 ii, .int .i64 aa, .int .i64 n, .int .i64 nd, .int .i64 md, .int .i64 lk, .int .u8 (x.toNat : Int)]
section
variable {w w' : World} {s m c r mr : Nat} {F : Nat -> Prop} {Pg Cm : Nat -> List UInt8} {fs cs : Nat -> Option FileA} {o u : Nat}
def ManyAt (w : World) (s m c r mr : Nat) (F : Nat -> Prop) (o u : Nat) : Prop :=
 ∃ Pg Cm fs cs, St w s m c F 90 16 Pg Cm fs o u /\ GoodX noSk 90 16 Cm cs /\ Ref6 w F r mr
def DoM (w : World) (s m c r mr : Nat) (F : Nat -> Prop) (o u : Nat) (e : Ending) (w' : World) : Prop :=
 ∃ (b : Bool) (F' : Nat -> Prop) (mr' : Nat), e = .returned (.bool b) /\ (∀ i, F i -> F' i) /\ (∀ i, F' i -> F i \/ w.heap.size <= i) /\ Keeps (fun i => F i \/ i = r \/ i = mr) w w' /\ ManyAt w' s m c r mr' F' (o + 206) (u + 303) /\ (mr' = mr \/ w.heap.size <= mr')
theorem l6do_any (h : ManyAt w s m c r mr F o u) (hu : u < 600000) (ho : o < 600000) (kd ii aa n nd md lk : Int) (x : UInt8) : Calls Tryz.prog 15 #[.pointer (some ⟨s, 0, none⟩), .pointer (some ⟨r, 0, none⟩), .agg #[.int .i64 kd, .int .i64 ii, .int .i64 aa, .int .i64 n, .int .i64 nd, .int .i64 md, .int .i64 lk, .int .u8 (x.toNat : Int)]] w (DoM w s m c r mr F o u) := by
 obtain ⟨Pg, Cm, fs, cs, hst, hcm, hr⟩ := h
 obtain ⟨wA, hA⟩ : ∃ wA, wA = w.alloc (.cells #[.int .i64 kd, .int .i64 ii, .int .i64 aa, .int .i64 n, .int .i64 nd, .int .i64 md, .int .i64 lk, .int .u8 (x.toNat : Int)] 25) := ⟨_, rfl⟩
 have hba : Below w.heap.size w wA := by rw [hA]; exact (Below.refl _ w).alloc (Nat.le_refl _) _
 have hxa : wA.heap[w.heap.size]? = some (.cells (xD kd ii aa n nd md lk x).toArray 25 (0, 0)) := by rw [hA]; exact block_new w _
 have HBA := hid hba
 have HXA := hid hxa
 have HFl := hid hst.lt
 have HCm := hid hcm
 have HSA := hid (hst.below hba)
 have HRA := hid (hr.below hba)
 have HRl := hid hr.lt
 have c0 : wA.cell? ⟨w.heap.size, 0, none⟩ = some (.int .i64 kd) := cell_of_block hxa 0
 have c1 : wA.cell? ⟨w.heap.size, 1, none⟩ = some (.int .i64 ii) := cell_of_block hxa 1
 have c2 : wA.cell? ⟨w.heap.size, 2, none⟩ = some (.int .i64 aa) := cell_of_block hxa 2
 have c3 : wA.cell? ⟨w.heap.size, 3, none⟩ = some (.int .i64 n) := cell_of_block hxa 3
 have c4 : wA.cell? ⟨w.heap.size, 4, none⟩ = some (.int .i64 nd) := cell_of_block hxa 4
 have c5 : wA.cell? ⟨w.heap.size, 5, none⟩ = some (.int .i64 md) := cell_of_block hxa 5
 have c6 : wA.cell? ⟨w.heap.size, 6, none⟩ = some (.int .i64 lk) := cell_of_block hxa 6
 have c7 : wA.cell? ⟨w.heap.size, 7, none⟩ = some (.int .u8 (x.toNat : Int)) := cell_of_block hxa 7
 clear hst hcm hr hba hxa
 rcases (show kd = 0 \/ kd = 1 \/ kd = 2 \/ kd = 3 \/ kd = 4 \/ kd = 5 \/ (¬ kd = 0 /\ ¬ kd = 1 /\ ¬ kd = 2 /\ ¬ kd = 3 /\ ¬ kd = 4 /\ ¬ kd = 5) by omega) with rfl | rfl | rfl | rfl | rfl | rfl | ⟨k0, k1, k2, k3, k4, k5⟩
 case' inr.inr.inr.inr.inr.inr =>
  go_enter Tryz.func15, Tryz.ntmps15
  go_wp2_with fail
  rw [<- hA]
  clear hA c0 c1 c2 c3 c4 c5 c6 c7
  have HSB := hid (HSA.out.more (show u <= u + 303 by omega))
  have HKB : Hid (Keeps (fun j => F j \/ j = r \/ j = mr) w wA) := Keeps.of_below HBA.out
  have HMB : Hid (mr = mr \/ w.heap.size <= mr) := .inl rfl
  have HRB := hid HRA.out
  have HCB := hid HCm.out
  clear HSA HBA HXA HRA HCm
 case' inr.inr.inr.inr.inr.inl =>
  have hbd : Below wA.heap.size wA wA.drew := (Below.refl _ wA).drew
  have hxd := below_block hbd HXA.out (lt_of_heap HXA.out)
  have hsd := HSA.out.below hbd
  have HRd := hid (HRA.out.below hbd)
  have HBd := hid (HBA.out.trans (hbd.mono HBA.out.size))
  have HXd := hid hxd
  go_enter Tryz.func15, Tryz.ntmps15
  go_wp2_with fail
  rw [<- hA]
  clear hA
  refine wp_region_noPanic ?_
  refine wp_region_held_drew (S := fun W => W.cell? ⟨w.heap.size, 1, none⟩ = some (.int .i64 ii)) (by kernel_rfl) (cell_of_block hxd 1) (fun hHeld => ?_)
  clear hxd hbd c0 c1 c2 c3 c4 c5 c6 c7
  generalize wA.drew = wd at *
  have HOp := hid (iDrop_free hsd (by omega) ii)
  have HOr := hid (fun W (hR : Ref6 W F r mr) (hF : ∀ i, F i -> i < W.heap.size) => v6Drop_r hR hF ii)
  clear hsd HSA HRA HBA HXA
  refine tq 0 _ ?_
  try simp only [tS]
  refine tq 1 _ ?_
  try simp only [tS]
  refine tq 2 _ ?_
  try simp only [tS]
  refine tq 4 _ ?_
  try simp only [tS]
  refine tq 5 _ ?_
  try simp only [tS]
  refine tq 6 _ ?_
  try simp only [tS]
  refine wpAnyH_ready (rs := [3]) (by kernel_rfl) (by simp) (AllReadyH.cons rfl (fun K hK => ?_) AllReadyH.nil)
  rw [if_pos (by rfl)]
  go_simp
  refine HOp.out.mono ?_
  clear HOp
  rintro e w2 ⟨⟨hk2, Pg2, fs2, hs2⟩, r1, rfl⟩
  have hX2 := hk2.heap HXd.out (fun hh => by have := HFl.out _ hh; omega)
  have hR2 : Ref6 w2 F r mr := HRd.out.keep hk2 (fun _ e => e) (fun _ e => .inl e)
  have e1 : w2.cell? ⟨w.heap.size, 1, none⟩ = some (.int .i64 ii) := cell_of_block hX2 1
  have hkw2 : Keeps F w w2 := (Keeps.of_below HBd.out : Keeps F w wd).trans hk2 (fun j e => .inl e)
  have HOr2 := hid (HOr.out w2 hR2 (fun i hi => Nat.lt_of_lt_of_le (HFl.out i hi) hkw2.size))
  have HX2 := hid hX2
  have HK2 := hid hkw2
  have HS2 := hid hs2
  have HR2 := hid hR2
  clear hk2 hX2 hR2 hkw2 hs2 HOr HXd HRd HBd
  go_wp2_with fail
  refine hK.out _ _ e1 (fun hHeld => ?_)
  clear hK K
  try simp only [tS]
  refine wpAnyH_ready (rs := [7]) (by kernel_rfl) (by simp) (AllReadyH.cons rfl (fun K hK => ?_) AllReadyH.nil)
  rw [if_pos (by rfl)]
  go_simp
  refine HOr2.out.mono ?_
  clear HOr2
  rintro e w4 ⟨⟨hk4, mr4, hm4, hr4⟩, c4, rfl⟩
  have hXr : ¬ (w.heap.size = r \/ w.heap.size = mr) := fun e => by have h8 := HRl.out; omega
  have hX4 := hk4.heap HX2.out hXr
  have g1 : w4.cell? ⟨w.heap.size, 1, none⟩ = some (.int .i64 ii) := cell_of_block hX4 1
  have HSB := hid (HS2.out.ref HR2.out hk4)
  have HKB : Hid (Keeps (fun j => F j \/ j = r \/ j = mr) w w4) := (HK2.out.mono (fun j e => .inl e)).trans hk4 (fun j e => .inl (.inr e))
  have HMB : Hid (mr4 = mr \/ w.heap.size <= mr4) := hm4.imp id (fun e => by have h5 := HK2.out.size; omega)
  have HRB := hid hr4
  have HCB := hid HCm.out
  clear hXr hX4 hk4 hr4 hm4 HX2 HS2 HK2 HR2 HCm e1
  go_wp2_with fail
  refine hK.out _ _ g1 (fun hHeld => ?_)
  clear hK K
  try simp only [tS]
  obtain ⟨okv, hok⟩ : ∃ okv : Bool, okv = (r1 == c4) := ⟨_, rfl⟩
  refine tq 8 (.bool (r1 == c4)) ?_
  try simp only [tS]
  rw [<- hok]
  clear hok
  refine tq 9 _ ?_
  try simp only [tS]
  refine wpAnyH_done (by kernel_rfl) ?_ _
  refine NoPanic.normal ?_
  clear hHeld g1
 case' inr.inr.inr.inr.inl =>
  have hbd : Below wA.heap.size wA wA.drew := (Below.refl _ wA).drew
  have hxd := below_block hbd HXA.out (lt_of_heap HXA.out)
  have hsd := HSA.out.below hbd
  have HRd := hid (HRA.out.below hbd)
  have HBd := hid (HBA.out.trans (hbd.mono HBA.out.size))
  have HXd := hid hxd
  go_enter Tryz.func15, Tryz.ntmps15
  go_wp2_with fail
  rw [<- hA]
  clear hA
  refine wp_region_noPanic ?_
  refine wp_region_held_drew (S := fun W => W.cell? ⟨w.heap.size, 1, none⟩ = some (.int .i64 ii) /\ W.cell? ⟨w.heap.size, 5, none⟩ = some (.int .i64 md) /\ W.cell? ⟨w.heap.size, 6, none⟩ = some (.int .i64 lk)) (by kernel_rfl) ⟨cell_of_block hxd 1, cell_of_block hxd 5, cell_of_block hxd 6⟩ (fun hHeld => ?_)
  clear hxd hbd c0 c1 c2 c3 c4 c5 c6 c7
  generalize wA.drew = wd at *
  have HOp := hid (iSet_free hsd (by omega) ii md lk)
  have HOr := hid (fun W (hR : Ref6 W F r mr) (hF : ∀ i, F i -> i < W.heap.size) => v6Set_r hR hF ii md lk)
  clear hsd HSA HRA HBA HXA
  refine tq 0 _ ?_
  try simp only [tS]
  refine tq 1 _ ?_
  try simp only [tS]
  refine tq 2 _ ?_
  try simp only [tS]
  refine tq 3 _ ?_
  try simp only [tS]
  refine tq 4 _ ?_
  try simp only [tS]
  refine tq 5 _ ?_
  try simp only [tS]
  refine tq 6 _ ?_
  try simp only [tS]
  refine tq 8 _ ?_
  try simp only [tS]
  refine tq 9 _ ?_
  try simp only [tS]
  refine tq 10 _ ?_
  try simp only [tS]
  refine tq 11 _ ?_
  try simp only [tS]
  refine tq 12 _ ?_
  try simp only [tS]
  refine tq 13 _ ?_
  try simp only [tS]
  refine tq 14 _ ?_
  try simp only [tS]
  refine wpAnyH_ready (rs := [7]) (by kernel_rfl) (by simp) (AllReadyH.cons rfl (fun K hK => ?_) AllReadyH.nil)
  rw [if_pos (by rfl)]
  go_simp
  refine HOp.out.mono ?_
  clear HOp
  rintro e w2 ⟨⟨hk2, Pg2, fs2, hs2⟩, r1, rfl⟩
  have hX2 := hk2.heap HXd.out (fun hh => by have := HFl.out _ hh; omega)
  have hR2 : Ref6 w2 F r mr := HRd.out.keep hk2 (fun _ e => e) (fun _ e => .inl e)
  have e1 : w2.cell? ⟨w.heap.size, 1, none⟩ = some (.int .i64 ii) := cell_of_block hX2 1
  have e5 : w2.cell? ⟨w.heap.size, 5, none⟩ = some (.int .i64 md) := cell_of_block hX2 5
  have e6 : w2.cell? ⟨w.heap.size, 6, none⟩ = some (.int .i64 lk) := cell_of_block hX2 6
  have hkw2 : Keeps F w w2 := (Keeps.of_below HBd.out : Keeps F w wd).trans hk2 (fun j e => .inl e)
  have HOr2 := hid (HOr.out w2 hR2 (fun i hi => Nat.lt_of_lt_of_le (HFl.out i hi) hkw2.size))
  have HX2 := hid hX2
  have HK2 := hid hkw2
  have HS2 := hid hs2
  have HR2 := hid hR2
  clear hk2 hX2 hR2 hkw2 hs2 HOr HXd HRd HBd
  go_wp2_with fail
  refine hK.out _ _ ⟨e1, e5, e6⟩ (fun hHeld => ?_)
  clear hK K
  try simp only [tS]
  refine wpAnyH_ready (rs := [15]) (by kernel_rfl) (by simp) (AllReadyH.cons rfl (fun K hK => ?_) AllReadyH.nil)
  rw [if_pos (by rfl)]
  go_simp
  refine HOr2.out.mono ?_
  clear HOr2
  rintro e w4 ⟨⟨hk4, mr4, hm4, hr4⟩, c4, rfl⟩
  have hXr : ¬ (w.heap.size = r \/ w.heap.size = mr) := fun e => by have h8 := HRl.out; omega
  have hX4 := hk4.heap HX2.out hXr
  have g1 : w4.cell? ⟨w.heap.size, 1, none⟩ = some (.int .i64 ii) := cell_of_block hX4 1
  have g5 : w4.cell? ⟨w.heap.size, 5, none⟩ = some (.int .i64 md) := cell_of_block hX4 5
  have g6 : w4.cell? ⟨w.heap.size, 6, none⟩ = some (.int .i64 lk) := cell_of_block hX4 6
  have HSB := hid (HS2.out.ref HR2.out hk4)
  have HKB : Hid (Keeps (fun j => F j \/ j = r \/ j = mr) w w4) := (HK2.out.mono (fun j e => .inl e)).trans hk4 (fun j e => .inl (.inr e))
  have HMB : Hid (mr4 = mr \/ w.heap.size <= mr4) := hm4.imp id (fun e => by have h5 := HK2.out.size; omega)
  have HRB := hid hr4
  have HCB := hid HCm.out
  clear hXr hX4 hk4 hr4 hm4 HX2 HS2 HK2 HR2 HCm e1 e5 e6
  go_wp2_with fail
  refine hK.out _ _ ⟨g1, g5, g6⟩ (fun hHeld => ?_)
  clear hK K
  try simp only [tS]
  obtain ⟨okv, hok⟩ : ∃ okv : Bool, okv = (r1 == c4) := ⟨_, rfl⟩
  refine tq 16 (.bool (r1 == c4)) ?_
  try simp only [tS]
  rw [<- hok]
  clear hok
  refine tq 17 _ ?_
  try simp only [tS]
  refine wpAnyH_done (by kernel_rfl) ?_ _
  refine NoPanic.normal ?_
  clear hHeld g1 g5 g6
 case' inr.inr.inr.inl =>
  have hbd : Below wA.heap.size wA wA.drew := (Below.refl _ wA).drew
  have hxd := below_block hbd HXA.out (lt_of_heap HXA.out)
  have hsd := HSA.out.below hbd
  have HRd := hid (HRA.out.below hbd)
  have HBd := hid (HBA.out.trans (hbd.mono HBA.out.size))
  have HXd := hid hxd
  go_enter Tryz.func15, Tryz.ntmps15
  go_wp2_with fail
  rw [<- hA]
  clear hA
  refine wp_region_noPanic ?_
  refine wp_region_held_drew (S := fun W => W.cell? ⟨w.heap.size, 1, none⟩ = some (.int .i64 ii) /\ W.cell? ⟨w.heap.size, 3, none⟩ = some (.int .i64 n)) (by kernel_rfl) ⟨cell_of_block hxd 1, cell_of_block hxd 3⟩ (fun hHeld => ?_)
  clear hxd hbd c0 c1 c2 c3 c4 c5 c6 c7
  generalize wA.drew = wd at *
  have HOp := hid (iResize_free hsd HCm.out (by omega) ii n)
  have HOr := hid (fun W (hR : Ref6 W F r mr) (hF : ∀ i, F i -> i < W.heap.size) => v6Resize_r hR hF ii n)
  clear hsd HSA HRA HBA HXA
  refine tq 0 _ ?_
  try simp only [tS]
  refine tq 1 _ ?_
  try simp only [tS]
  refine tq 2 _ ?_
  try simp only [tS]
  refine tq 3 _ ?_
  try simp only [tS]
  refine tq 4 _ ?_
  try simp only [tS]
  refine tq 6 _ ?_
  try simp only [tS]
  refine tq 7 _ ?_
  try simp only [tS]
  refine tq 8 _ ?_
  try simp only [tS]
  refine tq 9 _ ?_
  try simp only [tS]
  refine tq 10 _ ?_
  try simp only [tS]
  refine wpAnyH_ready (rs := [5]) (by kernel_rfl) (by simp) (AllReadyH.cons rfl (fun K hK => ?_) AllReadyH.nil)
  rw [if_pos (by rfl)]
  go_simp
  refine HOp.out.mono ?_
  clear HOp
  rintro e w2 ⟨⟨hk2, Pg2, fs2, hs2⟩, r1, rfl⟩
  have hX2 := hk2.heap HXd.out (fun hh => by have := HFl.out _ hh; omega)
  have hR2 : Ref6 w2 F r mr := HRd.out.keep hk2 (fun _ e => e) (fun _ e => .inl e)
  have e1 : w2.cell? ⟨w.heap.size, 1, none⟩ = some (.int .i64 ii) := cell_of_block hX2 1
  have e3 : w2.cell? ⟨w.heap.size, 3, none⟩ = some (.int .i64 n) := cell_of_block hX2 3
  have hkw2 : Keeps F w w2 := (Keeps.of_below HBd.out : Keeps F w wd).trans hk2 (fun j e => .inl e)
  have HOr2 := hid (HOr.out w2 hR2 (fun i hi => Nat.lt_of_lt_of_le (HFl.out i hi) hkw2.size))
  have HX2 := hid hX2
  have HK2 := hid hkw2
  have HS2 := hid hs2
  have HR2 := hid hR2
  clear hk2 hX2 hR2 hkw2 hs2 HOr HXd HRd HBd
  go_wp2_with fail
  refine hK.out _ _ ⟨e1, e3⟩ (fun hHeld => ?_)
  clear hK K
  try simp only [tS]
  refine wpAnyH_ready (rs := [11]) (by kernel_rfl) (by simp) (AllReadyH.cons rfl (fun K hK => ?_) AllReadyH.nil)
  rw [if_pos (by rfl)]
  go_simp
  refine HOr2.out.mono ?_
  clear HOr2
  rintro e w4 ⟨⟨hk4, mr4, hm4, hr4⟩, c4, rfl, -⟩
  have hXr : ¬ (w.heap.size = r \/ w.heap.size = mr) := fun e => by have h8 := HRl.out; omega
  have hX4 := hk4.heap HX2.out hXr
  have g1 : w4.cell? ⟨w.heap.size, 1, none⟩ = some (.int .i64 ii) := cell_of_block hX4 1
  have g3 : w4.cell? ⟨w.heap.size, 3, none⟩ = some (.int .i64 n) := cell_of_block hX4 3
  have HSB := hid (HS2.out.ref HR2.out hk4)
  have HKB : Hid (Keeps (fun j => F j \/ j = r \/ j = mr) w w4) := (HK2.out.mono (fun j e => .inl e)).trans hk4 (fun j e => .inl (.inr e))
  have HMB : Hid (mr4 = mr \/ w.heap.size <= mr4) := hm4.imp id (fun e => by have h5 := HK2.out.size; omega)
  have HRB := hid hr4
  have HCB := hid HCm.out
  clear hXr hX4 hk4 hr4 hm4 HX2 HS2 HK2 HR2 HCm e1 e3
  go_wp2_with fail
  refine hK.out _ _ ⟨g1, g3⟩ (fun hHeld => ?_)
  clear hK K
  try simp only [tS]
  obtain ⟨okv, hok⟩ : ∃ okv : Bool, okv = (r1 == c4) := ⟨_, rfl⟩
  refine tq 12 (.bool (r1 == c4)) ?_
  try simp only [tS]
  rw [<- hok]
  clear hok
  refine tq 13 _ ?_
  try simp only [tS]
  refine wpAnyH_done (by kernel_rfl) ?_ _
  refine NoPanic.normal ?_
  clear hHeld g1 g3
 case' inr.inr.inl =>
  have HOp2 := hid (iRead_free HSA.out (by omega) ii aa n)
  have HOr := hid (fun W (hR : Ref6 W F r mr) => v6Read_r hR ii aa n)
  go_enter Tryz.func15, Tryz.ntmps15
  go_wp2_with fail
  rw [<- hA]
  clear hA
  go_wp2_with fail
  refine HOp2.out.mono ?_
  clear HOp2
  rintro e w2 ⟨⟨hk2, Pg2, fs2, hs2⟩, v1, r1, l1, rfl, hro2, hl1⟩
  obtain ⟨ad1, cp1, rfl, -⟩ := rowY.in_ hro2
  have hX2 := hk2.heap HXA.out (fun hh => by have := HFl.out _ hh; omega)
  have hR2 : Ref6 w2 F r mr := HRA.out.keep hk2 (fun _ e => e) (fun _ e => .inl e)
  have e1 : w2.cell? ⟨w.heap.size, 1, none⟩ = some (.int .i64 ii) := cell_of_block hX2 1
  have e2 : w2.cell? ⟨w.heap.size, 2, none⟩ = some (.int .i64 aa) := cell_of_block hX2 2
  have e3 : w2.cell? ⟨w.heap.size, 3, none⟩ = some (.int .i64 n) := cell_of_block hX2 3
  have hkw2 : Keeps F w w2 := (Keeps.of_below HBA.out : Keeps F w wA).trans hk2 (fun j e => .inl e)
  have HOr2 := hid (HOr.out w2 hR2)
  have HK2 := hid hkw2
  have HS2 := hid hs2
  have HR2 := hid hR2
  have HRo2 := hid hro2
  clear hk2 hX2 hR2 hkw2 hs2 hro2 HOr HXA HRA HBA HSA c0 c1 c2 c3 c4 c5 c6 c7
  go_wp2_with fail
  refine HOr2.out.mono ?_
  clear HOr2
  rintro e w3 ⟨hb3, v2, l2, r2, rfl, hro3, hl2⟩
  obtain ⟨ad2, cp2, rfl, -⟩ := rowY.in_ hro3
  have HSm := hid (same_bytes l1 l2 ad1 ad2 cp1 cp2 w3 (HRo2.out.keepE hb3).bytes hro3.bytes (by omega))
  have HS3 := hid (HS2.out.below hb3)
  have HR3 := hid (HR2.out.below hb3)
  have HK3 : Hid (Keeps F w w3) := HK2.out.trans (Keeps.of_below hb3 : Keeps F w2 w3) (fun j e => .inl e)
  generalize decide (l1 = l2) = bq at *
  clear hb3 hro3 HS2 HR2 HRo2 HK2 e1 e2 e3
  go_wp2_with fail
  refine HSm.out.mono ?_
  clear HSm
  rintro e w4 ⟨rfl, hb4⟩
  have HSB := hid (HS3.out.below hb4)
  have HKB : Hid (Keeps (fun j => F j \/ j = r \/ j = mr) w w4) := (HK3.out.mono (fun j e => .inl e)).trans (Keeps.of_below hb4 : Keeps F w3 w4) (fun j e => .inl (.inl e))
  have HMB : Hid (mr = mr \/ w.heap.size <= mr) := .inl rfl
  have HRB := hid (HR3.out.below hb4)
  have HCB := hid HCm.out
  clear hb4 HS3 HR3 HK3 HCm
  cases bq
  all_goals go_wp2_with fail
  all_goals try generalize (r1 == r2) = okv
 case' inr.inl =>
  have HBy := hid (fun W => l6bytes_any 1 ii aa n nd md lk x W)
  have hL8 := bLen_le n
  have hbl : (bL x (bLen n)).length = bLen n := length_bL x (bLen n)
  generalize bLen n = L at *
  have HBl := hid hbl
  clear hbl
  go_enter Tryz.func15, Tryz.ntmps15
  go_wp2_with fail
  rw [<- hA]
  clear hA
  try go_wp2_with fail
  refine (HBy.out wA).mono ?_
  rintro e w1 ⟨hb1, g, hg, rfl, ho1⟩
  clear c0 c1 c2 c3 c4 c5 c6 c7
  have hgw : w.heap.size < g := Nat.lt_of_lt_of_le (lt_of_heap HXA.out) hg
  have hbd : Below w1.heap.size w1 w1.drew := (Below.refl _ w1).drew
  have hbA := hb1.trans (hbd.mono hb1.size)
  have hst1 := HSA.out.held hbA hg (Nat.lt_of_lt_of_le ho1.lt hbd.size)
  have hod := ho1.below hbd
  have hxd := below_block hbA HXA.out (lt_of_heap HXA.out)
  have hrd : Ref6 w1.drew (fun j => F j \/ j = g) r mr := HRA.out.keep (Keeps.of_below hbA : Keeps (fun _ => False) wA w1.drew) (fun _ e => e.elim) (fun j e => e.imp id (fun e => by omega))
  have hcm1 : GoodX noSk 90 16 (heldC 90 Cm g) cs := HCm.out.same (fun p hp => heldC_lt hp)
  have hgF : ¬ F g := fun hh => by have := HFl.out _ hh; omega
  have hwr := iWrite_free hst1 hcm1 (by omega) ii aa (bL x L) g hod hgF (by rw [HBl.out]; exact hL8)
  rw [HBl.out] at hwr
  have HWr := hid hwr
  have HXd := hid hxd
  have HBd := hid (HBA.out.trans (hbA.mono HBA.out.size))
  have HOd := hid hod
  have HRd := hid hrd
  have HCB := hid hcm1
  have HGw := hid hgw
  have HGF := hid hgF
  clear hb1 hbA hbd hst1 hod hxd hrd hcm1 hwr ho1 hg HXA HBA HSA HRA HCm hgw hgF
  go_wp2_with fail
  refine wp_region_noPanic ?_
  refine wp_region_held_drew (S := fun W => W.cell? ⟨w.heap.size, 1, none⟩ = some (.int .i64 ii) /\ W.cell? ⟨w.heap.size, 2, none⟩ = some (.int .i64 aa) /\ W.heap[w.heap.size]? = some (.cells (xD 1 ii aa n nd md lk x).toArray 25 (0, 0))) (by kernel_rfl) ⟨cell_of_block HXd.out 1, cell_of_block HXd.out 2, HXd.out⟩ (fun hHeld => ?_)
  generalize w1.drew = wd at *
  refine tq 0 _ ?_
  try simp only [tS]
  refine tq 1 _ ?_
  try simp only [tS]
  refine tq 2 _ ?_
  try simp only [tS]
  refine tq 3 _ ?_
  try simp only [tS]
  refine tq 4 _ ?_
  try simp only [tS]
  refine tq 5 _ ?_
  try simp only [tS]
  refine tq 7 _ ?_
  try simp only [tS]
  refine tq 8 _ ?_
  try simp only [tS]
  refine tq 9 _ ?_
  try simp only [tS]
  refine tq 10 _ ?_
  try simp only [tS]
  refine tq 11 _ ?_
  try simp only [tS]
  refine wpAnyH_take (i := 12) (v := .agg (xD 1 ii aa n nd md lk x).toArray) rfl (by kernel_rfl) (by kernel_rfl) (by kernel_rfl) (fun _ _ _ h => h) (yieldsIf_load_mid (by rfl) 25 (.tmp 5) rfl w.heap.size 0 rfl (xD 1 ii aa n nd md lk x) _ (fun W hW => by have := range_of_block hW.2.2; exact this) Tryz.underlying25 rfl (by kernel_rfl)) (by assumption) ?_
  try simp only [tS]
  refine wpAnyH_ready (rs := [6]) (by kernel_rfl) (by simp) (AllReadyH.cons rfl (fun K hK => ?_) AllReadyH.nil)
  rw [if_pos (by rfl)]
  go_simp
  refine HWr.out.mono ?_
  clear HWr
  rintro e w2 ⟨⟨hk2, Pg2, fs2, hs2⟩, r1, rfl⟩
  have hX2 := hk2.heap HXd.out (fun hh => by have := HFl.out _ hh; omega)
  have hO2 := HOd.out.keep hk2 HGF.out
  have hR2 : Ref6 w2 (fun j => F j \/ j = g) r mr := HRd.out.keep hk2 (fun j e => .inl e) (fun j e => .inl e)
  have e1 : w2.cell? ⟨w.heap.size, 1, none⟩ = some (.int .i64 ii) := cell_of_block hX2 1
  have e2 : w2.cell? ⟨w.heap.size, 2, none⟩ = some (.int .i64 aa) := cell_of_block hX2 2
  have HX2 := hid hX2
  have HO2 := hid hO2
  have HR2 := hid hR2
  have HS2 := hid hs2
  have HK2 : Hid (Keeps F w w2) := (Keeps.of_below HBd.out : Keeps F w wd).trans hk2 (fun j e => .inl e)
  clear hX2 hO2 hR2 hs2 hk2 HXd HOd HRd
  go_wp2_with fail
  refine hK.out _ _ ⟨e1, e2, HX2.out⟩ (fun hHeld => ?_)
  clear hK K
  try simp only [tS]
  refine wpAnyH_ready (rs := [13]) (by kernel_rfl) (by simp) (AllReadyH.cons rfl (fun K hK => ?_) AllReadyH.nil)
  rw [if_pos (by rfl)]
  go_simp
  refine (HBy.out w2).mono ?_
  clear HBy
  rintro e w3 ⟨hb3, g2, hg2, rfl, ho3⟩
  have hX3 := below_block hb3 HX2.out (lt_of_heap HX2.out)
  have f1 : w3.cell? ⟨w.heap.size, 1, none⟩ = some (.int .i64 ii) := cell_of_block hX3 1
  have f2' : w3.cell? ⟨w.heap.size, 2, none⟩ = some (.int .i64 aa) := cell_of_block hX3 2
  have hR3 := HR2.out.below hb3
  have hF3 : ∀ j, (F j \/ j = g) -> j < w3.heap.size := fun j e => by
   have h5 := HK2.out.size
   have h6 := hb3.size
   have h7 := HO2.out.lt
   rcases e with e | e
   ·have := HFl.out j e; omega
   ·omega
  have hz3 : ¬ zOf (fun j => F j \/ j = g) r mr g2 := fun hh => by
   have h5 := HK2.out.size
   have h7 := HO2.out.lt
   have h8 := HRl.out
   rcases hh with (hh | hh) | hh | hh
   ·have := HFl.out _ hh; omega
   ·omega
   ·omega
   ·omega
  have hwr := v6Write_r hR3 hF3 ii aa g2 (bL x L) ho3 hz3 (by rw [HBl.out]; exact hL8)
  rw [HBl.out] at hwr
  have HWr := hid hwr
  have HX3 := hid hX3
  have HB3 := hid hb3
  have HR3 := hid hR3
  clear hX3 hR3 hF3 hz3 hwr hb3 ho3 hg2 e1 e2
  go_wp2_with fail
  refine hK.out _ _ ⟨f1, f2', HX3.out⟩ (fun hHeld => ?_)
  clear hK K
  try simp only [tS]
  refine wpAnyH_ready (rs := [14]) (by kernel_rfl) (by simp) (AllReadyH.cons rfl (fun K hK => ?_) AllReadyH.nil)
  rw [if_pos (by rfl)]
  go_simp
  refine HWr.out.mono ?_
  clear HWr
  rintro e w4 ⟨⟨hk4, mr4, hm4, hr4⟩, c4, rfl⟩
  have hXr : ¬ (w.heap.size = r \/ w.heap.size = mr) := fun e => by have h8 := HRl.out; omega
  have hgr : ¬ (g = r \/ g = mr) := fun e => by have h8 := HRl.out; have h9 := HGw.out; omega
  have hX4 := hk4.heap HX3.out hXr
  have hr3F : Ref6 w3 F r mr := HR3.out.keep (Keeps.refl (fun _ => False) w3) (fun _ e => e.elim) (fun j e => .inl (.inl e))
  have hs4 := (HS2.out.below HB3.out).ref hr3F hk4
  have hO4 := (HO2.out.below HB3.out).keep hk4 hgr
  have g1 : w4.cell? ⟨w.heap.size, 1, none⟩ = some (.int .i64 ii) := cell_of_block hX4 1
  have g2' : w4.cell? ⟨w.heap.size, 2, none⟩ = some (.int .i64 aa) := cell_of_block hX4 2
  have HK4 : Hid (Keeps (fun j => F j \/ j = r \/ j = mr) w w4) := ((HK2.out.mono (fun j e => .inl e)).trans (Keeps.of_below HB3.out : Keeps (fun j => F j \/ j = r \/ j = mr) w2 w3) (fun j e => .inl e)).trans hk4 (fun j e => .inl (.inr e))
  have HX4 := hid hX4
  have HS4 := hid hs4
  have HO4 := hid hO4
  have HR4 := hid hr4
  have HMB : Hid (mr4 = mr \/ w.heap.size <= mr4) := hm4.imp id (fun e => by have h5 := HK2.out.size; have h6 := HB3.out.size; omega)
  clear hX4 hs4 hO4 hr4 hk4 hr3F hXr hgr hm4 f1 f2'
  go_wp2_with fail
  refine hK.out _ _ ⟨g1, g2', HX4.out⟩ (fun hHeld => ?_)
  clear hK K
  try simp only [tS]
  obtain ⟨okv, hok⟩ : ∃ okv : Bool, okv = (r1 == c4) := ⟨_, rfl⟩
  refine tq 15 (.bool (r1 == c4)) ?_
  try simp only [tS]
  rw [<- hok]
  clear hok
  refine tq 16 _ ?_
  try simp only [tS]
  refine wpAnyH_done (by kernel_rfl) ?_ _
  refine NoPanic.normal ?_
  clear hHeld g1 g2'
  go_wp2
  go_loopw [13] (fun jv wr => ∃ q : Nat, q <= L /\ jv = .int .i64 q /\ Hid (∃ l', List.length l' = L /\ ownB wr g l') /\ Hid (Keeps (fun j => j = g) w4 wr)) (fun jv _ => L - (intOf jv).toNat)
  case atStart => exact ⟨0, by omega, rfl, ⟨_, HBl.out, HO4.out⟩, Keeps.refl _ _⟩
  case' round =>
   obtain ⟨q, hq, rfl, hOw, hKi⟩ := hrel
   by_cases hq5 : q < L
   case pos =>
    have hq1 : (q : Int) < (L : Nat) := by omega
    obtain ⟨l', hl', how⟩ := hOw.out
    obtain ⟨old, cl⟩ : ∃ v, wr.cell? ⟨g, q, none⟩ = some v := ⟨_, how.cell q (by omega)⟩
    have fl := how.frozen q
    have hs := how.set q 99
    have HSt : Hid (∃ l'', List.length l'' = L /\ ownB (wr.setCell ⟨g, q, none⟩ (.int .u8 99)) g l'') := ⟨_, by rw [List.length_set]; exact hl', hs⟩
    clear hs how
    go_wp2
    exact ⟨⟨q + 1, by omega, by go_num, HSt, hKi.out.grown (grown_setCell (grown_refl _ _) _ _) (fun i e => .inl (Option.some.inj e).symm)⟩, by simp [intOf]; omega⟩
   have hqz : L = q := by omega
   subst hqz
   have hge : ¬ (L : Int) < (L : Int) := by omega
   have HSB := hid (HS4.out.keepC (by unfold heldC; rw [if_pos rfl]) HO4.out hKi.out)
   have hr5 : Ref6 wr (fun j => F j \/ j = g) r mr4 := HR4.out.keep hKi.out (fun j e => .inr e) (fun j e => .inl e)
   have HRB : Hid (Ref6 wr F r mr4) := hr5.keep (Keeps.refl (fun _ => False) wr) (fun _ e => e.elim) (fun j e => .inl (.inl e))
   have HKB : Hid (Keeps (fun j => F j \/ j = r \/ j = mr) w wr) := HK4.out.trans hKi.out (fun j e => .inr (by have e' : j = g := e; have h9 := HGw.out; omega))
   clear hr5 hq5 hq HX4 HS4 HO4 HR4 HK4 HR3 HB3 HS2 HR2 HO2 HX2 HK2 hOw hKi
   go_wp2_with fail
 case' inl =>
  have HOp := hid (fun W (hb : Below w.heap.size w W) (hs : St W s m c F 90 16 Pg Cm fs o u) => iMake_free hs HCm.out (by omega) (by omega) nd md)
  have HOp2 := hid (HOp.out wA HBA.out HSA.out)
  have HOr := hid (fun W (hR : Ref6 W F r mr) (hF : ∀ i, F i -> i < W.heap.size) => v6Make_r hR hF nd md)
  go_enter Tryz.func15, Tryz.ntmps15
  go_wp2_with fail
  rw [<- hA]
  clear hA
  go_wp2_with fail
  refine HOp2.out.mono ?_
  clear HOp2 HOp
  rintro e w2 ⟨⟨hk2, Pg2, fs2, hs2⟩, a1, r1, rfl⟩
  have hX2 := hk2.heap HXA.out (fun hh => by have := HFl.out _ hh; omega)
  have hR2 : Ref6 w2 F r mr := HRA.out.keep hk2 (fun _ e => e) (fun _ e => .inl e)
  have e4 : w2.cell? ⟨w.heap.size, 4, none⟩ = some (.int .i64 nd) := cell_of_block hX2 4
  have e5 : w2.cell? ⟨w.heap.size, 5, none⟩ = some (.int .i64 md) := cell_of_block hX2 5
  have hkw2 : Keeps F w w2 := (Keeps.of_below HBA.out : Keeps F w wA).trans hk2 (fun j e => .inl e)
  have HOr2 := hid (HOr.out w2 hR2 (fun i hi => Nat.lt_of_lt_of_le (HFl.out i hi) hkw2.size))
  have HK2 := hid hkw2
  have HS2 := hid hs2
  have HR2 := hid hR2
  clear hk2 hX2 hR2 hkw2 hs2 HOr HXA HRA HBA HSA c0 c1 c2 c3 c4 c5 c6 c7
  go_wp2_with fail
  refine HOr2.out.mono ?_
  clear HOr2
  rintro e w4 ⟨⟨hk4, mr4, hm4, hr4⟩, a2, r2, rfl⟩
  have HSB := hid (HS2.out.ref HR2.out hk4)
  have HKB : Hid (Keeps (fun j => F j \/ j = r \/ j = mr) w w4) := (HK2.out.mono (fun j e => .inl e)).trans hk4 (fun j e => .inl (.inr e))
  have HMB : Hid (mr4 = mr \/ w.heap.size <= mr4) := hm4.imp id (fun e => by have h5 := HK2.out.size; omega)
  have HRB := hid hr4
  have HCB := hid HCm.out
  clear hk4 hr4 hm4 HS2 HK2 HR2 HCm e4 e5
  rcases Decidable.em (a1 = a2) with rfl | hab
  all_goals go_wp2_with fail
  all_goals try generalize (r1 == r2) = okv
 all_goals
  have HCo := hid (v6Commit_r HRB.out (fun i hi => Nat.lt_of_lt_of_le (HFl.out i hi) HKB.out.size))
  try go_wp2_with fail
  refine HCo.out.mono ?_
  clear HCo
  rintro e w6 ⟨rfl, hk6, hr6⟩
  have HS6 := hid (HSB.out.ref HRB.out (hk6.mono (fun j e => .inl e)))
  have HR6 := hid hr6
  have HK6 : Hid (Keeps (fun j => F j \/ j = r \/ j = mr) w w6) := HKB.out.trans hk6 (fun j e => .inl (.inr (.inl e)))
  clear hk6 hr6 HSB HRB HKB
  try cases okv
 all_goals first
  | (
    go_wp2_with fail
    go_ret
    exact ⟨false, F, _, rfl, fun _ e => e, fun _ e => .inl e, HK6.out, ⟨_, _, _, _, HS6.out.more2 (by omega) (Nat.le_refl _), HCB.out, HR6.out⟩, by first | exact HMB.out | exact .inl rfl⟩)
  | (
    have HMp := hid (iMap_any HS6.out.store)
    have HCa := hid (amCache_any HS6.out.map)
    obtain ⟨D6, hp6⟩ := HS6.out.pc
    have HCo := hid (hp6.commit (by omega))
    clear hp6
    go_wp2_with fail
    refine HMp.out.mono ?_
    clear HMp
    rintro e w7 ⟨rfl, h7⟩
    obtain rfl := h7.symm
    clear h7
    go_wp2_with fail
    refine HCa.out.mono ?_
    clear HCa
    rintro e w7 ⟨rfl, h7⟩
    obtain rfl := h7.symm
    clear h7
    go_wp2_with fail
    refine HCo.out.mono ?_
    clear HCo
    rintro e w7 ⟨rfl, hk7, F7, hF7, hF7', hp7⟩
    have hs6 := HS6.out
    have hmF : ¬ F7 m := fun hh => (hF7' m hh).elim hs6.mF (fun e => by have := lt_of_heap hs6.map; omega)
    have hsF : ¬ F7 s := fun hh => (hF7' s hh).elim hs6.sF (fun e => by have := lt_of_heap hs6.store; omega)
    have HS7 := hid (⟨hs6.map.keep hk7 hs6.mF, hs6.store.keep hk7 hs6.sF, hmF, hsF, hs6.few, ⟨_, hp7⟩, hs6.good⟩ : St w7 s m c F7 90 16 _ _ _ (o + 206) (u + 303))
    have HR7 : Hid (Ref6 w7 F7 r _) := HR6.out.keep hk7 (fun _ e => e) (fun j e => hF7' j e)
    have HK7 : Hid (Keeps (fun j => F j \/ j = r \/ j = mr) w w7) := HK6.out.trans hk7 (fun j e => .inl (.inl e))
    have HF7 : Hid ((∀ j, F j -> F7 j) /\ ∀ j, F7 j -> F j \/ w.heap.size <= j) := ⟨hF7, fun j e => (hF7' j e).imp id (fun e => by have := HK6.out.size; omega)⟩
    clear hk7 hF7 hF7' hp7 hs6 hmF hsF
    go_wp2
    go_ret
    exact ⟨true, F7, _, rfl, HF7.out.1, HF7.out.2, HK7.out, ⟨_, _, _, _, HS7.out, HS7.out.good, HR7.out⟩, by first | exact HMB.out | exact .inl rfl⟩)
end
end
section
set_option maxRecDepth 100000
set_option maxHeartbeats 2000000
open Go.RowKit
theorem results_v6Get {w : World} {tmps : Array Value} {b : Nat} {cs : List Value} {t : Value} (h1 : tmps.getD 4 undef = .pointer (some ⟨b, 0, none⟩)) (h2 : tmps.getD 5 undef = t) (r : w.heap[b]? = some (.cells cs.toArray 51 (0, 0))) (hl : cs.length = 15) :
  (results Tryz.f44 tmps).run Tryz.prog w = .ok (.tuple #[.agg cs.toArray, t]) w := by
 have h1' : tmps[4]?.getD undef = .pointer (some ⟨b, 0, none⟩) := by simpa using h1
 have h2' : tmps[5]?.getD undef = t := by simpa using h2
 have hr := run_loadVar_mid (P := Tryz.prog) w b 0 51 cs _ (by have := range_of_block r; exact this) Tryz.underlying51 rfl (by rw [hl]; kernel_rfl)
 simp only [results, Tryz.results44]
 simp [h1', h2', asAddr, hr]
def zero15L : List Value := [.int .i64 0, .int .i64 0, .int .i64 0, .int .i64 0, .int .i64 0, .int .i64 0, .int .i64 0, .int .i64 0, .int .i64 0, .int .i64 0, .int .i64 0, .int .i64 0, .int .i64 0, .int .i64 0, .int .i64 0]
def GetTo (w : World) (e : Ending) (w' : World) : Prop := Below w.heap.size w w' /\ ∃ (cs : List Value) (z c : Int), cs.length = 15 /\ cs[3]? = some (.int .i64 z) /\ (∀ v ∈ cs, ∃ n, v = .int .i64 n) /\ 0 <= z /\ z <= 70656 /\ e = .returned (.tuple #[.agg cs.toArray, .int .i64 c])
theorem getTo_mk {w w' : World} {cs : List Value} {z c : Int} (hb : Below w.heap.size w w') (h1 : cs.length = 15) (h2 : cs[3]? = some (.int .i64 z)) (h3 : ∀ v ∈ cs, ∃ n, v = .int .i64 n) (h4 : 0 <= z) (h5 : z <= 70656) : GetTo w (.returned (.tuple #[.agg cs.toArray, .int .i64 c])) w' := ⟨hb, cs, z, c, h1, h2, h3, h4, h5, rfl⟩
theorem zero15_int : ∀ v ∈ zero15L, ∃ n, v = .int .i64 n := fun v hv => by
 simp only [zero15L, List.mem_cons, List.mem_nil_iff, or_false] at hv
 rcases hv with rfl | rfl | rfl | rfl | rfl | rfl | rfl | rfl | rfl | rfl | rfl | rfl | rfl | rfl | rfl <;> exact ⟨0, rfl⟩
theorem zero15_one : zero15L.toArray.all (·.oneCell') = true := by kernel_rfl
section
variable {w w' : World} {F : Nat -> Prop} {r m : Nat}
theorem v6Get_r (h : Ref6 w F r m) (i : Int) : Calls Tryz.prog 44 #[.pointer (some ⟨r, 0, none⟩), .int .i64 i] w fun e w' => GetTo w e w' := by
 obtain ⟨wb, hwb⟩ : ∃ wb, wb = w.alloc (.cells #[.int .i64 0, .int .i64 0, .int .i64 0, .int .i64 0, .int .i64 0, .int .i64 0, .int .i64 0, .int .i64 0, .int .i64 0, .int .i64 0, .int .i64 0, .int .i64 0, .int .i64 0, .int .i64 0, .int .i64 0] 51) := ⟨_, rfl⟩
 have hB : Below w.heap.size w wb := by rw [hwb]; exact (Below.refl _ w).alloc (Nat.le_refl _) _
 have hr0 : wb.heap[w.heap.size]? = some (.cells zero15L.toArray 51 (0, 0)) := by rw [hwb]; exact block_new w _
 have hrb := h.below hB
 obtain ⟨lb, lc, km, kb, kc, fl, kl, h1, h2, -⟩ := hrb.heap
 have c1 : wb.cell? ⟨r, 1, none⟩ = some (.slice (some ⟨lb, 0, none⟩) 16 lc) := cell_of_block h1 1
 have HLk := hid (v6look_any hrb i)
 have HSd := hid h2
 have HB := hid hB
 have HR0 := hid hr0
 have HWb := hid hwb
 clear h h1 h2 hrb hB hr0 hwb
 go_enter Tryz.func44, Tryz.ntmps44
 go_wp2_with fail
 rw [<- HWb.out]
 refine HLk.out.mono ?_
 clear HLk HWb
 rintro e w1 ⟨h1, nn, rfl, hn⟩
 obtain rfl := h1.symm
 clear h1
 rcases hn with rfl | rfl | ⟨rfl, hi1, hi2⟩
 ·go_wp2_with (refine wpList_store_block rfl 51 (.tmp 4) (.tmp 15) rfl w.heap.size zero15L.toArray rfl rfl _ _ HR0.out rfl (by kernel_rfl) zero15_one ?_; intro w6 hg6 hb6 hz6)
  have hb06 : Below w.heap.size w w6 := HB.out.grown hg6 HB.out.size (fun k e => by cases e; exact Nat.le_refl _)
  exact bodyPost_ret (results_v6Get rfl rfl hb6 rfl) rfl (getTo_mk (z := 0) (c := 2) hb06 rfl rfl zero15_int (by omega) (by omega))
 ·go_wp2_with (refine wpList_store_block rfl 51 (.tmp 4) (.tmp 15) rfl w.heap.size zero15L.toArray rfl rfl _ _ HR0.out rfl (by kernel_rfl) zero15_one ?_; intro w6 hg6 hb6 hz6)
  have hb06 : Below w.heap.size w w6 := HB.out.grown hg6 HB.out.size (fun k e => by cases e; exact Nat.le_refl _)
  exact bodyPost_ret (results_v6Get rfl rfl hb6 rfl) rfl (getTo_mk (z := 0) (c := 4) hb06 rfl rfl zero15_int (by omega) (by omega))
 ·obtain ⟨j, rfl⟩ : ∃ j : Nat, i = (j : Int) := ⟨i.toNat, by omega⟩
  obtain ⟨k0, m0, l0, b0, ba, bc, d0, da, dc, ind, x0, x1, x2, x3, x4, x5, hok⟩ := HSd.out.six j (by omega)
  have hb7 : b0.length <= 70656 := hok.bl
  have HD0 := hid hok.data
  clear hok HSd
  go_wp2_with fail
  obtain ⟨W, hW⟩ : ∃ W, W = (wb.alloc (.cells #[.int .i64 k0, .int .i64 m0, .int .i64 l0, .slice ba b0.length bc, .slice da d0.length dc, .int .i64 ind] 94)).alloc (.cells #[.int .i64 k0, .int .i64 m0, .int .i64 l0, .int .i64 b0.length, .int .i64 0, .int .i64 0, .int .i64 0, .int .i64 0, .int .i64 0, .int .i64 0, .int .i64 0, .int .i64 0, .int .i64 0, .int .i64 0, .int .i64 0] 51) := ⟨_, rfl⟩
  rw [<- hW]
  have hbf : W.heap[wb.heap.size]? = some (.cells #[.int .i64 k0, .int .i64 m0, .int .i64 l0, .slice ba b0.length bc, .slice da d0.length dc, .int .i64 ind] 94 (0, 0)) := by rw [hW]; exact block_alloc (block_new wb _) _
  have hbx : W.heap[wb.heap.size + 1]? = some (.cells ([.int .i64 k0, .int .i64 m0, .int .i64 l0, .int .i64 b0.length, .int .i64 0, .int .i64 0, .int .i64 0, .int .i64 0, .int .i64 0, .int .i64 0, .int .i64 0, .int .i64 0, .int .i64 0, .int .i64 0, .int .i64 0] : List Value).toArray 51 (0, 0)) := by
   rw [hW]
   have h5 := block_new (wb.alloc (.cells #[.int .i64 k0, .int .i64 m0, .int .i64 l0, .slice ba b0.length bc, .slice da d0.length dc, .int .i64 ind] 94)) (.cells #[.int .i64 k0, .int .i64 m0, .int .i64 l0, .int .i64 b0.length, .int .i64 0, .int .i64 0, .int .i64 0, .int .i64 0, .int .i64 0, .int .i64 0, .int .i64 0, .int .i64 0, .int .i64 0, .int .i64 0, .int .i64 0] 51)
   rw [World.size_alloc] at h5
   exact h5
  have hbw : Below wb.heap.size wb W := by rw [hW]; exact ((Below.refl _ wb).alloc (Nat.le_refl _) _).alloc (by simp) _
  have HCs : Hid (∃ C : List Value, C.length = 15 /\ C[3]? = some (.int .i64 b0.length) /\ (∀ v ∈ C, ∃ n, v = .int .i64 n) /\ W.heap[wb.heap.size + 1]? = some (.cells C.toArray 51 (0, 0))) :=
   ⟨_, rfl, rfl, fun v hv => by
    simp only [List.mem_cons, List.mem_nil_iff, or_false] at hv
    rcases hv with rfl | rfl | rfl | rfl | rfl | rfl | rfl | rfl | rfl | rfl | rfl | rfl | rfl | rfl | rfl <;> exact ⟨_, rfl⟩, hbx⟩
  have HBf := hid hbf
  have HBw := hid hbw
  have hwl : w.heap.size < wb.heap.size := lt_of_heap HR0.out
  clear hbf hbx hbw hW x0 x1 x2 x3 x4 x5 c1
  go_loopw [9] (fun kv wr => ∃ k : Nat, k <= 10 /\ kv = .int .i64 k /\ Hid (∃ C : List Value, C.length = 15 /\ C[3]? = some (.int .i64 b0.length) /\ (∀ v ∈ C, ∃ n, v = .int .i64 n) /\ wr.heap[wb.heap.size + 1]? = some (.cells C.toArray 51 (0, 0))) /\ Hid (Keeps (fun i => i = wb.heap.size + 1) W wr)) (fun kv _ => 10 - (intOf kv).toNat)
  case atStart => exact ⟨0, by omega, rfl, HCs, Keeps.refl _ _⟩
  case round =>
   obtain ⟨k, hk, rfl, HC, HK⟩ := hrel
   obtain ⟨C, hl, h3, hi, hb⟩ := HC.out
   have hf := HK.out.heap HBf.out (by omega)
   have f4 : wr.cell? ⟨wb.heap.size, 4, none⟩ = some (.slice da d0.length dc) := cell_of_block hf 4
   have f5 : wr.cell? ⟨wb.heap.size, 5, none⟩ = some (.int .i64 ind) := cell_of_block hf 5
   by_cases hk1 : k < d0.length
   ·have hk1' : (k : Int) < (d0.length : Int) := by omega
    by_cases hk2 : k < 10
    ·have hk2' : (k : Int) < 10 := by omega
     obtain ⟨db, dof, e, hc⟩ := HD0.out k hk1
     subst e
     have hdc := hc k hk1
     have hdl := World.block_lt_of_cell? wb _ hdc
     have hd2 : wr.cell? ⟨db, dof + k, none⟩ = some (.int .i64 d0[k]) := HK.out.cell ((HBw.out.cell hdl).trans hdc) (fun e => by have e' : db = wb.heap.size + 1 := e; have hdl' : db < wb.heap.size := hdl; omega)
     generalize d0[k] = dv at *
     obtain ⟨old, cx⟩ : ∃ old, wr.cell? ⟨wb.heap.size + 1, 4 + k, none⟩ = some old := by
      rw [cell_of_block hb, List.getElem?_toArray, List.getElem?_eq_getElem (by omega)]
      exact ⟨_, rfl⟩
     have fx : wr.frozen? ⟨wb.heap.size + 1, 4 + k, none⟩ = false := frozen_of_block hb _
     have hst := block_setCell hb (4 + k) (.int .i64 dv)
     rw [List.setIfInBounds_toArray] at hst
     have HC2 : Hid (∃ C : List Value, C.length = 15 /\ C[3]? = some (.int .i64 b0.length) /\ (∀ v ∈ C, ∃ n, v = .int .i64 n) /\ (wr.setCell ⟨wb.heap.size + 1, 4 + k, none⟩ (.int .i64 dv)).heap[wb.heap.size + 1]? = some (.cells C.toArray 51 (0, 0))) :=
      ⟨_, by rw [List.length_set]; exact hl, by rw [List.getElem?_set_ne (by omega)]; exact h3, fun v hv => (List.mem_or_eq_of_mem_set hv).elim (fun h => hi v h) (fun h => ⟨dv, h⟩), hst⟩
     clear hst hb hi h3 hf hdc hdl hc HC
     go_wp2
     exact ⟨⟨k + 1, by omega, by go_num, HC2, HK.out.grown (grown_setCell (grown_refl _ _) _ _) (fun i e => .inl (Option.some.inj e).symm)⟩, by simp [intOf]; omega⟩
    ·have hk2' : ¬ (k : Int) < 10 := by omega
     obtain ⟨old, cx⟩ : ∃ old, wr.cell? ⟨wb.heap.size + 1, 14, none⟩ = some old := by
      rw [cell_of_block hb, List.getElem?_toArray, List.getElem?_eq_getElem (by omega)]
      exact ⟨_, rfl⟩
     have fx : wr.frozen? ⟨wb.heap.size + 1, 14, none⟩ = false := frozen_of_block hb _
     have hst := block_setCell hb 14 (.int .i64 ind)
     rw [List.setIfInBounds_toArray] at hst
     have hl2 : (C.set 14 (.int .i64 ind)).length = 15 := by rw [List.length_set]; exact hl
     have h32 : (C.set 14 (.int .i64 ind))[3]? = some (.int .i64 b0.length) := by rw [List.getElem?_set_ne (by omega)]; exact h3
     have hi2 : ∀ v ∈ C.set 14 (.int .i64 ind), ∃ n, v = .int .i64 n := fun v hv => (List.mem_or_eq_of_mem_set hv).elim (fun h => hi v h) (fun h => ⟨ind, h⟩)
     have hrs : (wr.setCell ⟨wb.heap.size + 1, 14, none⟩ (.int .i64 ind)).heap[w.heap.size]? = some (.cells zero15L.toArray 51 (0, 0)) := by
      rw [block_setCell_other 14 _ (by omega)]
      exact HK.out.heap (below_block HBw.out HR0.out (by omega)) (fun e => by have e' : w.heap.size = wb.heap.size + 1 := e; omega)
     have hbz : Below w.heap.size w (wr.setCell ⟨wb.heap.size + 1, 14, none⟩ (.int .i64 ind)) := by
      have h5 := HB.out.trans (HBw.out.mono HB.out.size)
      have h6 := h5.trans (HK.out.below h5.size (fun i e => by have e' : i = wb.heap.size + 1 := e; omega))
      exact h6.grown (grown_setCell (grown_refl _ _) _ _) h6.size (fun i e => by have e' : wb.heap.size + 1 = i := Option.some.inj e; omega)
     generalize C.set 14 (.int .i64 ind) = C2 at *
     have HSt := hid hst
     have HL2 := hid (And.intro hl2 (And.intro h32 hi2))
     have HRs := hid hrs
     have HBz := hid hbz
     have hon : C2.toArray.all (·.oneCell') = true := by
      rw [Array.all_eq_true_iff_forall_mem]
      intro v hv
      obtain ⟨n, rfl⟩ := hi2 v (by simpa using hv)
      rfl
     have HOn := hid hon
     clear hst hb hi h3 hf HC hl hl2 h32 hi2 hrs hbz hon
     go_wp2_with (first
      | refine wpList_load_block rfl 51 (.tmp 8) rfl (wb.heap.size + 1) rfl C2.toArray _ _ HSt.out _ Tryz.underlying51 rfl (by rw [List.size_toArray, HL2.out.1]; kernel_rfl) ?_
      | (refine wpList_store_block rfl 51 (.tmp 4) (.tmp 57) rfl w.heap.size C2.toArray rfl rfl _ _ HRs.out (by rw [List.size_toArray, HL2.out.1]; rfl) (by rw [List.size_toArray, HL2.out.1]; kernel_rfl) HOn.out ?_; intro w6 hg6 hb6 hz6))
     have hb06 : Below w.heap.size w w6 := HBz.out.grown hg6 HBz.out.size (fun k e => by cases e; exact Nat.le_refl _)
     exact bodyPost_ret (results_v6Get rfl rfl hb6 HL2.out.1) rfl (getTo_mk (c := 0) hb06 HL2.out.1 HL2.out.2.1 HL2.out.2.2 (by omega) (by omega))
   ·have hk1' : ¬ (k : Int) < (d0.length : Int) := by omega
    obtain ⟨old, cx⟩ : ∃ old, wr.cell? ⟨wb.heap.size + 1, 14, none⟩ = some old := by
     rw [cell_of_block hb, List.getElem?_toArray, List.getElem?_eq_getElem (by omega)]
     exact ⟨_, rfl⟩
    have fx : wr.frozen? ⟨wb.heap.size + 1, 14, none⟩ = false := frozen_of_block hb _
    have hst := block_setCell hb 14 (.int .i64 ind)
    rw [List.setIfInBounds_toArray] at hst
    have hl2 : (C.set 14 (.int .i64 ind)).length = 15 := by rw [List.length_set]; exact hl
    have h32 : (C.set 14 (.int .i64 ind))[3]? = some (.int .i64 b0.length) := by rw [List.getElem?_set_ne (by omega)]; exact h3
    have hi2 : ∀ v ∈ C.set 14 (.int .i64 ind), ∃ n, v = .int .i64 n := fun v hv => (List.mem_or_eq_of_mem_set hv).elim (fun h => hi v h) (fun h => ⟨ind, h⟩)
    have hrs : (wr.setCell ⟨wb.heap.size + 1, 14, none⟩ (.int .i64 ind)).heap[w.heap.size]? = some (.cells zero15L.toArray 51 (0, 0)) := by
     rw [block_setCell_other 14 _ (by omega)]
     exact HK.out.heap (below_block HBw.out HR0.out (by omega)) (fun e => by have e' : w.heap.size = wb.heap.size + 1 := e; omega)
    have hbz : Below w.heap.size w (wr.setCell ⟨wb.heap.size + 1, 14, none⟩ (.int .i64 ind)) := by
     have h5 := HB.out.trans (HBw.out.mono HB.out.size)
     have h6 := h5.trans (HK.out.below h5.size (fun i e => by have e' : i = wb.heap.size + 1 := e; omega))
     exact h6.grown (grown_setCell (grown_refl _ _) _ _) h6.size (fun i e => by have e' : wb.heap.size + 1 = i := Option.some.inj e; omega)
    generalize C.set 14 (.int .i64 ind) = C2 at *
    have HSt := hid hst
    have HL2 := hid (And.intro hl2 (And.intro h32 hi2))
    have HRs := hid hrs
    have HBz := hid hbz
    have hon : C2.toArray.all (·.oneCell') = true := by
     rw [Array.all_eq_true_iff_forall_mem]
     intro v hv
     obtain ⟨n, rfl⟩ := hi2 v (by simpa using hv)
     rfl
    have HOn := hid hon
    clear hst hb hi h3 hf HC hl hl2 h32 hi2 hrs hbz hon
    go_wp2_with (first
     | refine wpList_load_block rfl 51 (.tmp 8) rfl (wb.heap.size + 1) rfl C2.toArray _ _ HSt.out _ Tryz.underlying51 rfl (by rw [List.size_toArray, HL2.out.1]; kernel_rfl) ?_
     | (refine wpList_store_block rfl 51 (.tmp 4) (.tmp 57) rfl w.heap.size C2.toArray rfl rfl _ _ HRs.out (by rw [List.size_toArray, HL2.out.1]; rfl) (by rw [List.size_toArray, HL2.out.1]; kernel_rfl) HOn.out ?_; intro w6 hg6 hb6 hz6))
    have hb06 : Below w.heap.size w w6 := HBz.out.grown hg6 HBz.out.size (fun k e => by cases e; exact Nat.le_refl _)
    exact bodyPost_ret (results_v6Get rfl rfl hb6 HL2.out.1) rfl (getTo_mk (c := 0) hb06 HL2.out.1 HL2.out.2.1 HL2.out.2.2 (by omega) (by omega))
end
end
section
set_option maxRecDepth 100000
set_option maxHeartbeats 8000000
open Go.RowKit
def MuchTo (w : World) (e : Ending) (w' : World) : Prop := Below w.heap.size w w' /\ ∃ b : Bool, e = .returned (.bool b)
theorem muchTo_mk {w w' : World} {b : Bool} (h : Below w.heap.size w w') : MuchTo w (.returned (.bool b)) w' := ⟨h, b, rfl⟩
section
variable {w w' : World} {F : Nat -> Prop} {r m : Nat}
theorem l6much_one (h : Ref6 w F r m) (ii aa n nd md lk : Int) (x : UInt8) : Calls Tryz.prog 14 #[.pointer (some ⟨r, 0, none⟩), .agg #[.int .i64 1, .int .i64 ii, .int .i64 aa, .int .i64 n, .int .i64 nd, .int .i64 md, .int .i64 lk, .int .u8 (x.toNat : Int)]] w fun e w' => MuchTo w e w' := by
 obtain ⟨wA, hA⟩ : ∃ wA, wA = w.alloc (.cells #[.int .i64 1, .int .i64 ii, .int .i64 aa, .int .i64 n, .int .i64 nd, .int .i64 md, .int .i64 lk, .int .u8 (x.toNat : Int)] 25) := ⟨_, rfl⟩
 have HBA : Hid (Below w.heap.size w wA) := by rw [hA]; exact (Below.refl _ w).alloc (Nat.le_refl _) _
 have HXA : Hid (wA.heap[w.heap.size]? = some (.cells #[.int .i64 1, .int .i64 ii, .int .i64 aa, .int .i64 n, .int .i64 nd, .int .i64 md, .int .i64 lk, .int .u8 (x.toNat : Int)] 25 (0, 0))) := by rw [hA]; exact block_new w _
 have HGt := hid (v6Get_r (h.below HBA.out) ii)
 clear h
 go_enter Tryz.func14, Tryz.ntmps14
 go_wp2_with fail
 rw [<- hA]
 clear hA
 refine HGt.out.mono ?_
 clear HGt
 rintro e w1 ⟨hb1, cs, z, c, hl, h3, hi, hz0, hz7, rfl⟩
 have HX1 := hid (below_block hb1 HXA.out (lt_of_heap HXA.out))
 have HB1 := hid (HBA.out.trans (hb1.mono HBA.out.size))
 have HCs := hid (And.intro hl (And.intro h3 hi))
 have hon : cs.toArray.all (·.oneCell') = true := by
  rw [Array.all_eq_true_iff_forall_mem]
  intro v hv
  obtain ⟨q, rfl⟩ := hi v (by simpa using hv)
  rfl
 have HOn := hid hon
 clear hb1 hl h3 hi hon HXA HBA
 by_cases hc : c = 0
 ·subst hc
  ·have HBy := hid (fun W => l6bytes_any 1 ii aa n nd md lk x W)
   have hL8 := bLen_le n
   generalize bLen n = L at *
   go_wp2_with (refine wpList_store_block rfl 51 (.tmp 5) (.tmp 13) rfl w1.heap.size cs.toArray rfl rfl _ _ (block_new w1 _) (by rw [List.size_toArray, HCs.out.1]; rfl) (by rw [List.size_toArray, HCs.out.1]; kernel_rfl) HOn.out ?_; intro w2 hg2 hb2 hz2; have c3 : w2.cell? ⟨w1.heap.size, 3, none⟩ = some (.int .i64 z) := (by rw [cell_of_block hb2, List.getElem?_toArray]; exact HCs.out.2.1); have hb12 : Below w1.heap.size w1 w2 := ((Below.refl _ w1).alloc (Nat.le_refl _) _).grown hg2 (by simp) (fun k e => by cases e; exact Nat.le_refl _); have HB12 := hid hb12; have hx2 := below_block hb12 HX1.out (lt_of_heap HX1.out); have HB2 := hid (HB1.out.trans (hb12.mono HB1.out.size)); have d0 : w2.cell? ⟨w.heap.size, 0, none⟩ = some (.int .i64 1) := cell_of_block hx2 0; have d1 : w2.cell? ⟨w.heap.size, 1, none⟩ = some (.int .i64 ii) := cell_of_block hx2 1; have d2 : w2.cell? ⟨w.heap.size, 2, none⟩ = some (.int .i64 aa) := cell_of_block hx2 2; have d3 : w2.cell? ⟨w.heap.size, 3, none⟩ = some (.int .i64 n) := cell_of_block hx2 3; have d4 : w2.cell? ⟨w.heap.size, 4, none⟩ = some (.int .i64 nd) := cell_of_block hx2 4; have d5 : w2.cell? ⟨w.heap.size, 5, none⟩ = some (.int .i64 md) := cell_of_block hx2 5; have d6 : w2.cell? ⟨w.heap.size, 6, none⟩ = some (.int .i64 lk) := cell_of_block hx2 6; have d7 : w2.cell? ⟨w.heap.size, 7, none⟩ = some (.int .u8 (x.toNat : Int)) := cell_of_block hx2 7; have HX2 := hid hx2; clear hg2 hz2 hb12 hb2 hx2)
   refine (HBy.out w2).mono ?_
   clear HBy
   rintro e w3 ⟨hb3, g, hg, rfl, -⟩
   have HBf := hid (HB2.out.trans (hb3.mono HB2.out.size))
   have hx3 := below_block hb3 HX2.out (lt_of_heap HX2.out)
   have e0 : w3.cell? ⟨w.heap.size, 0, none⟩ = some (.int .i64 1) := cell_of_block hx3 0
   have e2 : w3.cell? ⟨w.heap.size, 2, none⟩ = some (.int .i64 aa) := cell_of_block hx3 2
   have e3 : w3.cell? ⟨w1.heap.size, 3, none⟩ = some (.int .i64 z) := (hb3.cell (World.block_lt_of_cell? w2 _ c3)).trans c3
   clear d0 d1 d2 d3 d4 d5 d6 d7 c3 hb3 hx3 hg
   by_cases ha : 0 < aa
   ·by_cases ha7 : aa <= 70656
    ·by_cases hC : z < (L : Int) + aa
     ·by_cases hD : 30000 < (L : Int) + aa - z
      ·go_wp2
       go_ret
       exact muchTo_mk HBf.out
      ·go_wp2
       go_ret
       exact muchTo_mk HBf.out
     ·go_wp2
      go_ret
      exact muchTo_mk HBf.out
    ·have ha7' : 70656 < aa := by omega
     by_cases hC : z < (L : Int)
     ·have hD : ¬ 30000 < (L : Int) - z := by omega
      go_wp2
      go_ret
      exact muchTo_mk HBf.out
     ·go_wp2
      go_ret
      exact muchTo_mk HBf.out
   ·have ha' : aa <= 0 := by omega
    by_cases hC : z < (L : Int)
    ·have hD : ¬ 30000 < (L : Int) - z := by omega
     go_wp2
     go_ret
     exact muchTo_mk HBf.out
    ·go_wp2
     go_ret
     exact muchTo_mk HBf.out
 ·go_wp2_with (refine wpList_store_block rfl 51 (.tmp 5) (.tmp 13) rfl w1.heap.size cs.toArray rfl rfl _ _ (block_new w1 _) (by rw [List.size_toArray, HCs.out.1]; rfl) (by rw [List.size_toArray, HCs.out.1]; kernel_rfl) HOn.out ?_; intro w2 hg2 hb2 hz2; have c3 : w2.cell? ⟨w1.heap.size, 3, none⟩ = some (.int .i64 z) := (by rw [cell_of_block hb2, List.getElem?_toArray]; exact HCs.out.2.1); have hb12 : Below w1.heap.size w1 w2 := ((Below.refl _ w1).alloc (Nat.le_refl _) _).grown hg2 (by simp) (fun k e => by cases e; exact Nat.le_refl _); have HB12 := hid hb12; have hx2 := below_block hb12 HX1.out (lt_of_heap HX1.out); have HB2 := hid (HB1.out.trans (hb12.mono HB1.out.size)); have d0 : w2.cell? ⟨w.heap.size, 0, none⟩ = some (.int .i64 1) := cell_of_block hx2 0; have d1 : w2.cell? ⟨w.heap.size, 1, none⟩ = some (.int .i64 ii) := cell_of_block hx2 1; have d2 : w2.cell? ⟨w.heap.size, 2, none⟩ = some (.int .i64 aa) := cell_of_block hx2 2; have d3 : w2.cell? ⟨w.heap.size, 3, none⟩ = some (.int .i64 n) := cell_of_block hx2 3; have d4 : w2.cell? ⟨w.heap.size, 4, none⟩ = some (.int .i64 nd) := cell_of_block hx2 4; have d5 : w2.cell? ⟨w.heap.size, 5, none⟩ = some (.int .i64 md) := cell_of_block hx2 5; have d6 : w2.cell? ⟨w.heap.size, 6, none⟩ = some (.int .i64 lk) := cell_of_block hx2 6; have d7 : w2.cell? ⟨w.heap.size, 7, none⟩ = some (.int .u8 (x.toNat : Int)) := cell_of_block hx2 7; have HX2 := hid hx2; clear hg2 hz2 hb12 hb2 hx2)
  go_ret
  exact muchTo_mk HB2.out
end
end
section
set_option maxRecDepth 100000
set_option maxHeartbeats 8000000
open Go.RowKit
section
variable {w w' : World} {F : Nat -> Prop} {r m : Nat}
theorem l6much_ne (h : Ref6 w F r m) (kd ii aa n nd md lk : Int) (x : UInt8) (hk : kd ≠ 1) : Calls Tryz.prog 14 #[.pointer (some ⟨r, 0, none⟩), .agg #[.int .i64 kd, .int .i64 ii, .int .i64 aa, .int .i64 n, .int .i64 nd, .int .i64 md, .int .i64 lk, .int .u8 (x.toNat : Int)]] w fun e w' => MuchTo w e w' := by
 obtain ⟨wA, hA⟩ : ∃ wA, wA = w.alloc (.cells #[.int .i64 kd, .int .i64 ii, .int .i64 aa, .int .i64 n, .int .i64 nd, .int .i64 md, .int .i64 lk, .int .u8 (x.toNat : Int)] 25) := ⟨_, rfl⟩
 have HBA : Hid (Below w.heap.size w wA) := by rw [hA]; exact (Below.refl _ w).alloc (Nat.le_refl _) _
 have HXA : Hid (wA.heap[w.heap.size]? = some (.cells #[.int .i64 kd, .int .i64 ii, .int .i64 aa, .int .i64 n, .int .i64 nd, .int .i64 md, .int .i64 lk, .int .u8 (x.toNat : Int)] 25 (0, 0))) := by rw [hA]; exact block_new w _
 have HGt := hid (v6Get_r (h.below HBA.out) ii)
 clear h
 go_enter Tryz.func14, Tryz.ntmps14
 go_wp2_with fail
 rw [<- hA]
 clear hA
 refine HGt.out.mono ?_
 clear HGt
 rintro e w1 ⟨hb1, cs, z, c, hl, h3, hi, hz0, hz7, rfl⟩
 have HX1 := hid (below_block hb1 HXA.out (lt_of_heap HXA.out))
 have HB1 := hid (HBA.out.trans (hb1.mono HBA.out.size))
 have HCs := hid (And.intro hl (And.intro h3 hi))
 have hon : cs.toArray.all (·.oneCell') = true := by
  rw [Array.all_eq_true_iff_forall_mem]
  intro v hv
  obtain ⟨q, rfl⟩ := hi v (by simpa using hv)
  rfl
 have HOn := hid hon
 clear hb1 hl h3 hi hon HXA HBA
 by_cases hc : c = 0
 ·subst hc
  obtain ⟨t1, hw1⟩ : ∃ t, IntKind.i64.wrap (n - z) = t := ⟨_, rfl⟩
  obtain ⟨t2, hw2⟩ : ∃ t, IntKind.i64.wrap (z - n) = t := ⟨_, rfl⟩
  have hcs : (kd = 5 /\ 40000 < z) \/ (kd = 5 /\ ¬ 40000 < z /\ z < n /\ 30000 < t1) \/ (kd = 5 /\ ¬ 40000 < z /\ z < n /\ ¬ 30000 < t1) \/ (kd = 5 /\ ¬ 40000 < z /\ ¬ z < n) \/ (kd = 3 /\ z < n /\ 30000 < t1) \/ (kd = 3 /\ z < n /\ ¬ 30000 < t1) \/ (kd = 3 /\ n < z /\ 30000 < t2) \/ (kd = 3 /\ n < z /\ ¬ 30000 < t2) \/ (kd = 3 /\ z = n) \/ (¬ kd = 5 /\ ¬ kd = 3 /\ z < n /\ 30000 < t1) \/ (¬ kd = 5 /\ ¬ kd = 3 /\ z < n /\ ¬ 30000 < t1) \/ (¬ kd = 5 /\ ¬ kd = 3 /\ ¬ z < n) := by
   by_cases k5 : kd = 5
   ·by_cases z4 : 40000 < z
    ·exact .inl ⟨k5, z4⟩
    ·omega
   ·by_cases k3 : kd = 3
    ·omega
    ·omega
  rcases hcs with ⟨rfl, g1⟩ | ⟨rfl, g1, g2, g3⟩ | ⟨rfl, g1, g2, g3⟩ | ⟨rfl, g1, g2⟩ | ⟨rfl, g1, g2⟩ | ⟨rfl, g1, g2⟩ | ⟨rfl, g1, g2⟩ | ⟨rfl, g1, g2⟩ | ⟨rfl, g1⟩ | ⟨g0, g1, g2, g3⟩ | ⟨g0, g1, g2, g3⟩ | ⟨g0, g1, g2⟩
  all_goals
   go_wp2_with (refine wpList_store_block rfl 51 (.tmp 5) (.tmp 13) rfl w1.heap.size cs.toArray rfl rfl _ _ (block_new w1 _) (by rw [List.size_toArray, HCs.out.1]; rfl) (by rw [List.size_toArray, HCs.out.1]; kernel_rfl) HOn.out ?_; intro w2 hg2 hb2 hz2; have c3 : w2.cell? ⟨w1.heap.size, 3, none⟩ = some (.int .i64 z) := (by rw [cell_of_block hb2, List.getElem?_toArray]; exact HCs.out.2.1); have hb12 : Below w1.heap.size w1 w2 := ((Below.refl _ w1).alloc (Nat.le_refl _) _).grown hg2 (by simp) (fun k e => by cases e; exact Nat.le_refl _); have HB12 := hid hb12; have hx2 := below_block hb12 HX1.out (lt_of_heap HX1.out); have HB2 := hid (HB1.out.trans (hb12.mono HB1.out.size)); have d0 : w2.cell? ⟨w.heap.size, 0, none⟩ = some (.int .i64 _) := cell_of_block hx2 0; have d1 : w2.cell? ⟨w.heap.size, 1, none⟩ = some (.int .i64 ii) := cell_of_block hx2 1; have d2 : w2.cell? ⟨w.heap.size, 2, none⟩ = some (.int .i64 aa) := cell_of_block hx2 2; have d3 : w2.cell? ⟨w.heap.size, 3, none⟩ = some (.int .i64 n) := cell_of_block hx2 3; have d4 : w2.cell? ⟨w.heap.size, 4, none⟩ = some (.int .i64 nd) := cell_of_block hx2 4; have d5 : w2.cell? ⟨w.heap.size, 5, none⟩ = some (.int .i64 md) := cell_of_block hx2 5; have d6 : w2.cell? ⟨w.heap.size, 6, none⟩ = some (.int .i64 lk) := cell_of_block hx2 6; have d7 : w2.cell? ⟨w.heap.size, 7, none⟩ = some (.int .u8 (x.toNat : Int)) := cell_of_block hx2 7; have HX2 := hid hx2; clear hg2 hz2 hb12 hb2 hx2; refine Hid.out ?_)
   refine hid ?_
   clear HCs HOn HX1 HB1 HB12 HX2 d1 d2 d4 d5 d6 d7
   go_wp2
   go_ret
   exact muchTo_mk HB2.out
 ·go_wp2_with (refine wpList_store_block rfl 51 (.tmp 5) (.tmp 13) rfl w1.heap.size cs.toArray rfl rfl _ _ (block_new w1 _) (by rw [List.size_toArray, HCs.out.1]; rfl) (by rw [List.size_toArray, HCs.out.1]; kernel_rfl) HOn.out ?_; intro w2 hg2 hb2 hz2; have c3 : w2.cell? ⟨w1.heap.size, 3, none⟩ = some (.int .i64 z) := (by rw [cell_of_block hb2, List.getElem?_toArray]; exact HCs.out.2.1); have hb12 : Below w1.heap.size w1 w2 := ((Below.refl _ w1).alloc (Nat.le_refl _) _).grown hg2 (by simp) (fun k e => by cases e; exact Nat.le_refl _); have HB12 := hid hb12; have hx2 := below_block hb12 HX1.out (lt_of_heap HX1.out); have HB2 := hid (HB1.out.trans (hb12.mono HB1.out.size)); have d0 : w2.cell? ⟨w.heap.size, 0, none⟩ = some (.int .i64 _) := cell_of_block hx2 0; have d1 : w2.cell? ⟨w.heap.size, 1, none⟩ = some (.int .i64 ii) := cell_of_block hx2 1; have d2 : w2.cell? ⟨w.heap.size, 2, none⟩ = some (.int .i64 aa) := cell_of_block hx2 2; have d3 : w2.cell? ⟨w.heap.size, 3, none⟩ = some (.int .i64 n) := cell_of_block hx2 3; have d4 : w2.cell? ⟨w.heap.size, 4, none⟩ = some (.int .i64 nd) := cell_of_block hx2 4; have d5 : w2.cell? ⟨w.heap.size, 5, none⟩ = some (.int .i64 md) := cell_of_block hx2 5; have d6 : w2.cell? ⟨w.heap.size, 6, none⟩ = some (.int .i64 lk) := cell_of_block hx2 6; have d7 : w2.cell? ⟨w.heap.size, 7, none⟩ = some (.int .u8 (x.toNat : Int)) := cell_of_block hx2 7; have HX2 := hid hx2; clear hg2 hz2 hb12 hb2 hx2)
  go_ret
  exact muchTo_mk HB2.out
theorem l6much_any (h : Ref6 w F r m) (kd ii aa n nd md lk : Int) (x : UInt8) : Calls Tryz.prog 14 #[.pointer (some ⟨r, 0, none⟩), .agg #[.int .i64 kd, .int .i64 ii, .int .i64 aa, .int .i64 n, .int .i64 nd, .int .i64 md, .int .i64 lk, .int .u8 (x.toNat : Int)]] w fun e w' => MuchTo w e w' := by
 by_cases hk : kd = 1
 ·subst hk
  exact l6much_one h ii aa n nd md lk x
 ·exact l6much_ne h kd ii aa n nd md lk x hk
end
end
section
set_option maxRecDepth 100000
open Go.ChangeShapes Go.WideShapes Go.ChangeAt Go.RowKit
structure IDeed where
 k : Int
 i : Int
 a : Int
 n : Int
 nd : Int
 md : Int
 lk : Int
 x : UInt8
def IDeed.cells (D : IDeed) : List Value := [.int .i64 D.k, .int .i64 D.i, .int .i64 D.a, .int .i64 D.n, .int .i64 D.nd, .int .i64 D.md, .int .i64 D.lk, .int .u8 (D.x.toNat : Int)]
def IDeed.ok (w : World) (D : IDeed) (b o : Nat) : Prop := ∀ j (hj : j < D.cells.length), w.cell? ⟨b, o + j, none⟩ = some D.cells[j]
def ideedsAt (w : World) (a : Option Addr) (ds : List IDeed) : Prop := ∀ j, j < ds.length -> ∃ b o, a = some ⟨b, o, none⟩ /\ ∀ i (hi : i < ds.length), IDeed.ok w ds[i] b (o + i * 8)
theorem IDeed.ok.below {w w' : World} {D : IDeed} {b o : Nat} (h : D.ok w b o) (k : Below w.heap.size w w') : D.ok w' b o := fun j hj => (k.cell (World.block_lt_of_cell? w _ (h j hj))).trans (h j hj)
theorem cellsIDeed : Tryz.prog.cellsOf 25 = 8 := by kernel_rfl
theorem ideed_of {H : Type} {enc : TypeId × Value -> H} {W : World} {base : Nat} {sp : Nat -> Bool} {held : Bool} {fuel : Nat} {cs : List Value} {y : DataW H × List MemPlace} (hl : cs.length = 8) (h : DataW.trod enc Tryz.prog W base sp held fuel 25 cs = some y) : ∃ D : IDeed, cs = D.cells := by
 obtain ⟨xs, n, _, rfl, _, hlen, hf⟩ := DataW.trod_struct Tryz.underlying25 h
 match cs, hl, xs, hlen with
 | [c0, c1, c2, c3, c4, c5, c6, c7], _, [y0, y1, y2, y3, y4, y5, y6, y7], _ =>
  obtain ⟨v0, e0, _⟩ := DataW.trod_int Tryz.underlying3 (hf 0 _ rfl)
  obtain ⟨v1, e1, _⟩ := DataW.trod_int Tryz.underlying3 (hf 1 _ rfl)
  obtain ⟨v2, e2, _⟩ := DataW.trod_int Tryz.underlying3 (hf 2 _ rfl)
  obtain ⟨v3, e3, _⟩ := DataW.trod_int Tryz.underlying3 (hf 3 _ rfl)
  obtain ⟨v4, e4, _⟩ := DataW.trod_int Tryz.underlying23 (hf 4 _ rfl)
  obtain ⟨v5, e5, _⟩ := DataW.trod_int Tryz.underlying3 (hf 5 _ rfl)
  obtain ⟨v6, e6, _⟩ := DataW.trod_int Tryz.underlying3 (hf 6 _ rfl)
  obtain ⟨v7, e7, _, w7⟩ := DataW.trod_int Tryz.underlying5 (hf 7 _ rfl)
  have f0 : c0 = .int .i64 v0 := by simpa [show Tryz.prog.cellsOf 3 = 1 by kernel_rfl] using e0
  have f1 : c1 = .int .i64 v1 := by simpa [show Tryz.prog.cellsOf 3 = 1 by kernel_rfl] using e1
  have f2 : c2 = .int .i64 v2 := by simpa [show Tryz.prog.cellsOf 3 = 1 by kernel_rfl] using e2
  have f3 : c3 = .int .i64 v3 := by simpa [show Tryz.prog.cellsOf 3 = 1 by kernel_rfl] using e3
  have f4 : c4 = .int .i64 v4 := by simpa [show Tryz.prog.cellsOf 23 = 1 by kernel_rfl] using e4
  have f5 : c5 = .int .i64 v5 := by simpa [show Tryz.prog.cellsOf 3 = 1 by kernel_rfl] using e5
  have f6 : c6 = .int .i64 v6 := by simpa [show Tryz.prog.cellsOf 3 = 1 by kernel_rfl] using e6
  have f7 : c7 = .int .u8 v7 := by simpa [show Tryz.prog.cellsOf 5 = 1 by kernel_rfl] using e7
  subst f0 f1 f2 f3 f4 f5 f6 f7
  have hb := bounds_u8 w7
  refine ⟨⟨v0, v1, v2, v3, v4, v5, v6, UInt8.ofNat v7.toNat⟩, ?_⟩
  have e : ((UInt8.ofNat v7.toNat).toNat : Int) = v7 := by rw [UInt8.toNat_ofNat']; omega
  unfold IDeed.cells
  rw [e]
theorem ideed_cells {H : Type} {enc : TypeId × Value -> H} {W : World} {sp : Nat -> Bool} {held : Bool} {a : Addr} {m : Nat} {y : DataW H × List MemPlace} (h : (W.cells? 0 a 8).bind (DataW.trod enc Tryz.prog W 0 sp held m 25) = some y) :
  ∃ D : IDeed, a = ⟨a.block, a.off, none⟩ /\ D.ok W a.block a.off := by
 obtain ⟨cs, hcs, hf⟩ := Option.bind_eq_some_iff.1 h
 obtain ⟨_, hl, hc⟩ := World.cells?_some hcs
 obtain ⟨D, rfl⟩ := ideed_of hl hf
 have c0 := hc 0 (by omega)
 have hp := plain_addr c0
 rw [Addr.add, if_pos rfl] at hp
 rw [hp] at hc
 refine ⟨D, hp, fun j hj => ?_⟩
 have := hc j (by rw [<- hl]; exact hj)
 rw [Addr.add_mid, List.getElem?_eq_getElem hj] at this
 exact this
theorem ideeds_open {H : Type} {enc : TypeId × Value -> H} {W : World} {base : Nat} {v : Value} {d : DataW H} {p : List MemPlace} (hok : Value.okWide Tryz.prog W .any base 22 v) (h : DataW.Trod enc Tryz.prog W 0 (fun _ => true) true 22 v d p) :
  ∃ (ds : List IDeed) (a : Option Addr) (c : Nat), v = .slice a ds.length c /\ ideedsAt W a ds /\ ds.length <= 9223372036854775807 := by
 obtain ⟨a0, len, cap, rfl⟩ := okWide_slice Tryz.underlying22 hok
 obtain ⟨fuel, hf⟩ := h
 rcases DataW.trod_slice Tryz.underlying22 hf with ⟨hcs, hx⟩ | ⟨a, len', cap', elems, rest, n, _, hcs, hx, _, hl, hm, hel, hcell, _, _⟩
 ·simp only [Value.cells, List.cons.injEq, and_true, Value.slice.injEq] at hcs
  obtain ⟨rfl, rfl, rfl⟩ := hcs
  exact ⟨[], none, 0, rfl, fun j hj => by simp at hj, by simp⟩
 ·simp only [Value.cells, List.cons.injEq, and_true, Value.slice.injEq] at hcs
  obtain ⟨rfl, rfl, rfl⟩ := hcs
  have hex : ∀ i, i < len -> ∃ D : IDeed, (a.add (i * 8)) = ⟨a.block, a.off + i * 8, none⟩ /\ D.ok W a.block (a.off + i * 8) := fun i hi => by
   have h1 := hcell i hi
   rw [cellsIDeed, List.getElem?_eq_getElem (by omega)] at h1
   obtain ⟨D, hp, c0⟩ := ideed_cells h1
   have hblk : (a.add (i * 8)).block = a.block := add_block a _
   have hoff : (a.add (i * 8)).off = a.off + i * 8 := add_off _ _
   rw [hblk, hoff] at hp c0
   exact ⟨D, hp, c0⟩
  obtain ⟨ds, hdl, hP⟩ := list_of len hex
  refine ⟨ds, some a, cap, by rw [hdl], fun j hj => ?_, by unfold maxLen at hm; omega⟩
  have ha : a = ⟨a.block, a.off, none⟩ := by
   have h1 := hcell 0 (by omega)
   rw [cellsIDeed, List.getElem?_eq_getElem (by omega)] at h1
   obtain ⟨D, hp, _⟩ := ideed_cells h1
   rw [Nat.zero_mul, Addr.add, if_pos rfl] at hp
   exact hp
  exact ⟨a.block, a.off, by rw [<- ha], fun i hi => (hP i hi).2⟩
end
section
open Go.RowKit
def GvAt (w wr : World) (s m c r k : Nat) : Prop := ∃ F mr, (∀ i, F i -> w.heap.size <= i) /\ Below w.heap.size w wr /\ ManyAt wr s m c r mr F (206 + 206 * k) (303 * k) /\ w.heap.size <= r /\ w.heap.size <= mr
theorem ManyAt.below {w w' : World} {s m c r mr : Nat} {F : Nat -> Prop} {o u : Nat} (h : ManyAt w s m c r mr F o u) (hb : Below w.heap.size w w') : ManyAt w' s m c r mr F o u := by
 obtain ⟨Pg, Cm, fs, cs, h1, h2, h3⟩ := h
 exact ⟨Pg, Cm, fs, cs, h1.below hb, h2, h3.below hb⟩
theorem ManyAt.more {w : World} {s m c r mr : Nat} {F : Nat -> Prop} {o u o' u' : Nat} (h : ManyAt w s m c r mr F o u) (ho : o <= o') (hu : u <= u') : ManyAt w s m c r mr F o' u' := by
 obtain ⟨Pg, Cm, fs, cs, h1, h2, h3⟩ := h
 exact ⟨Pg, Cm, fs, cs, h1.more2 ho hu, h2, h3⟩
theorem GvAt.next {w wr w' : World} {s m c r k : Nat} (h : GvAt w wr s m c r k) (hb : Below wr.heap.size wr w') : GvAt w w' s m c r (k + 1) := by
 obtain ⟨F, mr, h1, h2, h3, h4, h5⟩ := h
 exact ⟨F, mr, h1, h2.trans (hb.mono h2.size), (h3.below hb).more (by omega) (by omega), h4, h5⟩
theorem GvAt.did {w w7 w8 : World} {s m c r k : Nat} {e : Ending} {F : Nat -> Prop} {mr : Nat} (h1 : ∀ i, F i -> w.heap.size <= i) (h2 : Below w.heap.size w w7) (h4 : w.heap.size <= r) (h5 : w.heap.size <= mr) (hd : DoM w7 s m c r mr F (206 + 206 * k) (303 * k) e w8) : GvAt w w8 s m c r (k + 1) := by
 obtain ⟨b, F', mr', -, d1, d2, d3, d4, d5⟩ := hd
 have hs := h2.size
 have hno : ∀ i, (F i \/ i = r \/ i = mr) -> w.heap.size <= i := fun i e => by
  rcases e with e | e | e
  ·exact h1 i e
  ·omega
  ·omega
 exact ⟨F', mr', fun i e => (d2 i e).elim (h1 i) (fun e => by omega), h2.trans (d3.below hs hno), d4.more (by omega) (by omega), h4, d5.elim (fun e => by omega) (fun e => by omega)⟩
end
section
open Go.RowKit
def pgJ (z : Nat) : List Nat := (upTo 0 (fillN z)).map dslot ++ (if 5120 < z then [10] else [])
def pgN (f : FileA) : List Nat := (pgJ f.data.length).map f.slot
theorem pgAll_pgN (f : FileA) (i : Nat) : pgAll (f.S i f.data.length) = (pgN f).map (fun p => ((p : Nat) : Int)) := by
 unfold pgAll pgN pgJ pgL
 rw [List.map_append, List.map_append, List.map_map, List.map_map]
 congr 1
 show (if 5120 < f.data.length then _ else _) = _
 split
 ·rfl
 ·rfl
theorem pgJ_perm {z : Nat} (hz : z <= 70656) : (pgJ z).Perm (List.range (needN z)) := by
 have hnd : (pgJ z).Nodup := by
  unfold pgJ
  refine List.nodup_append.2 ⟨?_, ?_, ?_⟩
  ·unfold upTo List.Nodup
   rw [List.map_map, List.pairwise_map]
   refine (List.nodup_range (n := fillN z - 0)).imp (fun {a b} hab e => hab ?_)
   have h1 : 0 + a = 0 + b := dslot_inj e
   omega
  ·split <;> simp
  ·intro a ha b hb e
   subst e
   obtain ⟨k, -, rfl⟩ := List.mem_map.1 ha
   split at hb
   ·have h1 := List.mem_singleton.1 hb
    unfold dslot at h1
    split at h1 <;> omega
   ·cases hb
 refine (List.perm_ext_iff_of_nodup hnd List.nodup_range).2 (fun j => ?_)
 unfold pgJ upTo
 rw [List.mem_append, List.mem_map, List.mem_range]
 constructor
 ·rintro (⟨k, hk, rfl⟩ | h)
  ·obtain ⟨q, hq, rfl⟩ := List.mem_map.1 hk
   have hq' := List.mem_range.1 hq
   exact fill_need (by omega) hz
  ·split at h
   ·rename_i h5
    have h1 := List.mem_singleton.1 h
    unfold needN fillN
    rw [if_neg (by omega), if_pos h5]
    omega
   ·cases h
 ·intro hj
  unfold needN at hj
  rw [if_neg (by omega)] at hj
  by_cases h5 : 5120 < z
  ·rw [if_pos h5] at hj
   by_cases hj10 : j = 10
   ·exact .inr (by rw [if_pos h5, hj10]; exact List.mem_singleton.2 rfl)
   ·refine .inl ⟨if j < 10 then j else j - 1, List.mem_map.2 ⟨if j < 10 then j else j - 1, List.mem_range.2 ?_, by omega⟩, ?_⟩
    ·unfold fillN at hj ⊢
     split <;> omega
    ·unfold dslot
     by_cases h10 : j < 10
     ·rw [if_pos h10, if_pos h10]
     ·rw [if_neg h10, if_neg (by omega)]; omega
  ·rw [if_neg h5] at hj
   refine .inl ⟨j, List.mem_map.2 ⟨j, List.mem_range.2 (by omega), by omega⟩, ?_⟩
   unfold dslot fillN at *
   rw [if_pos (by omega)]
section
variable {N ino : Nat} {Pg : Nat -> List UInt8} {fs : Nat -> Option FileA} {i : Nat} {f : FileA}
theorem GoodX.pgPerm (h : GoodX noSk N ino Pg fs) (hf : fs i = some f) : (pgN f).Perm (slotsO (some f)) := by
 have h1 := (h.node i f hf (fun e => e)).2.1
 show (pgN f).Perm ((List.range f.cnt).map f.slot)
 unfold pgN
 rw [h1]
 exact (pgJ_perm (h.file i f hf).size).map f.slot
theorem allS_succ (fs : Nat -> Option FileA) (n : Nat) : allS fs (n + 1) = allS fs n ++ slotsO (fs n) := by
 unfold allS
 rw [List.range_succ, List.flatMap_append, List.flatMap_singleton]
theorem allS_split (fs : Nat -> Option FileA) {n ino : Nat} (hn : n <= ino) : ∃ l, allS fs ino = allS fs n ++ l := by
 refine ⟨(List.range' n (ino - n)).flatMap (fun i => slotsO (fs i)), ?_⟩
 unfold allS
 rw [<- List.flatMap_append]
 congr 1
 obtain ⟨d, rfl⟩ : ∃ d, ino = n + d := ⟨ino - n, by omega⟩
 rw [List.range_eq_range', List.range_eq_range', <- List.range'_append_1, Nat.zero_add, Nat.add_sub_cancel_left]
theorem GoodX.nodupN (h : GoodX noSk N ino Pg fs) (n : Nat) (hn : n <= ino) : (allS fs n).Nodup := by
 have h1 := h.nodupS
 obtain ⟨l, e⟩ := allS_split fs hn
 rw [e] at h1
 exact (List.nodup_append.1 h1).1
theorem GoodX.countN (h : GoodX noSk N ino Pg fs) (n : Nat) (hn : n <= ino) : (allS fs n).length <= N := by
 have h1 := h.free
 obtain ⟨l, e⟩ := allS_split fs hn
 rw [<- length_allS, e, List.length_append] at h1
 omega
theorem GoodX.told (h : GoodX noSk N ino Pg fs) (hf : fs i = some f) (k : Nat) (hk : k < (pgN f).length) :
  (pgN f)[k] ∉ allS fs i ++ (pgN f).take k /\ 3 + ino / 8 <= (pgN f)[k] /\ (pgN f)[k] < N /\ bitL (Pg 2) (pgN f)[k] = true := by
 have hi := h.out i f hf
 have hp := h.pgPerm hf
 have hnd : (allS fs i ++ pgN f).Nodup := by
  have h1 := h.nodupN (i + 1) (by omega)
  rw [allS_succ, hf] at h1
  exact ((List.Perm.append_left (allS fs i) hp).nodup_iff).2 h1
 have hm : (pgN f)[k] ∈ slotsO (some f) := hp.mem_iff.1 (List.getElem_mem hk)
 obtain ⟨g, j, e1, hj, e2⟩ := mem_slotsO.1 hm
 cases e1
 have hin := (h.file i f hf).in_ j hj
 refine ⟨fun hh => ?_, by rw [<- e2]; exact hin.1, by rw [<- e2]; exact hin.2, ?_⟩
 ·have h1 := List.nodup_append.1 hnd
  rcases List.mem_append.1 hh with hh | hh
  ·exact h1.2.2 _ hh _ (List.getElem_mem hk) rfl
  ·obtain ⟨q, hq, e⟩ := List.getElem_of_mem hh
   rw [List.getElem_take] at e
   have hq' : q < k := by rw [List.length_take] at hq; omega
   have := (List.getElem_inj h1.2.1).1 e
   omega
 ·rw [<- e2] at *
  exact (h.pbit (f.slot j) hin.1 hin.2).2 ⟨i, f, j, hf, hj, rfl⟩
end
def seenL (T : List Nat) : List Bool := (List.range 100).map (fun p => decide (p ∈ T))
theorem length_seenL (T : List Nat) : (seenL T).length = 100 := by simp [seenL]
theorem seenL_at (T : List Nat) (p : Nat) (hp : p < (seenL T).length) : (seenL T)[p] = decide (p ∈ T) := by simp [seenL]
theorem seenL_none : seenL [] = List.replicate 100 false := by decide
theorem seenL_set (T : List Nat) (p : Nat) : (seenL T).set p true = seenL (T ++ [p]) := by
 refine List.ext_getElem (by rw [List.length_set, length_seenL, length_seenL]) (fun j h1 h2 => ?_)
 rw [List.getElem_set, seenL_at, seenL_at]
 by_cases e : p = j
 ·subst e
  rw [if_pos rfl, decide_eq_true (List.mem_append.2 (.inr (List.mem_singleton.2 rfl)))]
 ·rw [if_neg e]
  congr 1
  rw [List.mem_append, List.mem_singleton, eq_iff_iff]
  exact ⟨.inl, fun h => h.elim id (fun h => absurd h.symm e)⟩
theorem seenL_same {T T' : List Nat} (h : ∀ p, p ∈ T ↔ p ∈ T') : seenL T = seenL T' := by
 unfold seenL
 refine List.map_congr_left (fun p _ => ?_)
 exact decide_eq_decide.2 (h p)
theorem St.keepY {w w' : World} {s m c ino b : Nat} {F : Nat -> Prop} {N : Nat} {Pg Cm : Nat -> List UInt8} {fs : Nat -> Option FileA} {o u : Nat} {L : List Bool} (h : St w s m c F N ino Pg Cm fs o u) (hb : ownBl w b L) (hF : ¬ F b) (k : Keeps (fun i => i = b) w w') : St w' s m c F N ino Pg Cm fs o u := by
 obtain ⟨D, hp⟩ := h.pc
 have hb0 := hb
 unfold ownBl at hb0
 have hm : ¬ m = b := fun e => by
  have h1 := h.map
  unfold mapB at h1
  rw [e, hb0] at h1
  simp only [Option.some.injEq, Obj.cells.injEq] at h1
  exact absurd h1.2.1 (by decide)
 have hs : ¬ s = b := fun e => by
  have h1 := h.store
  unfold storeB at h1
  rw [e, hb0] at h1
  simp only [Option.some.injEq, Obj.cells.injEq] at h1
  exact absurd h1.2.1 (by decide)
 exact ⟨h.map.keep k hm, h.store.keep k hs, h.mF, h.sF, h.few, ⟨D, hp.keepY (offN_bools hb0) hF k⟩, h.good⟩
theorem iUsed_st {w : World} {s m c ino N o u : Nat} {F : Nat -> Prop} {Pg Cm : Nat -> List UInt8} {fs : Nat -> Option FileA} (h : St w s m c F N ino Pg Cm fs o u) (hu : u < 900000) (p : Nat) (h1 : 3 + ino / 8 <= p) (h2 : p < N) (h3 : bitL (Pg 2) p = true) : Calls Tryz.prog 26 #[.pointer (some ⟨m, 0, none⟩), .int .i64 p] w fun e w' => e = .returned (.bool true) /\ Keeps F w w' /\ St w' s m c F N ino Pg Cm fs o (u + 1) := by
 obtain ⟨D, hp⟩ := h.pc
 have hnf := h.good.nf
 refine (aUsed_any h.map h.mF h.good.i5 p (by omega) (by omega) hp).mono ?_
 rintro e w' ⟨rfl, hk, hp'⟩
 refine ⟨?_, hk, h.map.keep hk h.mF, h.store.keep hk h.sF, h.mF, h.sF, h.few, ⟨D, hp'⟩, h.good⟩
 unfold takenP
 rw [if_pos ⟨by omega, by omega⟩, Int.toNat_natCast, h3]
end
section
set_option maxRecDepth 100000
set_option maxHeartbeats 8000000
open Go.RowKit
theorem iFree_sa {w : World} {s m c ino N o u : Nat} {F : Nat -> Prop} {Pg Cm : Nat -> List UInt8} {fs : Nat -> Option FileA} (h : St w s m c F N ino Pg Cm fs o u) (hu : u < 900000) : Calls Tryz.prog 21 #[.pointer (some ⟨m, 0, none⟩)] w fun e w' => e = .returned (.tuple #[.int .i64 (frL Pg N ino).length, .int .i64 (freeTo (Pg 1) 1 ino 4096).length]) /\ Keeps F w w' /\ St w' s m c F N ino Pg Cm fs o (u + 2) := by
 obtain ⟨D, hp⟩ := h.pc
 have hN := h.few
 have hnf := h.good.nf
 refine (aFree_any h.map h.mF (by omega) (by omega) h.good.i5 (by omega) hp).mono ?_
 rintro e w' ⟨rfl, hk, hp'⟩
 exact ⟨rfl, hk, h.map.keep hk h.mF, h.store.keep hk h.sF, h.mF, h.sF, h.few, ⟨D, hp'⟩, h.good⟩
theorem inodeApart_walk (ds : List IDeed) (da : Option Addr) (dc : Nat) (w : World) (hds : ideedsAt w da ds) : Calls Tryz.prog 5 #[.slice da ds.length dc] w fun e w' => e = .returned (.bool true) /\ Below w.heap.size w w' := by
 have HDs := hid hds
 clear hds
 have HOp := hid (l6opened_any 90 (by omega) (by omega) (by decide) w)
 go_enter Tryz.func5, Tryz.ntmps5
 go_wp2_with fail
 refine HOp.out.mono ?_
 clear HOp
 rintro e w1 ⟨s, m, c, F, r, Pg, rfl, hF, hb1, hst1, -, -, mr, hr1, -, hr0, hmr0⟩
 have HG1 : Hid (GvAt w w1 s m c r 0) := ⟨F, mr, hF, hb1, ⟨_, _, _, _, hst1, hst1.good, hr1.keep (Keeps.refl (fun _ => False) w1) (fun _ e => e.elim) (fun j e => .inl (.inl e))⟩, hr0, hmr0⟩
 have HL := hid (l6live_any w1)
 clear hF hb1 hst1 hr1 hr0 hmr0
 go_wp2_with fail
 refine HL.out.mono ?_
 clear HL
 rintro e w2 ⟨rfl, hb2⟩
 have HBk : Hid (GvAt w w2 s m c r 0) := by
  obtain ⟨F, mr, h1, h2, h3, h4, h5⟩ := HG1.out
  exact ⟨F, mr, h1, h2.trans (hb2.mono h2.size), h3.below hb2, h4, h5⟩
 clear HG1 hb2
 go_wp2
 go_loopw [6] (fun kv wr => ∃ k : Nat, k <= 30 /\ k <= ds.length /\ kv = .int .i64 k /\ Hid (GvAt w wr s m c r k)) (fun kv _ => 31 - (intOf kv).toNat)
 case atStart => exact ⟨0, by omega, by omega, rfl, HBk⟩
 case round =>
  obtain ⟨k, hk10, hkl, rfl, HI⟩ := hrel
  by_cases hkk : k < ds.length /\ k < 30
  ·obtain ⟨hk1, hk2⟩ := hkk
   have hk1' : (k : Int) < (ds.length : Int) := by omega
   have hk2' : (k : Int) < 30 := by omega
   obtain ⟨F, mr, hF, hB, hO, hr0, hm0⟩ := HI.out
   obtain ⟨b, o, hda, hdc⟩ := HDs.out k hk1
   have hok := (hdc k hk1).below hB
   generalize ds[k] = E at *
   obtain ⟨ek, ei, ea, en, ed, em, el, ex⟩ := E
   have x0 : wr.cell? ⟨b, o + k * 8, none⟩ = some (.int .i64 ek) := hok 0 (show 0 < 8 by omega)
   have x1 : wr.cell? ⟨b, o + k * 8 + 1, none⟩ = some (.int .i64 ei) := hok 1 (show 1 < 8 by omega)
   have x2 : wr.cell? ⟨b, o + k * 8 + 2, none⟩ = some (.int .i64 ea) := hok 2 (show 2 < 8 by omega)
   have x3 : wr.cell? ⟨b, o + k * 8 + 3, none⟩ = some (.int .i64 en) := hok 3 (show 3 < 8 by omega)
   have x4 : wr.cell? ⟨b, o + k * 8 + 4, none⟩ = some (.int .i64 ed) := hok 4 (show 4 < 8 by omega)
   have x5 : wr.cell? ⟨b, o + k * 8 + 5, none⟩ = some (.int .i64 em) := hok 5 (show 5 < 8 by omega)
   have x6 : wr.cell? ⟨b, o + k * 8 + 6, none⟩ = some (.int .i64 el) := hok 6 (show 6 < 8 by omega)
   have x7 : wr.cell? ⟨b, o + k * 8 + 7, none⟩ = some (.int .u8 (ex.toNat : Int)) := hok 7 (show 7 < 8 by omega)
   subst hda
   have HMu := hid (l6much_any (by obtain ⟨-, -, -, -, -, -, h⟩ := hO; exact h) ek ei ea en ed em el ex)
   have HF := hid hF
   have HB := hid hB
   have HO := hid hO
   have HOk := hid hok
   clear hok hdc hF hB hO HBk
   go_wp2_with fail
   refine HMu.out.mono ?_
   clear HMu
   rintro e w7 ⟨hb7, bm, rfl⟩
   cases bm with
   | true =>
    have HN := hid (HI.out.next hb7)
    clear hb7 HI
    go_wp2
    exact ⟨⟨k + 1, by omega, by omega, by go_num, HN⟩, by simp [intOf]; omega⟩
   | false =>
    clear x0 x1 x2 x3 x4 x5 x6 x7
    have hok := HOk.out.below hb7
    have x0 : w7.cell? ⟨b, o + k * 8, none⟩ = some (.int .i64 ek) := hok 0 (show 0 < 8 by omega)
    have x1 : w7.cell? ⟨b, o + k * 8 + 1, none⟩ = some (.int .i64 ei) := hok 1 (show 1 < 8 by omega)
    have x2 : w7.cell? ⟨b, o + k * 8 + 2, none⟩ = some (.int .i64 ea) := hok 2 (show 2 < 8 by omega)
    have x3 : w7.cell? ⟨b, o + k * 8 + 3, none⟩ = some (.int .i64 en) := hok 3 (show 3 < 8 by omega)
    have x4 : w7.cell? ⟨b, o + k * 8 + 4, none⟩ = some (.int .i64 ed) := hok 4 (show 4 < 8 by omega)
    have x5 : w7.cell? ⟨b, o + k * 8 + 5, none⟩ = some (.int .i64 em) := hok 5 (show 5 < 8 by omega)
    have x6 : w7.cell? ⟨b, o + k * 8 + 6, none⟩ = some (.int .i64 el) := hok 6 (show 6 < 8 by omega)
    have x7 : w7.cell? ⟨b, o + k * 8 + 7, none⟩ = some (.int .u8 (ex.toNat : Int)) := hok 7 (show 7 < 8 by omega)
    have HDo := hid (l6do_any (HO.out.below hb7) (by omega) (by omega) ek ei ea en ed em el ex)
    have HB7 := hid (HB.out.trans (hb7.mono HB.out.size))
    clear hok hb7
    go_wp2_with fail
    refine HDo.out.mono ?_
    clear HDo
    rintro e w8 hd
    have HN := hid (GvAt.did HF.out HB7.out hr0 hm0 hd)
    obtain ⟨bd, F8, mr8, rfl, -⟩ := hd
    clear x0 x1 x2 x3 x4 x5 x6 x7 HI
    go_wp2
    exact ⟨⟨k + 1, by omega, by omega, by go_num, HN⟩, by simp [intOf]; omega⟩
  ·obtain ⟨F, mr, hF, hB, ⟨Pg2, Cm2, fs, cs, hst, -, -⟩, -, -⟩ := HI.out
   have HF := hid hF
   have HB := hid hB
   have HFl : Hid (∀ i, F i -> i < wr.heap.size) := hst.lt
   have HGd := hid hst.good
   have HS := hid hst
   clear HI hF hB HBk hst
   rcases (show ((k : Int) < (ds.length : Int) /\ ¬ (k : Int) < 30) \/ ¬ (k : Int) < (ds.length : Int) by omega) with ⟨hk1', hk2'⟩ | hk1'
   all_goals
    clear hkk
    go_wp2_with (refine wpList_make_bls rfl _ _ rfl 100 rfl rfl (by omega) ?_; intro w4 hb4 ho4 hs4; refine Hid.out ?_)
    rw [<- seenL_none] at ho4
    have HS4 := hid (HS.out.below hb4)
    have HO4 := hid ho4
    have HB4 := hid (HB.out.trans (hb4.mono HB.out.size))
    have HG4 : Hid (¬ F wr.heap.size /\ wr.heap.size < w4.heap.size /\ w.heap.size <= wr.heap.size) := ⟨fun hh => by have := HFl.out _ hh; omega, lt_of_heap ho4, by have := HB.out.size; omega⟩
    have HFg : Hid (∀ i, (F i \/ i = wr.heap.size) -> i < w4.heap.size) := fun i e => e.elim (fun e => by have h1 := HFl.out i e; have h2 := hb4.size; omega) (fun e => by have h3 := HG4.out.2.1; omega)
    clear hb4 ho4 hs4 HS HB HFl
    refine hid ?_
    generalize wr.heap.size = g at *
    go_wp2
    go_loopw [8, 9] (fun cv iv W => ∃ i u : Nat, 1 <= i /\ i <= 16 /\ u <= 303 * k + 200 * i /\ iv = .int .i64 i /\ cv = .int .i64 ((allS fs i).length : Nat) /\ Hid (St W s m c F 90 16 Pg2 Cm2 fs (206 + 206 * k) u) /\ Hid (ownBl W g (seenL (allS fs i))) /\ Hid (Keeps (fun j => F j \/ j = g) w4 W)) (fun _ iv _ => 16 - (intOf iv).toNat)
    case atStart =>
     have h10 : allS fs 1 = [] := by
      rw [allS_succ]
      cases hf0 : fs 0 with
      | none => rfl
      | some f => have := (HGd.out.out 0 f hf0).1; omega
     exact ⟨1, 303 * k, by omega, by omega, by omega, rfl, by rw [h10]; rfl, HS4, by rw [h10]; exact HO4, Keeps.refl _ _⟩
    case round =>
     obtain ⟨i, u, hi1, hi16, hu, rfl, rfl, HSt, HOw, HKp⟩ := hrel
     by_cases hi : i < 16
     ·have hi' : (i : Int) < 16 := by omega
      cases hf : fs i with
      | none =>
       have hge : gErr 16 fs (i : Int) = 4 := by
        unfold gErr
        rw [if_pos ⟨by omega, by omega⟩, Int.toNat_natCast, hf]
        rfl
       have hpe := iPages_err HSt.out (i : Int) (by rw [hge]; decide) (by omega)
       rw [hge] at hpe
       have HPe := hid hpe
       have HNx : Hid (allS fs (i + 1) = allS fs i) := by unfold Hid; rw [allS_succ, hf]; exact List.append_nil _
       clear hge hpe hf
       go_wp2_with fail
       refine HPe.out.mono ?_
       clear HPe
       rintro e w5 ⟨rfl, hk5, hst5⟩
       have HO5 : Hid (ownBl w5 g (seenL (allS fs (i + 1)))) := by unfold Hid; rw [HNx.out]; exact hk5.heap HOw.out HG4.out.1
       have HK5 : Hid (Keeps (fun j => F j \/ j = g) w4 w5) := HKp.out.trans hk5 (fun j e => .inl (.inl e))
       have HS5 := hid hst5
       have hcv : ((allS fs (i + 1)).length : Int) = ((allS fs i).length : Int) := by rw [HNx.out]
       clear hk5 hst5 HSt HOw HKp
       go_wp2
       refine ⟨⟨i + 1, u + 1, by omega, by omega, by omega, by go_num, ?_, HS5, HO5, HK5⟩, by simp [intOf]; omega⟩
       rw [hcv]
      | some f =>
       have HPe := hid (iPages_st HSt.out hf (by omega))
       rw [pgAll_pgN] at HPe
       have hpm := HGd.out.pgPerm hf
       have HNx : Hid ((allS fs (i + 1)).length = (allS fs i).length + (pgN f).length /\ ∀ p, p ∈ allS fs i ++ pgN f ↔ p ∈ allS fs (i + 1)) := by
        rw [allS_succ, hf]
        exact ⟨by rw [List.length_append, hpm.length_eq], fun p => by rw [List.mem_append, List.mem_append, hpm.mem_iff]⟩
       have HTo := hid (HGd.out.told hf)
       have HLe : Hid ((pgN f).length <= 139) := by
        unfold Hid
        rw [hpm.length_eq, length_slotsO]
        exact (HGd.out.file i f hf).cnt
       clear hf hpm
       go_wp2_with fail
       refine HPe.out.mono ?_
       clear HPe
       rintro e w5 ⟨v5, rfl, hro5, hk5, hst5⟩
       obtain ⟨pa, pc, hv5⟩ := hro5.form
       rw [List.length_map] at hv5
       subst hv5
       have HRo5 := hid (hro5.down (b' := w4.heap.size) HKp.out.size)
       have HO5 : Hid (ownBl w5 g (seenL (allS fs i ++ (pgN f).take 0))) := by unfold Hid; rw [List.take_zero, List.append_nil]; exact hk5.heap HOw.out HG4.out.1
       have HK5 : Hid (Keeps (fun j => F j \/ j = g) w4 w5) := HKp.out.trans hk5 (fun j e => .inl (.inl e))
       have HS5 := hid hst5
       clear hk5 hst5 hro5 HSt HOw HKp
       have hca := HGd.out.countN i (by omega)
       generalize hcl : (allS fs i).length = ca at *
       have HCl := hid hcl
       clear hcl
       go_wp2
       go_loopw [8, 12] (fun cv qv W => ∃ q u2 : Nat, q <= (pgN f).length /\ u2 <= u + 3 + q /\ qv = .int .i64 q /\ cv = .int .i64 (ca + q : Nat) /\ Hid (St W s m c F 90 16 Pg2 Cm2 fs (206 + 206 * k) u2) /\ Hid (ownBl W g (seenL (allS fs i ++ (pgN f).take q))) /\ Hid (Keeps (fun j => F j \/ j = g) w4 W) /\ Hid (rowN W w4.heap.size (.slice pa (pgN f).length pc) ((pgN f).map (fun p => ((p : Nat) : Int))))) (fun _ qv _ => (pgN f).length - (intOf qv).toNat)
       case atStart => exact ⟨0, u + 3, Nat.zero_le _, by omega, rfl, rfl, HS5, HO5, HK5, HRo5⟩
       case round =>
        obtain ⟨q, u2, hq, hu2, rfl, rfl, HSt, HOw, HKp, HRo⟩ := hrel
        have hle := HLe.out
        by_cases hlt : q < (pgN f).length
        ·have hlt' : (q : Int) < ((pgN f).length : Int) := by omega
         have hi0 : (0 : Int) <= (q : Int) := by omega
         obtain ⟨gp, cp, e, hc⟩ := HRo.out.cell q (by rw [List.length_map]; exact hlt)
         rw [Value.slice.injEq] at e
         obtain ⟨rfl, -, -⟩ := e
         rw [List.getElem_map] at hc
         obtain ⟨t1, t2, t3, t4⟩ := HTo.out q hlt
         have htk : (pgN f).take (q + 1) = (pgN f).take q ++ [(pgN f)[q]] := (List.take_append_getElem hlt).symm
         have HTk := hid htk
         generalize (pgN f)[q] = p at *
         have hp5 : ¬ (p : Int) < 5 := by omega
         have hp9 : (p : Int) < 90 := by omega
         have hp0 : (0 : Int) <= (p : Int) := by omega
         have hp100 : (p : Int) < 100 := by omega
         have HUs := hid (iUsed_st HSt.out (by omega) p t2 t3 t4)
         have hcell := HOw.out.cell p (by rw [length_seenL]; omega)
         rw [seenL_at, decide_eq_false t1] at hcell
         have HFi := hid (amFirst_any HSt.out.map (by omega))
         have HMp := hid (iMap_any HSt.out.store)
         clear htk
         go_wp2_with fail
         refine HMp.out.mono ?_
         rintro e w6 ⟨rfl, h6⟩
         obtain rfl := h6.symm
         clear h6
         go_wp2_with fail
         refine HFi.out.mono ?_
         clear HFi
         rintro e w6 ⟨rfl, h6⟩
         obtain rfl := h6.symm
         clear h6
         go_wp2_with fail
         refine HMp.out.mono ?_
         clear HMp
         rintro e w6 ⟨rfl, h6⟩
         obtain rfl := h6.symm
         clear h6
         go_wp2_with fail
         refine HUs.out.mono ?_
         clear HUs
         rintro e w6 ⟨rfl, hk6, hst6⟩
         have ho6 : ownBl w6 g (seenL (allS fs i ++ (pgN f).take q)) := hk6.heap HOw.out HG4.out.1
         have hcell6 := ho6.cell p (by rw [length_seenL]; omega)
         have fl6 : w6.frozen? ⟨g, p, none⟩ = false := frozen_of_block ho6 p
         have hs6 := ho6.set p true
         rw [seenL_set, List.append_assoc, <- HTk.out] at hs6
         have kk : Keeps (fun j => j = g) w6 (w6.setCell ⟨g, p, none⟩ (.bool true)) := (Keeps.refl _ _).grown (grown_setCell (grown_refl _ _) _ _) (fun i e => .inl (Option.some.inj e).symm)
         have HS6 := hid (hst6.keepY ho6 HG4.out.1 kk)
         have HO6 := hid hs6
         have hk46 : Keeps (fun j => F j \/ j = g) w4 (w6.setCell ⟨g, p, none⟩ (.bool true)) := (HKp.out.trans hk6 (fun j e => .inl (.inl e))).trans kk (fun j e => .inl (.inr e))
         have HK6 := hid hk46
         have HR6 := hid ((HRo.out.keep hk6 (fun j e hh => by have h1 := HRo.out.ge e; have h2 := HFg.out j (.inl hh); omega)).keep kk (fun j e hh => by have h1 := HRo.out.ge e; have h2 := HFg.out j (.inr hh); omega))
         clear hcell hc hk6 hst6 ho6 hs6 kk hk46 HSt HOw HKp HRo
         go_wp2
         exact ⟨⟨q + 1, u2 + 1, by omega, by omega, by go_num, by go_num, HS6, HO6, HK6, HR6⟩, by simp [intOf]; omega⟩
        ·have hge : ¬ ((q : Int) < ((pgN f).length : Int)) := by omega
         obtain rfl : q = (pgN f).length := by omega
         have HO6 : Hid (ownBl wr g (seenL (allS fs (i + 1)))) := by
          unfold Hid
          rw [<- seenL_same HNx.out.2]
          have h1 := HOw.out
          rw [List.take_length] at h1
          exact h1
         have hcv : (((allS fs (i + 1)).length : Nat) : Int) = ((ca + (pgN f).length : Nat) : Int) := by rw [HNx.out.1]
         clear HOw HRo HRo5
         go_wp2
         exact ⟨⟨i + 1, u2, by omega, by omega, by omega, by go_num, by rw [hcv], HSt, HO6, HKp⟩, by simp [intOf]; omega⟩
     ·obtain rfl : i = 16 := by omega
      have hge : ¬ (((16 : Nat) : Int) < 16) := by omega
      have hfr := HGd.out.free
      rw [<- length_allS] at hfr
      have HFr := hid (iFree_sa HSt.out (by omega))
      have HMp := hid (iMap_any HSt.out.store)
      generalize (frL Pg2 90 16).length = pn at *
      generalize (allS fs 16).length = ca at *
      clear HOw
      go_wp2_with fail
      refine HMp.out.mono ?_
      clear HMp
      rintro e w6 ⟨rfl, h6⟩
      obtain rfl := h6.symm
      clear h6
      go_wp2_with fail
      refine HFr.out.mono ?_
      clear HFr
      rintro e w6 ⟨rfl, hk6, hst6⟩
      have HMp := hid (iMap_any hst6.store)
      have HFi := hid (amFirst_any hst6.map (by omega))
      have HEnd : Hid (Below w.heap.size w w6) := HB4.out.trans ((HKp.out.trans hk6 (fun i e => .inl (.inl e))).below HB4.out.size (fun i e => e.elim (HF.out i) (fun e => by have := HG4.out.2.2; omega)))
      clear hk6 hst6 HSt HKp
      go_wp2_with fail
      refine HMp.out.mono ?_
      clear HMp
      rintro e w7 ⟨rfl, h6⟩
      obtain rfl := h6.symm
      clear h6
      go_wp2_with fail
      refine HFi.out.mono ?_
      clear HFi
      rintro e w7 ⟨rfl, h6⟩
      obtain rfl := h6.symm
      clear h6
      have h90 : (pn : Int) + (ca : Int) + 5 = 90 := by omega
      go_wp2
      go_ret
      exact ⟨rfl, HEnd.out⟩
end
end Go.Proofs.YtamfgnfclamamaaGreat
