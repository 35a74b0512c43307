/- digest.mixed returns the digest behind one more block, at every digest and block, in every world in which the table of the rounds' words is laid. -/
import Derived.Test.YtkmmeokccmppbaaDoorWords
import Derived.Deep.RegionHeld3
import Derived.StillTailTactics
import Derived.BigRegion
import Derived.Deep.RegionWith
import Derived.Deep.DrawnRows
namespace Go.Proofs.YtkmmeokccmppbaaDoor
open Go.RowKit
attribute [local go_sem ↓] op_add op_xor op_and op_or op_not op_shl op_shr op_up op_down
attribute [local go_sem] V_mod U_or
attribute [local go_sem ↓] Go.wp_at_zero Go.wp_at_succ
/-- The rounds' words lie in their global. -/
def Kat (w : World) : Prop := ∀ t, t < 64 → w.cell? ⟨1, t, none⟩ = some (W (kwords.getD t 0))
set_option maxRecDepth 100000 in
theorem hmix : Tryd.prog.follows .mixedOrders = true := by kernel_rfl
set_option maxRecDepth 100000 in
theorem Kat.lt {w : World} (h : Kat w) : 1 < w.heap.size := by
  have := h 0 (by omega)
  unfold World.cell? at this
  cases hq : w.heap[1]? with
  | none => rw [hq] at this; simp at this
  | some o => exact lt_of_heap hq
set_option maxRecDepth 100000 in
theorem Kat.below {K : Nat} {w w' : World} (h : Kat w) (hb : Below K w w') (hK : 1 < K) : Kat w' := fun t ht => (hb.cell (p := ⟨1, t, none⟩) hK).trans (h t ht)
abbrev sc (v : St) : Array Value := #[W v.a, W v.b, W v.c, W v.d, W v.e, W v.f, W v.g, W v.h]
set_option maxRecDepth 100000 in
theorem mix_start {w w2 w3 : World} {o1 o2 o3 o4 z : Obj} (hb2 : Below (w.heap.size + 1 + 1 + 1 + 1) ((((w.alloc o1).alloc o2).alloc o3).alloc o4) w2) (hg3 : (w2.alloc z).grownBy w3 (some w2.heap.size)) :
    w3.heap[w.heap.size]? = some o1 ∧ w3.heap[w.heap.size + 1 + 1]? = some o3 ∧ w3.heap[w.heap.size + 1 + 1 + 1]? = some o4 ∧ w.heap.size + 1 + 1 + 1 + 1 ≤ w2.heap.size ∧ Below w.heap.size w w3 := by
  obtain ⟨h1, _, h3, h4, h5, h6⟩ := new4 w o1 o2 o3 o4
  have hz : w.heap.size + 1 + 1 + 1 + 1 ≤ w2.heap.size := by have := hb2.size; omega
  have go : ∀ {b : Nat} {o : Obj}, b < w.heap.size + 1 + 1 + 1 + 1 → ((((w.alloc o1).alloc o2).alloc o3).alloc o4).heap[b]? = some o → w3.heap[b]? = some o := fun hb ho =>
    grown_block hg3 (block_alloc (below_block hb2 ho hb) _) (by simp; omega)
  refine ⟨go (by omega) h1, go (by omega) h3, go (by omega) h4, hz, ?_⟩
  exact (h5.trans ((hb2.mono (by omega)).alloc (by omega) z)).trans (below_of_grown hg3 (by omega) (by simp; omega))
set_option maxRecDepth 100000 in
theorem cell_up {wr w1 : World} (hx : ∀ i, i < wr.heap.size → w1.heap[i]? = wr.heap[i]?) {b o : Nat} {x : Value} (h : wr.cell? ⟨b, o, none⟩ = some x) : w1.cell? ⟨b, o, none⟩ = some x := by
  have hlt : b < wr.heap.size := by
    unfold World.cell? at h
    cases hq : wr.heap[b]? with
    | none => rw [hq] at h; simp at h
    | some o => exact lt_of_heap hq
  rw [← h]; exact World.cell?_of_block (w := wr) (hx b hlt)
set_option maxRecDepth 100000 in
theorem frozen_up {wr w1 : World} (hx : ∀ i, i < wr.heap.size → w1.heap[i]? = wr.heap[i]?) {b : Nat} (hb : b < wr.heap.size) (o : Nat) : w1.frozen? ⟨b, o, none⟩ = wr.frozen? ⟨b, o, none⟩ :=
  World.frozen?_of_block (w := wr) (hx b hb)
set_option maxRecDepth 100000 in
/-- What the round's last store leaves: v's block alone has turned. -/
theorem mix_next {w wr w1 W0 : World} {b4 : Nat} {v s : St} {us : List UInt32} {z : Array Value} (hx : ∀ i, i < wr.heap.size → w1.heap[i]? = wr.heap[i]?) (hb : Below W0.heap.size W0 w1)
    (hV : wr.heap[w.heap.size + 1 + 1 + 1]? = some (.cells (sc v) 53 (0, 0))) (hW : wr.heap[b4]? = some (.cells (us.map W).toArray 60 (0, 0)))
    (hD : wr.heap[w.heap.size]? = some (.cells (sc s) 53 (0, 0))) (hR : wr.heap[w.heap.size + 1 + 1]? = some (.cells z 53 (0, 0))) (hB : Below w.heap.size w wr)
    (h0 : W0.os = wr.os ∧ W0.tape = wr.tape ∧ W0.output = wr.output ∧ W0.heap.size = wr.heap.size) (hb4 : b4 ≠ w.heap.size + 1 + 1 + 1) (t : St) :
    ∀ w2 : World, w2 = ((((((((w1.setCell ⟨w.heap.size + 1 + 1 + 1, 0, none⟩ (W t.a)).setCell ⟨w.heap.size + 1 + 1 + 1, 1, none⟩ (W t.b)).setCell ⟨w.heap.size + 1 + 1 + 1, 2, none⟩ (W t.c)).setCell ⟨w.heap.size + 1 + 1 + 1, 3, none⟩ (W t.d)).setCell
        ⟨w.heap.size + 1 + 1 + 1, 4, none⟩ (W t.e)).setCell ⟨w.heap.size + 1 + 1 + 1, 5, none⟩ (W t.f)).setCell ⟨w.heap.size + 1 + 1 + 1, 6, none⟩ (W t.g)).setCell ⟨w.heap.size + 1 + 1 + 1, 7, none⟩ (W t.h)) →
    w2.heap[w.heap.size + 1 + 1 + 1]? = some (.cells (sc t) 53 (0, 0)) ∧ w2.heap[b4]? = some (.cells (us.map W).toArray 60 (0, 0)) ∧ w2.heap[w.heap.size]? = some (.cells (sc s) 53 (0, 0)) ∧
      w2.heap[w.heap.size + 1 + 1]? = some (.cells z 53 (0, 0)) ∧ Below w.heap.size w w2 := by
  rintro w2 rfl
  have hV1 := (hx _ (lt_of_heap hV)).trans hV
  have e : ∀ k, k ≠ w.heap.size + 1 + 1 + 1 → ((((((((w1.setCell ⟨w.heap.size + 1 + 1 + 1, 0, none⟩ (W t.a)).setCell ⟨w.heap.size + 1 + 1 + 1, 1, none⟩ (W t.b)).setCell ⟨w.heap.size + 1 + 1 + 1, 2, none⟩ (W t.c)).setCell ⟨w.heap.size + 1 + 1 + 1, 3, none⟩ (W t.d)).setCell
        ⟨w.heap.size + 1 + 1 + 1, 4, none⟩ (W t.e)).setCell ⟨w.heap.size + 1 + 1 + 1, 5, none⟩ (W t.f)).setCell ⟨w.heap.size + 1 + 1 + 1, 6, none⟩ (W t.g)).setCell ⟨w.heap.size + 1 + 1 + 1, 7, none⟩ (W t.h)).heap[k]? = w1.heap[k]? := fun k hk => by
    rw [block_setCell_other _ _ hk, block_setCell_other _ _ hk, block_setCell_other _ _ hk, block_setCell_other _ _ hk, block_setCell_other _ _ hk, block_setCell_other _ _ hk, block_setCell_other _ _ hk, block_setCell_other _ _ hk]
  refine ⟨?_, ?_, ?_, ?_, ?_⟩
  · have q := block_setCell (block_setCell (block_setCell (block_setCell (block_setCell (block_setCell (block_setCell (block_setCell hV1 0 (W t.a)) 1 (W t.b)) 2 (W t.c)) 3 (W t.d)) 4 (W t.e)) 5 (W t.f)) 6 (W t.g)) 7 (W t.h)
    rw [q]; simp
  · rw [e _ hb4, hx _ (lt_of_heap hW)]; exact hW
  · rw [e _ (by omega), hx _ (lt_of_heap hD)]; exact hD
  · rw [e _ (by omega), hx _ (lt_of_heap hR)]; exact hR
  · have hB1 : Below w.heap.size w w1 := hB.trans ⟨hb.os.trans h0.1, hb.tape.trans h0.2.1, hb.output.trans h0.2.2.1, by have := hb.size; omega, fun k hk => hx k (by have := hB.size; omega)⟩
    repeat' (first | (with_reducible exact hB1) | (with_reducible refine Below.setCell ?_ ?_ _) | (simp; omega))
set_option maxRecDepth 100000 in
/-- What the schedule's store leaves: w's block alone has turned. -/
theorem mix_mid {w wr w1 W0 : World} {b4 : Nat} {v s : St} {us : List UInt32} {z : Array Value} (hx : ∀ i, i < wr.heap.size → w1.heap[i]? = wr.heap[i]?) (hb : Below W0.heap.size W0 w1)
    (hV : wr.heap[w.heap.size + 1 + 1 + 1]? = some (.cells (sc v) 53 (0, 0))) (hW : wr.heap[b4]? = some (.cells (us.map W).toArray 60 (0, 0)))
    (hD : wr.heap[w.heap.size]? = some (.cells (sc s) 53 (0, 0))) (hR : wr.heap[w.heap.size + 1 + 1]? = some (.cells z 53 (0, 0))) (hB : Below w.heap.size w wr)
    (h0 : W0.os = wr.os ∧ W0.tape = wr.tape ∧ W0.output = wr.output ∧ W0.heap.size = wr.heap.size) (hb4 : w.heap.size + 1 + 1 + 1 < b4) (m : Nat) (x : UInt32) :
    ∀ w2 : World, w2 = w1.setCell ⟨b4, m, none⟩ (W x) →
    w2.heap[w.heap.size + 1 + 1 + 1]? = some (.cells (sc v) 53 (0, 0)) ∧ w2.heap[b4]? = some (.cells ((us.set m x).map W).toArray 60 (0, 0)) ∧ w2.heap[w.heap.size]? = some (.cells (sc s) 53 (0, 0)) ∧
      w2.heap[w.heap.size + 1 + 1]? = some (.cells z 53 (0, 0)) ∧ Below w.heap.size w w2 := by
  rintro w2 rfl
  refine ⟨?_, ?_, ?_, ?_, ?_⟩
  · rw [block_setCell_other _ _ (by omega), hx _ (lt_of_heap hV)]; exact hV
  · rw [block_setCell ((hx _ (lt_of_heap hW)).trans hW), set_map]
  · rw [block_setCell_other _ _ (by omega), hx _ (lt_of_heap hD)]; exact hD
  · rw [block_setCell_other _ _ (by omega), hx _ (lt_of_heap hR)]; exact hR
  · have hB1 : Below w.heap.size w w1 := hB.trans ⟨hb.os.trans h0.1, hb.tape.trans h0.2.1, hb.output.trans h0.2.2.1, by have := hb.size; omega, fun k hk => hx k (by have := hB.size; omega)⟩
    exact hB1.setCell (by simp; omega) _
set_option maxRecDepth 100000 in
theorem list16 (l : List UInt32) (h : l.length = 16) : ∃ a0 a1 a2 a3 a4 a5 a6 a7 a8 a9 a10 a11 a12 a13 a14 a15, l = [a0, a1, a2, a3, a4, a5, a6, a7, a8, a9, a10, a11, a12, a13, a14, a15] := by
  match l, h with
  | [a0, a1, a2, a3, a4, a5, a6, a7, a8, a9, a10, a11, a12, a13, a14, a15], _ => exact ⟨a0, a1, a2, a3, a4, a5, a6, a7, a8, a9, a10, a11, a12, a13, a14, a15, rfl⟩
/-- The sums of the first k numbers, the others as they are. -/
def addL (a b : List UInt32) (k : Nat) : List UInt32 := (a.zipWith (· + ·) b).take k ++ a.drop k
set_option maxRecDepth 100000 in
theorem length_addL (a b : List UInt32) (k : Nat) (ha : a.length = 8) (hb : b.length = 8) (hk : k ≤ 8) : (addL a b k).length = 8 := by
  simp [addL, ha, hb]; omega
set_option maxRecDepth 100000 in
theorem addL_get (a b : List UInt32) (k : Nat) (ha : a.length = 8) (hb : b.length = 8) (hk : k < 8) : (addL a b k).getD k 0 = a.getD k 0 := by
  simp only [List.getD_eq_getElem?_getD, addL]
  rw [List.getElem?_append_right (by simp [ha, hb]; omega)]
  simp [ha, hb, Nat.min_eq_left (Nat.le_of_lt hk)]
set_option maxRecDepth 100000 in
theorem addL_set (a b : List UInt32) (k : Nat) (ha : a.length = 8) (hb : b.length = 8) (hk : k < 8) : (addL a b k).set k (a.getD k 0 + b.getD k 0) = addL a b (k + 1) := by
  unfold addL
  rw [List.set_append_right _ _ (by simp [ha, hb]; omega)]
  have h1 : k - ((a.zipWith (· + ·) b).take k).length = 0 := by simp [ha, hb]; omega
  rw [h1, List.drop_eq_getElem_cons (by omega : k < a.length), List.set_cons_zero, List.take_succ_eq_append_getElem (by simp [ha, hb]; omega), List.append_assoc]
  congr 1
  simp [List.getD_eq_getElem?_getD, List.getElem?_eq_getElem (show k < a.length by omega), List.getElem?_eq_getElem (show k < b.length by omega)]
set_option maxRecDepth 100000 in
theorem addL_all (s v : St) : addL s.list v.list 8 = (addS s v).list := rfl
set_option maxRecDepth 100000 in
set_option maxHeartbeats 1000000 in
theorem mixed_any (s : St) (bs : List UInt8) (hl : bs.length = 64) (w : World) (hK : Kat w) :
    Calls Tryd.prog 25 #[.agg #[W s.a, W s.b, W s.c, W s.d, W s.e, W s.f, W s.g, W s.h], .agg (bs.map B).toArray] w fun e w' =>
      e = .returned (.agg #[W (mixS s bs).a, W (mixS s bs).b, W (mixS s bs).c, W (mixS s bs).d, W (mixS s bs).e, W (mixS s bs).f, W (mixS s bs).g, W (mixS s bs).h]) ∧ Below w.heap.size w w' := by
  have h4 := new4 w (.cells #[W s.a, W s.b, W s.c, W s.d, W s.e, W s.f, W s.g, W s.h] 53) (.cells (bs.map B).toArray 55) (.cells #[.int .u32 0, .int .u32 0, .int .u32 0, .int .u32 0, .int .u32 0, .int .u32 0, .int .u32 0, .int .u32 0] 53) (.cells #[W s.a, W s.b, W s.c, W s.d, W s.e, W s.f, W s.g, W s.h] 53)
  have H4 := hid h4
  have H1 := hid (all_oneCell_toArray (W_one (wordsTo bs 64)))
  have Hs : Hid (((wordsTo bs 64).map W).toArray.size = 16) := by simp [Hid, length_wordsTo]
  clear h4
  go_enter Tryd.func25, Tryd.ntmps25
  go_wp2_with (first
    | (refine wpList_load_block rfl 55 (.tmp 3) rfl (w.heap.size + 1) rfl (bs.map B).toArray 55 (0, 0) H4.out.2.1 _ Tryd.underlying55 rfl (info57.trans (by simp [hl])) ?_)
    | (go_at_call 29; refine (words_any bs hl _).mono ?_; rintro e w2 ⟨rfl, hb2⟩)
    | (refine wpList_store_block rfl 60 (.tmp 6) (.tmp 11) rfl w2.heap.size ((wordsTo bs 64).map W).toArray rfl rfl _ 60 (block_new _ _) Hs.out (info53.trans (congrArg some Hs.out.symm)) H1.out ?_; intro w3 hg3 hb3 hz3))
  obtain ⟨hD, hR, hV, hn2, hBw⟩ := mix_start (by simpa using hb2) hg3
  clear hb2 hg3 H4 hz3 H1 Hs
  generalize hws : wordsTo bs 64 = ws at *
  generalize hb4 : w2.heap.size = b4 at *
  have hlw : ws.length = 16 := by rw [← hws]; exact length_wordsTo _ _
  have HM : Hid (mixS s bs = addS s (roundsS ws s 64).2) := by rw [← hws]; exact rfl
  clear hws hb4
  go_loopw [12] (fun i wr => ∃ k : Nat, k ≤ 64 ∧ i = .int .i64 k ∧ wr.heap[w.heap.size + 1 + 1 + 1]? = some (.cells (sc (roundsS ws s k).2) 53 (0, 0)) ∧
      wr.heap[b4]? = some (.cells (((roundsS ws s k).1).map W).toArray 60 (0, 0)) ∧ wr.heap[w.heap.size]? = some (.cells (sc s) 53 (0, 0)) ∧
      wr.heap[w.heap.size + 1 + 1]? = some (.cells #[.int .u32 0, .int .u32 0, .int .u32 0, .int .u32 0, .int .u32 0, .int .u32 0, .int .u32 0, .int .u32 0] 53 (0, 0)) ∧ Below w.heap.size w wr)
    (fun i _ => 64 - (intOf i).toNat)
  case atStart => exact ⟨0, by omega, rfl, hV, hb3, hD, hR, hBw⟩
  case round =>
    clear hV hb3 hD hR hBw
    obtain ⟨k, hk, rfl, hV, hW, hD, hR, hB⟩ := hrel
    by_cases hlt : k < 64
    · have hkat := hK.below hB hK.lt
      have kc := hkat k hlt
      have hlk : (roundsS ws s k).1.length = 16 := by rw [length_rounds, hlw]
      have hst : Hid (roundsS ws s (k + 1) = (stepW (roundsS ws s k).1 k, turnS (roundsS ws s k).2 (kwords.getD k 0 + (stepW (roundsS ws s k).1 k).getD (k % 16) 0))) := rfl
      generalize (roundsS ws s k).1 = us at *
      generalize (roundsS ws s k).2 = v at *
      generalize hkw0 : kwords.getD k 0 = kw at *
      have hkw := hid hkw0
      clear hkw0
      by_cases h16 : k < 16
      · have hbl : 1 < wr.heap.size := hkat.lt
        have l3 := lt_of_heap hV
        have l4 := lt_of_heap hW
        have hc4 : wr.cell? ⟨b4, k % 16, none⟩ = some (W (us.getD (k % 16) 0)) := by rw [cell_of_block hW, List.getElem?_toArray, List.getElem?_map, get_some (d := 0) (by omega)]; rfl
        have c0 : wr.cell? ⟨w.heap.size + 1 + 1 + 1, 0, none⟩ = some (W v.a) := by rw [cell_of_block hV]; rfl
        have c1 : wr.cell? ⟨w.heap.size + 1 + 1 + 1, 1, none⟩ = some (W v.b) := by rw [cell_of_block hV]; rfl
        have c2 : wr.cell? ⟨w.heap.size + 1 + 1 + 1, 2, none⟩ = some (W v.c) := by rw [cell_of_block hV]; rfl
        have c3 : wr.cell? ⟨w.heap.size + 1 + 1 + 1, 3, none⟩ = some (W v.d) := by rw [cell_of_block hV]; rfl
        have c4 : wr.cell? ⟨w.heap.size + 1 + 1 + 1, 4, none⟩ = some (W v.e) := by rw [cell_of_block hV]; rfl
        have c5 : wr.cell? ⟨w.heap.size + 1 + 1 + 1, 5, none⟩ = some (W v.f) := by rw [cell_of_block hV]; rfl
        have c6 : wr.cell? ⟨w.heap.size + 1 + 1 + 1, 6, none⟩ = some (W v.g) := by rw [cell_of_block hV]; rfl
        have c7 : wr.cell? ⟨w.heap.size + 1 + 1 + 1, 7, none⟩ = some (W v.h) := by rw [cell_of_block hV]; rfl
        have fz : ∀ o, wr.frozen? ⟨w.heap.size + 1 + 1 + 1, o, none⟩ = false := frozen_of_block hV
        have HV := hid hV
        have HW := hid hW
        have HD := hid hD
        have HR := hid hR
        clear hV hW hD hR
        have hk0 : (0 : Int) ≤ (k : Int) := by omega
        have hk64 : (k : Int) < 64 := by omega
        generalize hgu : us.getD (k % 16) 0 = u at *
        have HU := hid hgu.symm
        clear hgu
        have hm : (k : Int).tmod 16 = (k : Int) % 16 := Int.tmod_eq_emod_of_nonneg (by omega)
        have hm0 : (0 : Int) ≤ (k : Int) % 16 := by omega
        have hm1 : (k : Int) % 16 < 16 := by omega
        have hmt : ((k : Int) % 16).toNat = k % 16 := by omega
        go_wp2
        refine wp_scope_once 0 rfl ?_
        go_wp2
        go_step3
        refine ⟨rfl, ?_⟩
        go_wp2
        go_still_tail 9, hmix
        go_wp2_with (go_at_call 31; refine (turned_any v _ _).mono ?_; rintro e w1 ⟨rfl, hb⟩; have hx : ∀ i, i < wr.heap.size → w1.heap[i]? = wr.heap[i]? := (fun i hi => hb.block i hi); have fz1 := frozen_up hx l3; have d0 := cell_up hx c0; have d1 := cell_up hx c1; have d2 := cell_up hx c2; have d3 := cell_up hx c3; have d4 := cell_up hx c4; have d5 := cell_up hx c5; have d6 := cell_up hx c6; have d7 := cell_up hx c7)
        rw [Exit.noGoto_normal]
        go_wp2
        go_roundw
        case rel =>
          refine ⟨k + 1, by omega, by go_num, ?_⟩
          rw [hst.out]
          have hgd : (stepW us k) = us := by unfold stepW; rw [if_pos h16]
          have hu' : u = us.getD (k % 16) 0 := HU.out
          simp only [hgd, ← hu']
          exact mix_next hx hb HV.out HW.out HD.out HR.out hB ⟨rfl, rfl, rfl, rfl⟩ (by omega) (turnS v (kw + u)) _ rfl
        case measure => simp [intOf]; omega
      · have hbl : 1 < wr.heap.size := hkat.lt
        have l3 := lt_of_heap hV
        have l4 := lt_of_heap hW
        have hc4 : wr.cell? ⟨b4, k % 16, none⟩ = some (W (us.getD (k % 16) 0)) := by rw [cell_of_block hW, List.getElem?_toArray, List.getElem?_map, get_some (d := 0) (by omega)]; rfl
        have c0 : wr.cell? ⟨w.heap.size + 1 + 1 + 1, 0, none⟩ = some (W v.a) := by rw [cell_of_block hV]; rfl
        have c1 : wr.cell? ⟨w.heap.size + 1 + 1 + 1, 1, none⟩ = some (W v.b) := by rw [cell_of_block hV]; rfl
        have c2 : wr.cell? ⟨w.heap.size + 1 + 1 + 1, 2, none⟩ = some (W v.c) := by rw [cell_of_block hV]; rfl
        have c3 : wr.cell? ⟨w.heap.size + 1 + 1 + 1, 3, none⟩ = some (W v.d) := by rw [cell_of_block hV]; rfl
        have c4 : wr.cell? ⟨w.heap.size + 1 + 1 + 1, 4, none⟩ = some (W v.e) := by rw [cell_of_block hV]; rfl
        have c5 : wr.cell? ⟨w.heap.size + 1 + 1 + 1, 5, none⟩ = some (W v.f) := by rw [cell_of_block hV]; rfl
        have c6 : wr.cell? ⟨w.heap.size + 1 + 1 + 1, 6, none⟩ = some (W v.g) := by rw [cell_of_block hV]; rfl
        have c7 : wr.cell? ⟨w.heap.size + 1 + 1 + 1, 7, none⟩ = some (W v.h) := by rw [cell_of_block hV]; rfl
        have fz : ∀ o, wr.frozen? ⟨w.heap.size + 1 + 1 + 1, o, none⟩ = false := frozen_of_block hV
        have HV := hid hV
        have HW := hid hW
        have HD := hid hD
        have HR := hid hR
        clear hV hW hD hR
        have hk0 : (0 : Int) ≤ (k : Int) := by omega
        have hk64 : (k : Int) < 64 := by omega
        generalize hgu : us.getD (k % 16) 0 = u at *
        have HU := hid hgu.symm
        clear hgu
        have hm : (k : Int).tmod 16 = (k : Int) % 16 := Int.tmod_eq_emod_of_nonneg (by omega)
        have hm0 : (0 : Int) ≤ (k : Int) % 16 := by omega
        have hm1 : (k : Int) % 16 < 16 := by omega
        have hmt : ((k : Int) % 16).toNat = k % 16 := by omega
        have f4 : wr.frozen? ⟨b4, k % 16, none⟩ = false := frozen_of_block HW.out _
        obtain ⟨u0, u1, u2, u3, u4, u5, u6, u7, u8, u9, u10, u11, u12, u13, u14, u15, hus⟩ := list16 us hlk
        have ca : wr.cell? ⟨b4, 0, none⟩ = some (W u0) ∧ wr.cell? ⟨b4, 1, none⟩ = some (W u1) ∧ wr.cell? ⟨b4, 2, none⟩ = some (W u2) ∧ wr.cell? ⟨b4, 3, none⟩ = some (W u3) ∧ wr.cell? ⟨b4, 4, none⟩ = some (W u4) ∧ wr.cell? ⟨b4, 5, none⟩ = some (W u5) ∧
            wr.cell? ⟨b4, 6, none⟩ = some (W u6) ∧ wr.cell? ⟨b4, 7, none⟩ = some (W u7) ∧ wr.cell? ⟨b4, 8, none⟩ = some (W u8) ∧ wr.cell? ⟨b4, 9, none⟩ = some (W u9) ∧ wr.cell? ⟨b4, 10, none⟩ = some (W u10) ∧ wr.cell? ⟨b4, 11, none⟩ = some (W u11) ∧
            wr.cell? ⟨b4, 12, none⟩ = some (W u12) ∧ wr.cell? ⟨b4, 13, none⟩ = some (W u13) ∧ wr.cell? ⟨b4, 14, none⟩ = some (W u14) ∧ wr.cell? ⟨b4, 15, none⟩ = some (W u15) := by
          have hh := HW.out
          rw [hus] at hh
          refine ⟨?_, ?_, ?_, ?_, ?_, ?_, ?_, ?_, ?_, ?_, ?_, ?_, ?_, ?_, ?_, ?_⟩ <;> (rw [cell_of_block hh]; rfl)
        obtain ⟨a0, a1, a2, a3, a4, a5, a6, a7, a8, a9, a10, a11, a12, a13, a14, a15⟩ := ca
        have HUS := hid hus
        have hsp := spread_any us hlk k hlt
        rw [hus] at hsp
        have hsp' : ∀ w, Calls Tryd.prog 30 #[.agg #[W u0, W u1, W u2, W u3, W u4, W u5, W u6, W u7, W u8, W u9, W u10, W u11, W u12, W u13, W u14, W u15], .int .i64 k] w fun e w' => e = .returned (W (spreadS us k)) ∧ Below w.heap.size w w' := by
          rw [hus]; exact hsp
        have HSP := hid hsp'
        clear hsp hsp' hus
        go_wp2
        go_step3
        go_wp2
        go_region_with ((go_at_call 30; refine (HSP.out _).mono ?_; rintro e w1 ⟨rfl, hb⟩; have hx : ∀ i, i < wr.heap.size → w1.heap[i]? = wr.heap[i]? := (fun i hi => hb.block i hi); have d4 := cell_up hx hc4; have fz1 := frozen_up hx l4))
        all_goals
          go_wp2
          go_step3
          have N := mix_mid hx hb HV.out HW.out HD.out HR.out hB ⟨rfl, rfl, rfl, rfl⟩ (by omega) (k % 16) (u + spreadS us k)
          have hkat1 := hkat
          clear c0 c1 c2 c3 c4 c5 c6 c7 fz hc4 d4 fz1 f4 kc a0 a1 a2 a3 a4 a5 a6 a7 a8 a9 a10 a11 a12 a13 a14 a15
          generalize hwy : w1.setCell ⟨b4, k % 16, none⟩ (.int .u32 (U (u + spreadS us k))) = wy
          obtain ⟨eV, eW, eD, eR, eB⟩ := N wy hwy.symm
          have kc : wy.cell? ⟨1, k, none⟩ = some (W kw) := by rw [hK.below eB hK.lt k hlt, hkw.out]
          clear hwy
          have m3 := lt_of_heap eV
          have m4 := lt_of_heap eW
          have hgt : Hid (stepW us k = us.set (k % 16) (u + spreadS us k)) := by unfold Hid stepW; rw [if_neg h16, ← HU.out]
          have hgu : Hid ((us.set (k % 16) (u + spreadS us k)).getD (k % 16) 0 = u + spreadS us k) := by
            unfold Hid; rw [List.getD_eq_getElem?_getD, List.getElem?_set_self (by omega)]; rfl
          have hc4 : wy.cell? ⟨b4, k % 16, none⟩ = some (W (u + spreadS us k)) := by rw [cell_of_block eW, List.getElem?_toArray, List.getElem?_map, List.getElem?_set_self (by omega)]; rfl
          generalize u + spreadS us k = y at *
          have e0 : wy.cell? ⟨w.heap.size + 1 + 1 + 1, 0, none⟩ = some (W v.a) := by rw [cell_of_block eV]; rfl
          have e1 : wy.cell? ⟨w.heap.size + 1 + 1 + 1, 1, none⟩ = some (W v.b) := by rw [cell_of_block eV]; rfl
          have e2 : wy.cell? ⟨w.heap.size + 1 + 1 + 1, 2, none⟩ = some (W v.c) := by rw [cell_of_block eV]; rfl
          have e3 : wy.cell? ⟨w.heap.size + 1 + 1 + 1, 3, none⟩ = some (W v.d) := by rw [cell_of_block eV]; rfl
          have e4 : wy.cell? ⟨w.heap.size + 1 + 1 + 1, 4, none⟩ = some (W v.e) := by rw [cell_of_block eV]; rfl
          have e5 : wy.cell? ⟨w.heap.size + 1 + 1 + 1, 5, none⟩ = some (W v.f) := by rw [cell_of_block eV]; rfl
          have e6 : wy.cell? ⟨w.heap.size + 1 + 1 + 1, 6, none⟩ = some (W v.g) := by rw [cell_of_block eV]; rfl
          have e7 : wy.cell? ⟨w.heap.size + 1 + 1 + 1, 7, none⟩ = some (W v.h) := by rw [cell_of_block eV]; rfl
          have fz : ∀ o, wy.frozen? ⟨w.heap.size + 1 + 1 + 1, o, none⟩ = false := frozen_of_block eV
          have EV := hid eV
          have EW := hid eW
          have ED := hid eD
          have ER := hid eR
          clear eV eW eD eR hx hb
          go_wp2
          go_still_tail 9, hmix
          go_wp2_with (go_at_call 31; refine (turned_any v _ _).mono ?_; rintro e w5 ⟨rfl, hb5⟩; have hx5 : ∀ i, i < wy.heap.size → w5.heap[i]? = wy.heap[i]? := (fun i hi => hb5.block i hi); have fz5 := frozen_up hx5 m3; have g0 := cell_up hx5 e0; have g1 := cell_up hx5 e1; have g2 := cell_up hx5 e2; have g3 := cell_up hx5 e3; have g4 := cell_up hx5 e4; have g5 := cell_up hx5 e5; have g6 := cell_up hx5 e6; have g7 := cell_up hx5 e7)
          rw [Exit.noGoto_normal]
          go_wp2
          go_roundw
          case rel =>
            refine ⟨k + 1, by omega, by go_num, ?_⟩
            rw [hst.out]
            simp only [hgt.out, hgu.out]
            exact mix_next hx5 hb5 EV.out EW.out ED.out ER.out eB ⟨rfl, rfl, rfl, rfl⟩ (by omega) (turnS v (kw + y)) _ rfl
          case measure => simp [intOf]; omega
    · have hk64 : k = 64 := by omega
      subst hk64
      generalize (roundsS ws s 64).2 = v at *
      clear hW hK hlt hk
      rw [show ((64 : Nat) : Int) = (64 : Int) from rfl]
      go_wp2
      go_loopw [37] (fun i wq => ∃ k : Nat, k ≤ 8 ∧ i = .int .i64 k ∧ wq.heap[w.heap.size]? = some (.cells ((addL s.list v.list k).map W).toArray 53 (0, 0)) ∧ wq.heap[w.heap.size + 1 + 1 + 1]? = some (.cells (v.list.map W).toArray 53 (0, 0)) ∧
          wq.heap[w.heap.size + 1 + 1]? = some (.cells #[.int .u32 0, .int .u32 0, .int .u32 0, .int .u32 0, .int .u32 0, .int .u32 0, .int .u32 0, .int .u32 0] 53 (0, 0)) ∧ Below w.heap.size w wq)
        (fun i _ => 8 - (intOf i).toNat)
      case atStart => exact ⟨0, by omega, rfl, hD, hV, hR, hB⟩
      case round =>
        clear hV hD hR hB
        obtain ⟨k, hk, rfl, hD, hV, hR, hB⟩ := hrel
        by_cases hlt : k < 8
        · have hla := length_addL s.list v.list k rfl rfl hk
          have hag := addL_get s.list v.list k rfl rfl hlt
          have c1 : wr.cell? ⟨w.heap.size, k, none⟩ = some (W (s.list.getD k 0)) := by rw [cell_of_block hD, List.getElem?_toArray, List.getElem?_map, get_some (d := 0) (by omega), hag]; rfl
          have c2 : wr.cell? ⟨w.heap.size + 1 + 1 + 1, k, none⟩ = some (W (v.list.getD k 0)) := by rw [cell_of_block hV, List.getElem?_toArray, List.getElem?_map, get_some (d := 0) (by exact hlt)]; rfl
          have f1 : wr.frozen? ⟨w.heap.size, k, none⟩ = false := frozen_of_block hD _
          have hst : Hid ((addL s.list v.list k).set k (s.list.getD k 0 + v.list.getD k 0) = addL s.list v.list (k + 1)) := addL_set s.list v.list k rfl rfl hlt
          have HD := hid hD
          have HV := hid hV
          have HR := hid hR
          clear hD hV hR hag hla
          generalize s.list.getD k 0 = x at *
          generalize v.list.getD k 0 = y at *
          have hk0 : (0 : Int) ≤ (k : Int) := by omega
          have hk8 : (k : Int) < 8 := by omega
          go_wp2
          go_still_tail 7, hmix
          go_wp2
          go_roundw
          case rel =>
            refine ⟨k + 1, by omega, by go_num, ?_, ?_, ?_, ?_⟩
            · rw [← hst.out, ← set_map]; exact block_setCell HD.out _ _
            · exact (block_setCell_other (w := wr) _ _ (by omega)).trans HV.out
            · exact (block_setCell_other (w := wr) _ _ (by omega)).trans HR.out
            · exact (hB.setCell (by simp) _).drew
          case measure => simp [intOf]; omega
        · have hk8 : k = 8 := by omega
          subst hk8
          rw [addL_all] at hD
          have HD := hid hD
          have HR := hid hR
          have HB := hid hB
          clear hD hR hV hB hlt hk
          go_wp2_with (first
            | (refine wpList_load_block rfl 53 (.tmp 2) rfl w.heap.size rfl ((addS s v).list.map W).toArray 53 (0, 0) HD.out _ Tryd.underlying53 rfl info55 ?_)
            | (refine wpList_store_block rfl 53 (.tmp 4) (.tmp 49) rfl (w.heap.size + 1 + 1) ((addS s v).list.map W).toArray rfl rfl _ 53 HR.out rfl info55 (all_oneCell_toArray (W_one _)) ?_; intro w6 hg6 hb6 hz6))
          refine bodyPost_ret (results_cell Tryd.results25 _ _ rfl hb6 _ Tryd.underlying53 rfl info55) rfl ⟨?_, ?_⟩
          · rw [HM.out]; rfl
          · exact HB.out.trans (below_of_grown hg6 (by omega) HB.out.size)
end Go.Proofs.YtkmmeokccmppbaaDoor
