/- Hasher.Write takes bytes behind what it has: the Hasher then holds the one text behind the other; nothing else that was there has turned; of nil it does nothing. -/
import Derived.Test.YtkmmeokccmppbaaDoorKitC
import Derived.BigRegion
import Derived.Deep.RegionWith
import Derived.Deep.DrawnRows
namespace Go.Proofs.YtkmmeokccmppbaaDoor
open Go.RowKit
set_option maxRecDepth 100000 in
theorem write_nil (v : Value) (w : World) : Calls Tryd.prog 23 #[.pointer none, v] w fun e w' => e = .returned (.tuple #[]) ∧ w' = w := by
  go_enter Tryd.func23, Tryd.ntmps23
  go_wp2
  go_returns
  exact ⟨rfl, rfl⟩
/-- The slice v reads as the bytes bs, and none of them lies in block p. -/
def BytesOff (w : World) (v : Value) (bs : List UInt8) (p : Nat) : Prop :=
  ∃ (a : Option Addr) (cap : Nat), v = .slice a bs.length cap ∧ bs.length ≤ cap ∧ ∀ j x, bs[j]? = some x → ∃ b off, a = some ⟨b, off, none⟩ ∧ b ≠ p ∧ b < w.heap.size ∧ w.cell? ⟨b, off + j, none⟩ = some (B x)
set_option maxRecDepth 100000 in
theorem BytesOff.grown {w w' : World} {v : Value} {bs : List UInt8} {p : Nat} (h : BytesOff w v bs p) (hg : w.grownBy w' (some p)) : BytesOff w' v bs p := by
  obtain ⟨a, cap, rfl, hc, hx⟩ := h
  refine ⟨a, cap, rfl, hc, fun j x hj => ?_⟩
  obtain ⟨b, off, rfl, hb, hbl, hcell⟩ := hx j x hj
  exact ⟨b, off, rfl, hb, Nat.lt_of_lt_of_le hbl hg.size, (World.cell?_of_block (w := w) (hg.block b hbl (by simpa using hb))).trans hcell⟩
set_option maxRecDepth 100000 in
theorem Kat.grown {w w' : World} {p : Nat} (h : Kat w) (hg : w.grownBy w' (some p)) (hp : 1 < p) : Kat w' := fun t ht =>
  (World.cell?_of_block (w := w) (hg.block 1 h.lt (by simp; omega))).trans (h t ht)

set_option maxRecDepth 100000 in
theorem chunk (cs : List UInt8) (j r : Nat) (hj : j < cs.length) (hr : r < 64) : ∃ (ch : List UInt8) (m : Nat), ch.length = m ∧ m = Nat.min (cs.length - j) (64 - r) ∧ cs.take (j + m) = cs.take j ++ ch ∧ (∀ (i : Nat) (x : UInt8), ch[i]? = some x → (cs.drop j)[i]? = some x) ∧ 0 < m ∧ m ≤ cs.length - j ∧ r + m ≤ 64 := by
  have h1 : Nat.min (cs.length - j) (64 - r) ≤ cs.length - j := Nat.min_le_left _ _
  have h2 : Nat.min (cs.length - j) (64 - r) ≤ 64 - r := Nat.min_le_right _ _
  have h3 : 0 < Nat.min (cs.length - j) (64 - r) := Nat.lt_min.2 ⟨by omega, by omega⟩
  generalize Nat.min (cs.length - j) (64 - r) = m at *
  refine ⟨(cs.drop j).take m, m, by rw [List.length_take, List.length_drop]; omega, rfl, List.take_add, ?_, h3, h1, by omega⟩
  intro i x hi
  rw [List.getElem?_take] at hi
  split at hi
  · exact hi
  · cases hi
set_option maxRecDepth 100000 in
theorem bytes_rest {w w1 : World} {cs : List UInt8} {j m b off cap p : Nat} (hbp : b ≠ p) (hbl : b < w.heap.size) (hg : w.grownBy w1 (some p)) (hcell : ∀ (i : Nat) (x : UInt8), (cs.drop j)[i]? = some x → w.cell? ⟨b, off + i, none⟩ = some (B x)) (hcap : cs.length - j ≤ cap) (hm : m ≤ cs.length - j) :
    BytesOff w1 (.slice (if cap = m then some ⟨b, off, none⟩ else some ⟨b, off + m, none⟩) (cs.length - j - m) (cap - m)) (cs.drop (j + m)) p := by
  refine ⟨_, cap - m, by rw [List.length_drop, Nat.sub_sub], by rw [List.length_drop]; omega, fun i x hi => ?_⟩
  have hi' : (cs.drop j)[m + i]? = some x := by rw [← List.getElem?_drop, List.drop_drop]; exact hi
  have hlt : j + m + i < cs.length := by have := (List.getElem?_eq_some_iff.1 hi).1; rw [List.length_drop] at this; omega
  refine ⟨b, off + m, by rw [if_neg (by omega)], hbp, Nat.lt_of_lt_of_le hbl hg.size, ?_⟩
  rw [Nat.add_assoc, ← hcell (m + i) x hi']
  exact World.cell?_of_block (w := w) (hg.block b hbl (by simpa using hbp))
set_option maxRecDepth 100000 in
theorem copy_src {w : World} {ch ds : List UInt8} {b off : Nat} (hsub : ∀ (i : Nat) (x : UInt8), ch[i]? = some x → ds[i]? = some x) (hcell : ∀ (i : Nat) (x : UInt8), ds[i]? = some x → w.cell? ⟨b, off + i, none⟩ = some (B x)) :
    ∀ (i : Nat) (v : Value), (ch.map B)[i]? = some v → w.cell? ((⟨b, off, none⟩ : Addr).add i) = some v := by
  intro i v hv
  rw [List.getElem?_map] at hv
  obtain ⟨x, hx, rfl⟩ := Option.map_eq_some_iff.1 hv
  rw [Addr.add_mid]
  exact hcell i x (hsub i x hx)
set_option maxRecDepth 100000 in
theorem after_copy {w1 : World} {p : Nat} {s : St} {rs ch : List UInt8} {L r m : Nat} (h64 : rs.length = 64) (hcm : ch.length = m) (hmr : r + m ≤ 64)
    (hb : w1.heap[p]? = some (.cells ((hc s rs L).toArray.toList.take (8 + r) ++ (ch.map B ++ (hc s rs L).toArray.toList.drop (8 + r + (ch.map B).length))).toArray 57 (0, 0))) :
    Hid (w1.heap[p]? = some (.cells (hc s (rs.take r ++ ch ++ rs.drop (r + m)) L).toArray 57 (0, 0))) ∧ w1.cell? ⟨p, 72, none⟩ = some (.int .i64 L) ∧ w1.frozen? ⟨p, 72, none⟩ = false := by
  subst hcm
  have h := hc_splice s rs ch L r h64 hmr
  simp only [List.length_map] at hb
  rw [h] at hb
  refine ⟨hb, ?_, frozen_of_block hb _⟩
  rw [cell_of_block hb]
  exact hc_last _ _ _ (length_splice' h64 hmr)
set_option maxRecDepth 100000 in
theorem wp_load57 (dst : Option Tmp) (x : Operand) (t : TypeId) (pos : String) (aft : Array Edge) (grd : Option (Nat × Bool)) (a : Act) (w : World) (K : Act → World → Prop) (Q : Exit → Act → World → Prop) (h : Seg w 64 (a.eval x)) :
    Oper.wp Tryd.prog ⟨dst, .load 55 x, t, pos, aft, grd⟩ a w K Q = K (a.put dst (.agg (segOf w 64 (a.eval x)))) w := wp_load_seg Tryd.underlying55 rfl info57 dst x t pos aft grd a w K Q h
set_option maxRecDepth 100000 in
theorem hc_seg {w : World} {p : Nat} {s : St} {rs : List UInt8} {n : Nat} (h64 : rs.length = 64) (hb : w.heap[p]? = some (.cells (hc s rs n).toArray 57 (0, 0))) :
    Seg w 64 (.pointer (some ⟨p, 8, none⟩)) ∧ segOf w 64 (.pointer (some ⟨p, 8, none⟩)) = (rs.map B).toArray := by
  refine ⟨⟨_, _, _, hb, by rw [List.size_toArray, length_hc _ _ _ h64]; omega⟩, ?_⟩
  show (blk w p).extract 8 (8 + 64) = _
  rw [blk_of hb]
  apply Array.toList_inj.1
  rw [Array.toList_extract]
  unfold hc
  simp [St.list, h64]
attribute [local go_sem ↓] wp_load57 Go.wp_at_zero Go.wp_at_succ
attribute [local go_sem] Seg_drew segOf_drew
set_option maxRecDepth 100000 in
theorem hasher_few {w1 : World} {p : Nat} {cur ch rs : List UInt8} {L m : Nat} (hL : cur.length = L) (hm : ch.length = m) (h64 : rs.length = 64) (ht : rs.take (L % 64) = cur.drop (64 * (L / 64))) (hf : L % 64 + m < 64)
    (hb : w1.heap[p]? = some (.cells (hc (blocksS cur (L / 64)) (rs.take (L % 64) ++ ch ++ rs.drop (L % 64 + m)) (L + m)).toArray 57 (0, 0))) : HasherAt w1 p (cur ++ ch) := by
  subst hL hm
  obtain ⟨e1, e2, e3⟩ := step_few h64 ht hf
  refine ⟨rs.take (cur.length % 64) ++ ch ++ rs.drop (cur.length % 64 + ch.length), length_splice' h64 (by omega), ?_, ?_⟩
  · rw [e1]; exact e3
  · rw [e1, e2, List.length_append]; exact hb

set_option maxRecDepth 100000 in
theorem hasher_full {p : Nat} {cur ch rs : List UInt8} {L m : Nat} (hL : cur.length = L) (hm : ch.length = m) (h64 : rs.length = 64) (ht : rs.take (L % 64) = cur.drop (64 * (L / 64))) (hf : L % 64 + m = 64) :
    ∀ w1 : World, w1.heap[p]? = some (.cells (hc (mixS (blocksS cur (L / 64)) (rs.take (L % 64) ++ ch ++ rs.drop (L % 64 + m))) (rs.take (L % 64) ++ ch ++ rs.drop (L % 64 + m)) (L + m)).toArray 57 (0, 0)) → HasherAt w1 p (cur ++ ch) := by
  intro w1 hb
  subst hL hm
  obtain ⟨e0, e1, e2⟩ := step_full h64 ht hf
  refine ⟨rs.take (cur.length % 64) ++ ch ++ rs.drop (cur.length % 64 + ch.length), length_splice' h64 (by omega), ?_, ?_⟩
  · rw [e0, e1, List.take_zero, List.drop_eq_nil_of_le (by simp; omega)]
  · rw [e1, e2, List.length_append]; exact hb

set_option maxRecDepth 100000 in
theorem write_next {wr w2 w3 W0 : World} {p : Nat} {s : St} {rq : List UInt8} {n : Nat} (hg2 : wr.grownBy w2 (some p)) (hx : ∀ i, i < w2.heap.size → w3.heap[i]? = w2.heap[i]?) (hb : Below W0.heap.size W0 w3) (h0 : W0.os = w2.os ∧ W0.tape = w2.tape ∧ W0.output = w2.output ∧ W0.heap.size = w2.heap.size)
    (hb2 : w2.heap[p]? = some (.cells (hc s rq n).toArray 57 (0, 0))) (t : St) :
    ∀ w8 : World, w8 = ((((((((w3.setCell ⟨p, 0, none⟩ (W t.a)).setCell ⟨p, 1, none⟩ (W t.b)).setCell ⟨p, 2, none⟩ (W t.c)).setCell ⟨p, 3, none⟩ (W t.d)).setCell ⟨p, 4, none⟩ (W t.e)).setCell ⟨p, 5, none⟩ (W t.f)).setCell ⟨p, 6, none⟩ (W t.g)).setCell ⟨p, 7, none⟩ (W t.h)) → wr.grownBy w8 (some p) ∧ w8.heap[p]? = some (.cells (hc t rq n).toArray 57 (0, 0)) := by
  rintro w8 rfl
  have h3 : wr.grownBy w3 (some p) := grown_trans hg2 ⟨hb.os.trans h0.1, hb.tape.trans h0.2.1, hb.output.trans h0.2.2.1, by have := hb.size; omega, fun i hi _ => hx i hi⟩
  refine ⟨grown_setCell (grown_setCell (grown_setCell (grown_setCell (grown_setCell (grown_setCell (grown_setCell (grown_setCell h3 0 _) 1 _) 2 _) 3 _) 4 _) 5 _) 6 _) 7 _, ?_⟩
  have q := block_setCell (block_setCell (block_setCell (block_setCell (block_setCell (block_setCell (block_setCell (block_setCell ((hx _ (lt_of_heap hb2)).trans hb2) 0 (W t.a)) 1 (W t.b)) 2 (W t.c)) 3 (W t.d)) 4 (W t.e)) 5 (W t.f)) 6 (W t.g)) 7 (W t.h)
  rw [q, hc_run]

set_option maxRecDepth 100000 in
set_option maxHeartbeats 2000000 in
theorem write_any (p : Nat) (bs cs : List UInt8) (v : Value) (w : World) (hK : Kat w) (hp : 1 < p) (hH : HasherAt w p bs) (hb : BytesOff w v cs p) (hlen : bs.length + cs.length < 1152921504606846976) :
    Calls Tryd.prog 23 #[.pointer (some ⟨p, 0, none⟩), v] w fun e w' => e = .returned (.tuple #[]) ∧ w.grownBy w' (some p) ∧ HasherAt w' p (bs ++ cs) := by
  go_enter Tryd.func23, Tryd.ntmps23
  go_wp2
  go_loopw [1] (fun b wr => ∃ j : Nat, j ≤ cs.length ∧ BytesOff wr b (cs.drop j) p ∧ HasherAt wr p (bs ++ cs.take j) ∧ w.grownBy wr (some p) ∧ ∃ a n c, b = .slice a n c) (fun b _ => lenOf b)
  case atStart =>
    refine ⟨0, by omega, by simpa using hb, by simpa using hH, grown_refl _ _, ?_⟩
    obtain ⟨a, cap, rfl, _⟩ := hb
    exact ⟨_, _, _, rfl⟩
  case round =>
    clear hH hb
    obtain ⟨j, hj, ⟨a, cap, hbv, hcap, hx⟩, ⟨rs, h64, htk, hblk⟩, hg, _⟩ := hrel
    have hdl : (cs.drop j).length = cs.length - j := List.length_drop
    rw [hdl] at hbv hcap
    subst hbv
    by_cases hlt : j < cs.length
    · have hL : (bs ++ cs.take j).length = bs.length + j := by simp; omega
      have hLb : (bs ++ cs.take j).length < 1152921504606846976 := by omega
      obtain ⟨b, off, rfl, hbp, hbl, _⟩ := hx 0 (cs.drop j)[0] (List.getElem?_eq_getElem (by omega))
      have hcell : ∀ i x, (cs.drop j)[i]? = some x → wr.cell? ⟨b, off + i, none⟩ = some (B x) := fun i x hi => by
        obtain ⟨b', off', he, _, _, hc⟩ := hx i x hi
        simp only [Option.some.injEq, Addr.mk.injEq, and_true] at he
        obtain ⟨rfl, rfl⟩ := he
        exact hc
      clear hx
      have hsz : wr.cell? ⟨p, 72, none⟩ = some (.int .i64 (bs ++ cs.take j).length) := by rw [cell_of_block hblk]; exact hc_last _ _ _ h64
      have HBL := hid hblk
      have HC := hid hcell
      have HT := hid htk
      clear hblk hcell htk
      generalize hgl : (bs ++ cs.take j).length = L at *
      have HL := hid hL
      have HG := hid hgl
      clear hL hgl
      have hm : (L : Int).tmod 64 = (L : Int) % 64 := Int.tmod_eq_emod_of_nonneg (by omega)
      have hm0 : (0 : Int) ≤ (L : Int) % 64 := by omega
      have hm1 : (L : Int) % 64 < 64 := by omega
      have hm2 : (L : Int) % 64 ≤ 64 := by omega
      have hmt : ((L : Int) % 64).toNat = L % 64 := by omega
      have hne : ¬ 64 = L % 64 := by omega
      have hpos : (0 : Int) < ((cs.length - j : Nat) : Int) := by omega
      obtain ⟨ch, m, hcm, hmin, htake, hsub, hm0', hmle, hmr⟩ := chunk cs j (L % 64) hlt (by omega)
      have HMIN := hid hmin
      have HTAKE := hid htake
      have HSUB := hid hsub
      have HCM := hid hcm
      clear hmin htake hsub
      obtain ⟨ao, hao⟩ : ∃ ao, (if cap = m then some (⟨b, off, none⟩ : Addr) else some ⟨b, off + m, none⟩) = ao := ⟨_, rfl⟩
      by_cases hfull : L % 64 + m = 64
      · have hti : ((L : Int) + (m : Int)) % 64 = 0 := by omega
        go_wp2
        go_still_tail 10, hmix
        go_wp2_with (refine wpList_copy_block rfl (.tmp 18) (.tmp 19) 27 27 rfl 5 Tryd.underlying27 info5 p (8 + L % 64) (64 - L % 64) (64 - L % 64) ⟨b, off, none⟩ (cs.length - j) cap rfl rfl _ 57 HBL.out (ch.map B) (by rw [List.length_map, HCM.out]; exact HMIN.out) (copy_src HSUB.out HC.out) (by rw [List.length_map, HCM.out, List.size_toArray, length_hc _ _ _ h64]; omega) (B_one _) ?_; intro w1 hg1 hb1 hz1; have ac := after_copy h64 hcm hmr hb1; clear hb1; obtain ⟨hb1, c72, f72⟩ := ac)
        have hg1' : wr.grownBy w1 (some p) := ⟨hg1.os, hg1.tape, hg1.output, hg1.size, hg1.block⟩
        have hl' := length_splice' (r := L % 64) h64 (by rw [hcm]; exact hmr)
        rw [hcm] at hl'
        have hb2 : Hid ((w1.setCell ⟨p, 72, none⟩ (.int .i64 ((L : Int) + (m : Int)))).heap[p]? = some (.cells (hc (blocksS (bs ++ cs.take j) (L / 64)) (rs.take (L % 64) ++ ch ++ rs.drop (L % 64 + m)) (L + m)).toArray 57 (0, 0))) := by
          unfold Hid
          rw [block_setCell hb1.out, ← Int.natCast_add, hc_size _ _ _ _ hl']
        have hg2 : Hid (wr.grownBy (w1.setCell ⟨p, 72, none⟩ (.int .i64 ((L : Int) + (m : Int)))) (some p)) := grown_setCell hg1' _ _
        have HF := hid (hasher_full (p := p) HG.out hcm h64 HT.out hfull)
        clear hg1 hz1 hb1 c72 f72 hg1' hsz hm hm0 hm1 hm2 hmt hne hpos
        generalize w1.setCell ⟨p, 72, none⟩ (.int .i64 ((L : Int) + (m : Int))) = w2 at *
        generalize rs.take (L % 64) ++ ch ++ rs.drop (L % 64 + m) = rq at *
        generalize blocksS (bs ++ cs.take j) (L / 64) = s at *
        have ys : w2.cell? ⟨p, 0, none⟩ = some (W s.a) ∧ w2.cell? ⟨p, 1, none⟩ = some (W s.b) ∧ w2.cell? ⟨p, 2, none⟩ = some (W s.c) ∧ w2.cell? ⟨p, 3, none⟩ = some (W s.d) ∧ w2.cell? ⟨p, 4, none⟩ = some (W s.e) ∧ w2.cell? ⟨p, 5, none⟩ = some (W s.f) ∧ w2.cell? ⟨p, 6, none⟩ = some (W s.g) ∧ w2.cell? ⟨p, 7, none⟩ = some (W s.h) := by
          refine ⟨?_, ?_, ?_, ?_, ?_, ?_, ?_, ?_⟩ <;> (rw [cell_of_block hb2.out]; rfl)
        obtain ⟨y0, y1, y2, y3, y4, y5, y6, y7⟩ := ys
        have fz : ∀ o, w2.frozen? ⟨p, o, none⟩ = false := frozen_of_block hb2.out
        have hkat := (hK.grown hg hp).grown hg2.out hp
        have hpl := lt_of_heap hb2.out
        obtain ⟨sg1, sg2⟩ := hc_seg hl' hb2.out
        go_region_with ((go_at_call 25; refine (mixed_any s rq hl' _ (by exact hkat)).mono ?_; rintro e w3 ⟨rfl, hb3⟩; have hx : ∀ i, i < w2.heap.size → w3.heap[i]? = w2.heap[i]? := (fun i hi => hb3.block i hi); have fz1 := frozen_up hx hpl; have d0 := cell_up hx y0; have d1 := cell_up hx y1; have d2 := cell_up hx y2; have d3 := cell_up hx y3; have d4 := cell_up hx y4; have d5 := cell_up hx y5; have d6 := cell_up hx y6; have d7 := cell_up hx y7))
        all_goals
          have WN := write_next hg2.out hx hb3 ⟨rfl, rfl, rfl, rfl⟩ hb2.out (mixS s rq)
          have HWN := hid WN
          clear WN
          go_wp2
          go_roundw
          case rel =>
            obtain ⟨G, Gb⟩ := HWN.out _ rfl
            refine ⟨j + m, by omega, by rw [← hao]; exact bytes_rest hbp hbl G HC.out hcap hmle, ?_, grown_trans hg G, ⟨_, _, _, rfl⟩⟩
            rw [HTAKE.out, ← List.append_assoc]
            exact HF.out _ Gb
          case measure => simp [lenOf]; omega
      · have hti : ¬ ((L : Int) + (m : Int)) % 64 = 0 := by omega
        go_wp2
        go_still_tail 10, hmix
        go_wp2_with (refine wpList_copy_block rfl (.tmp 18) (.tmp 19) 27 27 rfl 5 Tryd.underlying27 info5 p (8 + L % 64) (64 - L % 64) (64 - L % 64) ⟨b, off, none⟩ (cs.length - j) cap rfl rfl _ 57 HBL.out (ch.map B) (by rw [List.length_map, HCM.out]; exact HMIN.out) (copy_src HSUB.out HC.out) (by rw [List.length_map, HCM.out, List.size_toArray, length_hc _ _ _ h64]; omega) (B_one _) ?_; intro w1 hg1 hb1 hz1; have ac := after_copy h64 hcm hmr hb1; clear hb1; obtain ⟨hb1, c72, f72⟩ := ac)
        have hg1' : wr.grownBy w1 (some p) := ⟨hg1.os, hg1.tape, hg1.output, hg1.size, hg1.block⟩
        go_roundw
        case rel =>
          refine ⟨j + m, by omega, by rw [← hao]; exact bytes_rest hbp hbl (grown_setCell hg1' _ _) HC.out hcap hmle, ?_, grown_trans hg (grown_setCell hg1' _ _), ⟨_, _, _, rfl⟩⟩
          rw [HTAKE.out, ← List.append_assoc]
          refine hasher_few HG.out hcm h64 HT.out (by omega) ?_
          have hl' := length_splice' (r := L % 64) h64 (by rw [hcm]; exact hmr)
          rw [hcm] at hl'
          rw [block_setCell hb1.out, ← Int.natCast_add, hc_size _ _ _ _ hl']
        case measure => simp [lenOf]; omega
    · have hje : j = cs.length := by omega
      subst hje
      have HH := hid (show HasherAt wr p (bs ++ cs.take cs.length) from ⟨rs, h64, htk, hblk⟩)
      clear htk hblk hx
      have hz : cs.length - cs.length = 0 := by omega
      rw [hz]
      go_wp2
      go_returns
      refine ⟨rfl, hg, ?_⟩
      have := HH.out
      rw [List.take_length] at this
      exact this
end Go.Proofs.YtkmmeokccmppbaaDoor
