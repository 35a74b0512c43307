/- The statement ShaMixes: for every three slices of bytes the call returns true, and they read afterwards as they read before. No condition but the form's own. -/
import Derived.Test.YtohfgppdeiddmaaDoorArg
import Derived.Test.YtohfgppdeiddmaaDoorCopy
import Derived.Test.YtohfgppdeiddmaaDoorPlainCrc
import Derived.Deep.RegionHeld3
import Derived.Deep.AppendLies
import Derived.Deep.DrawnRows
import Derived.Laws.IdiomArrays
import Derived.Lib.SmallJoins
namespace Go.Proofs.YtohfgppdeiddmaaDoor
open Go.ChangeShapes Go.WideShapes Go.ChangeAt Go.RowKit
attribute [local go_sem ↓] op_xor
theorem V_xor (a b : UInt8) : bits .xor .u8 (V a) (V b) = V (a ^^^ b) := by
  unfold V; rw [u8_xor_nat _ _ a.toNat_lt b.toNat_lt, UInt8.toNat_xor]
attribute [local go_sem] V_xor
attribute [local go_sem ↓] Go.wp_at_zero Go.wp_at_succ
theorem length_mix3 (a b c : List UInt8) (h1 : a.length = b.length) (h2 : a.length = c.length) : (mix3 a b c).length = a.length := by
  simp [mix3]; omega
theorem mix3_take (a b c : List UInt8) (k : Nat) (x y z : UInt8) (ha : a[k]? = some x) (hb : b[k]? = some y) (hc : c[k]? = some z) (h1 : a.length = b.length) (h2 : a.length = c.length) : (mix3 a b c).take (k + 1) = (mix3 a b c).take k ++ [x ^^^ y ^^^ z] := by
  have hk : k < a.length := (List.getElem?_eq_some_iff.1 ha).1
  have hl := length_mix3 a b c h1 h2
  rw [List.take_succ_eq_append_getElem (by omega)]
  congr 2
  have e : (mix3 a b c)[k]? = some (x ^^^ y ^^^ z) := by simp [mix3, List.getElem?_zipWith, ha, hb, hc]
  rw [List.getElem?_eq_getElem (by omega)] at e
  exact Option.some.inj e
theorem owns_bytes {w : World} {K : Nat} {v : Value} {bs : List UInt8} {n : Nat} (h : w.ownsRow K 5 1 v n (bs.map B)) (hn : n = bs.length) : Bytes w v bs := by
  rcases h.2 with ⟨rfl, h0⟩ | ⟨g, cap, cur, rfl, _⟩
  · subst h0
    have : bs = [] := List.eq_nil_of_length_eq_zero hn.symm
    subst this
    exact ⟨none, 0, rfl, by simp, fun j x hj => by simp at hj⟩
  · exact (own_of_row h hn).bytes
/-- A byte of a slice, with its address. -/
theorem Bytes.at {w : World} {v : Value} {bs : List UInt8} (h : Bytes w v bs) {k : Nat} (hk : k < bs.length) : ∃ b off cap, v = .slice (some ⟨b, off, none⟩) bs.length cap ∧ w.cell? ⟨b, off + k, none⟩ = some (B (bs.getD k 0)) := by
  obtain ⟨a, cap, rfl, _, hx⟩ := h
  obtain ⟨b, off, rfl, hc⟩ := hx k _ (get_some (d := 0) hk)
  exact ⟨b, off, cap, rfl, hc⟩
set_option maxHeartbeats 1000000 in
theorem mixes_other (b0 b1 b2 : List UInt8) (v0 v1 v2 : Value) (w : World) (hK : Kat w) (hS : Sat w) (hC : Cat w) (h0 : Bytes w v0 b0) (h1 : Bytes w v1 b1) (h2 : Bytes w v2 b2)
    (hne : ¬ (b1.length = b0.length ∧ b2.length = b0.length)) :
    Calls Tryd.prog 6 #[.agg #[v0, v1, v2]] w fun e w' => e = .returned (.bool true) ∧ Below w.heap.size w w' := by
  obtain ⟨a0, c0, rfl, _⟩ := h0
  obtain ⟨a1, c1, rfl, _⟩ := h1
  obtain ⟨a2, c2, rfl, _⟩ := h2
  have h2 := hK.lt
  have hB : Below w.heap.size w (w.alloc (.cells #[.slice a0 b0.length c0, .slice a1 b1.length c1, .slice a2 b2.length c2] 44)) := (Below.refl _ _).alloc (Nat.le_refl _) _
  have HL := hid (live_any _ (hK.below hB h2) (hS.below hB (by omega)) (hC.below hB (by omega)))
  by_cases he : b1.length = b0.length
  · have hx1 : ((b1.length : Int) != (b0.length : Int)) = false := by rw [bne_eq_false_iff_eq]; omega
    have hx2 : ((b2.length : Int) != (b0.length : Int)) = true := by rw [bne_iff_ne]; intro h; exact hne ⟨he, by omega⟩
    clear he hne
    go_enter Tryd.func6, Tryd.ntmps6
    go_wp2_with (go_at_call 10; refine HL.out.mono ?_; rintro e w1 ⟨rfl, hB1⟩)
    go_ret
    exact ⟨rfl, hB.trans (hB1.mono hB.size)⟩
  · have hx1 : ((b1.length : Int) != (b0.length : Int)) = true := by rw [bne_iff_ne]; omega
    clear he hne
    go_enter Tryd.func6, Tryd.ntmps6
    go_wp2_with (go_at_call 10; refine HL.out.mono ?_; rintro e w1 ⟨rfl, hB1⟩)
    go_ret
    exact ⟨rfl, hB.trans (hB1.mono hB.size)⟩
theorem far_ne {m : Value} {K z b : Nat} (h : ∀ k, m.ownBlock = some k → K ≤ k ∧ k < z) (hb : b < K) : some b ≠ m.ownBlock := fun e => by
  have := (h b e.symm).1; omega
theorem mixes_next {w wr w1 W0 : World} {m : Value} {z : Nat} {ob' : Obj} (ob : ∀ k, m.ownBlock = some k → w.heap.size + 1 ≤ k ∧ k < z) (hgrow : W0.grownBy w1 m.ownBlock) (h0 : W0.os = wr.os ∧ W0.tape = wr.tape ∧ W0.output = wr.output) (hz : wr.heap.size ≤ W0.heap.size)
    (hx : ∀ i, i < wr.heap.size → W0.heap[i]? = wr.heap[i]?) (hb : wr.heap[w.heap.size]? = some ob') (hB : Below w.heap.size w wr) : w1.heap[w.heap.size]? = some ob' ∧ Below w.heap.size w w1 := by
  have hlt := lt_of_heap hb
  refine ⟨?_, hB.trans ⟨hgrow.os.trans h0.1, hgrow.tape.trans h0.2.1, hgrow.output.trans h0.2.2, Nat.le_trans hz hgrow.size, fun i hi => ?_⟩⟩
  · rw [hgrow.block _ (by omega) (far_ne ob (by omega)), hx _ hlt]; exact hb
  · rw [hgrow.block _ (by omega) (far_ne ob (by omega)), hx _ (by omega)]
set_option maxRecDepth 100000 in
set_option maxHeartbeats 3200000 in
theorem mixes_same (b0 b1 b2 : List UInt8) (v0 v1 v2 : Value) (w : World) (hK : Kat w) (hS : Sat w) (hC : Cat w) (h0 : Bytes w v0 b0) (h1 : Bytes w v1 b1) (h2 : Bytes w v2 b2) (hl0 : b0.length ≤ 140737488351232) (e1 : b1.length = b0.length) (e2 : b2.length = b0.length) :
    Calls Tryd.prog 6 #[.agg #[v0, v1, v2]] w fun e w' => e = .returned (.bool true) ∧ Below w.heap.size w w' := by
  have hsz2 := hK.lt
  have g0 := hid h0
  have g1 := hid h1
  have g2 := hid h2
  have hB : Below w.heap.size w (w.alloc (.cells #[v0, v1, v2] 44)) := (Below.refl _ _).alloc (Nat.le_refl _) _
  obtain ⟨a0, c0, hv0, -⟩ := h0
  obtain ⟨a1, c1, hv1, -⟩ := h1
  obtain ⟨a2, c2, hv2, -⟩ := h2
  rw [e1] at hv1
  rw [e2] at hv2
  have E1 := hid e1
  have E2 := hid e2
  generalize hn : b0.length = n at *
  have HN := hid hn
  clear e1 e2 hn
  have hx1 : ((n : Int) != (n : Int)) = false := by simp
  obtain ⟨i0, hi, hz0, hz1, hz2⟩ := info_parts infoB
  have HI := hid hi
  clear hi
  subst hv0 hv1 hv2
  have hbx := block_new w (.cells #[.slice a0 n c0, .slice a1 n c1, .slice a2 n c2] 44)
  go_enter Tryd.func6, Tryd.ntmps6
  go_wp2
  go_loopw [4, 5] (fun m i wr => ∃ k : Nat, k ≤ n ∧ i = .int .i64 k ∧ wr.ownsRow (w.heap.size + 1) 5 1 m k (((mix3 b0 b1 b2).take k).map B) ∧ wr.heap[w.heap.size]? = some (.cells #[.slice a0 n c0, .slice a1 n c1, .slice a2 n c2] 44 (0, 0)) ∧ Below w.heap.size w wr ∧ w.heap.size < wr.heap.size)
    (fun _ i _ => n - (intOf i).toNat)
  case atStart => exact ⟨0, by omega, rfl, World.ownsRow_nil _ _ _ _, hbx, hB, by simp⟩
  case round =>
    clear hB hbx
    obtain ⟨k, hk, rfl, hown, hbx, hB, hlt0⟩ := hrel
    by_cases hlt : k < n
    · have hlt' : k < b0.length := by rw [HN.out]; exact hlt
      obtain ⟨p0, o0, q0, hv0, hc0⟩ := (g0.out.up hB).at hlt'
      obtain ⟨p1, o1, q1, hv1, hc1⟩ := (g1.out.up hB).at (show k < b1.length by rw [E1.out]; exact hlt)
      obtain ⟨p2, o2, q2, hv2, hc2⟩ := (g2.out.up hB).at (show k < b2.length by rw [E2.out]; exact hlt)
      simp only [Value.slice.injEq] at hv0 hv1 hv2
      obtain ⟨rfl, -, -⟩ := hv0
      obtain ⟨rfl, -, -⟩ := hv1
      obtain ⟨rfl, -, -⟩ := hv2
      have l0 := lt_of_cell (show w.cell? ⟨p0, o0 + k, none⟩ = some (B (b0.getD k 0)) from by obtain ⟨p, o, q, hv, hc⟩ := g0.out.at hlt'; simp only [Value.slice.injEq, Option.some.injEq, Addr.mk.injEq, and_true] at hv; obtain ⟨⟨rfl, rfl⟩, _⟩ := hv; exact hc)
      have l1 := lt_of_cell (show w.cell? ⟨p1, o1 + k, none⟩ = some (B (b1.getD k 0)) from by obtain ⟨p, o, q, hv, hc⟩ := g1.out.at (show k < b1.length by rw [E1.out]; exact hlt); simp only [Value.slice.injEq, Option.some.injEq, Addr.mk.injEq, and_true] at hv; obtain ⟨⟨rfl, rfl⟩, _⟩ := hv; exact hc)
      have l2 := lt_of_cell (show w.cell? ⟨p2, o2 + k, none⟩ = some (B (b2.getD k 0)) from by obtain ⟨p, o, q, hv, hc⟩ := g2.out.at (show k < b2.length by rw [E2.out]; exact hlt); simp only [Value.slice.injEq, Option.some.injEq, Addr.mk.injEq, and_true] at hv; obtain ⟨⟨rfl, rfl⟩, _⟩ := hv; exact hc)
      have HT := hid (mix3_take b0 b1 b2 k _ _ _ (get_some (d := 0) hlt') (get_some (d := 0) (show k < b1.length by rw [E1.out]; exact hlt)) (get_some (d := 0) (show k < b2.length by rw [E2.out]; exact hlt)) (by rw [E1.out, HN.out]) (by rw [E2.out, HN.out]))
      generalize b0.getD k 0 = x0 at *
      generalize b1.getD k 0 = x1 at *
      generalize b2.getD k 0 = x2 at *
      have k0 : wr.cell? ⟨w.heap.size, 0, none⟩ = some (.slice (some ⟨p0, o0, none⟩) n c0) := by rw [cell_of_block hbx]; rfl
      have k1 : wr.cell? ⟨w.heap.size, 1, none⟩ = some (.slice (some ⟨p1, o1, none⟩) n c1) := by rw [cell_of_block hbx]; rfl
      have k2 : wr.cell? ⟨w.heap.size, 2, none⟩ = some (.slice (some ⟨p2, o2, none⟩) n c2) := by rw [cell_of_block hbx]; rfl
      have HBX := hid hbx
      have HO := hid hown
      have ob := hown.lt
      clear hbx hown
      have hi0' : (0 : Int) ≤ (k : Int) := by omega
      have hi1 : (k : Int) < (n : Int) := by omega
      go_wp2_with fail
      go_region_held3 (fun w' => w'.cell? ⟨w.heap.size, 0, none⟩ = some (.slice (some ⟨p0, o0, none⟩) n c0) ∧ w'.cell? ⟨w.heap.size, 1, none⟩ = some (.slice (some ⟨p1, o1, none⟩) n c1) ∧ w'.cell? ⟨w.heap.size, 2, none⟩ = some (.slice (some ⟨p2, o2, none⟩) n c2) ∧
          w'.cell? ⟨p0, o0 + k, none⟩ = some (B x0) ∧ w'.cell? ⟨p1, o1 + k, none⟩ = some (B x1) ∧ w'.cell? ⟨p2, o2 + k, none⟩ = some (B x2))
        (first
          | go_keep
          | (go_split_ands
             refine ⟨?_, ?_, ?_, ?_, ?_, ?_⟩
             · (rw [hgrow.cell_far _ (by simp; omega) (far_ne ob (by dsimp only; omega))]; assumption)
             · (rw [hgrow.cell_far _ (by simp; omega) (far_ne ob (by dsimp only; omega))]; assumption)
             · (rw [hgrow.cell_far _ (by simp; omega) (far_ne ob (by dsimp only; omega))]; assumption)
             · (rw [hgrow.cell_far _ (by simp; omega) (far_ne ob (by dsimp only; omega))]; assumption)
             · (rw [hgrow.cell_far _ (by simp; omega) (far_ne ob (by dsimp only; omega))]; assumption)
             · (rw [hgrow.cell_far _ (by simp; omega) (far_ne ob (by dsimp only; omega))]; assumption)))
        ((refine step_append_lies _ (by rfl) _ _ _ (by rfl) (w.heap.size + 1) 5 i0 (.int .u8 0) 1 1 Tryd.underlying22 HI.out hz0 hz1 hz2 rfl (by omega) u4 k (((mix3 b0 b1 b2).take k).map B) (by rfl) ((HO.out.alloc _).drew)
            ⟨wr.heap.size, 0, none⟩ 1 1 [B (x0 ^^^ x1 ^^^ x2)] (by rfl) (by rfl) (World.news_of_block (cs := #[B (x0 ^^^ x1 ^^^ x2)]) (t := 5) (fr := (0, 0)) (heap_alloc_new wr _)) (by simp [Value.oneCell'])
            (by omega) (by unfold maxLen; omega) (by omega) (by simp; omega) (wr.heap.size + 1) (by simp) ?_; intro g cap w1 hown1 hgrow hat hlt1))
      have NX := mixes_next (w := w) (wr := wr) (W0 := (wr.alloc (.cells #[B (x0 ^^^ x1 ^^^ x2)] 5)).drew) ob hgrow ⟨rfl, rfl, rfl⟩ (by simp) (fun i hi => Below.heap_alloc _ _ _ hi) HBX.out hB
      have HNX := hid NX
      have HO1 := hid hown1
      clear NX hown1 hgrow hat
      go_wp2
      go_roundw
      case rel =>
        refine ⟨k + 1, by omega, by go_num, ?_, HNX.out.1, HNX.out.2, lt_of_heap HNX.out.1⟩
        rw [HT.out, List.map_append]
        exact HO1.out
      case measure => simp [intOf]; omega
    · have hkn : k = n := by omega
      subst hkn
      have HM := hid (crcS_mix b0 b1 b2 (by rw [E1.out, HN.out]) (by rw [E2.out, HN.out]))
      have hml := length_mix3 b0 b1 b2 (by rw [E1.out, HN.out]) (by rw [E2.out, HN.out])
      rw [List.take_of_length_le (by rw [hml, HN.out]; exact Nat.le_refl _)] at hown
      have hbm := owns_bytes hown (by rw [hml, HN.out])
      have HBM := hid hbm
      have HML := hid hml
      have k0 : wr.cell? ⟨w.heap.size, 0, none⟩ = some (.slice a0 k c0) := by rw [cell_of_block hbx]; rfl
      have k1 : wr.cell? ⟨w.heap.size, 1, none⟩ = some (.slice a1 k c1) := by rw [cell_of_block hbx]; rfl
      have k2 : wr.cell? ⟨w.heap.size, 2, none⟩ = some (.slice a2 k c2) := by rw [cell_of_block hbx]; rfl
      have HK := hid (hK.below hB hsz2)
      have HS := hid (hS.below hB (by omega))
      have HC := hid (hC.below hB (by omega))
      have G0 := hid (g0.out.up hB)
      have G1 := hid (g1.out.up hB)
      have G2 := hid (g2.out.up hB)
      clear hown hbm hml hbx g0 g1 g2 hK hS hC hlt
      go_wp2_with fail
      go_region_held3 (fun w' => w'.cell? ⟨w.heap.size, 0, none⟩ = some (.slice a0 k c0) ∧ w'.cell? ⟨w.heap.size, 1, none⟩ = some (.slice a1 k c1) ∧ w'.cell? ⟨w.heap.size, 2, none⟩ = some (.slice a2 k c2))
        (first | go_keep | exact ⟨cell_up hX k0, cell_up hX k1, cell_up hX k2⟩)
        (first
          | (go_at_call 10; refine (live_any _ (by exact HK.out) (by exact HS.out) (by exact HC.out)).mono ?_; rintro e w1 ⟨rfl, hB1⟩; have hX : ∀ i, i < wr.heap.size → w1.heap[i]? = wr.heap[i]? := (fun i hi => hB1.block i hi); have HC1 := hid (Cat.below (w := wr.drew) HC.out hB1 (by simp; omega)); have X0 := hid (Bytes.up (w := wr.drew) G0.out hB1); have X1 := hid (Bytes.up (w := wr.drew) G1.out hB1); have X2 := hid (Bytes.up (w := wr.drew) G2.out hB1); have XM := hid (Bytes.up (w := wr.drew) HBM.out hB1))
          | (go_at_call_of 13 (u4); refine (crc_any (mix3 b0 b1 b2) _ _ (by exact HC1.out) (by exact XM.out) (by rw [HML.out, HN.out]; omega)).mono ?_; rintro e w2 ⟨rfl, rfl⟩)
          | (go_at_call_of 13 (Value.slice a0 k c0); refine (crc_any b0 _ _ (by exact HC1.out) (by exact X0.out) (by rw [HN.out]; omega)).mono ?_; rintro e w2 ⟨rfl, rfl⟩)
          | (go_at_call_of 13 (Value.slice a1 k c1); refine (crc_any b1 _ _ (by exact HC1.out) (by exact X1.out) (by rw [E1.out]; omega)).mono ?_; rintro e w2 ⟨rfl, rfl⟩)
          | (go_at_call_of 13 (Value.slice a2 k c2); refine (crc_any b2 _ _ (by exact HC1.out) (by exact X2.out) (by rw [E2.out]; omega)).mono ?_; rintro e w2 ⟨rfl, rfl⟩))
      have hu : (U (crcS (mix3 b0 b1 b2)) == U (crcS b0 ^^^ crcS b1 ^^^ crcS b2)) = true := by rw [HM.out]; simp
      go_wp2
      go_ret
      refine ⟨congrArg (fun b => Ending.returned (Value.bool b)) hu, hB.trans ⟨hB1.os, hB1.tape, hB1.output, hB1.size, fun i hi => hX i (by omega)⟩⟩
/-! ### The row -/
theorem shaMixes_laid_met (os : Os) : laidMet Tryd.prog Rows.shaMixesRow.laid ((relaidWorld (World.holding Tryd.prog os ⟨#[], #[], []⟩)).forCall (fun _ _ => 0) ⟨#[], #[.agg #[.slice none 0 0, .slice none 0 0, .slice none 0 0]], []⟩).memory :=
  laidMet_of_run' 8 (by kernel_rfl) (by kernel_rfl)
theorem shaMixes_reads (os : Os) {H : Type} (enc : TypeId × Value → H) : ∃ places, DataW.whole enc Tryd.prog ((relaidWorld (World.holding Tryd.prog os ⟨#[], #[], []⟩)).forCall (fun _ _ => 0) ⟨#[], #[.agg #[.slice none 0 0, .slice none 0 0, .slice none 0 0]], []⟩).memory Tryd.f6.params.toList Rows.shaMixesSpec.vars false #[Value.agg #[.slice none 0 0, .slice none 0 0, .slice none 0 0]].toList 8 = some ([.agg [.nil, .nil, .nil]], [], places) :=
  ⟨[], by kernel_rfl⟩
theorem shaMixes_readable : ∀ t ∈ Tryd.f6.params.toList, Tryd.prog.readableRec t = true ∧ t < Tryd.prog.types.size := by
  rw [Tryd.params6]
  intro t ht
  simp only [List.mem_cons, List.mem_nil_iff, or_false] at ht
  subst ht; exact ⟨by kernel_rfl, of_decide_eq_true (by kernel_rfl)⟩
theorem mixes_any (b0 b1 b2 : List UInt8) (v0 v1 v2 : Value) (w : World) (hK : Kat w) (hS : Sat w) (hC : Cat w) (h0 : Bytes w v0 b0) (h1 : Bytes w v1 b1) (h2 : Bytes w v2 b2) (hl0 : b0.length ≤ 140737488351232) :
    Calls Tryd.prog 6 #[.agg #[v0, v1, v2]] w fun e w' => e = .returned (.bool true) ∧ Below w.heap.size w w' := by
  by_cases he : b1.length = b0.length ∧ b2.length = b0.length
  · exact mixes_same b0 b1 b2 v0 v1 v2 w hK hS hC h0 h1 h2 hl0 he.1 he.2
  · exact mixes_other b0 b1 b2 v0 v1 v2 w hK hS hC h0 h1 h2 he
theorem cellsSlice : Tryd.prog.cellsOf 22 = 1 := by kernel_rfl
theorem cells3 : Tryd.prog.cellsOf 44 = 3 := by kernel_rfl
theorem okWide_array {P : Program} {w : World} {r : Reach} {base : Nat} {t e : TypeId} {n : Nat} {v : Value} (ht : P.underlying t = some (.array n e)) (h : Value.okWide P w r base t v) : ∃ cs, v = .agg cs ∧ cs.size = P.cellsOf t := by
  unfold Value.okWide at h
  rw [ht] at h
  obtain ⟨cs, h1, h2, _⟩ := h
  exact ⟨cs, h1, h2⟩
theorem three_open {H : Type} {enc : TypeId × Value → H} {W : World} {base : Nat} {v : Value} {d : DataW H} {p : List MemPlace} (hok : Value.okWide Tryd.prog W .any base 44 v) (h : DataW.Trod enc Tryd.prog W 0 (fun _ => true) true 44 v d p) :
    ∃ v0 v1 v2 d0 d1 d2 b0 b1 b2, v = .agg #[v0, v1, v2] ∧ d = .agg [d0, d1, d2] ∧ Bytes W v0 b0 ∧ Bytes W v1 b1 ∧ Bytes W v2 b2 ∧ ((d0 = .nil ∧ b0 = []) ∨ ∃ el sp, d0 = .slice el sp ∧ el.length = b0.length) := by
  obtain ⟨cs, rfl, hsz⟩ := okWide_array Tryd.underlying44 hok
  obtain ⟨c0, c1, c2, rfl⟩ := Joins.array3 (hsz.trans cells3)
  obtain ⟨fuel, hf⟩ := h
  obtain ⟨y0, y1, y2, n, hx, h0, h1, h2⟩ := trod_array3 Tryd.underlying44 cellsSlice (c0 := c0) (c1 := c1) (c2 := c2) (by simpa [Value.cells] using hf)
  simp only [Prod.mk.injEq] at hx
  obtain ⟨b0, B0, e0⟩ := bytes_trod (d := y0.1) (p := y0.2) h0
  obtain ⟨b1, B1, _⟩ := bytes_trod (d := y1.1) (p := y1.2) h1
  obtain ⟨b2, B2, _⟩ := bytes_trod (d := y2.1) (p := y2.2) h2
  exact ⟨c0, c1, c2, _, _, _, b0, b1, b2, rfl, hx.1, B0, B1, B2, e0⟩
theorem three_reach {H : Type} {ts : List TypeId} {ds : List (DataW H)} {j : Nat} {d0 d1 d2 : DataW H} {bs : List UInt8} (h : (DataW.weightsEach Tryd.prog ts ds).all (· ≤ reachBytes) = true) (ht : ts[j]? = some 44) (hd : ds[j]? = some (.agg [d0, d1, d2]))
    (hb : (d0 = .nil ∧ bs = []) ∨ ∃ el sp, d0 = .slice el sp ∧ el.length = bs.length) : bs.length ≤ 140737488351232 := by
  rcases hb with ⟨_, rfl⟩ | ⟨el, sp, rfl, hl⟩
  · simp
  · have := List.all_eq_true.1 h _ (DataW.weights_mem_each ht hd ((el.length + sp.length) * Tryd.prog.bytesOf 5) (by simp [DataW.weights, Tryd.underlying44, DataW.weightsAll, Tryd.underlying22]))
    have h2 : (el.length + sp.length) * Tryd.prog.bytesOf 5 ≤ reachBytes := by simpa using this
    rw [bytesOf5] at h2
    simp only [reachBytes] at h2
    omega
theorem shaMixes_contract (H : Type) (enc : TypeId × Value → H) (W : World) (base : Nat) (args : Array Value) (ds gs : List (DataW H)) (before : List MemPlace)
    (hval : ∀ (j : Nat) t v, Tryd.f6.params[j]? = some t → args[j]? = some v → Value.okWide Tryd.prog W .any base t v)
    (hW : DataW.Whole enc Tryd.prog Tryd.f6.params.toList Rows.shaMixesSpec.vars false W args.toList ds gs before)
    (hsz : (DataW.weightsEach Tryd.prog (Tryd.f6.params.toList ++ (OpenSpec.ofChange Rows.shaMixesSpec).bare.plain.varTypes Tryd.prog) (ds ++ gs)).all (· ≤ reachBytes) = true)
    (hL : laidMetH Tryd.prog Rows.shaMixesRow.laid W) :
    Calls Tryd.prog 6 args W fun e W' => ∃ v, e = .returned v ∧ Rows.shaMixesSpec.post enc Tryd.prog Tryd.f6 false true false false W args v W' := by
  obtain ⟨hK, hS, hC⟩ := tables_of hL
  have hW' := hW
  obtain ⟨p, q, hA0, hV, rfl, _, _⟩ := hW
  have hA : DataW.TrodAll enc Tryd.prog W 0 (fun _ => true) true Tryd.f6.params.toList args.toList ds p := hA0
  rw [Tryd.params6] at hA hval hsz
  obtain ⟨v0, vs0, d0, ds0, p0, q0, hargs, rfl, rfl, h0, r0⟩ := trodAll_cons hA
  obtain ⟨rfl, rfl, rfl⟩ := trodAll_nil r0
  obtain rfl : args = #[v0] := by cases args; simp_all
  obtain ⟨rfl, rfl⟩ := trodVars_none hV
  obtain ⟨v0, v1, v2, d0, d1, d2, b0, b1, b2, rfl, rfl, B0, B1, B2, e0⟩ := three_open (hval 0 44 v0 rfl rfl) h0
  refine (mixes_any b0 b1 b2 v0 v1 v2 W hK hS hC B0 B1 B2 (three_reach (j := 0) hsz rfl rfl e0)).mono fun e W' ⟨he, hg⟩ => ?_
  subst he
  exact ⟨_, rfl, post_law hW' rfl (by kernel_rfl) rfl shaMixes_readable hg⟩
set_option maxRecDepth 100000 in
theorem shaMixes_lifted (os : Os) (started : os.Started) (H : Type) (enc : TypeId × Value → H) (F : Stop.Interp) :
    ReturnsInHanded {} Tryd.checked os 6 .any ((OpenSpec.ofChange Rows.shaMixesSpec).preRow enc Tryd.prog Tryd.f6 Rows.shaMixesRow.domain false Rows.shaMixesRow.laid) (((OpenSpec.ofChange Rows.shaMixesSpec).at F).post enc Tryd.prog Tryd.f6 false true false false) := by
  obtain ⟨places, hx⟩ := shaMixes_reads os enc
  refine returnsInHanded_of_row (C := Tryd.checked) (s := OpenSpec.ofChange Rows.shaMixesSpec) own started (by kernel_rfl) Tryd.func6
    (witness_row_at (enc := enc) (C := Tryd.checked) false (relaidWorld (World.holding Tryd.prog os ⟨#[], #[], []⟩)) #[.agg #[.slice none 0 0, .slice none 0 0, .slice none 0 0]] rfl (by kernel_rfl) (by kernel_rfl) (by kernel_rfl)
      (OpenSpec.preRow_of_cond 8 hx (by kernel_rfl) (fun k hk => by cases hk) (by kernel_rfl) (shaMixes_laid_met os))) ?_
  intro W base args ds gs before hval hW _ _ hsz hL _ _
  exact shaMixes_contract H enc W base args ds gs before hval hW hsz hL
theorem shaMixes_said : Rows.ShaMixesSaid :=
  OpenClaim.holds_of_cond 6 Tryd.f6 rfl rfl rfl rfl rfl rfl rfl ⟨rfl, rfl, rfl, rfl, rfl⟩ rfl rfl rfl rfl rfl (by kernel_rfl) Tryd.func6 (by kernel_rfl)
    (of_decide_eq_true (by kernel_rfl)) (by unfold Func.isWrapper; first | (rw [if_pos (by decide +kernel)]; kernel_rfl) | (rw [if_neg (by decide +kernel)]; exact ⟨rfl, rfl⟩))
    (fun os started H enc _ F => by rw [OpenClaim.pre_eq_preRow]; exact shaMixes_lifted os started H enc F)
theorem shaMixes_plain (f : FuncId) (fn : Func) (hf : Tryd.pinned.checked.prog.funcNamed "dunnage/dunnagelaw02.ShaMixes" = some f) (hfn : Tryd.pinned.checked.prog.funcs[f]? = some fn) :
    false = Tryd.pinned.checked.prog.looks [] ∧ ∀ (j : Nat) t, fn.params[j]? = some t → Tryd.pinned.checked.prog.wantsStandIn t = false := by
  obtain rfl : f = 6 := Option.some.inj ((show Tryd.prog.funcNamed "dunnage/dunnagelaw02.ShaMixes" = some 6 by kernel_rfl).symm.trans hf) |>.symm
  obtain rfl : fn = Tryd.f6 := (Option.some.inj (Tryd.func6.symm.trans hfn)).symm
  refine ⟨by kernel_rfl, fun j t ht => ?_⟩
  rw [Tryd.params6] at ht
  have hm := Array.mem_of_getElem? ht
  simp only [List.mem_toArray, List.mem_cons, List.mem_nil_iff, or_false] at hm
  subst hm; exact (show Tryd.prog.wantsStandIn 44 = false by kernel_rfl)
/-- THE CARD: the statement ShaMixes. -/
theorem shaMixes_card : Rows.ShaMixesCardSaid :=
  Claim7.holds_tied_plain_at .later [] _ _ _ _ shaMixes_said (fun _ h => by cases h) (by kernel_rfl) (fun _ h => by cases h) shaMixes_row_tie rfl ⟨rfl, rfl⟩ (by kernel_rfl) rfl shaMixes_plain (by kernel_rfl)
end Go.Proofs.YtohfgppdeiddmaaDoor
