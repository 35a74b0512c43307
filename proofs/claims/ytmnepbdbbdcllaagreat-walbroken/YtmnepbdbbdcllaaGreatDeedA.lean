/- law03's Deed.pages, of whatever deed. -/
import Derived.Test.YtmnepbdbbdcllaaGreatBaseD
namespace Go.Proofs.YtmnepbdbbdcllaaGreat
open Go.RowKit
/-- How many bytes the page at j has. -/
def plen (s : Bool) (j : Nat) : Nat := if s = true ∧ j = 0 then 511 else 512
/-- The cells of the first k pages. -/
def pageCellsS (s : Bool) (ns : List Int) (bs : Nat → Nat) (k : Nat) : List Value := (List.range k).flatMap (fun j => [.int .i64 (ns.getD j 0), .slice (some ⟨bs j, 0, none⟩) (plen s j) 512])
theorem pageCellsS_succ (s : Bool) (ns : List Int) (bs : Nat → Nat) (k : Nat) : pageCellsS s ns bs (k + 1) = pageCellsS s ns bs k ++ [.int .i64 (ns.getD k 0), .slice (some ⟨bs k, 0, none⟩) (plen s k) 512] := by
  rw [pageCellsS, List.range_succ, List.flatMap_append]; simp [pageCellsS]
theorem pageCellsS_congr (s : Bool) (ns : List Int) (bs bs' : Nat → Nat) : ∀ k, (∀ j, j < k → bs j = bs' j) → pageCellsS s ns bs k = pageCellsS s ns bs' k
  | 0, _ => rfl
  | k + 1, h => by rw [pageCellsS_succ, pageCellsS_succ, pageCellsS_congr s ns bs bs' k (fun j hj => h j (by omega)), h k (by omega)]
theorem length_pageCellsS (s : Bool) (ns : List Int) (bs : Nat → Nat) (k : Nat) : (pageCellsS s ns bs k).length = k * 2 := by
  induction k with
  | zero => rfl
  | succ k ih => rw [pageCellsS_succ, List.length_append, ih]; simp; omega
theorem pageCellsS_at (s : Bool) (ns : List Int) (bs : Nat → Nat) : ∀ (k j : Nat), j < k → (pageCellsS s ns bs k)[j * 2]? = some (.int .i64 (ns.getD j 0)) ∧ (pageCellsS s ns bs k)[j * 2 + 1]? = some (.slice (some ⟨bs j, 0, none⟩) (plen s j) 512)
  | 0, j, h => by omega
  | k + 1, j, h => by
    have hl : ∀ k, (pageCellsS s ns bs k).length = k * 2 := fun k => by
      induction k with
      | zero => rfl
      | succ k ih => rw [pageCellsS_succ, List.length_append, ih]; simp; omega
    rw [pageCellsS_succ]
    by_cases e : j = k
    · subst e
      rw [List.getElem?_append_right (by rw [hl]; omega), List.getElem?_append_right (by rw [hl]; omega), hl]
      have e0 : j * 2 - j * 2 = 0 := by omega
      have e1 : j * 2 + 1 - j * 2 = 1 := by omega
      rw [e0, e1]
      exact ⟨rfl, rfl⟩
    · rw [List.getElem?_append_left (by rw [hl]; omega), List.getElem?_append_left (by rw [hl]; omega)]
      exact pageCellsS_at s ns bs k j (by omega)
def DeedAny (s : Bool) (ns : List Int) (m : Nat) (x : UInt8) (K : Nat) (w' : World) (e : Ending) : Prop := ∃ v bs, e = .returned v ∧ w'.ownsRow (K + 1) 39 2 v m (pageCellsS s ns bs m) ∧ ∀ j, j < m → K ≤ bs j ∧ ownB w' (bs j) (rowX x j)
set_option maxRecDepth 100000 in
set_option maxHeartbeats 4000000 in
theorem deed_any (s : Bool) (ns : List Int) (na : Option Addr) (nc : Nat) (x : UInt8) (w : World) (hn : intsAt w na ns) :
    Calls Tryz.prog 8 #[.agg #[.bool s, .slice na ns.length nc, .int .u8 (x.toNat : Int)]] w fun e w' => Below w.heap.size w w' ∧ DeedAny s ns (min ns.length 102) x w.heap.size w' e := by
  obtain ⟨m, hm⟩ : ∃ m, m = min ns.length 102 := ⟨_, rfl⟩
  rw [← hm]
  have hm1 : m ≤ ns.length := by omega
  have hm2 : m ≤ 102 := by omega
  obtain ⟨i0, hi, hz0, hz1, hz2⟩ := info_parts infoPage
  have HI := hid hi
  have HN := hid hn
  have HM := hid hm
  clear hi hn hm
  have HB0 := hid ((Below.refl w.heap.size w).alloc (Nat.le_refl _) (.cells #[.bool s, .slice na ns.length nc, .int .u8 (x.toNat : Int)] 32))
  have Hb0 := hid (block_new w (.cells #[.bool s, .slice na ns.length nc, .int .u8 (x.toNat : Int)] 32))
  go_enter Tryz.func8, Tryz.ntmps8
  go_wp2
  generalize w.alloc (.cells #[.bool s, .slice na ns.length nc, .int .u8 (x.toNat : Int)] 32) = wA at *
  have hwA := lt_of_heap Hb0.out
  go_loopw [3, 4] (fun v i wr => ∃ (k : Nat) (bs : Nat → Nat), k ≤ m ∧ i = .int .i64 k ∧ Hid (wr.ownsRow (w.heap.size + 1) 39 2 v k (pageCellsS s ns bs k)) ∧ Hid (∀ j, j < k → w.heap.size ≤ bs j ∧ ownB wr (bs j) (rowX x j)) ∧ Hid (wr.heap[w.heap.size]? = some (.cells #[.bool s, .slice na ns.length nc, .int .u8 (x.toNat : Int)] 32 (0, 0))) ∧ Hid (Below w.heap.size w wr)) (fun _ i _ => m - (intOf i).toNat)
  case atStart => exact ⟨0, fun _ => 0, by omega, rfl, World.ownsRow_nil _ _ _ _, fun j hj => by omega, Hb0, HB0⟩
  case round =>
    obtain ⟨k, bs, hk, rfl, hO, hBs, hM, hB⟩ := hrel
    have c1 : wr.cell? ⟨w.heap.size, 1, none⟩ = some (.slice na ns.length nc) := cell_of_block hM.out 1
    by_cases hlt : k < m
    · have hk0 : (0 : Int) ≤ (k : Int) := by omega
      have hk1 : (k : Int) < (ns.length : Int) := by omega
      have hk2 : (k : Int) < 102 := by omega
      have hwr := lt_of_heap hM.out
      go_wp2_with (refine wpList_make_u8 rfl (.const (.int .i64 512)) (.const (.int .i64 512)) rfl 512 512 rfl rfl rfl (by omega) ?_; intro w1 hb1 hr1 hz1; have HB1 := hid hb1; have HR1 : Hid (ownB w1 wr.heap.size (zN 512)) := (by unfold Hid ownB; rw [hr1, rep_U8]); have hz1' := hz1; clear hb1 hr1 hz1)
      obtain ⟨B1, hB1⟩ : ∃ B1, B1 = wr.heap.size := ⟨_, rfl⟩
      rw [← hB1] at HR1
      rw [← hB1]
      have hv : ((x.toNat : Int) + ((k : Int) % 256)) % 256 = ((x + UInt8.ofNat k).toNat : Int) := by
        rw [UInt8.toNat_add, UInt8.toNat_ofNat']; omega
      have hkm : (k : Int) % 256 = (k : Int) := by omega
      have HM1 := hid (below_block HB1.out hM.out hwr)
      have hwB : w.heap.size < B1 := by omega
      have HO1 := hid (hO.out.kept (grown_of_belowW HB1.out none) (by cases u3.ownBlock <;> simp))
      have HBs1 : Hid (∀ j, j < k → w.heap.size ≤ bs j ∧ ownB w1 (bs j) (rowX x j) ∧ bs j < B1) := fun j hj => ⟨(hBs.out j hj).1, (hBs.out j hj).2.below HB1.out, by rw [hB1]; exact (hBs.out j hj).2.lt⟩
      have HBl1 := hid (hB.out.trans (HB1.out.mono hB.out.size))
      have hOb : ∀ i, u3.ownBlock = some i → w.heap.size + 1 ≤ i ∧ i < B1 := fun i hi => by rw [hB1]; exact hO.out.lt i hi
      have HOb := hid hOb
      have HzB : Hid (w1.heap.size = B1 + 1) := by rw [hB1]; exact hz1'
      clear hO hBs hM hB HB1 c1 hwr hB1 hz1' hOb
      go_loopw [6] (fun i wi => ∃ q : Nat, q ≤ 512 ∧ i = .int .i64 q ∧ Hid (ownB wi B1 (rowTo x k q)) ∧ Hid (Keeps (fun i => i = B1) w1 wi)) (fun i _ => 512 - (intOf i).toNat)
      case atStart => exact ⟨0, by omega, rfl, by rw [rowTo_zero]; exact HR1, Keeps.refl _ _⟩
      case round =>
        obtain ⟨q, hq, rfl, hOw, hKi⟩ := hrel
        have hMi := hKi.out.heap HM1.out (fun e => by omega)
        have d0 : wr.cell? ⟨w.heap.size, 0, none⟩ = some (.bool s) := cell_of_block hMi 0
        have d1 : wr.cell? ⟨w.heap.size, 1, none⟩ = some (.slice na ns.length nc) := cell_of_block hMi 1
        have d2 : wr.cell? ⟨w.heap.size, 2, none⟩ = some (.int .u8 (x.toNat : Int)) := cell_of_block hMi 2
        have HMi := hid hMi
        clear hMi
        by_cases hq5 : q < 512
        · have hq0 : (0 : Int) ≤ (q : Int) := by omega
          have hq1 : (q : Int) < 512 := by omega
          obtain ⟨old, cl⟩ : ∃ v, wr.cell? ⟨B1, q, none⟩ = some v := ⟨_, hOw.out.cell q (by rw [length_rowTo _ _ _ hq]; exact hq5)⟩
          have fl := hOw.out.frozen q
          have hs := hOw.out.set q (x + UInt8.ofNat k)
          rw [rowTo_succ x k q hq5, ← hv, hkm] at hs
          have HSt := hid hs
          clear hs
          go_wp2
          exact ⟨⟨q + 1, by omega, by go_num, HSt, hKi.out.grown (grown_setCell (grown_refl _ _) _ _) (fun i e => .inl (Option.some.inj e).symm)⟩, by simp [intOf]; omega⟩
        · obtain rfl : q = 512 := by omega
          have hge : ¬ (((512 : Nat) : Int) < 512) := by omega
          have hOf := hOw.out
          rw [rowTo_full] at hOf
          have HOf := hid hOf
          have HOr := hid (hKi.out.row HO1.out (fun i hi e => by have := HOb.out i hi; omega))
          have HBr : Hid (∀ j, j < k → w.heap.size ≤ bs j ∧ ownB wr (bs j) (rowX x j) ∧ bs j < B1) := fun j hj => ⟨(HBs1.out j hj).1, (HBs1.out j hj).2.1.keep hKi.out (fun e => by have := (HBs1.out j hj).2.2; omega), (HBs1.out j hj).2.2⟩
          have HBlr := hid (HBl1.out.trans (hKi.out.below HBl1.out.size (fun i e => by omega)))
          have hsr := hKi.out.size
          have hz := HzB.out
          have hkn : k < ns.length := by omega
          obtain ⟨nb, no, rfl, hnc⟩ := HN.out k hkn
          have hnk := hnc k hkn
          have hcn : wr.cell? ⟨nb, no + k, none⟩ = some (.int .i64 ns[k]) := (HBlr.out.cell (p := ⟨nb, no + k, none⟩) (World.block_lt_of_cell? w _ hnk)).trans hnk
          have hgd : ns.getD k 0 = ns[k] := by simp [hkn]
          have HGd := hid hgd
          clear hOf hnc hnk hgd hOw HR1
          have hcase : (s = false ∧ plen s k = 512) ∨ (s = true ∧ k = 0 ∧ plen s k = 511) ∨ (s = true ∧ ¬ ((k : Int) = 0) ∧ plen s k = 512) := by
            unfold plen
            cases s
            · exact .inl ⟨rfl, by simp⟩
            · by_cases e : k = 0
              · exact .inr (.inl ⟨rfl, e, by simp [e]⟩)
              · exact .inr (.inr ⟨rfl, by omega, by simp [e]⟩)
          rcases hcase with ⟨rfl, hpl⟩ | ⟨rfl, hk00, hpl⟩ | ⟨rfl, hkne, hpl⟩
          · have HPl := hid hpl
            clear hpl
            go_wp2_with (refine wpList_append_lies _ rfl (.tmp 41) (.tmp 49) 29 rfl (w.heap.size + 1) 39 i0 (.agg #[.int .i64 0, .slice none 0 0]) 2 32 Tryz.underlying29 HI.out hz0 hz1 hz2 rfl (by omega) u3 k _ rfl (HOr.out.alloc _) ⟨wr.heap.size, 0, none⟩ 1 1 [.int .i64 ns[k], .slice (some ⟨B1, 0, none⟩) 512 512] rfl rfl (World.news_of_block (cs := #[.int .i64 ns[k], .slice (some ⟨B1, 0, none⟩) 512 512]) (block_new wr _)) (by intro u hu; rcases List.mem_cons.1 hu with rfl | hu; rfl; rw [List.mem_singleton.1 hu]; rfl) (by omega) (by unfold maxLen; omega) (by omega) (by simp; omega) (wr.heap.size + 1) (by simp) ?_; intro g2 cap2 w5 hown hgr hat hlt2; have HOw := hid hown; have HGr := hid hgr; clear hown hgr hat hlt2)
            have hne : ∀ b L, ownB wr b L → u3.ownBlock ≠ some b := fun b L hb e => by
              obtain ⟨cur, hc⟩ := row_type HOr.out e
              rw [hb] at hc
              simp only [Option.some.injEq, Obj.cells.injEq] at hc
              exact absurd hc.2.1 (by decide)
            have hup : ∀ b L, ownB wr b L → ownB w5 b L := fun b L hb => grown_block HGr.out (block_alloc hb _) (fun e => hne b L hb e)
            have hal := (Below.refl wr.heap.size wr).alloc (Nat.le_refl _) (.cells #[.int .i64 ns[k], .slice (some ⟨B1, 0, none⟩) 512 512] 39)
            have hpc : pageCellsS false ns (fun j => if j = k then B1 else bs j) (k + 1) = pageCellsS false ns bs k ++ [.int .i64 ns[k], .slice (some ⟨B1, 0, none⟩) 512 512] := by
              rw [pageCellsS_succ, HGd.out, HPl.out, if_pos rfl, pageCellsS_congr false ns (fun j => if j = k then B1 else bs j) bs k (fun j hj => by simp; omega)]
            refine ⟨⟨k + 1, fun j => if j = k then B1 else bs j, by omega, by go_num, ?_, ?_, ?_, ?_⟩, by simp [intOf]; omega⟩
            · unfold Hid
              rw [hpc]; exact HOw.out
            · intro j hj
              by_cases e : j = k
              · subst e
                simp only [if_true]
                exact ⟨by omega, hup _ _ HOf.out⟩
              · simp only [e, if_false]
                exact ⟨(HBr.out j (by omega)).1, hup _ _ (HBr.out j (by omega)).2.1⟩
            · exact grown_block HGr.out (block_alloc HMi.out _) (fun e => by have := (HOb.out _ e).1; omega)
            · have hb1 := HBlr.out.trans (hal.mono HBlr.out.size)
              exact hb1.trans (below_of_row HGr.out hb1.size (fun i e => by have := (HOb.out _ e).1; omega))
          · have HPl := hid hpl
            clear hpl
            have hkz : ((k : Int) == 0) = true := by rw [hk00]; rfl
            clear hk00
            go_wp2_with (refine wpList_append_lies _ rfl (.tmp 41) (.tmp 49) 29 rfl (w.heap.size + 1) 39 i0 (.agg #[.int .i64 0, .slice none 0 0]) 2 32 Tryz.underlying29 HI.out hz0 hz1 hz2 rfl (by omega) u3 k _ rfl (HOr.out.alloc _) ⟨wr.heap.size, 0, none⟩ 1 1 [.int .i64 ns[k], .slice (some ⟨B1, 0, none⟩) 511 512] rfl rfl (World.news_of_block (cs := #[.int .i64 ns[k], .slice (some ⟨B1, 0, none⟩) 511 512]) (block_new wr _)) (by intro u hu; rcases List.mem_cons.1 hu with rfl | hu; rfl; rw [List.mem_singleton.1 hu]; rfl) (by omega) (by unfold maxLen; omega) (by omega) (by simp; omega) (wr.heap.size + 1) (by simp) ?_; intro g2 cap2 w5 hown hgr hat hlt2; have HOw := hid hown; have HGr := hid hgr; clear hown hgr hat hlt2)
            have hne : ∀ b L, ownB wr b L → u3.ownBlock ≠ some b := fun b L hb e => by
              obtain ⟨cur, hc⟩ := row_type HOr.out e
              rw [hb] at hc
              simp only [Option.some.injEq, Obj.cells.injEq] at hc
              exact absurd hc.2.1 (by decide)
            have hup : ∀ b L, ownB wr b L → ownB w5 b L := fun b L hb => grown_block HGr.out (block_alloc hb _) (fun e => hne b L hb e)
            have hal := (Below.refl wr.heap.size wr).alloc (Nat.le_refl _) (.cells #[.int .i64 ns[k], .slice (some ⟨B1, 0, none⟩) 511 512] 39)
            have hpc : pageCellsS true ns (fun j => if j = k then B1 else bs j) (k + 1) = pageCellsS true ns bs k ++ [.int .i64 ns[k], .slice (some ⟨B1, 0, none⟩) 511 512] := by
              rw [pageCellsS_succ, HGd.out, HPl.out, if_pos rfl, pageCellsS_congr true ns (fun j => if j = k then B1 else bs j) bs k (fun j hj => by simp; omega)]
            refine ⟨⟨k + 1, fun j => if j = k then B1 else bs j, by omega, by go_num, ?_, ?_, ?_, ?_⟩, by simp [intOf]; omega⟩
            · unfold Hid
              rw [hpc]; exact HOw.out
            · intro j hj
              by_cases e : j = k
              · subst e
                simp only [if_true]
                exact ⟨by omega, hup _ _ HOf.out⟩
              · simp only [e, if_false]
                exact ⟨(HBr.out j (by omega)).1, hup _ _ (HBr.out j (by omega)).2.1⟩
            · exact grown_block HGr.out (block_alloc HMi.out _) (fun e => by have := (HOb.out _ e).1; omega)
            · have hb1 := HBlr.out.trans (hal.mono HBlr.out.size)
              exact hb1.trans (below_of_row HGr.out hb1.size (fun i e => by have := (HOb.out _ e).1; omega))
          · have HPl := hid hpl
            clear hpl
            go_wp2_with (refine wpList_append_lies _ rfl (.tmp 41) (.tmp 49) 29 rfl (w.heap.size + 1) 39 i0 (.agg #[.int .i64 0, .slice none 0 0]) 2 32 Tryz.underlying29 HI.out hz0 hz1 hz2 rfl (by omega) u3 k _ rfl (HOr.out.alloc _) ⟨wr.heap.size, 0, none⟩ 1 1 [.int .i64 ns[k], .slice (some ⟨B1, 0, none⟩) 512 512] rfl rfl (World.news_of_block (cs := #[.int .i64 ns[k], .slice (some ⟨B1, 0, none⟩) 512 512]) (block_new wr _)) (by intro u hu; rcases List.mem_cons.1 hu with rfl | hu; rfl; rw [List.mem_singleton.1 hu]; rfl) (by omega) (by unfold maxLen; omega) (by omega) (by simp; omega) (wr.heap.size + 1) (by simp) ?_; intro g2 cap2 w5 hown hgr hat hlt2; have HOw := hid hown; have HGr := hid hgr; clear hown hgr hat hlt2)
            have hne : ∀ b L, ownB wr b L → u3.ownBlock ≠ some b := fun b L hb e => by
              obtain ⟨cur, hc⟩ := row_type HOr.out e
              rw [hb] at hc
              simp only [Option.some.injEq, Obj.cells.injEq] at hc
              exact absurd hc.2.1 (by decide)
            have hup : ∀ b L, ownB wr b L → ownB w5 b L := fun b L hb => grown_block HGr.out (block_alloc hb _) (fun e => hne b L hb e)
            have hal := (Below.refl wr.heap.size wr).alloc (Nat.le_refl _) (.cells #[.int .i64 ns[k], .slice (some ⟨B1, 0, none⟩) 512 512] 39)
            have hpc : pageCellsS true ns (fun j => if j = k then B1 else bs j) (k + 1) = pageCellsS true ns bs k ++ [.int .i64 ns[k], .slice (some ⟨B1, 0, none⟩) 512 512] := by
              rw [pageCellsS_succ, HGd.out, HPl.out, if_pos rfl, pageCellsS_congr true ns (fun j => if j = k then B1 else bs j) bs k (fun j hj => by simp; omega)]
            refine ⟨⟨k + 1, fun j => if j = k then B1 else bs j, by omega, by go_num, ?_, ?_, ?_, ?_⟩, by simp [intOf]; omega⟩
            · unfold Hid
              rw [hpc]; exact HOw.out
            · intro j hj
              by_cases e : j = k
              · subst e
                simp only [if_true]
                exact ⟨by omega, hup _ _ HOf.out⟩
              · simp only [e, if_false]
                exact ⟨(HBr.out j (by omega)).1, hup _ _ (HBr.out j (by omega)).2.1⟩
            · exact grown_block HGr.out (block_alloc HMi.out _) (fun e => by have := (HOb.out _ e).1; omega)
            · have hb1 := HBlr.out.trans (hal.mono HBlr.out.size)
              exact hb1.trans (below_of_row HGr.out hb1.size (fun i e => by have := (HOb.out _ e).1; omega))
    · obtain rfl : k = m := by omega
      have hmm := HM.out
      by_cases hml : k = ns.length
      · have hge : ¬ ((k : Int) < (ns.length : Int)) := by omega
        clear hml hmm
        go_wp2
        go_ret
        exact ⟨hB.out, _, bs, rfl, hO.out, hBs.out⟩
      · have hge1 : ((k : Int) < (ns.length : Int)) := by omega
        have hge : ¬ ((k : Int) < 102) := by omega
        clear hml hmm
        go_wp2
        go_ret
        exact ⟨hB.out, _, bs, rfl, hO.out, hBs.out⟩
end Go.Proofs.YtmnepbdbbdcllaaGreat
