/- law03's Deed.pages, of one that is not short. -/
import Derived.Test.YtoeiodiadanhkaaGreatCommit
namespace Go.Proofs.YtoeiodiadanhkaaGreat
open Go.RowKit
/-- The bytes of the page at i. -/
def rowX (x : UInt8) (i : Nat) : List UInt8 := List.replicate 512 (x + UInt8.ofNat i)
theorem length_rowX (x : UInt8) (i : Nat) : (rowX x i).length = 512 := List.length_replicate
/-- k of them are laid. -/
def rowTo (x : UInt8) (i k : Nat) : List UInt8 := List.replicate k (x + UInt8.ofNat i) ++ zN (512 - k)
theorem rowTo_zero (x : UInt8) (i : Nat) : rowTo x i 0 = zN 512 := by simp [rowTo]
theorem rowTo_full (x : UInt8) (i : Nat) : rowTo x i 512 = rowX x i := by
  rw [rowTo, rowX, Nat.sub_self]; exact List.append_nil _
theorem length_rowTo (x : UInt8) (i k : Nat) (h : k ≤ 512) : (rowTo x i k).length = 512 := by
  rw [rowTo, List.length_append, List.length_replicate, length_zN]; omega
theorem rowTo_succ (x : UInt8) (i k : Nat) (h : k < 512) : (rowTo x i k).set k (x + UInt8.ofNat i) = rowTo x i (k + 1) := by
  have e : 512 - k = (512 - (k + 1)) + 1 := by omega
  rw [rowTo, rowTo, List.set_append_right _ _ (by rw [List.length_replicate]; exact Nat.le_refl _), List.length_replicate, Nat.sub_self, e, zN, List.replicate_succ, List.set_cons_zero, List.replicate_succ', List.append_assoc]
  rfl
/-- The cells of the first k pages. -/
def pageCells (ns : List Int) (bs : Nat → Nat) (k : Nat) : List Value := (List.range k).flatMap (fun j => [.int .i64 (ns.getD j 0), .slice (some ⟨bs j, 0, none⟩) 512 512])
theorem pageCells_succ (ns : List Int) (bs : Nat → Nat) (k : Nat) : pageCells ns bs (k + 1) = pageCells ns bs k ++ [.int .i64 (ns.getD k 0), .slice (some ⟨bs k, 0, none⟩) 512 512] := by
  rw [pageCells, List.range_succ, List.flatMap_append]; simp [pageCells]
theorem pageCells_congr (ns : List Int) (bs bs' : Nat → Nat) : ∀ k, (∀ j, j < k → bs j = bs' j) → pageCells ns bs k = pageCells ns bs' k
  | 0, _ => rfl
  | k + 1, h => by rw [pageCells_succ, pageCells_succ, pageCells_congr ns bs bs' k (fun j hj => h j (by omega)), h k (by omega)]
theorem grown_of_belowW {w w' : World} (h : Below w.heap.size w w') (r : Option Nat) : w.grownBy w' r := ⟨h.os, h.tape, h.output, h.size, fun k hk _ => h.block k hk⟩
theorem infoPage : (Tryz.prog.info? 39).map (fun i => (i.zero, i.size, i.bytes)) = some (some (.agg #[.int .i64 0, .slice none 0 0]), 2, 32) := by kernel_rfl
def DeedTo (ns : List Int) (x : UInt8) (K : Nat) (w' : World) (e : Ending) : Prop := ∃ v bs, e = .returned v ∧ w'.ownsRow (K + 1) 39 2 v ns.length (pageCells ns bs ns.length) ∧ ∀ j, j < ns.length → K ≤ bs j ∧ ownB w' (bs j) (rowX x j)
set_option maxRecDepth 100000 in
set_option maxHeartbeats 2000000 in
theorem deed_pages (ns : List Int) (na : Option Addr) (nc : Nat) (x : UInt8) (w : World) (hn : intsAt w na ns) (hl : ns.length ≤ 100) :
    Calls Tryz.prog 12 #[.agg #[.bool false, .slice na ns.length nc, .int .u8 (x.toNat : Int)]] w fun e w' => Below w.heap.size w w' ∧ DeedTo ns x w.heap.size w' e := by
  obtain ⟨i0, hi, hz0, hz1, hz2⟩ := info_parts infoPage
  have HI := hid hi
  have HN := hid hn
  clear hi hn
  have HB0 := hid ((Below.refl w.heap.size w).alloc (Nat.le_refl _) (.cells #[.bool false, .slice na ns.length nc, .int .u8 (x.toNat : Int)] 32))
  have Hb0 := hid (block_new w (.cells #[.bool false, .slice na ns.length nc, .int .u8 (x.toNat : Int)] 32))
  go_enter Tryz.func12, Tryz.ntmps12
  go_wp2
  generalize w.alloc (.cells #[.bool false, .slice na ns.length nc, .int .u8 (x.toNat : Int)] 32) = wA at *
  have hwA := lt_of_heap Hb0.out
  go_loopw [3, 4] (fun v i wr => ∃ (k : Nat) (bs : Nat → Nat), k ≤ ns.length ∧ i = .int .i64 k ∧ Hid (wr.ownsRow (w.heap.size + 1) 39 2 v k (pageCells ns bs k)) ∧ Hid (∀ j, j < k → w.heap.size ≤ bs j ∧ ownB wr (bs j) (rowX x j)) ∧ Hid (wr.heap[w.heap.size]? = some (.cells #[.bool false, .slice na ns.length nc, .int .u8 (x.toNat : Int)] 32 (0, 0))) ∧ Hid (Below w.heap.size w wr)) (fun _ i _ => ns.length - (intOf i).toNat)
  case atStart => exact ⟨0, fun _ => 0, by omega, rfl, World.ownsRow_nil _ _ _ _, fun j hj => by omega, Hb0, HB0⟩
  case round =>
    obtain ⟨k, bs, hk, rfl, hO, hBs, hM, hB⟩ := hrel
    have c1 : wr.cell? ⟨w.heap.size, 1, none⟩ = some (.slice na ns.length nc) := cell_of_block hM.out 1
    by_cases hlt : k < ns.length
    · have hk0 : (0 : Int) ≤ (k : Int) := by omega
      have hk1 : (k : Int) < (ns.length : Int) := by omega
      have hk2 : (k : Int) < 102 := by omega
      have hwr := lt_of_heap hM.out
      go_wp2_with (refine wpList_make_u8 rfl (.const (.int .i64 512)) (.const (.int .i64 512)) rfl 512 512 rfl rfl rfl (by omega) ?_; intro w1 hb1 hr1 hz1; have HB1 := hid hb1; have HR1 : Hid (ownB w1 wr.heap.size (zN 512)) := (by unfold Hid ownB; rw [hr1, rep_U8]); have hz1' := hz1; clear hb1 hr1 hz1)
      obtain ⟨B1, hB1⟩ : ∃ B1, B1 = wr.heap.size := ⟨_, rfl⟩
      rw [← hB1] at HR1
      rw [← hB1]
      have hv : ((x.toNat : Int) + ((k : Int) % 256)) % 256 = ((x + UInt8.ofNat k).toNat : Int) := by
        rw [UInt8.toNat_add, UInt8.toNat_ofNat']; omega
      have hkm : (k : Int) % 256 = (k : Int) := by omega
      have HM1 := hid (below_block HB1.out hM.out hwr)
      have hwB : w.heap.size < B1 := by omega
      have HO1 := hid (hO.out.kept (grown_of_belowW HB1.out none) (by cases u3.ownBlock <;> simp))
      have HBs1 : Hid (∀ j, j < k → w.heap.size ≤ bs j ∧ ownB w1 (bs j) (rowX x j) ∧ bs j < B1) := fun j hj => ⟨(hBs.out j hj).1, (hBs.out j hj).2.below HB1.out, by rw [hB1]; exact (hBs.out j hj).2.lt⟩
      have HBl1 := hid (hB.out.trans (HB1.out.mono hB.out.size))
      have hOb : ∀ i, u3.ownBlock = some i → w.heap.size + 1 ≤ i ∧ i < B1 := fun i hi => by rw [hB1]; exact hO.out.lt i hi
      have HOb := hid hOb
      have HzB : Hid (w1.heap.size = B1 + 1) := by rw [hB1]; exact hz1'
      clear hO hBs hM hB HB1 c1 hwr hB1 hz1' hOb
      go_loopw [6] (fun i wi => ∃ q : Nat, q ≤ 512 ∧ i = .int .i64 q ∧ Hid (ownB wi B1 (rowTo x k q)) ∧ Hid (Keeps (fun i => i = B1) w1 wi)) (fun i _ => 512 - (intOf i).toNat)
      case atStart => exact ⟨0, by omega, rfl, by rw [rowTo_zero]; exact HR1, Keeps.refl _ _⟩
      case round =>
        obtain ⟨q, hq, rfl, hOw, hKi⟩ := hrel
        have hMi := hKi.out.heap HM1.out (fun e => by omega)
        have d0 : wr.cell? ⟨w.heap.size, 0, none⟩ = some (.bool false) := cell_of_block hMi 0
        have d1 : wr.cell? ⟨w.heap.size, 1, none⟩ = some (.slice na ns.length nc) := cell_of_block hMi 1
        have d2 : wr.cell? ⟨w.heap.size, 2, none⟩ = some (.int .u8 (x.toNat : Int)) := cell_of_block hMi 2
        have HMi := hid hMi
        clear hMi
        by_cases hq5 : q < 512
        · have hq0 : (0 : Int) ≤ (q : Int) := by omega
          have hq1 : (q : Int) < 512 := by omega
          obtain ⟨old, cl⟩ : ∃ v, wr.cell? ⟨B1, q, none⟩ = some v := ⟨_, hOw.out.cell q (by rw [length_rowTo _ _ _ hq]; exact hq5)⟩
          have fl := hOw.out.frozen q
          have hs := hOw.out.set q (x + UInt8.ofNat k)
          rw [rowTo_succ x k q hq5, ← hv, hkm] at hs
          have HSt := hid hs
          clear hs
          go_wp2
          exact ⟨⟨q + 1, by omega, by go_num, HSt, hKi.out.grown (grown_setCell (grown_refl _ _) _ _) (fun i e => .inl (Option.some.inj e).symm)⟩, by simp [intOf]; omega⟩
        · obtain rfl : q = 512 := by omega
          have hge : ¬ (((512 : Nat) : Int) < 512) := by omega
          have hOf := hOw.out
          rw [rowTo_full] at hOf
          have HOf := hid hOf
          have HOr := hid (hKi.out.row HO1.out (fun i hi e => by have := HOb.out i hi; omega))
          have HBr : Hid (∀ j, j < k → w.heap.size ≤ bs j ∧ ownB wr (bs j) (rowX x j) ∧ bs j < B1) := fun j hj => ⟨(HBs1.out j hj).1, (HBs1.out j hj).2.1.keep hKi.out (fun e => by have := (HBs1.out j hj).2.2; omega), (HBs1.out j hj).2.2⟩
          have HBlr := hid (HBl1.out.trans (hKi.out.below HBl1.out.size (fun i e => by omega)))
          have hsr := hKi.out.size
          have hz := HzB.out
          obtain ⟨nb, no, rfl, hnc⟩ := HN.out k hlt
          have hnk := hnc k hlt
          have hcn : wr.cell? ⟨nb, no + k, none⟩ = some (.int .i64 ns[k]) := (HBlr.out.cell (p := ⟨nb, no + k, none⟩) (World.block_lt_of_cell? w _ hnk)).trans hnk
          have hgd : ns.getD k 0 = ns[k] := by simp [hlt]
          have HGd := hid hgd
          clear hOf hnc hnk hgd hOw HR1
          go_wp2_with (refine wpList_append_lies _ rfl (.tmp 41) (.tmp 49) 29 rfl (w.heap.size + 1) 39 i0 (.agg #[.int .i64 0, .slice none 0 0]) 2 32 Tryz.underlying29 HI.out hz0 hz1 hz2 rfl (by omega) u3 k _ rfl (HOr.out.alloc _) ⟨wr.heap.size, 0, none⟩ 1 1 [.int .i64 ns[k], .slice (some ⟨B1, 0, none⟩) 512 512] rfl rfl (World.news_of_block (cs := #[.int .i64 ns[k], .slice (some ⟨B1, 0, none⟩) 512 512]) (block_new wr _)) (by intro u hu; rcases List.mem_cons.1 hu with rfl | hu; rfl; rw [List.mem_singleton.1 hu]; rfl) (by omega) (by unfold maxLen; omega) (by omega) (by simp; omega) (wr.heap.size + 1) (by simp) ?_; intro g2 cap2 w5 hown hgr hat hlt2; have HOw := hid hown; have HGr := hid hgr; clear hown hgr hat hlt2)
          have hne : ∀ b L, ownB wr b L → u3.ownBlock ≠ some b := fun b L hb e => by
            obtain ⟨cur, hc⟩ := row_type HOr.out e
            rw [hb] at hc
            simp only [Option.some.injEq, Obj.cells.injEq] at hc
            exact absurd hc.2.1 (by decide)
          have hup : ∀ b L, ownB wr b L → ownB w5 b L := fun b L hb => grown_block HGr.out (block_alloc hb _) (fun e => hne b L hb e)
          have hal := (Below.refl wr.heap.size wr).alloc (Nat.le_refl _) (.cells #[.int .i64 ns[k], .slice (some ⟨B1, 0, none⟩) 512 512] 39)
          have hpc : pageCells ns (fun j => if j = k then B1 else bs j) (k + 1) = pageCells ns bs k ++ [.int .i64 ns[k], .slice (some ⟨B1, 0, none⟩) 512 512] := by
            rw [pageCells_succ, HGd.out, if_pos rfl, pageCells_congr ns (fun j => if j = k then B1 else bs j) bs k (fun j hj => by simp; omega)]
          refine ⟨⟨k + 1, fun j => if j = k then B1 else bs j, by omega, by go_num, ?_, ?_, ?_, ?_⟩, by simp [intOf]; omega⟩
          · unfold Hid
            rw [hpc]; exact HOw.out
          · intro j hj
            by_cases e : j = k
            · subst e
              simp only [if_true]
              exact ⟨by omega, hup _ _ HOf.out⟩
            · simp only [e, if_false]
              exact ⟨(HBr.out j (by omega)).1, hup _ _ (HBr.out j (by omega)).2.1⟩
          · exact grown_block HGr.out (block_alloc HMi.out _) (fun e => by have := (HOb.out _ e).1; omega)
          · have hb1 := HBlr.out.trans (hal.mono HBlr.out.size)
            exact hb1.trans (below_of_row HGr.out hb1.size (fun i e => by have := (HOb.out _ e).1; omega))
    · obtain rfl : k = ns.length := by omega
      have hge : ¬ ((ns.length : Int) < (ns.length : Int)) := by omega
      go_wp2
      go_ret
      exact ⟨hB.out, _, bs, rfl, hO.out, hBs.out⟩
end Go.Proofs.YtoeiodiadanhkaaGreat
