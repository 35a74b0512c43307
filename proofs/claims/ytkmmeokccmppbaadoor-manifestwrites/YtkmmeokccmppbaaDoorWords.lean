/- sha.words returns the sixteen words of a block's 64 bytes, at every block and in every world. -/
import Derived.Test.YtkmmeokccmppbaaDoorRound
import Derived.Test.YtkmmeokccmppbaaDoorKitB
namespace Go.Proofs.YtkmmeokccmppbaaDoor
open Go.RowKit
attribute [local go_sem ↓] op_add op_xor op_and op_or op_not op_shl op_shr op_up op_down
attribute [local go_sem] V_mod U_or
set_option maxRecDepth 100000 in
theorem info53 : (Tryd.prog.info? 60).map (·.size) = some 16 := by kernel_rfl
set_option maxRecDepth 100000 in
theorem info55 : (Tryd.prog.info? 53).map (·.size) = some 8 := by kernel_rfl
set_option maxRecDepth 100000 in
theorem info57 : (Tryd.prog.info? 55).map (·.size) = some 64 := by kernel_rfl
set_option maxRecDepth 100000 in
theorem info5 : (Tryd.prog.info? 5).map (·.size) = some 1 := by kernel_rfl
set_option maxRecDepth 100000 in
theorem zeros16 : #[Value.int .u32 0, .int .u32 0, .int .u32 0, .int .u32 0, .int .u32 0, .int .u32 0, .int .u32 0, .int .u32 0, .int .u32 0, .int .u32 0, .int .u32 0, .int .u32 0, .int .u32 0, .int .u32 0, .int .u32 0, .int .u32 0] = ((List.replicate 16 (0 : UInt32)).map W).toArray := rfl


set_option maxRecDepth 100000 in
set_option maxHeartbeats 1000000 in
theorem words_any (bs : List UInt8) (hl : bs.length = 64) (w : World) :
    Calls Tryd.prog 29 #[.agg (bs.map B).toArray] w fun e w' => e = .returned (.agg ((wordsTo bs 64).map W).toArray) ∧ Below w.heap.size w w' := by
  go_enter Tryd.func29, Tryd.ntmps29
  go_wp2_with (refine wpList_load_block rfl 55 _ rfl w.heap.size rfl (bs.map B).toArray 55 (0, 0) (block_alloc (block_alloc (block_new _ _) _) _) _ Tryd.underlying55 rfl (info57.trans (by simp [hl])) ?_)
  go_loopw [7] (fun i wr => ∃ k : Nat, k ≤ 64 ∧ i = .int .i64 k ∧ wr.heap[w.heap.size + 1 + 1]? = some (.cells ((wordsTo bs k).map W).toArray 60 (0, 0)) ∧
      wr.heap[w.heap.size + 1]? = some (.cells ((List.replicate 16 (0 : UInt32)).map W).toArray 60 (0, 0)) ∧ Below w.heap.size w wr ∧ wr.heap.size = w.heap.size + 1 + 1 + 1)
    (fun i _ => 64 - (intOf i).toNat)
  case atStart =>
    obtain ⟨_, h2, h3, h4, h5⟩ := new3 w (.cells (bs.map B).toArray 55) (.cells ((List.replicate 16 (0 : UInt32)).map W).toArray 60) (.cells ((List.replicate 16 (0 : UInt32)).map W).toArray 60)
    exact ⟨0, by omega, rfl, h3, h2, h4, h5⟩
  case round =>
    obtain ⟨k, hk, rfl, hW, hR, hB, hz⟩ := hrel
    by_cases hlt : k < 64
    · have hlen := length_wordsTo bs k
      have hb : bs[k]? = some (bs.getD k 0) := get_some (by omega)
      have hw : (wordsTo bs k)[k / 4]? = some ((wordsTo bs k).getD (k / 4) 0) := get_some (by omega)
      have hc : wr.cell? ⟨w.heap.size + 1 + 1, k / 4, none⟩ = some (W ((wordsTo bs k).getD (k / 4) 0)) := by rw [cell_of_block hW, List.getElem?_toArray, List.getElem?_map, hw]; rfl
      have hf : wr.frozen? ⟨w.heap.size + 1 + 1, k / 4, none⟩ = false := frozen_of_block hW _
      have hS : Hid (wordsTo bs (k + 1) = (wordsTo bs k).set (k / 4) ((wordsTo bs k).getD (k / 4) 0 <<< 8 ||| (bs.getD k 0).toUInt32)) := rfl
      clear hw hlen
      have HW : Hid (wr.heap[w.heap.size + 1 + 1]? = some (.cells ((wordsTo bs k).map W).toArray 60 (0, 0))) := hW
      have HR : Hid (wr.heap[w.heap.size + 1]? = some (.cells ((List.replicate 16 (0 : UInt32)).map W).toArray 60 (0, 0))) := hR
      clear hW hR
      generalize hgw : (wordsTo bs k).getD (k / 4) 0 = y at *
      generalize hgb : bs.getD k 0 = x at *
      clear hgw hgb
      have hix : (Instr.index 55 (.agg (bs.map B).toArray) (.int .i64 (k : Int))).run Tryd.prog wr = .ok (B x) wr :=
        run_index_one Tryd.underlying55 info5 Tryd.underlying5 hlt (by rw [List.getElem?_toArray, List.getElem?_map, hb]; rfl)
      clear hb
      go_wp2
      go_roundw
      case rel =>
        refine ⟨k + 1, by omega, by go_num, ?_, ?_, ?_, ?_⟩
        · rw [block_setCell HW.out, set_map, hS.out]
        · rw [block_setCell_other _ _ (by omega)]; exact HR.out
        · exact hB.setCell (by simp; omega) _
        · simp [World.setCell, hz]
      case measure => simp [intOf]; omega
    · have hk64 : k = 64 := by omega
      subst hk64
      have HW : Hid (wr.heap[w.heap.size + 1 + 1]? = some (.cells ((wordsTo bs 64).map W).toArray 60 (0, 0))) := hW
      have HR : Hid (wr.heap[w.heap.size + 1]? = some (.cells ((List.replicate 16 (0 : UInt32)).map W).toArray 60 (0, 0))) := hR
      clear hW hR
      have hsz : ((wordsTo bs 64).map W).toArray.size = 16 := by simp [length_wordsTo]
      have Hsz : Hid (((wordsTo bs 64).map W).toArray.size = 16) := hsz
      clear hsz
      generalize hg : ((wordsTo bs 64).map W).toArray = C at *
      have h1 : C.all (·.oneCell') = true := by rw [← hg]; exact all_oneCell_toArray (W_one _)
      have Hg : Hid (C = ((wordsTo bs 64).map W).toArray) := hg.symm
      clear hg
      go_wp2_with (first
        | (refine wpList_load_block rfl 60 _ rfl (w.heap.size + 1 + 1) rfl C 60 (0, 0) HW.out _ Tryd.underlying60 rfl (info53.trans (congrArg some Hsz.out.symm)) ?_)
        | (refine wpList_store_block rfl 60 _ _ rfl (w.heap.size + 1) C rfl rfl _ 60 HR.out Hsz.out (info53.trans (congrArg some Hsz.out.symm)) h1 ?_; intro w1 hg1 hb1 hz1))
      refine bodyPost_ret (results_cell Tryd.results29 _ _ rfl hb1 _ Tryd.underlying60 rfl (info53.trans (congrArg some Hsz.out.symm))) rfl ⟨by rw [Hg.out], ?_⟩
      exact hB.trans (below_of_grown hg1 (by omega) (by omega))
end Go.Proofs.YtkmmeokccmppbaaDoor
