/- sha.padding returns the padding behind so many bytes, in a slice of its own; digest.bytes returns the digest's 32 bytes. -/
import Derived.Test.YtkmmeokccmppbaaDoorMix
import Derived.Test.YtkmmeokccmppbaaDoorCrc
import Derived.Deep.AppendLies
namespace Go.Proofs.YtkmmeokccmppbaaDoor
open Go.RowKit
attribute [local go_sem ↓] op_add op_xor op_and op_or op_not op_shl op_shr op_up op_down
attribute [local go_sem] V_mod U_or U_xor U_not' u32_unsigned
set_option maxRecDepth 100000 in
theorem info26 : (Tryd.prog.info? 26).map (·.size) = some 32 := by kernel_rfl
/-- The first k bytes of a digest, the others 0. -/
def outTo (s : St) (k : Nat) : List UInt8 := (List.range k).map (outByte s) ++ List.replicate (32 - k) 0
set_option maxRecDepth 100000 in
theorem outTo_set (s : St) (k : Nat) (h : k < 32) : (outTo s k).set k (outByte s k) = outTo s (k + 1) := by
  unfold outTo
  rw [List.set_append_right _ _ (by simp)]
  have e : 32 - k = (32 - (k + 1)) + 1 := by omega
  rw [e, List.replicate_succ]
  simp [List.range_succ]
set_option maxRecDepth 100000 in
theorem outTo_all (s : St) : outTo s 32 = outS s := by simp [outTo, outS]
set_option maxRecDepth 100000 in
theorem length_outTo (s : St) (k : Nat) (h : k ≤ 32) : (outTo s k).length = 32 := by simp [outTo]; omega
set_option maxRecDepth 100000 in
theorem op_shrI (x : UInt32) (y : Int) (h0 : 0 ≤ y) (h1 : y < 32) : Op.shift .shr .u32 (U x) .i64 y = pure (.int .u32 (U (x >>> UInt32.ofNat y.toNat))) := op_shr x .i64 y h0 h1

set_option maxRecDepth 100000 in
set_option maxHeartbeats 1000000 in
theorem bytes_any (s : St) (w : World) :
    Calls Tryd.prog 28 #[.agg (sc s)] w fun e w' => e = .returned (.agg ((outS s).map B).toArray) ∧ Below w.heap.size w w' := by
  go_enter Tryd.func28, Tryd.ntmps28
  go_wp2
  have h3 := new3 w (.cells (sc s) 53) (.cells ((List.replicate 32 (0 : UInt8)).map B).toArray 26) (.cells ((List.replicate 32 (0 : UInt8)).map B).toArray 26)
  go_loopw [5] (fun i wr => ∃ k : Nat, k ≤ 32 ∧ i = .int .i64 k ∧ wr.heap[w.heap.size + 1 + 1]? = some (.cells ((outTo s k).map B).toArray 26 (0, 0)) ∧
      wr.heap[w.heap.size + 1]? = some (.cells ((List.replicate 32 (0 : UInt8)).map B).toArray 26 (0, 0)) ∧ wr.heap[w.heap.size]? = some (.cells (s.list.map W).toArray 53 (0, 0)) ∧ Below w.heap.size w wr)
    (fun i _ => 32 - (intOf i).toNat)
  case atStart => exact ⟨0, by omega, rfl, h3.2.2.1, h3.2.1, h3.1, h3.2.2.2.1⟩
  case round =>
    clear h3
    obtain ⟨k, hk, rfl, hO, hR, hD, hB⟩ := hrel
    by_cases hlt : k < 32
    · have hlo := length_outTo s k hk
      have c1 : wr.cell? ⟨w.heap.size, k / 4, none⟩ = some (W (s.list.getD (k / 4) 0)) := by rw [cell_of_block hD, List.getElem?_toArray, List.getElem?_map, get_some (d := 0) (by rw [St.length_list]; omega)]; rfl
      have c2 : wr.cell? ⟨w.heap.size + 1 + 1, k, none⟩ = some (B ((outTo s k).getD k 0)) := by rw [cell_of_block hO, List.getElem?_toArray, List.getElem?_map, get_some (d := 0) (by omega)]; rfl
      have f2 : wr.frozen? ⟨w.heap.size + 1 + 1, k, none⟩ = false := frozen_of_block hO _
      have hS : Hid ((outTo s k).set k (outByte s k) = outTo s (k + 1)) := outTo_set s k hlt
      have hE : Hid (outByte s k = (s.list.getD (k / 4) 0 >>> UInt32.ofNat (24 - 8 * (k % 4))).toUInt8) := rfl
      have HO := (show Hid _ from hO)
      have HR := (show Hid _ from hR)
      have HD := (show Hid _ from hD)
      clear hO hR hD hlo
      generalize (outTo s k).getD k 0 = z at *
      generalize s.list.getD (k / 4) 0 = x at *
      have q1 : (0 : Int) ≤ 24 - 8 * ((k : Int) % 4) := by omega
      have q2 : 24 - 8 * ((k : Int) % 4) < 32 := by omega
      have q3 : (24 - 8 * ((k : Int) % 4)).toNat = 24 - 8 * (k % 4) := by omega
      go_wp2
      have hv : U x / 2 ^ (24 - 8 * (k % 4)) % 256 = V (outByte s k) := by rw [hE.out, ← U_down, ← U_shr x _ (by omega), IntKind.wrap_u8']
      go_roundw
      case rel =>
        refine ⟨k + 1, by omega, by go_num, ?_, ?_, ?_, ?_⟩
        · rw [hv, ← hS.out, ← set_mapB]; exact block_setCell HO.out _ _
        · exact (block_setCell_other (w := wr) _ _ (by omega)).trans HR.out
        · exact (block_setCell_other (w := wr) _ _ (by omega)).trans HD.out
        · exact hB.setCell (by simp; omega) _
      case measure => simp [intOf]; omega
    · have hk32 : k = 32 := by omega
      subst hk32
      rw [outTo_all] at hO
      have HO := hid hO
      have HR := hid hR
      have Hs : Hid (((outS s).map B).toArray.size = 32) := by simp [Hid, length_outS]
      have HE : Hid (∃ C, C = ((outS s).map B).toArray) := ⟨_, rfl⟩
      have H1 := hid (all_oneCell_toArray (B_one (outS s)))
      clear hO hR hD hlt hk
      go_wp2_with (first
        | (refine wpList_load_block rfl 26 (.tmp 3) rfl (w.heap.size + 1 + 1) rfl ((outS s).map B).toArray 26 (0, 0) HO.out _ Tryd.underlying26 rfl (info26.trans (congrArg some Hs.out.symm)) ?_)
        | (refine wpList_store_block rfl 26 (.tmp 2) (.tmp 21) rfl (w.heap.size + 1) ((outS s).map B).toArray rfl rfl _ 26 HR.out (Hs.out.trans (by simp)) (info26.trans (congrArg some Hs.out.symm)) H1.out ?_; intro w6 hg6 hb6 hz6))
      refine bodyPost_ret (results_cell Tryd.results28 _ _ rfl hb6 _ Tryd.underlying26 rfl (info26.trans (congrArg some Hs.out.symm))) rfl ⟨rfl, ?_⟩
      exact hB.trans (below_of_grown hg6 (by omega) hB.size)

set_option maxRecDepth 100000 in
theorem infoB : (Tryd.prog.info? 5).map (fun i => (i.zero, i.size, i.bytes)) = some (some (.int .u8 0), 1, 1) := by kernel_rfl
/-- The padding's first bytes: the mark, the noughts, k bytes of the size, room behind. -/
def padTo (n k : Nat) : List UInt8 := (128 :: List.replicate ((119 - n % 64) % 64) 0) ++ (List.range k).map (sizeByte n) ++ List.replicate (8 - k) 0
set_option maxRecDepth 100000 in
theorem padTo_all (n : Nat) : padTo n 8 = padS n := by simp [padTo, padS]
set_option maxRecDepth 100000 in
theorem length_padTo (n k : Nat) (hk : k ≤ 8) : (padTo n k).length = 9 + (119 - n % 64) % 64 := by simp [padTo]; omega
set_option maxRecDepth 100000 in
theorem padTo_next (n k : Nat) (hk : k < 8) : (padTo n k).set (1 + (119 - n % 64) % 64 + k) (sizeByte n k) = padTo n (k + 1) := by
  have e : 8 - k = (8 - (k + 1)) + 1 := by omega
  have h1 : (128 :: List.replicate ((119 - n % 64) % 64) (0 : UInt8) ++ (List.range k).map (sizeByte n)).length = 1 + (119 - n % 64) % 64 + k := by simp; omega
  unfold padTo
  rw [List.set_append_right _ _ (by omega), h1, Nat.sub_self, e, List.replicate_succ, List.set_cons_zero, List.range_succ]
  simp
set_option maxRecDepth 100000 in
theorem V_size (n k : Nat) : ((n : Int) * 8 / 2 ^ (8 * (7 - k)) % 256) = V (sizeByte n k) := by
  unfold V sizeByte
  rw [UInt8.toNat_ofNat', Int.natCast_emod, Int.natCast_ediv, Int.natCast_mul, Int.natCast_pow, Int.mul_comm]; rfl

set_option maxRecDepth 100000 in
theorem zero_at (q : Nat) : ((List.replicate (9 + q) (0 : UInt8)).map B).toArray[0]? = some (B 0) := by
  rw [List.getElem?_toArray, List.getElem?_map, Nat.add_comm 9 q, List.replicate_succ]; rfl
set_option maxRecDepth 100000 in
theorem pad_start {w w1 : World} {n q : Nat} (hb1 : Below w.heap.size w w1) (hm1 : w1.heap[w.heap.size]? = some (.cells ((List.replicate (9 + q) (0 : UInt8)).map B).toArray 5 (0, 0))) (hq : (119 - n % 64) % 64 = q) :
    (w1.setCell ⟨w.heap.size, 0, none⟩ (.int .u8 128)).heap[w.heap.size]? = some (.cells ((padTo n 0).map B).toArray 5 (0, 0)) ∧ Below w.heap.size w (w1.setCell ⟨w.heap.size, 0, none⟩ (.int .u8 128)) := by
  refine ⟨?_, hb1.setCell (by simp) _⟩
  rw [block_setCell hm1, show Value.int .u8 128 = B 128 from rfl, set_mapB]
  have : (List.replicate (9 + q) (0 : UInt8)).set 0 128 = padTo n 0 := by
    unfold padTo
    rw [hq, show 9 + q = (q + 8) + 1 by omega, List.replicate_succ, List.set_cons_zero, ← List.replicate_append_replicate]
    simp
  rw [this]
set_option maxRecDepth 100000 in
set_option maxHeartbeats 1000000 in
theorem padding_any (n : Nat) (hn : n < 1152921504606846976) (w : World) :
    Calls Tryd.prog 27 #[.int .i64 n] w fun e w' => ∃ g cap, e = .returned (.slice (some ⟨g, 0, none⟩) (padS n).length cap) ∧ (padS n).length ≤ cap ∧ w.heap.size ≤ g ∧ w'.heap[g]? = some (.cells ((padS n).map B).toArray 5 (0, 0)) ∧ Below w.heap.size w w' := by
  go_enter Tryd.func27, Tryd.ntmps27
  generalize hq : (119 - n % 64) % 64 = q at *
  have hqi : ((119 : Int) - (n : Int)) % 64 = q := by omega
  have HQ := hid hq
  clear hq
  go_wp2_with (refine wpList_make_bytes rfl (.tmp 12) (.tmp 15) 27 rfl 5 Tryd.underlying27 infoB _ _ (1 + q) (9 + q) rfl rfl (by omega) (by omega) (by omega) (by have := HQ.out; omega) ?_; intro w1 hb1 hm1 hz1; have c0 : w1.cell? ⟨w.heap.size, 0, none⟩ = some (B 0) := ((cell_of_block hm1 0).trans (zero_at q)); have f0 : w1.frozen? ⟨w.heap.size, 0, none⟩ = false := frozen_of_block hm1 0)
  have hs0 := pad_start hb1 hm1 HQ.out
  go_loopw [4, 22] (fun p i wr => ∃ k : Nat, k ≤ 8 ∧ i = .int .i64 k ∧ p = .slice (some ⟨w.heap.size, 0, none⟩) (1 + q + k) (9 + q) ∧ wr.heap[w.heap.size]? = some (.cells ((padTo n k).map B).toArray 5 (0, 0)) ∧ Below w.heap.size w wr)
    (fun _ i _ => 8 - (intOf i).toNat)
  case atStart => exact ⟨0, by omega, rfl, rfl, hs0.1, hs0.2⟩
  case round =>
    clear hs0 c0 f0 hm1 hb1 hz1
    obtain ⟨k, hk, rfl, rfl, hP, hB⟩ := hrel
    by_cases hlt : k < 8
    · have hlp := length_padTo n k hk
      rw [HQ.out] at hlp
      have HP := hid hP
      have HS := hid (padTo_next n k hlt)
      rw [HQ.out] at HS
      have hsz : w.heap.size < wr.heap.size := lt_of_heap hP
      clear hP
      have c1 : wr.cell? ⟨w.heap.size, 1 + q + k, none⟩ = some (B ((padTo n k).getD (1 + q + k) 0)) := by rw [cell_of_block HP.out, List.getElem?_toArray, List.getElem?_map, get_some (d := 0) (by omega)]; rfl
      have f1 : wr.frozen? ⟨w.heap.size, 1 + q + k, none⟩ = false := frozen_of_block HP.out _
      generalize (padTo n k).getD (1 + q + k) 0 = z at *
      go_wp2
      go_roundw
      case rel =>
        refine ⟨k + 1, by omega, by go_num, rfl, ?_, ?_⟩
        · rw [V_size, ← HS.out, ← set_mapB]; exact block_alloc (block_setCell HP.out _ _) _
        · exact (hB.setCell (by simp) _).alloc (by simp [World.setCell]; exact hB.size) _
      case measure => simp [intOf]; omega
    · have hk8 : k = 8 := by omega
      subst hk8
      rw [padTo_all] at hP
      have hlen : 1 + q + 8 = (padS n).length := by rw [length_padS, HQ.out]; omega
      have hlen9 : (padS n).length ≤ 9 + q := by omega
      have HL := hid hlen
      clear hlen
      go_wp2
      go_ret
      exact ⟨w.heap.size, 9 + q, by rw [← HL.out]; rfl, hlen9, Nat.le_refl _, hP, hB⟩
end Go.Proofs.YtkmmeokccmppbaaDoor
