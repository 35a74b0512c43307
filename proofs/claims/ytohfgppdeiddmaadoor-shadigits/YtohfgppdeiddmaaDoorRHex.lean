/- The reference's Hex returns the same 64 digits of a digest. -/
import Derived.Test.YtohfgppdeiddmaaDoorHex
import Derived.Deep.QuietTactic
import Derived.BigQuiet
import Derived.Laws.Strings2
import Derived.Laws.Concat
namespace Go.Proofs.YtohfgppdeiddmaaDoor
open Go.RowKit
attribute [local go_sem ↓] Go.wp_at_zero Go.wp_at_succ
theorem run_digit (a : Int) (h0 : 0 ≤ a) (h1 : a < 16) (w : World) : (Instr.slice 9 (.string ⟨#[48, 49, 50, 51, 52, 53, 54, 55, 56, 57, 97, 98, 99, 100, 101, 102]⟩) (some (.int .u8 a)) (some (.int .u8 (a + 1))) none).run Tryd.prog w = .ok (.string ⟨[digitS a.toNat].toArray⟩) w := by
  obtain ⟨n, rfl⟩ := Int.eq_ofNat_of_zero_le h0
  rw [run_slice_string w _ _ .u8 .u8 _ _ Tryd.underlying9 h0 (by omega) (show (n : Int) + 1 ≤ 16 by omega)]
  have hn : n < 16 := by omega
  have : ∀ n < 16, ByteArray.extract ⟨#[48, 49, 50, 51, 52, 53, 54, 55, 56, 57, 97, 98, 99, 100, 101, 102]⟩ n (n + 1) = ⟨[digitS n].toArray⟩ := by decide +kernel
  have e : ((n : Int) + 1).toNat = n + 1 := by omega
  rw [e, Int.toNat_natCast, this n hn]
theorem u8_low (x : UInt8) : bits .and .u8 (V x) 15 = V x % 16 := by
  have : ∀ n < 256, bits .and .u8 (V (UInt8.ofNat n)) 15 = V (UInt8.ofNat n) % 16 := by decide +kernel
  have h := this x.toNat x.toNat_lt
  rwa [UInt8.ofNat_toNat] at h
theorem op_low (x : UInt8) : Op.intBits .and .u8 (V x) 15 = pure (.int .u8 (V x % 16)) := by rw [← u8_low]; rfl
attribute [local go_sem ↓] op_low
set_option maxRecDepth 20000 in
set_option maxHeartbeats 2000000 in
theorem rhex_any (h : List UInt8) (hl : h.length = 32) (w : World) :
    Calls Tryd.prog 24 #[.agg (h.map B).toArray] w fun e w' => e = .returned (.string ⟨(hexS h).toArray⟩) ∧ Below w.heap.size w w' := by
  have hD := block_new w (.cells (h.map B).toArray 26)
  have hB0 := (Below.refl w.heap.size w).alloc (Nat.le_refl _) (.cells (h.map B).toArray 26)
  have HD0 := hid hD
  clear hD
  go_enter Tryd.func24, Tryd.ntmps24
  go_wp2
  go_loopw [3, 4] (fun p i wr => ∃ k : Nat, k ≤ 32 ∧ i = .int .i64 k ∧ p = .string ⟨(hexS (h.take k)).toArray⟩ ∧ wr.heap[w.heap.size]? = some (.cells (h.map B).toArray 26 (0, 0)) ∧ Below w.heap.size w wr)
    (fun _ i _ => 32 - (intOf i).toNat)
  case atStart => exact ⟨0, by omega, rfl, rfl, HD0.out, hB0⟩
  case round =>
    clear HD0 hB0
    obtain ⟨k, hk, rfl, rfl, hD, hB⟩ := hrel
    by_cases hlt : k < 32
    · have c1 : wr.cell? ⟨w.heap.size, k, none⟩ = some (B (h.getD k 0)) := by rw [cell_of_block hD, List.getElem?_toArray, List.getElem?_map, get_some (d := 0) (by omega)]; rfl
      have HD := hid hD
      clear hD
      have HX : Hid (hexS (h.take (k + 1)) = hexS (h.take k) ++ [digitS ((h.getD k 0).toNat / 16), digitS ((h.getD k 0).toNat % 16)]) := by
        have hx : h.getD k 0 = h[k] := by rw [List.getD_eq_getElem?_getD, List.getElem?_eq_getElem (by omega)]; rfl
        rw [List.take_succ_eq_append_getElem (by omega), hexS_snoc, hx]; exact rfl
      have hll : (hexS (h.take k)).length ≤ 64 := by rw [length_hexS, List.length_take]; omega
      generalize h.getD k 0 = x at *
      have v0 := V_nonneg x
      have v1 := V_lt x
      have t1 : (V x / 16).toNat = x.toNat / 16 := by unfold V; omega
      have t2 : (V x % 16).toNat = x.toNat % 16 := by unfold V; omega
      have w1 : IntKind.u8.wrap (V x / 16 + 1) = V x / 16 + 1 := by rw [IntKind.wrap_u8']; omega
      have w2 : IntKind.u8.wrap (V x % 16 + 1) = V x % 16 + 1 := by rw [IntKind.wrap_u8']; omega
      have s1 : ∀ W, (Instr.slice 9 (.string ⟨#[48, 49, 50, 51, 52, 53, 54, 55, 56, 57, 97, 98, 99, 100, 101, 102]⟩) (some (.int .u8 (V x / 16))) (some (.int .u8 (V x / 16 + 1))) none).run Tryd.prog W = .ok (.string ⟨[digitS (x.toNat / 16)].toArray⟩) W := fun W => by rw [← t1]; exact run_digit _ (by omega) (by omega) W
      have s2 : ∀ W, (Instr.slice 9 (.string ⟨#[48, 49, 50, 51, 52, 53, 54, 55, 56, 57, 97, 98, 99, 100, 101, 102]⟩) (some (.int .u8 (V x % 16))) (some (.int .u8 (V x % 16 + 1))) none).run Tryd.prog W = .ok (.string ⟨[digitS (x.toNat % 16)].toArray⟩) W := fun W => by rw [← t2]; exact run_digit _ (by omega) (by omega) W
      generalize digitS (x.toNat / 16) = d1 at *
      generalize digitS (x.toNat % 16) = d2 at *
      have a1 : ∀ W, (Op.stringOp .add ⟨[d1].toArray⟩ ⟨[d2].toArray⟩).run Tryd.prog W = .ok (.string ⟨[d1, d2].toArray⟩) W := fun W => run_string_add_lists W [d1] [d2] (by simp) (by simp)
      have a2 : ∀ W, (Op.stringOp .add ⟨(hexS (h.take k)).toArray⟩ ⟨[d1, d2].toArray⟩).run Tryd.prog W = .ok (.string ⟨(hexS (h.take (k + 1))).toArray⟩) W := fun W => by rw [HX.out]; exact run_string_add_lists W _ [d1, d2] (by omega) (by simp)
      generalize (hexS (h.take k)).toArray = p0 at *
      generalize [d1].toArray = D1 at *
      generalize [d2].toArray = D2 at *
      generalize [d1, d2].toArray = D3 at *
      clear t1 t2 hll
      go_wp2
      go_quiet (fail)
      go_wp2
      refine ⟨⟨k + 1, by omega, by go_num, rfl, HD.out, below_drewN hB nq⟩, ?_⟩
      simp [intOf]; omega
    · have hk32 : k = 32 := by omega
      subst hk32
      go_wp2
      go_ret
      rw [List.take_of_length_le (by omega)]
      exact ⟨rfl, hB⟩
end Go.Proofs.YtohfgppdeiddmaaDoor
