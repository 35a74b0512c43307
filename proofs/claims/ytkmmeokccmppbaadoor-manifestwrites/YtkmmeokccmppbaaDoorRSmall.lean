/- The reference's small functions: turn, constants, Crc; dunnageref01.SameBytes. Each over any world that holds its arguments. -/
import Derived.Test.YtkmmeokccmppbaaDoorPlainCrc
import Derived.Test.YtkmmeokccmppbaaDoorRound
import Derived.Test.YtkmmeokccmppbaaDoorSum
import Derived.Deep.QuietTactic
namespace Go.Proofs.YtkmmeokccmppbaaDoor
open Go.RowKit
attribute [local go_sem ↓] op_add op_xor op_and op_or op_not op_shl op_shr op_up op_down
attribute [local go_sem] U_not' u32_unsigned V_mod
set_option maxRecDepth 100000 in
theorem xor_poly (d : UInt32) : bits .xor .u32 (U d) 2197175160 = U (d ^^^ 2197175160) := U_xor d 2197175160
attribute [local go_sem] xor_poly U_xor
set_option maxRecDepth 100000 in
theorem rotr_eq (x : UInt32) (n : Nat) (h1 : n ≤ 32) : x >>> UInt32.ofNat n ||| x <<< UInt32.ofNat (32 - n) = rotl x (32 - n) := by
  unfold rotl
  rw [UInt32.or_comm, show 32 - (32 - n) = n by omega]
set_option maxRecDepth 100000 in
theorem turn_any (x : UInt32) (n : Nat) (h0 : 0 < n) (h1 : n < 32) (w : World) :
    Calls Tryd.prog 20 #[W x, .int .i64 n] w fun e w' => e = .returned (W (rotl x (32 - n))) ∧ ∃ m, w' = w.drewN m := by
  have hw : IntKind.i64.wrap (32 - (n : Int)) = ((32 - n : Nat) : Int) := by rw [IntWalk.i64_in _ (by omega)]; omega
  have a0 : (0 : Int) ≤ (n : Int) := by omega
  have a1 : (n : Int) < 32 := by omega
  have a2 : (0 : Int) ≤ ((32 - n : Nat) : Int) := by omega
  have a3 : ((32 - n : Nat) : Int) < 32 := by omega
  have HR := hid (rotr_eq x n (by omega))
  go_enter Tryd.func20, Tryd.ntmps20
  go_wp2
  go_quiet (fail)
  go_wp2
  go_ret
  refine ⟨?_, ?_⟩
  · rw [← HR.out]; simp
  · exact ⟨_, rfl⟩
set_option maxRecDepth 100000 in
theorem turnk (x : UInt32) (k : Int) (h : decide (0 < k ∧ k < 32) = true) (w : World) :
    Calls Tryd.prog 20 #[W x, .int .i64 k] w fun e w' => e = .returned (W (rotl x (32 - k.toNat))) ∧ ∃ m, w' = w.drewN m := by
  have hk := of_decide_eq_true h
  have := turn_any x k.toNat (by omega) (by omega) w
  rwa [Int.toNat_of_nonneg (by omega)] at this
set_option maxRecDepth 100000 in
theorem consts_any (w : World) : Calls Tryd.prog 19 #[] w fun e w' => e = .returned (.slice (some ⟨w.heap.size, 0, none⟩) 64 64) ∧ w'.heap[w.heap.size]? = some (.cells (kwords.map W).toArray 42 (0, 0)) ∧ Below w.heap.size w w' ∧ w'.heap.size = w.heap.size + 1 := by
  go_enter Tryd.func19, Tryd.ntmps19
  go_wp2
  go_ret
  refine ⟨rfl, block_new w _, (Below.refl _ _).alloc (Nat.le_refl _) _, by simp⟩
/-- One bit of the CRC, as the reference has it. -/
def bitS (c : UInt32) : UInt32 := if c &&& 1 = 1 then c >>> 1 ^^^ 2197175160 else c >>> 1
def bitN (c : UInt32) : Nat → UInt32
  | 0 => c
  | n + 1 => bitS (bitN c n)
set_option maxRecDepth 100000 in
theorem and_one (c : UInt32) : c &&& 1 = 1 ∨ c &&& 1 = 0 := by
  have h : (c &&& 1).toNat = c.toNat % 2 := by rw [UInt32.toNat_and]; exact Nat.and_one_is_mod _
  rcases Nat.mod_two_eq_zero_or_one c.toNat with h0 | h0
  · right; apply UInt32.toNat_inj.1; rw [h, h0]; rfl
  · left; apply UInt32.toNat_inj.1; rw [h, h0]; rfl
set_option maxRecDepth 100000 in
theorem and_one_xor (a b : UInt32) : (a ^^^ b) &&& 1 = (a &&& 1) ^^^ (b &&& 1) := by
  apply UInt32.toNat_inj.1
  simp only [UInt32.toNat_and, UInt32.toNat_xor]
  exact Nat.and_xor_distrib_right
set_option maxRecDepth 100000 in
theorem bitS_xor (a b : UInt32) : bitS (a ^^^ b) = bitS a ^^^ bitS b := by
  unfold bitS
  rw [and_one_xor, xor_shr]
  rcases and_one a with ha | ha <;> rcases and_one b with hb | hb <;> rw [ha, hb]
  · rw [if_neg (by decide), if_pos rfl, if_pos rfl, xor4, UInt32.xor_self, UInt32.xor_zero]
  · rw [if_pos (by decide), if_pos rfl, if_neg (by decide), UInt32.xor_assoc, UInt32.xor_assoc, UInt32.xor_comm (b >>> 1)]
  · rw [if_pos (by decide), if_neg (by decide), if_pos rfl, UInt32.xor_assoc]
  · rw [if_neg (by decide), if_neg (by decide), if_neg (by decide)]
set_option maxRecDepth 100000 in
theorem bitN_xor (a b : UInt32) : ∀ n, bitN (a ^^^ b) n = bitN a n ^^^ bitN b n
  | 0 => rfl
  | n + 1 => by simp only [bitN]; rw [bitN_xor a b n, bitS_xor]
set_option maxRecDepth 100000 in
theorem bitS_even (c : UInt32) (h : c.toNat % 2 = 0) : (bitS c).toNat = c.toNat / 2 := by
  have h0 : c &&& 1 = 0 := by
    apply UInt32.toNat_inj.1
    rw [UInt32.toNat_and]
    exact (Nat.and_one_is_mod _).trans h
  unfold bitS
  rw [h0, if_neg (by decide), UInt32.toNat_shiftRight]
  exact Nat.shiftRight_eq_div_pow _ _
set_option maxRecDepth 100000 in
theorem bit_tab : ∀ i : Fin 16, bitN (UInt32.ofNat i.val) 4 = crcTab.getD i.val 0 := by decide +kernel
set_option maxRecDepth 100000 in
theorem bit_high (d : UInt32) (h : d.toNat % 16 = 0) : bitN d 4 = d >>> 4 := by
  apply UInt32.toNat_inj.1
  have e1 := bitS_even d (by omega)
  have e2 := bitS_even (bitS d) (by omega)
  have e3 := bitS_even (bitS (bitS d)) (by omega)
  have e4 := bitS_even (bitS (bitS (bitS d))) (by omega)
  show (bitS (bitS (bitS (bitS d)))).toNat = _
  have hs : (d >>> 4).toNat = d.toNat / 16 := by rw [UInt32.toNat_shiftRight]; exact Nat.shiftRight_eq_div_pow _ _
  rw [hs]; omega
set_option maxRecDepth 100000 in
theorem nib_bits (c : UInt32) : bitN c 4 = nib c := by
  have hlo : (UInt32.ofNat (c.toNat % 16)).toNat = c.toNat % 16 := UInt32.toNat_ofNat_of_lt' (by show _ < 4294967296; omega)
  have hd : (c ^^^ UInt32.ofNat (c.toNat % 16)).toNat % 16 = 0 := by
    have : (c ^^^ UInt32.ofNat (c.toNat % 16)).toNat % 2 ^ 4 = (c.toNat % 2 ^ 4) ^^^ ((c.toNat % 16) % 2 ^ 4) := by rw [UInt32.toNat_xor, hlo, Nat.xor_mod_two_pow (n := 4)]
    rw [show (16 : Nat) = 2 ^ 4 from rfl, this]
    simp
  have hc : c = (c ^^^ UInt32.ofNat (c.toNat % 16)) ^^^ UInt32.ofNat (c.toNat % 16) := by rw [UInt32.xor_assoc, UInt32.xor_self, UInt32.xor_zero]
  conv => lhs; rw [hc]
  rw [bitN_xor, bit_high _ hd, bit_tab ⟨c.toNat % 16, by omega⟩]
  unfold nib
  rw [xor_shr]
  have hz : UInt32.ofNat (c.toNat % 16) >>> 4 = 0 := by
    apply UInt32.toNat_inj.1
    rw [UInt32.toNat_shiftRight, hlo]
    show (c.toNat % 16) >>> 4 = 0
    rw [Nat.shiftRight_eq_div_pow]; omega
  rw [hz, UInt32.xor_zero]
set_option maxRecDepth 100000 in
theorem bitN_add (c : UInt32) (m : Nat) : ∀ n, bitN c (m + n) = bitN (bitN c m) n
  | 0 => rfl
  | n + 1 => by show bitS (bitN c (m + n)) = bitS _; rw [bitN_add c m n]
set_option maxRecDepth 100000 in
theorem crcStep_bits (c : UInt32) (x : UInt8) : bitN (c ^^^ x.toUInt32) 8 = crcStep c x := by
  rw [show 8 = 4 + 4 from rfl, bitN_add, nib_bits, nib_bits]; rfl
end Go.Proofs.YtkmmeokccmppbaaDoor
