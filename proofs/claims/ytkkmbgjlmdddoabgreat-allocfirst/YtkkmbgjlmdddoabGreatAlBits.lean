/- Bits of a page: isSet, flip; noughts, first. -/
import Derived.Test.YtkkmbgjlmdddoabGreatAlRow
namespace Go.Proofs.YtkkmbgjlmdddoabGreat
open Go.RowKit
def bitL (l : List UInt8) (n : Nat) : Bool := (l.getD (n / 8) 0).toNat.testBit (n % 8)
def flipL (l : List UInt8) (n : Nat) : List UInt8 := l.set (n / 8) (l.getD (n / 8) 0 ^^^ UInt8.ofNat (2 ^ (n % 8)))
theorem length_flipL (l : List UInt8) (n : Nat) : (flipL l n).length = l.length := List.length_set
theorem pow8 (n : Nat) : 2 ^ (n % 8) < 256 := by
  have : n % 8 < 8 := Nat.mod_lt _ (by omega)
  exact Nat.pow_lt_pow_right (by omega) this
theorem bitL_flipL (l : List UInt8) (n k : Nat) (hn : n / 8 < l.length) : bitL (flipL l n) k = if k = n then !bitL l n else bitL l k := by
  unfold bitL flipL
  by_cases e : k / 8 = n / 8
  · rw [e, List.getD_eq_getElem?_getD, List.getElem?_set_self hn]
    simp only [Option.getD_some, UInt8.toNat_xor, Nat.testBit_xor, UInt8.toNat_ofNat', Nat.mod_eq_of_lt (pow8 n), Nat.testBit_two_pow]
    by_cases e2 : k = n
    · subst e2
      rw [if_pos rfl, decide_eq_true rfl, Bool.xor_true]
    · have : ¬ (n % 8 = k % 8) := by omega
      rw [if_neg e2, decide_eq_false this, Bool.xor_false]
  · rw [if_neg (fun h => e (by rw [h])), List.getD_eq_getElem?_getD, List.getElem?_set_ne (fun h => e h.symm), ← List.getD_eq_getElem?_getD]
/-- The free ones, rising. -/
def freeL (l : List UInt8) (a z : Nat) : List Nat := (List.range 4096).filter (fun n => decide (a ≤ n ∧ n < z) && !bitL l n)
theorem mem_freeL {l : List UInt8} {a z n : Nat} (hz : z ≤ 4096) : n ∈ freeL l a z ↔ a ≤ n ∧ n < z ∧ bitL l n = false := by
  simp only [freeL, List.mem_filter, List.mem_range, Bool.and_eq_true, decide_eq_true_eq, Bool.not_eq_true']
  constructor
  · rintro ⟨h1, ⟨h2, h3⟩, h4⟩; exact ⟨h2, h3, h4⟩
  · rintro ⟨h2, h3, h4⟩; exact ⟨by omega, ⟨h2, h3⟩, h4⟩

theorem ofNat8 (k : Nat) (hk : k < 8) : (UInt8.ofNat k).toNat % 8 = k := by
  rw [UInt8.toNat_ofNat_of_lt' (by show k < 256; omega)]; omega
theorem op_shr8 (x : UInt8) (y : Int) (h0 : 0 ≤ y) (h1 : y < 8) : Op.shift .shr .u8 (x.toNat : Int) .i64 y = pure (.int .u8 ((x >>> UInt8.ofNat y.toNat).toNat : Int)) := by
  rw [shift_shr_any _ _ _ _ h0]
  have : min y.toNat IntKind.u8.bits = y.toNat := by simp [IntKind.bits]; omega
  rw [this, UInt8.toNat_shiftRight, ofNat8 _ (by omega), Nat.shiftRight_eq_div_pow, Int.natCast_ediv, Int.natCast_pow]; rfl
theorem op_shl8 (y : Int) (h0 : 0 ≤ y) (h1 : y < 8) : Op.shift .shl .u8 1 .i64 y = pure (.int .u8 ((UInt8.ofNat (2 ^ y.toNat)).toNat : Int)) := by
  rw [shift_shl_any _ _ _ _ h0]
  have : min y.toNat IntKind.u8.bits = y.toNat := by simp [IntKind.bits]; omega
  have hp : 2 ^ y.toNat < 256 := Nat.pow_lt_pow_right (n := 8) (by omega) (by omega)
  rw [this, IntKind.wrap_u8', UInt8.toNat_ofNat_of_lt' (by show _ < 256; exact hp), Int.one_mul]
  have e : ((2 : Int) ^ y.toNat) = ((2 ^ y.toNat : Nat) : Int) := by rw [Int.natCast_pow]; rfl
  rw [e, Int.emod_eq_of_lt (Int.natCast_nonneg _) (show ((2 ^ y.toNat : Nat) : Int) < 256 from Int.ofNat_lt.2 hp)]
theorem u8_and_nat (a b : UInt8) : bits .and .u8 (a.toNat : Int) (b.toNat : Int) = ((a &&& b).toNat : Int) := by
  show IntKind.u8.wrap ((BitVec.ofInt 8 (a.toNat : Int) &&& BitVec.ofInt 8 (b.toNat : Int)).toNat : Int) = _
  have ha := a.toNat_lt
  have hb := b.toNat_lt
  rw [BitVec.toNat_and, BitVec.ofInt_natCast, BitVec.ofInt_natCast, BitVec.toNat_ofNat, BitVec.toNat_ofNat, Nat.mod_eq_of_lt (by omega), Nat.mod_eq_of_lt (by omega), ← UInt8.toNat_and, IntKind.wrap_u8']
  have := (a &&& b).toNat_lt
  omega
theorem u8_xor_nat (a b : UInt8) : bits .xor .u8 (a.toNat : Int) (b.toNat : Int) = ((a ^^^ b).toNat : Int) := by
  show IntKind.u8.wrap ((BitVec.ofInt 8 (a.toNat : Int) ^^^ BitVec.ofInt 8 (b.toNat : Int)).toNat : Int) = _
  have ha := a.toNat_lt
  have hb := b.toNat_lt
  rw [BitVec.toNat_xor, BitVec.ofInt_natCast, BitVec.ofInt_natCast, BitVec.toNat_ofNat, BitVec.toNat_ofNat, Nat.mod_eq_of_lt (by omega), Nat.mod_eq_of_lt (by omega), ← UInt8.toNat_xor, IntKind.wrap_u8']
  have := (a ^^^ b).toNat_lt
  omega
theorem op_and8 (a : UInt8) : Op.intBits .and .u8 (a.toNat : Int) 1 = pure (.int .u8 ((a &&& 1).toNat : Int)) := by rw [← u8_and_nat]; rfl
theorem op_xor8 (a b : UInt8) : Op.intBits .xor .u8 (a.toNat : Int) (b.toNat : Int) = pure (.int .u8 ((a ^^^ b).toNat : Int)) := by rw [← u8_xor_nat]; rfl
theorem bit_fin : ∀ x : Fin 256, ∀ s : Fin 8, (bits BinOp.and IntKind.u8 (((x.val : Nat) : Int) >>> (s.val % 8)) 1 == 1) = x.val.testBit s.val := by decide +kernel
attribute [local go_sem ↓] op_shr8 op_shl8 op_and8 op_xor8
set_option maxRecDepth 100000 in
theorem isSet_any (g n cap : Nat) (l : List UInt8) (w : World) (h : bytesAt w ⟨g, 0, none⟩ l) (hl : l.length = 512) (hn : n < 4096) :
    Calls Tryz.prog 68 #[.slice (some ⟨g, 0, none⟩) 512 cap, .int .i64 n] w fun e w' => e = .returned (.bool (bitL l n)) ∧ w' = w := by
  have h8 : n / 8 < l.length := by omega
  have c0 : w.cell? ⟨g, n / 8, none⟩ = some (.int .u8 (l[n / 8].toNat : Int)) := by
    have := h (n / 8) h8
    rwa [Addr.add_mid, Nat.zero_add] at this
  have hb : bitL l n = l[n / 8].toNat.testBit (n % 8) := by unfold bitL; rw [List.getD_eq_getElem?_getD, List.getElem?_eq_getElem h8]; rfl
  have hv := bit_fin ⟨l[n / 8].toNat, l[n / 8].toNat_lt⟩ ⟨n % 8, by omega⟩
  dsimp only at hv
  rw [hb]
  clear hb h
  generalize l[n / 8] = x at *
  obtain ⟨s, hs⟩ : ∃ s, s = n % 8 := ⟨_, rfl⟩
  obtain ⟨q, hq⟩ : ∃ q, q = n / 8 := ⟨_, rfl⟩
  rw [← hs] at hv ⊢
  rw [← hq] at c0 h8
  have e1 : (n : Int) / 8 = (q : Int) := by omega
  have e2 : (n : Int) % 8 = (s : Int) := by omega
  have e1t : Int.tdiv (n : Int) 8 = (q : Int) := by rw [Int.tdiv_eq_ediv_of_nonneg (by omega)]; exact e1
  have e2t : Int.tmod (n : Int) 8 = (s : Int) := by rw [Int.tmod_eq_emod_of_nonneg (by omega)]; exact e2
  have hq0 : (0 : Int) ≤ (q : Int) := by omega
  have hq1 : (q : Int) < 512 := by omega
  have hs0 : (0 : Int) ≤ (s : Int) := by omega
  have hs1 : (s : Int) < 8 := by omega
  clear hs hq
  go_enter Tryz.func68, Tryz.ntmps68
  go_wp2
  go_ret
  refine ⟨?_, rfl⟩
  rw [← hv]
  rfl
set_option maxRecDepth 100000 in
theorem flip_any (g n cap : Nat) (l : List UInt8) (w : World) (h : rowU w g l) (hl : l.length = 512) (hn : n < 4096) :
    Calls Tryz.prog 65 #[.slice (some ⟨g, 0, none⟩) 512 cap, .int .i64 n] w fun e w' => e = .returned (.tuple #[]) ∧ rowU w' g (flipL l n) ∧ Keeps (fun i => i = g) w w' := by
  have h8 : n / 8 < l.length := by omega
  have c0 := h.cell (n / 8) h8
  have f0 := h.frozen (n / 8) h8
  have hst := h.set (n / 8) h8 (l[n / 8] ^^^ UInt8.ofNat (2 ^ (n % 8)))
  have hb : flipL l n = l.set (n / 8) (l[n / 8] ^^^ UInt8.ofNat (2 ^ (n % 8))) := by unfold flipL; rw [List.getD_eq_getElem?_getD, List.getElem?_eq_getElem h8]; rfl
  rw [← hb] at hst
  generalize flipL l n = fl at *
  clear hb h
  generalize l[n / 8] = x at *
  obtain ⟨s, hs⟩ : ∃ s, s = n % 8 := ⟨_, rfl⟩
  obtain ⟨q, hq⟩ : ∃ q, q = n / 8 := ⟨_, rfl⟩
  rw [← hs, ← hq] at hst
  rw [← hq] at c0 f0 h8
  have HSt := hid hst
  have e1 : (n : Int) / 8 = (q : Int) := by omega
  have e2 : (n : Int) % 8 = (s : Int) := by omega
  have hq0 : (0 : Int) ≤ (q : Int) := by omega
  have hq1 : (q : Int) < 512 := by omega
  have hs0 : (0 : Int) ≤ (s : Int) := by omega
  have hs1 : (s : Int) < 8 := by omega
  clear hs hq hst
  go_enter Tryz.func65, Tryz.ntmps65
  go_wp2
  go_region
  have hx : bits BinOp.xor IntKind.u8 (x.toNat : Int) (2 ^ s % 256) = ((x ^^^ UInt8.ofNat (2 ^ s)).toNat : Int) := by
    rw [← u8_xor_nat, UInt8.toNat_ofNat', Int.natCast_emod, Int.natCast_pow]; rfl
  rw [hx]
  refine ⟨rfl, _, results_none rfl _ _ _, rfl, HSt.out, ?_⟩
  exact ((Keeps.refl _ w).grown (grown_setCell (grown_refl _ _) _ _) (fun i e => .inl (Option.some.inj e).symm)).drew
set_option maxRecDepth 100000 in
set_option maxHeartbeats 1000000 in
theorem noughts_any (w : World) : Calls Tryz.prog 34 #[] w fun e w' => e = .returned (.slice (some ⟨w.heap.size, 0, none⟩) 512 512) ∧ ownB w' w.heap.size (zN 512) ∧ Below w.heap.size w w' := by
  go_enter Tryz.func34, Tryz.ntmps34
  go_wp2_with (refine wpList_make_u8 rfl (.const (.int .i64 512)) (.const (.int .i64 512)) rfl 512 512 rfl rfl rfl (by omega) ?_; intro w1 hb1 hr1 hz1; have HB1 := hid hb1; have HR1 : Hid (ownB w1 w.heap.size (zN 512)) := (by unfold Hid ownB; rw [hr1, rep_U8]); clear hb1 hr1 hz1)
  go_ret
  exact ⟨rfl, HR1.out, HB1.out⟩
set_option maxRecDepth 100000 in
set_option maxHeartbeats 1000000 in
theorem afirst_any (n : Nat) (hn : n ≤ 512) (w : World) : Calls Tryz.prog 40 #[.int .i64 n] w fun e w' => e = .returned (.int .i64 (3 + n / 8 : Nat)) ∧ w' = w := by
  obtain ⟨q, hq⟩ : ∃ q, q = n / 8 := ⟨_, rfl⟩
  rw [← hq]
  have e1 : (n : Int) / 8 = (q : Int) := by omega
  have h0 : (0 : Int) ≤ (q : Int) := by omega
  have h1 : (q : Int) ≤ 64 := by omega
  clear hq hn
  go_enter Tryz.func40, Tryz.ntmps40
  go_wp2
  go_ret
  refine ⟨?_, rfl⟩
  rfl
end Go.Proofs.YtkkmbgjlmdddoabGreat
