/- sha.Crc returns the CRC-32C of a slice's bytes, at every slice, in every world in which the table of its words is laid; the world stands as it was. -/
import Derived.Test.YtllkkfeechojoaaDoorSWords
namespace Go.Proofs.YtllkkfeechojoaaDoor.Sh
open Go.RowKit
attribute [local go_sem ↓] op_add op_xor op_and op_or op_not op_shl op_shr op_up op_down
attribute [local go_sem] V_mod U_or U_xor U_not' u32_unsigned
/-- The CRC's words lie in their global. -/
def Cat (w : World) : Prop := ∀ t, t < 16 → w.cell? ⟨0, t, none⟩ = some (W (crcTab.getD t 0))
set_option maxRecDepth 100000 in
theorem Cat.lt {w : World} (h : Cat w) : 0 < w.heap.size := by
  have := h 0 (by omega)
  unfold World.cell? at this
  cases hq : w.heap[0]? with
  | none => rw [hq] at this; simp at this
  | some o => exact lt_of_heap hq
set_option maxRecDepth 100000 in
theorem Cat.below {K : Nat} {w w' : World} (h : Cat w) (hb : Below K w w') (hK : 0 < K) : Cat w' := fun t ht => (hb.cell (p := ⟨0, t, none⟩) hK).trans (h t ht)
/-- The slice v reads as the bytes bs. -/
def Bytes (w : World) (v : Value) (bs : List UInt8) : Prop :=
  ∃ (a : Option Addr) (cap : Nat), v = .slice a bs.length cap ∧ bs.length ≤ cap ∧ ∀ j x, bs[j]? = some x → ∃ b off, a = some ⟨b, off, none⟩ ∧ w.cell? ⟨b, off + j, none⟩ = some (B x)
set_option maxRecDepth 100000 in
theorem Bytes.below {K : Nat} {w w' : World} {v : Value} {bs : List UInt8} (h : Bytes w v bs) (hb : Below K w w') (hK : ∀ b off n cap, v = .slice (some ⟨b, off, none⟩) n cap → b < K) : Bytes w' v bs := by
  obtain ⟨a, cap, rfl, hc, hx⟩ := h
  refine ⟨a, cap, rfl, hc, fun j x hj => ?_⟩
  obtain ⟨b, off, rfl, hcell⟩ := hx j x hj
  exact ⟨b, off, rfl, (hb.cell (p := ⟨b, off + j, none⟩) (hK b off _ _ rfl)).trans hcell⟩
set_option maxRecDepth 100000 in
theorem crcRun_snoc (c : UInt32) (bs : List UInt8) (k : Nat) (x : UInt8) (h : bs[k]? = some x) : crcRun c (bs.take (k + 1)) = crcStep (crcRun c (bs.take k)) x := by
  have hk : k < bs.length := (List.getElem?_eq_some_iff.1 h).1
  have hx : bs[k] = x := (List.getElem?_eq_some_iff.1 h).2
  rw [List.take_succ_eq_append_getElem hk, hx]; simp [crcRun]
set_option maxRecDepth 100000 in
theorem U_mod16 (c : UInt32) : (U c % 16).toNat = c.toNat % 16 := by unfold U; omega
set_option maxRecDepth 100000 in
theorem nib_of (c : UInt32) : c >>> 4 ^^^ crcTab.getD (c.toNat % 16) 0 = nib c := rfl

set_option maxRecDepth 100000 in
set_option maxHeartbeats 1000000 in
theorem crc_any (bs : List UInt8) (v : Value) (w : World) (hC : Cat w) (hb : Bytes w v bs) (hn : bs.length < 4611686018427387904) :
    Calls Tryd.prog 11 #[v] w fun e w' => e = .returned (W (crcS bs)) ∧ w' = w := by
  obtain ⟨a, cap, rfl, hcap, hx⟩ := hb
  have HX := (show Hid _ from hx)
  clear hx
  go_enter Tryd.func11, Tryd.ntmps11
  go_wp2
  go_loop [3, 8] (fun c i => ∃ k : Nat, k ≤ bs.length ∧ i = .int .i64 k ∧ c = W (crcRun 4294967295 (bs.take k))) (fun _ i => bs.length - (intOf i).toNat)
  case atStart => exact ⟨0, by omega, rfl, rfl⟩
  case round =>
    obtain ⟨k, hk, rfl, rfl⟩ := hrel
    by_cases hlt : k < bs.length
    · have hg : bs[k]? = some bs[k] := List.getElem?_eq_getElem hlt
      obtain ⟨b, off, rfl, hcell⟩ := HX.out k _ hg
      have hS : Hid (crcRun 4294967295 (bs.take (k + 1)) = crcStep (crcRun 4294967295 (bs.take k)) bs[k]) := crcRun_snoc _ _ _ _ hg
      clear hg
      generalize bs[k] = x at *
      generalize crcRun 4294967295 (bs.take k) = c at *
      generalize hc1 : c ^^^ x.toUInt32 = c1
      have hS2 : Hid (crcStep c x = nib (nib c1)) := by unfold Hid crcStep; rw [hc1]
      have t1 := hC (c1.toNat % 16) (by omega)
      have t2 := hC ((nib c1).toNat % 16) (by omega)
      have n1 : c1 >>> 4 ^^^ crcTab.getD (c1.toNat % 16) 0 = nib c1 := rfl
      have n2 : nib c1 >>> 4 ^^^ crcTab.getD ((nib c1).toNat % 16) 0 = nib (nib c1) := rfl
      generalize crcTab.getD (c1.toNat % 16) 0 = y1 at *
      generalize crcTab.getD ((nib c1).toNat % 16) 0 = y2 at *
      have m1 := U_mod16 c1
      have m2 := U_mod16 (nib c1)
      have p1 := U_nonneg c1
      have p2 := U_nonneg (nib c1)
      go_wp2
      go_round
      case rel => exact ⟨k + 1, by omega, by go_num, by rw [hS.out, hS2.out]⟩
      case measure => simp [intOf]; omega
    · have hkn : k = bs.length := by omega
      have ht : crcRun 4294967295 (bs.take k) = crcRun 4294967295 bs := by rw [hkn, List.take_length]
      have HF : Hid (crcS bs = ~~~crcRun 4294967295 bs) := rfl
      have hge : ¬ ((k : Int) < (bs.length : Int)) := by omega
      rw [ht]
      clear ht hkn
      generalize crcRun 4294967295 bs = c at *
      go_wp2
      go_ret
      refine ⟨?_, rfl⟩
      rw [HF.out]; rfl
end Go.Proofs.YtllkkfeechojoaaDoor.Sh
