/- dunnagelaw02.live returns true in every world in which the three tables are laid: Hex of Sum of abc, Crc of 123456789. -/
import Derived.Test.YtohfgppdeiddmaaDoorSum
import Derived.Test.YtohfgppdeiddmaaDoorHex
import Derived.Lib.SlBytesConst
namespace Go.Proofs.YtohfgppdeiddmaaDoor
open Go.RowKit
theorem bytes_new (w : World) (bs : List UInt8) (C : Array Value) (t : TypeId) (fr : Nat × Nat) (n c : Nat) (hC : C = (bs.map B).toArray) (hn : n = bs.length) (hc : bs.length ≤ c) : Bytes (w.alloc (.cells C t fr)) (.slice (some ⟨w.heap.size, 0, none⟩) n c) bs := by
  subst hC hn
  refine ⟨_, c, rfl, hc, fun j x hj => ⟨_, 0, rfl, ?_⟩⟩
  rw [Nat.zero_add, cell_of_block (block_new _ _), List.getElem?_toArray, List.getElem?_map, hj]; rfl
theorem abcS : (⟨(hexS (sumS [97, 98, 99])).toArray⟩ : ByteArray) = ⟨#[98, 97, 55, 56, 49, 54, 98, 102, 56, 102, 48, 49, 99, 102, 101, 97, 52, 49, 52, 49, 52, 48, 100, 101, 53, 100, 97, 101, 50, 50, 50, 51, 98, 48, 48, 51, 54, 49, 97, 51, 57, 54, 49, 55, 55, 97, 57, 99, 98, 52, 49, 48, 102, 102, 54, 49, 102, 50, 48, 48, 49, 53, 97, 100]⟩ := by rw [abc]
set_option maxHeartbeats 1000000 in
theorem live_any (w : World) (hK : Kat w) (hS : Sat w) (hC : Cat w) : Calls Tryd.prog 10 #[] w fun e w' => e = .returned (.bool true) ∧ Below w.heap.size w w' := by
  have h2 := hK.lt
  have kc := fun (w : World) (C : Array Value) (n c : Nat) => Lib.run_convert_bytes_const (P := Tryd.prog) w 22 5 C n c Tryd.underlying22 Tryd.underlying5
  have HS := hid hS
  clear hS
  go_enter Tryd.func10, Tryd.ntmps10
  go_wp2_with fail
  have hB0 : Below w.heap.size w (w.alloc (.cells #[Value.int .u8 97, .int .u8 98, .int .u8 99] 5 (3, 4))) := (Below.refl _ _).alloc (Nat.le_refl _) _
  have hb0 := bytes_new w [97, 98, 99] #[Value.int .u8 97, .int .u8 98, .int .u8 99] 5 (3, 4) 3 3 rfl rfl (by simp)
  refine (sum_any [97, 98, 99] _ _ (hK.below hB0 h2) (HS.out.below hB0 (by omega)) hb0 (by simp)).mono ?_
  rintro e w1 ⟨rfl, hB1⟩
  have hB1' : Below w.heap.size w w1 := hB0.trans (hB1.mono (by simp))
  have HX := hid abcS
  have HL := hid (length_sumS [97, 98, 99])
  generalize sumS [97, 98, 99] = s3 at *
  clear hB0 hb0 hB1
  go_wp2_with fail
  refine (hex_any s3 HL.out w1).mono ?_
  rintro e w2 ⟨rfl, hB2⟩
  rw [HX.out]
  have hB2' : Below w.heap.size w w2 := hB1'.trans (hB2.mono hB1'.size)
  have hC2 := hid (hC.below hB2' (by omega))
  have hsz := hB2'.size
  clear hB2 hB1' hC
  go_wp2_with fail
  have hB3 : Below w2.heap.size w2 (w2.alloc (.cells #[Value.int .u8 49, .int .u8 50, .int .u8 51, .int .u8 52, .int .u8 53, .int .u8 54, .int .u8 55, .int .u8 56, .int .u8 57] 5 (9, 10))) := (Below.refl _ _).alloc (Nat.le_refl _) _
  have hb3 := bytes_new w2 [49, 50, 51, 52, 53, 54, 55, 56, 57] #[Value.int .u8 49, .int .u8 50, .int .u8 51, .int .u8 52, .int .u8 53, .int .u8 54, .int .u8 55, .int .u8 56, .int .u8 57] 5 (9, 10) 9 9 rfl rfl (by simp)
  refine (crc_any [49, 50, 51, 52, 53, 54, 55, 56, 57] _ _ (hC2.out.below hB3 (by omega)) hb3 (by simp)).mono ?_
  rintro e w3 ⟨rfl, rfl⟩
  have hB4 := hB2'.trans (hB3.mono hsz)
  rw [nine]
  clear hb3 hB3
  have hu : U 3808858755 = 3808858755 := rfl
  go_wp2
  go_ret
  exact ⟨rfl, hB4⟩
end Go.Proofs.YtohfgppdeiddmaaDoor
