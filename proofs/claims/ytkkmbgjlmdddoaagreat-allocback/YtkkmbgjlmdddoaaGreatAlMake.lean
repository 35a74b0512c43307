/- Make: superblock, alwaysTaken. -/
import Derived.Test.YtkkmbgjlmdddoaaGreatAlGive
namespace Go.Proofs.YtkkmbgjlmdddoaaGreat
open Go.RowKit
/-- Bits of which the first a are set. -/
def bitsTo : Nat → List UInt8
  | 0 => zN 512
  | n + 1 => flipL (bitsTo n) n
theorem length_bitsTo : ∀ n, (bitsTo n).length = 512
  | 0 => length_zN 512
  | n + 1 => by rw [bitsTo, length_flipL, length_bitsTo n]
theorem bitL_zN (n : Nat) : bitL (zN 512) n = false := by
  unfold bitL
  have : (zN 512).getD (n / 8) 0 = 0 := by
    rw [List.getD_eq_getElem?_getD]
    cases h : (zN 512)[n / 8]? with
    | none => rfl
    | some x =>
      have hm := List.mem_of_getElem? h
      unfold zN at hm
      exact List.eq_of_mem_replicate hm
  rw [this]
  exact Nat.zero_testBit _
theorem bitL_bitsTo : ∀ (a n : Nat), a ≤ 4096 → bitL (bitsTo a) n = decide (n < a)
  | 0, n, _ => by rw [bitsTo, bitL_zN]; simp
  | a + 1, n, h => by
    rw [bitsTo, bitL_flipL _ _ _ (by rw [length_bitsTo]; omega), bitL_bitsTo a n (by omega), bitL_bitsTo a a (by omega)]
    by_cases e : n = a
    · rw [if_pos e]; simp [e]
    · rw [if_neg e]
      apply decide_eq_decide.2
      omega
set_option maxRecDepth 100000 in
set_option maxHeartbeats 2000000 in
theorem aalways_any (b a z x y : Nat) (ha : a ≤ 4096) (w : World) : Calls Tryz.prog 82 #[numV b a z x y] w fun e w' => ∃ g, e = .returned (.slice (some ⟨g, 0, none⟩) 512 512) ∧ w.heap.size ≤ g ∧ rowU w' g (bitsTo a) ∧ Below w.heap.size w w' := by
  obtain ⟨wa, hwa⟩ : ∃ wa, wa = w.alloc (.cells #[.int .i64 b, .int .i64 a, .int .i64 z, .complex .f64 x y] 102) := ⟨_, rfl⟩
  have hb0 : Below w.heap.size w wa := by rw [hwa]; exact (Below.refl _ w).alloc (Nat.le_refl _) _
  have hbl : wa.heap[w.heap.size]? = some (.cells #[.int .i64 b, .int .i64 a, .int .i64 z, .complex .f64 x y] 102 (0, 0)) := by rw [hwa]; exact block_new w _
  have HB0 := hid hb0
  have HBl := hid hbl
  have ha' : (a : Int) ≤ 4096 := by omega
  clear hb0 hbl
  unfold numV
  go_enter Tryz.func82, Tryz.ntmps82
  go_wp2_with fail
  rw [← hwa]
  clear hwa
  refine (noughts_any wa).mono ?_
  rintro e w1 ⟨rfl, hz1, hb1⟩
  have c1 : w1.cell? ⟨w.heap.size, 1, none⟩ = some (.int .i64 a) := cell_of_block (below_block hb1 HBl.out (lt_of_heap HBl.out)) 1
  have HZ1 := hid (rowU_own hz1)
  have HB1 := hid (HB0.out.trans (hb1.mono HB0.out.size))
  have hsa := HB0.out.size
  obtain ⟨g, hg⟩ : ∃ g, g = wa.heap.size := ⟨_, rfl⟩
  rw [← hg] at HZ1 ⊢
  have hgw : w.heap.size ≤ g := by omega
  clear hz1 hb1 hsa hg
  go_wp2
  go_loopw [8] (fun i wr => ∃ k : Nat, k ≤ a ∧ i = .int .i64 k ∧ Hid (rowU wr g (bitsTo k)) ∧ Hid (Below w.heap.size w wr)) (fun i _ => a - (intOf i).toNat)
  case atStart => exact ⟨0, by omega, rfl, HZ1, HB1⟩
  case round =>
    obtain ⟨k, hk, rfl, HR, HB⟩ := hrel
    clear HZ1 HB1 c1
    by_cases hlt : k < a
    · have hk0 : (0 : Int) ≤ (k : Int) := by omega
      have hlt' : (k : Int) < (a : Int) := by omega
      have HFp := hid (flip_any g k 512 (bitsTo k) wr HR.out (length_bitsTo k) (by omega))
      go_wp2_with fail
      refine HFp.out.mono ?_
      clear HFp
      rintro e w2 ⟨rfl, hr2, hk2⟩
      have HR2 : Hid (rowU w2 g (bitsTo (k + 1))) := hr2
      have HB2 : Hid (Below w.heap.size w w2) := HB.out.trans (hk2.below HB.out.size (fun i e => by have e' : i = g := e; omega))
      clear hr2 hk2
      go_wp2
      exact ⟨⟨k + 1, by omega, by go_num, HR2, HB2⟩, by simp [intOf]; omega⟩
    · obtain rfl : k = a := by omega
      have hge : ¬ ((k : Int) < (k : Int)) := by omega
      go_wp2
      go_ret
      exact ⟨g, rfl, hgw, HR.out, HB.out⟩
/-- The bytes of a superblock. -/
def super1 : List UInt8 := [68, 85, 78, 49] ++ (zN 512).drop 4
def superL (pages ino : Nat) : List UInt8 := ((super1.take 4 ++ beS 4 pages ++ super1.drop 8).take 8 ++ beS 4 ino ++ (super1.take 4 ++ beS 4 pages ++ super1.drop 8).drop 12)
theorem length_super1 : super1.length = 512 := by unfold super1; rw [List.length_append, List.length_drop, length_zN]; rfl
theorem length_super2 (n : Nat) : (super1.take 4 ++ beS 4 n ++ super1.drop 8).length = 512 := by
  rw [List.length_append, List.length_append, List.length_take, List.length_drop, length_beS, length_super1]; rfl
theorem length_superL (pages ino : Nat) : (superL pages ino).length = 512 := by
  unfold superL
  rw [List.length_append, List.length_append, List.length_take, List.length_drop, length_beS, length_super2]; rfl
set_option maxRecDepth 100000 in
set_option maxHeartbeats 2000000 in
theorem asuper_any (pages ino : Nat) (hp : pages ≤ 4096) (hi : ino ≤ 4096) (w : World) : Calls Tryz.prog 80 #[.int .i64 pages, .int .i64 ino] w fun e w' => e = .returned (.slice (some ⟨w.heap.size, 0, none⟩) 512 512) ∧ ownB w' w.heap.size (superL pages ino) ∧ Below w.heap.size w w' := by
  go_enter Tryz.func80, Tryz.ntmps80
  go_wp2_with fail
  refine (noughts_any w).mono ?_
  rintro e w1 ⟨rfl, hz1, hb1⟩
  have HZ1 := hid hz1
  have HB1 := hid hb1
  obtain ⟨g, hg⟩ : ∃ g, g = w.heap.size := ⟨_, rfl⟩
  rw [← hg] at HZ1
  have HG := hid hg
  have hgle : w.heap.size ≤ g := by omega
  clear hz1 hb1
  rw [← hg]
  clear hg
  go_wp2_with (refine wpList_copy_str rfl (.tmp 7) (.const (.string ⟨#[68, 85, 78, 49]⟩)) rfl g 512 (zN 512) ⟨#[68, 85, 78, 49]⟩ rfl rfl HZ1.out (length_zN 512) (by decide) ?_; intro r2 w2 hr2 hk2; have HB2 := hid (HB1.out.trans (hk2.below HB1.out.size (fun i e => by have e' : i = g := e; omega))); have HR2 : Hid (ownB w2 g super1) := hr2; clear hr2 hk2 HZ1 HB1)
  have HPu := hid (put_any g 4 4 508 pages super1 w2 HR2.out (by rw [length_super1]; omega) (by rw [length_super1]; omega) (by omega))
  refine HPu.out.mono ?_
  clear HPu
  rintro e w3 ⟨rfl, hr3, hk3⟩
  have HR3 : Hid (ownB w3 g (super1.take 4 ++ beS 4 pages ++ super1.drop 8)) := hr3
  have HB3 := hid (HB2.out.trans (hk3.below HB2.out.size (fun i e => by have e' : i = g := e; omega)))
  have HPv := hid (put_any g 8 4 504 ino _ w3 HR3.out (by rw [length_super2]; omega) (by rw [length_super2]; omega) (by omega))
  clear hr3 hk3 HR2 HB2
  go_wp2_with fail
  refine HPv.out.mono ?_
  clear HPv
  rintro e w4 ⟨rfl, hr4, hk4⟩
  have HR4 : Hid (ownB w4 g (superL pages ino)) := hr4
  have HB4 := hid (HB3.out.trans (hk4.below HB3.out.size (fun i e => by have e' : i = g := e; omega)))
  clear hr4 hk4 HR3 HB3
  go_wp2
  go_ret
  rw [← HG.out]
  refine ⟨rfl, HR4.out, ?_⟩
  rw [HG.out]
  exact HB4.out
end Go.Proofs.YtkkmbgjlmdddoaaGreat
