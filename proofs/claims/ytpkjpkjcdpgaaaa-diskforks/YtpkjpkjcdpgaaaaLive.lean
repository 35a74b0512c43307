/- live answers true. -/
import Derived.Test.YtpkjpkjcdpgaaaaCrash
import Derived.Test.YtpkjpkjcdpgaaaaRead
import Derived.Test.YtpkjpkjcdpgaaaaDeed
namespace Go.Proofs.Ytpkjpkjcdpgaaaa
open Go.RowKit Go.Maps
/-- So many bytes of one kind. -/
def fullS (n : Nat) (x : Int) : List UInt8 := List.replicate n (UInt8.ofNat x.toNat)
theorem bytes_full {w : World} {g n : Nat} {x : Int} {t : TypeId} {fr : Nat × Nat} (h : w.heap[g]? = some (.cells (List.replicate n (Value.int .u8 x)).toArray t fr)) (h0 : 0 ≤ x) (h1 : x ≤ 255) : bytesAt w ⟨g, 0, none⟩ (fullS n x) := by
  intro j hj
  have hj' : j < n := by simpa [fullS] using hj
  rw [Addr.add_mid, Nat.zero_add, cell_of_block h]
  have e : ((UInt8.ofNat x.toNat).toNat : Int) = x := by
    rw [UInt8.toNat_ofNat_of_lt' (by simp [UInt8.size]; omega)]; omega
  have e2 : (fullS n x)[j] = UInt8.ofNat x.toNat := by simp [fullS]
  rw [e2, e]
  simp [hj']
theorem length_full (n : Nat) (x : Int) : (fullS n x).length = n := by simp [fullS]
theorem deed_full (f : Bool) (n l x : Int) (w : World) (h0 : 0 ≤ x) (h1 : x ≤ 255) :
    Calls Try.prog 24 #[.agg #[.bool f, .int .i64 n, .int .i64 l, .int .u8 x]] w fun e w' => ∃ g, e = .returned (.slice (some ⟨g, 0, none⟩) (deedLen l) (deedLen l)) ∧ w.heap.size ≤ g ∧ g < w'.heap.size ∧ bytesAt w' ⟨g, 0, none⟩ (fullS (deedLen l) x) ∧ Below w.heap.size w w' := by
  refine (deed_bytes f n l x w).mono ?_
  rintro e w' ⟨g, rfl, hg, hb, hB⟩
  exact ⟨g, rfl, hg, lt_of_heap hb, bytes_full hb h0 h1, hB⟩
theorem deedLen512 : deedLen 512 = 512 := by decide
theorem Keeps.thenBelow {F : Nat → Prop} {a b : World} {K : Nat} {w : World} (hb : Below K w a) (h : Keeps F a b) (hK : K ≤ w.heap.size) (hF : ∀ i, F i → K ≤ i) : Below K w b := hb.trans (h.below (Nat.le_trans hK hb.size) hF)
def liveS : DiskS := ((freshS (List.replicate 2 blankS)).wrote 1 ⟨(fullS 512 7).toArray⟩).wrote 1 ⟨(fullS 512 8).toArray⟩
theorem put_live1 : (freshS (List.replicate 2 blankS)).put 1 (fullS 512 7) = (freshS (List.replicate 2 blankS)).wrote 1 ⟨(fullS 512 7).toArray⟩ := by
  rw [DiskS.put, if_pos]; simp [errW, freshS, length_full]
theorem put_live2 : ((freshS (List.replicate 2 blankS)).put 1 (fullS 512 7)).put 1 (fullS 512 8) = liveS := by
  rw [put_live1, DiskS.put, if_pos]
  · rfl
  · simp [errW, freshS, length_full, DiskS.wrote]
theorem liveS_waits : liveS.waits 1 = [⟨(fullS 512 7).toArray⟩, ⟨(fullS 512 8).toArray⟩] := by
  simp [liveS, DiskS.wrote, upd, freshS]
theorem liveS_keys : waitKeys liveS.waits 2 = [1] := by
  simp [waitKeys, List.range_succ, liveS, DiskS.wrote, upd, freshS]
theorem liveS_counts : waitCounts liveS.waits 2 = [2] := by
  rw [waitCounts, liveS_keys]; simp [liveS_waits]
theorem liveS_good : goodKeep liveS.waits 2 [1] := by
  rw [goodKeep_iff, liveS_keys]
  refine ⟨by simp, fun j hj hj' => ?_⟩
  obtain rfl : j = 0 := by simp at hj; omega
  simp [liveS_waits]
theorem liveS_crash : crashL liveS.waits liveS.safe ([1].zip [1]) = [blankS, ⟨(fullS 512 7).toArray⟩] := by
  have h2 : liveS.safe = [blankS, blankS] := rfl
  rw [h2]
  simp [crashL, liveS_waits]
set_option maxRecDepth 100000 in
set_option maxHeartbeats 2000000 in
theorem live_any (w : World) : Calls Try.prog 10 #[] w fun e w' => e = .returned (.bool true) ∧ Below w.heap.size w w' := by
  go_enter Try.func10, Try.ntmps10
  go_wp2_with fail
  refine (new_disk 2 (by omega) (by omega) _).mono ?_
  rintro e w1 ⟨d, rfl, hD, hf, hfv, hb⟩
  have HD := hid hD
  have HF := hid hf
  have HFV := hid hfv
  have HB := hid hb
  clear hD hf hfv hb
  have hlt := fun i => HD.out.foot_lt (i := i)
  have HLt := hid hlt
  clear hlt
  go_wp2_with fail
  obtain ⟨n1, n2, n3, n4⟩ := new2 w1 (.cells #[.bool false, .int .i64 1, .int .i64 512, .int .u8 7] 51) (.cells #[.bool false, .int .i64 1, .int .i64 512, .int .u8 8] 51)
  generalize hW2 : (w1.alloc (.cells #[.bool false, .int .i64 1, .int .i64 512, .int .u8 7] 51)).alloc (.cells #[.bool false, .int .i64 1, .int .i64 512, .int .u8 8] 51) = w2 at *
  have HD2 := hid (HD.out.below n3)
  have HB2 := hid (HB.out.trans (n3.mono HB.out.size))
  have HY := hid n2
  clear hW2 n1 n2 n3 n4 HD HB
  refine (deed_full false 1 512 7 w2 (by omega) (by omega)).mono ?_
  rintro e w3 ⟨g3, rfl, hg3, hl3, hb3, hB3⟩
  rw [deedLen512] at hb3 ⊢
  have HD3 := hid (HD2.out.below hB3)
  have HB3 := hid (HB2.out.trans (hB3.mono HB2.out.size))
  have HY3 := hid (below_block hB3 HY.out (lt_of_heap HY.out))
  have HY3n : Hid (¬ d.foot (freshS (List.replicate 2 blankS)).waits (w1.heap.size + 1)) := fun hf => by have := HLt.out _ hf; omega
  have HC3 := hid hb3
  clear hg3 hl3 hb3 hB3 HD2 HB2 HY HLt
  go_wp2_with fail
  refine (write_any d _ 1 (fullS 512 7) ⟨g3, 0, none⟩ 512 512 w3 HD3.out (by decide) (length_full _ _) HC3.out).mono ?_
  rintro e w4 ⟨rfl, d1, hD1, e1, e2, hf1, hK1⟩
  have HB4 := hid (Keeps.thenBelow HB3.out hK1 (Nat.le_refl _) HF.out)
  have HF1 : Hid (∀ i, d1.foot ((freshS (List.replicate 2 blankS)).put 1 (fullS 512 7)).waits i → w.heap.size ≤ i) := fun i hi => by
    rcases hf1 i hi with h | h
    · exact HF.out i h
    · exact Nat.le_trans HB3.out.size h
  have HY4 := hid (hK1.heap HY3.out HY3n.out)
  have HD4 := hid hD1
  have HE1 := hid e1
  have HE2 := hid e2
  have y0 := cell_of_block HY4.out 0
  have y1 := cell_of_block HY4.out 1
  have y2 := cell_of_block HY4.out 2
  have y3 := cell_of_block HY4.out 3
  clear hD1 e1 e2 hf1 hK1 HB3 HD3 HC3 HY3 HY3n HF
  go_wp2_with fail
  refine (deed_full false 1 512 8 w4 (by omega) (by omega)).mono ?_
  rintro e w5 ⟨g5, rfl, hg5, hl5, hb5, hB5⟩
  rw [deedLen512] at hb5 ⊢
  have HD5 := hid (HD4.out.below hB5)
  have HB5 := hid (HB4.out.trans (hB5.mono HB4.out.size))
  have hw2 := write_any d1 _ 1 (fullS 512 8) ⟨g5, 0, none⟩ 512 512 w5 HD5.out (Nat.lt_of_le_of_lt (put_ops _ _ _) (by decide)) (length_full _ _) hb5
  rw [HE1.out] at hw2
  have HW2 := hid hw2
  clear hg5 hl5 hb5 hB5 HD4 HB4 hw2 y0 y1 y2 y3 HY4
  go_wp2_with fail
  refine HW2.out.mono ?_
  clear HW2
  rintro e w6 ⟨rfl, d2, hD2, e1, e2, hf2, hK2⟩
  rw [put_live2] at hD2 hf2
  have HB6 := hid (Keeps.thenBelow HB5.out hK2 (Nat.le_refl _) HF1.out)
  have HF2 : Hid (∀ i, d2.foot liveS.waits i → w.heap.size ≤ i) := fun i hi => by
    rcases hf2 i hi with h | h
    · exact HF1.out i h
    · exact Nat.le_trans HB5.out.size h
  have hwt := waiting_disk d2 liveS w6 hD2 (by decide)
  have hL : liveS.safe.length = 2 := rfl
  rw [e1, hL, liveS_keys, liveS_counts] at hwt
  have HWt := hid hwt
  have HD6 := hid hD2
  have HE6 := hid e1
  clear hD2 e1 e2 hf2 hK2 hwt HB5 HD5 HF1
  go_wp2_with fail
  refine HWt.out.mono ?_
  clear HWt
  rintro e w7 ⟨v1, v2, rfl, hr1, hr2, hB7⟩
  obtain ⟨s1, c1, rfl, -, hs1⟩ := hr1.form (by simp)
  obtain ⟨s2, c2, rfl, -, hs2⟩ := hr2.form (by simp)
  have HR1 := hid (hr1.cellAt 0 (by simp))
  have HR2 := hid (hr2.cellAt 0 (by simp))
  have HB7 := hid (HB6.out.trans (hB7.mono HB6.out.size))
  have HD7 := hid (HD6.out.below hB7)
  have hc := crash_any d2 liveS [1] (some ⟨w7.heap.size, 0, none⟩) 1 (w7.alloc (.cells #[.int .i64 1] 3)) (HD7.out.below ((Below.refl _ _).alloc (Nat.le_refl _) _)) (by decide) (by simp) (fun j hj => ⟨_, _, rfl, fun i hi => by
    obtain rfl : i = 0 := by simp at hi; omega
    exact cell_of_block (block_new w7 _) 0⟩)
  rw [HE6.out, hL, liveS_keys, liveS_crash] at hc
  have HC := hid hc
  have hs1' := hs1
  have hs2' := hs2
  clear hr1 hr2 hB7 hc HD6 HB6
  go_wp2_with fail
  refine HC.out.mono ?_
  clear HC
  rintro e w8 ⟨hB8, h8⟩
  rcases h8 with ⟨hbad, -⟩ | ⟨-, d8, rfl, hD8, -, -⟩
  · exact absurd liveS_good hbad
  have HB8 := hid ((HB7.out.alloc HB7.out.size (.cells #[.int .i64 1] 3)).trans (hB8.mono (HB7.out.alloc HB7.out.size _).size))
  have HRa : Hid (w8.cell? ⟨s1, 0, none⟩ = some (.int .i64 1)) := by
    show w8.cell? ⟨s1, 0, none⟩ = _
    rw [hB8.cell (p := ⟨s1, 0, none⟩) (by simp; omega), World.cell?_alloc_lt _ _ _ hs1', HR1.out]; rfl
  have HRb : Hid (w8.cell? ⟨s2, 0, none⟩ = some (.int .i64 2)) := by
    show w8.cell? ⟨s2, 0, none⟩ = _
    rw [hB8.cell (p := ⟨s2, 0, none⟩) (by simp; omega), World.cell?_alloc_lt _ _ _ hs2', HR2.out]; rfl
  have hs18 : s1 < w8.heap.size := by have := hB8.size; simp at this; omega
  have hs28 : s2 < w8.heap.size := by have := hB8.size; simp at this; omega
  have hrd := read_ok d8 (freshS [blankS, ⟨(fullS 512 7).toArray⟩]) 1 w8 hD8 (by omega) (by simp [freshS])
  have hseen : seenS (freshS [blankS, ⟨(fullS 512 7).toArray⟩]).safe (freshS [blankS, ⟨(fullS 512 7).toArray⟩]).waits 1 = ⟨(fullS 512 7).toArray⟩ := by simp [seenS, freshS]
  rw [hseen] at hrd
  have hsz : (⟨(fullS 512 7).toArray⟩ : ByteArray).size = 512 := by show (fullS 512 7).toArray.size = 512; rw [List.size_toArray, length_full]
  rw [hsz] at hrd
  have HRd := hid hrd
  clear hD8 hB8 hrd hseen hsz HR1 HR2 HB7 HD7
  go_wp2_with fail
  refine HRd.out.mono ?_
  clear HRd
  rintro e w9 ⟨b, c, rfl, hb, hby, hB9⟩
  have z0 : w9.cell? ⟨b, 0, none⟩ = some (.int .u8 7) := by
    have := hby 0 (by simp [length_full])
    rw [Addr.add_mid, Nat.zero_add] at this
    rw [this]; simp [fullS]
  have z1 : w9.cell? ⟨s1, 0, none⟩ = some (.int .i64 1) := by rw [hB9.cell (p := ⟨s1, 0, none⟩) hs18]; exact HRa.out
  have z2 : w9.cell? ⟨s2, 0, none⟩ = some (.int .i64 2) := by rw [hB9.cell (p := ⟨s2, 0, none⟩) hs28]; exact HRb.out
  have HB9 := hid (HB8.out.trans (hB9.mono HB8.out.size))
  clear hby hB9 HB8 HRa HRb
  go_wp2
  go_ret
  exact ⟨rfl, HB9.out⟩
end Go.Proofs.Ytpkjpkjcdpgaaaa
