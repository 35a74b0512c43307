/- law03's same(d, r): a disk and the reference that are alike are told so. -/
import Derived.Test.YtmnepbdbbdcllaaGreatBaseB
import Derived.Test.YtmnepbdbbdcllaaGreatBaseA
namespace Go.Proofs.YtmnepbdbbdcllaaGreat
open Go.RowKit
theorem ok_bytesW {L : List (List UInt8)} (h : ∀ l ∈ L, l.length = 512) : ∀ l ∈ L, l.length < 4611686018427387904 := fun l hl => by have := h l hl; omega
theorem atL_512W {R : RefS} (h : okR R) : ∀ k, ∀ l ∈ atL R k, l.length = 512
  | 0, l, hl => h.2.1 l hl
  | k + 1, l, hl => by
    have ih := atL_512W h k
    rw [atL_succ] at hl
    cases e : R.l[k]? with
    | none => rw [e] at hl; exact ih l hl
    | some o =>
      rw [e] at hl
      simp only at hl
      split at hl
      · exact ih l hl
      · rename_i hf
        rcases List.mem_or_eq_of_mem_set hl with h1 | h1
        · exact ih l h1
        · rw [h1]; exact (h.2.2 o (List.mem_of_getElem? e) (by simpa using hf)).2.2
set_option maxRecDepth 100000 in
set_option maxHeartbeats 2000000 in
theorem wsame_ref (d : DL) (S : DiskS) (r : Nat) (fv lv : Value) (vs : List Value) (Rd : Nat → Prop) (R : RefS) (w : World) (h : DiskRd w d S) (hR : RefIn w r fv lv vs Rd R) (hA : Alike S R) (hm : R.l.length ≤ 1000000) :
    Calls Tryz.prog 20 #[.pointer (some ⟨d.p, 0, none⟩), .pointer (some ⟨r, 0, none⟩)] w fun e w' => e = .returned (.bool true) ∧ Below w.heap.size w w' := by
  have H := hid h
  have HR := hid hR
  have HA := hid hA
  have hn := hA.ok.1
  have hops : S.ops.length ≤ opsMax := by rw [hA.ops]; unfold opsMax; omega
  have HW := hid (waiting_disk_rd d S w h hops)
  have HK := hid hA.keys
  have HC := hid hA.counts
  have HO := hid hA.ops
  have HL := hid hA.len
  clear h hR hA
  go_enter Tryz.func20, Tryz.ntmps20
  go_wp2_with fail
  refine HW.out.mono ?_
  clear HW
  rintro e w1 ⟨v1, v2, rfl, hr1, hr2, hB1⟩
  obtain ⟨p1, c1, rfl, hi1⟩ := ints_of_row hr1
  have hlc : (waitKeys S.waits S.safe.length).length = (waitCounts S.waits S.safe.length).length := by simp [waitCounts]
  rw [hlc] at hr2
  obtain ⟨p2, c2, rfl, hi2⟩ := ints_of_row hr2
  rw [HK.out] at hi1
  rw [HC.out] at hi2
  rw [← hlc, HK.out]
  have HW2 := hid (rwaiting_any r fv lv vs Rd R w1 (HR.out.below hB1) hm hn)
  have HB1 := hid hB1
  have HI1 := hid hi1
  have HI2 := hid hi2
  clear hr1 hr2 hi1 hi2 hB1 hlc
  go_wp2_with fail
  refine HW2.out.mono ?_
  clear HW2
  rintro e w2 ⟨v3, v4, rfl, hr3, hr4, hB2⟩
  obtain ⟨p3, c3, rfl, hi3⟩ := ints_of_row hr3
  have hlc := length_rCounts (rWait R) R.first.length
  rw [← hlc] at hr4
  obtain ⟨p4, c4, rfl, hi4⟩ := ints_of_row hr4
  have hkl : (rKeys (rWait R) R.first.length).length < 4611686018427387904 := by have := length_rKeys (rWait R) R.first.length; omega
  have HI1h := hid (HI1.out.below hB2)
  have HI2h := hid (HI2.out.below hB2)
  have HI3 := hid hi3
  have HI4 := hid hi4
  have HB2 := hid (HB1.out.trans (hB2.mono HB1.out.size))
  have HLC := hid hlc
  clear hr3 hr4 hi3 hi4 hB2 HI1 HI2 HB1 hlc
  generalize rKeys (rWait R) R.first.length = ks at *
  generalize rCounts (rWait R) R.first.length = cs at *
  have hk1 := same_ints ks ks p1 p3 c1 c3 w2 HI1h.out HI3.out hkl
  rw [decide_eq_true rfl] at hk1
  have HK1 := hid hk1
  clear hk1
  go_wp2_with fail
  refine HK1.out.mono ?_
  clear HK1
  rintro e w3 ⟨rfl, hB3⟩
  have hk2 := same_ints cs cs p2 p4 c2 c4 w3 (HI2h.out.below hB3) (HI4.out.below hB3) (by rw [HLC.out]; exact hkl)
  rw [decide_eq_true rfl, HLC.out] at hk2
  have HK2 := hid hk2
  have HB3 := hid (HB2.out.trans (hB3.mono HB2.out.size))
  rw [HLC.out]
  clear hk2 hB3 HI1h HI2h HI3 HI4 HB2 HK HC HLC
  go_wp2_with fail
  refine HK2.out.mono ?_
  clear HK2
  rintro e w4 ⟨rfl, hB4⟩
  have HB4 := hid (HB3.out.trans (hB4.mono HB3.out.size))
  have hbw : Below w.heap.size w w4 := HB4.out
  have h4 := H.out.below hbw
  have hR4 := HR.out.below hbw
  have HOp := hid (ops_disk_rd d S w4 h4)
  have HOr := hid (rops_any r fv lv vs Rd R w4 hR4)
  have HIm := hid (image_disk_rd d S w4 h4)
  rw [HO.out] at HOp
  rw [HL.out] at HIm
  clear hB4 HB3 hbw h4 hR4
  go_wp2_with fail
  refine HOp.out.mono ?_
  clear HOp
  rintro e w9 ⟨rfl, h9⟩
  obtain rfl := h9.symm
  go_wp2_with fail
  refine HOr.out.mono ?_
  clear HOr
  rintro e w9 ⟨rfl, h9⟩
  obtain rfl := h9.symm
  go_wp2_with fail
  refine HIm.out.mono ?_
  clear HIm
  rintro e w5 ⟨g5, rfl, hr5, -, hB5⟩
  have HB5 := hid (HB4.out.trans (hB5.mono HB4.out.size))
  have HIr := hid (rimage_any r fv lv vs Rd R w5 (HR.out.below HB5.out) HA.out.ok hm)
  have HR5 := hid hr5
  clear hB5 HB4 hr5
  go_wp2_with fail
  refine HIr.out.mono ?_
  clear HIr
  rintro e w6 ⟨a6, c6, rfl, hr6, hB6⟩
  have HB6 := hid (HB5.out.trans (hB6.mono HB5.out.size))
  have hs6 := same_all (atL R R.l.length) (atL R R.l.length) (some ⟨g5, 0, none⟩) a6 R.first.length c6 w6 (by rw [← HA.out.img]; exact (HR5.out.below hB6).at) hr6.at (by rw [length_atL]; omega) (ok_bytesW (atL_512W HA.out.ok _))
  rw [decide_eq_true rfl, length_atL] at hs6
  have HS6 := hid hs6
  clear hs6 hB6 HB5 HR5 hr6
  go_wp2_with fail
  refine HS6.out.mono ?_
  clear HS6
  rintro e w7 ⟨rfl, hB7⟩
  have HB7 := hid (HB6.out.trans (hB7.mono HB6.out.size))
  have HSf := hid (safe_disk_rd d S w7 (H.out.below HB7.out))
  rw [HL.out] at HSf
  clear hB7 HB6
  go_wp2_with fail
  refine HSf.out.mono ?_
  clear HSf
  rintro e w8 ⟨g8, rfl, hr8, -, hB8⟩
  have HB8 := hid (HB7.out.trans (hB8.mono HB7.out.size))
  have HSr := hid (rsafe_any r fv lv vs Rd R w8 (HR.out.below HB8.out) HA.out.ok hm)
  have HR8 := hid hr8
  clear hB8 HB7 hr8
  go_wp2_with fail
  refine HSr.out.mono ?_
  clear HSr
  rintro e wa ⟨aa, ca, rfl, hra, hBa⟩
  have HBa := hid (HB8.out.trans (hBa.mono HB8.out.size))
  have hsa := same_all (atL R (flushedTo R.l R.l.length)) (atL R (flushedTo R.l R.l.length)) (some ⟨g8, 0, none⟩) aa R.first.length ca wa (by rw [← HA.out.safe]; exact (HR8.out.below hBa).at) hra.at (by rw [length_atL]; omega) (ok_bytesW (atL_512W HA.out.ok _))
  rw [decide_eq_true rfl, length_atL] at hsa
  have HSa := hid hsa
  clear hsa hBa HB8 HR8 hra
  go_wp2_with fail
  refine HSa.out.mono ?_
  clear HSa
  rintro e wb ⟨rfl, hBb⟩
  have HBb := hid (HBa.out.trans (hBb.mono HBa.out.size))
  clear hBb HBa
  go_wp2
  go_ret
  exact ⟨rfl, HBb.out⟩
end Go.Proofs.YtmnepbdbbdcllaaGreat
