/- AllocPlays: the walk. Written by mk_alloc.py. -/
import Derived.Test.YtkkmbgjlmdddoaaGreatBaseH
import Derived.Test.YtkkmbgjlmdddoaaGreatLDeeds
namespace Go.Proofs.YtkkmbgjlmdddoaaGreat
open Go.RowKit
set_option maxRecDepth 100000 in
set_option maxHeartbeats 8000000 in
theorem allocPlays_walk (pg : Int) (hg0 : 0 ≤ pg) (hg1 : pg < 256) (ino : Int) (ds : List LDeed) (a : Option Addr) (cp0 : Nat) (w : World) (hds : ldeedsAt w a ds) : Calls Tryz.prog 3 #[.int .u8 pg, .int .i64 ino, .slice a ds.length cp0] w fun e w' => e = .returned (.bool true) ∧ Below w.heap.size w w' := by
  have hD := hid hds
  obtain ⟨N, hN⟩ : ∃ N : Nat, N = (pg % 60 + 2).toNat := ⟨_, rfl⟩
  have hN' : pg % 60 + 2 = (N : Int) := by omega
  have hN1 : N ≤ 61 := by omega
  have hN2 : 2 ≤ N := by omega
  have HCa := hid (cached_any N 70 (by omega) (by omega) (by omega) w)
  clear hds hN
  go_enter Tryz.func3, Tryz.ntmps3
  go_wp2_with fail
  refine HCa.out.mono ?_
  clear HCa
  rintro e w1 ⟨c, F, rfl, hF, hp1, hb1⟩
  have HF := hid hF
  have HB1 := hid hb1
  have HMk := hid (amake_any ino hp1)
  clear hF hp1 hb1
  go_wp2_with fail
  refine HMk.out.mono ?_
  clear HMk
  rintro e w2 ⟨hk2, hx⟩
  rcases hx with ⟨hno, rfl, -⟩ | ⟨k, rfl, hmay, hx⟩
  · have HK2 : Hid (Below w.heap.size w w2) := HB1.out.trans (hk2.below HB1.out.size HF.out)
    have HMk := hid (v5Make_any N ino (by omega) w2)
    have HNo := hid hno
    clear hk2 hno HF HB1
    go_wp2_with fail
    refine HMk.out.mono ?_
    clear HMk
    rintro e w3 ⟨hb3, ⟨-, rfl⟩ | ⟨k, r, g, gi, -, h, -⟩⟩
    · have HB3 := hid (HK2.out.trans (hb3.mono HK2.out.size))
      clear hb3
      go_wp2_with fail
      refine (l5live_any w3).mono ?_
      rintro e w4 ⟨rfl, hb4⟩
      have HB4 := hid (HB3.out.trans (hb4.mono HB3.out.size))
      clear hb4
      go_wp2
      go_ret
      exact ⟨rfl, HB4.out⟩
    · exact absurd h HNo.out
  rcases hx with ⟨h, -⟩ | ⟨-, m, hm, hmF, hmb, rfl, hp2⟩
  · have hm2 := hmay
    unfold mayP at hm2
    rw [dkD_none] at h
    simp only [List.length_nil] at h
    omega
  have HSt := hid (fun W r g gi (hb : Below w2.heap.size w2 W) (h1 : w2.heap.size ≤ r) (h2 : w2.heap.size ≤ g) (h3 : w2.heap.size ≤ gi) (hR : R5In W r g N gi k (startB (3 + k / 8) N) (startB 1 k)) => PrAt.start HB1.out HF.out hk2 hmF hmb hp2 hb h1 h2 h3 hR hmay (by omega))
  have HMay := hid hmay
  have HMk := hid (v5Make_any N (k : Int) (by omega) w2)
  clear hk2 hmb hp2 hm hmF HB1 HF hmay
  go_wp2_with fail
  refine HMk.out.mono ?_
  clear HMk
  rintro e w3 ⟨hb3, ⟨h, -⟩ | ⟨k', r, g, gi, hk, -, rfl, hr, hg, hi, hR⟩⟩
  · exact absurd HMay.out h
  obtain rfl : k = k' := by omega
  have HP3 := hid (HSt.out w3 r g gi hb3 hr hg hi hR)
  clear HSt hb3 hr hg hi hR hk
  go_wp2_with fail
  refine (l5live_any w3).mono ?_
  rintro e w4 ⟨rfl, hb4⟩
  have HC4 : Hid (Calls Tryz.prog 13 #[.pointer (some ⟨c, 0, none⟩)] w4 fun e w' => e = .returned (.int .i64 0) ∧ PrAt w w' c m r (fun _ => False) 70 N k (startB (3 + k / 8) N) (startB 1 k) 0 (0 + 7)) := (HP3.out.below hb4).commit 7 (by have := HMay.out; unfold mayP at this; omega) (by omega)
  clear hb4 HP3 HMay
  go_wp2_with fail
  refine HC4.out.mono ?_
  clear HC4
  rintro e w5 ⟨rfl, hp5⟩
  have HP5 : Hid (PrTo w c m r (fun _ => False) 70 N k 0 7 w5) := ⟨_, _, hp5⟩
  clear hp5
  go_wp2
  go_loopw [14] (fun iv wr => ∃ j : Nat, j ≤ ds.length ∧ j ≤ 60 ∧ iv = .int .i64 j ∧ Hid (PrTo w c m r (fun _ => False) 70 N k 0 (7 + 2 * j) wr)) (fun iv _ => 60 - (intOf iv).toNat)
  case atStart => exact ⟨0, by omega, by omega, rfl, HP5⟩
  case round =>
    obtain ⟨j, hj1, hj2, rfl, HPj⟩ := hrel
    clear HP5
    by_cases hlt : j < ds.length ∧ j < 60
    · obtain ⟨hja, hjb⟩ := hlt
      have hj0 : (0 : Int) ≤ (j : Int) := by omega
      have hja' : (j : Int) < (ds.length : Int) := by omega
      have hjb' : (j : Int) < 60 := by omega
      obtain ⟨ab, ao, rfl, hdj⟩ := hD.out j hja
      obtain ⟨Lp, Li, hpj⟩ := HPj.out
      have hDj := hid ((hdj j hja).below hpj.out)
      obtain ⟨D, hDe⟩ : ∃ D, D = ds[j] := ⟨_, rfl⟩
      rw [← hDe] at hDj
      obtain ⟨dk, dn⟩ := D
      obtain ⟨q0, q1⟩ := hDj.out
      dsimp only at q0 q1
      have HDo := hid (l5do_any hpj dk dn (by omega) (by omega) (by omega))
      clear HPj hpj hdj hDe hDj
      go_wp2_with fail
      refine HDo.out.mono ?_
      clear HDo
      rintro e w6 ⟨rfl, hp6⟩
      have HP6 : Hid (PrTo w c m r (fun _ => False) 70 N k 0 (7 + 2 * (j + 1)) w6) := hp6
      clear hp6 q0 q1
      go_wp2
      exact ⟨⟨j + 1, by omega, by omega, by go_num, HP6⟩, by simp [intOf]; omega⟩
    · by_cases hg : j < ds.length
      · have hge : ((j : Int) < (ds.length : Int)) := by omega
        have hge2 : ¬ ((j : Int) < 60) := by omega
        clear hlt hg
        obtain ⟨Lp, Li, hpj⟩ := HPj.out
        have hkk := hpj.dims.2.2.1
        unfold mayP at hkk
        have hT1 := aTable_any hpj.mapAt (by omega) (k : Int)
        have hT2 := hpj.ref (fun g cp gi ci hr => v5Table_any hr (k : Int))
        rw [hpj.dims.2.1] at hT2
        rw [if_neg (fun h => by omega)] at hT1 hT2
        have HT1 := hid hT1
        have HT2 := hid hT2
        have HSm := hid (l5same_any hpj (by omega))
        clear HPj hpj hkk hT1 hT2
        go_wp2_with fail
        refine HT1.out.mono ?_
        clear HT1
        rintro e w10 ⟨rfl, h10⟩
        obtain rfl := h10.symm
        clear h10
        go_wp2_with fail
        refine HT2.out.mono ?_
        clear HT2
        rintro e w10 ⟨rfl, h10⟩
        obtain rfl := h10.symm
        clear h10
        go_wp2_with fail
        refine HSm.out.mono ?_
        clear HSm
        rintro e w16 ⟨rfl, hB⟩
        have HB := hid hB
        clear hB
        go_wp2
        go_ret
        exact ⟨rfl, HB.out⟩
      · have hge : ¬ ((j : Int) < (ds.length : Int)) := by omega
        clear hlt hg
        obtain ⟨Lp, Li, hpj⟩ := HPj.out
        have hkk := hpj.dims.2.2.1
        unfold mayP at hkk
        have hT1 := aTable_any hpj.mapAt (by omega) (k : Int)
        have hT2 := hpj.ref (fun g cp gi ci hr => v5Table_any hr (k : Int))
        rw [hpj.dims.2.1] at hT2
        rw [if_neg (fun h => by omega)] at hT1 hT2
        have HT1 := hid hT1
        have HT2 := hid hT2
        have HSm := hid (l5same_any hpj (by omega))
        clear HPj hpj hkk hT1 hT2
        go_wp2_with fail
        refine HT1.out.mono ?_
        clear HT1
        rintro e w10 ⟨rfl, h10⟩
        obtain rfl := h10.symm
        clear h10
        go_wp2_with fail
        refine HT2.out.mono ?_
        clear HT2
        rintro e w10 ⟨rfl, h10⟩
        obtain rfl := h10.symm
        clear h10
        go_wp2_with fail
        refine HSm.out.mono ?_
        clear HSm
        rintro e w16 ⟨rfl, hB⟩
        have HB := hid hB
        clear hB
        go_wp2
        go_ret
        exact ⟨rfl, HB.out⟩
end Go.Proofs.YtkkmbgjlmdddoaaGreat
