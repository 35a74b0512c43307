/- AllocAborts: the walk. Written by mk_alloc.py. -/
import Derived.Test.YtkkmbgjlmdddoaaGreatAAbortsP
import Derived.Test.YtkkmbgjlmdddoaaGreatBaseH
import Derived.Test.YtkkmbgjlmdddoaaGreatLDeeds
namespace Go.Proofs.YtkkmbgjlmdddoaaGreat
open Go.RowKit
set_option maxRecDepth 100000 in
set_option maxHeartbeats 8000000 in
theorem allocAborts_walk (ds : List LDeed) (a : Option Addr) (cp0 : Nat) (dm : List LDeed) (am : Option Addr) (cm0 : Nat) (w : World) (hds : ldeedsAt w a ds) (hdm : ldeedsAt w am dm) : Calls Tryz.prog 7 #[.slice a ds.length cp0, .slice am dm.length cm0] w fun e w' => e = .returned (.bool true) ∧ Below w.heap.size w w' := by
  have hD := hid hds
  have hM := hid hdm
  clear hds hdm
  go_enter Tryz.func7, Tryz.ntmps7
  go_wp2_with fail
  refine (cached_any 60 50 (by omega) (by omega) (by omega) w).mono ?_
  rintro e w1 ⟨c, F, rfl, hF, hp1, hb1⟩
  have HF := hid hF
  have HB1 := hid hb1
  have HMk := hid (amake_any 16 hp1)
  clear hF hp1 hb1
  go_wp2_with fail
  refine HMk.out.mono ?_
  clear HMk
  rintro e w2 ⟨hk2, hx⟩
  have hmay : mayP 60 ((16 : Nat) : Int) := by decide
  rcases hx with ⟨h, -⟩ | ⟨k0, hn, -, hx⟩
  · exact absurd hmay h
  obtain rfl : k0 = 16 := by omega
  rcases hx with ⟨h, -⟩ | ⟨-, m, hm, hmF, hmb, rfl, hp2⟩
  · rw [dkD_none] at h; exact absurd h (by decide)
  have HSt := hid (fun W r g gi (hb : Below w2.heap.size w2 W) (h1 : w2.heap.size ≤ r) (h2 : w2.heap.size ≤ g) (h3 : w2.heap.size ≤ gi) (hR : R5In W r g 60 gi 16 (startB (3 + 16 / 8) 60) (startB 1 16)) => PrAt.start HB1.out HF.out hk2 hmF hmb hp2 hb h1 h2 h3 hR hmay (by omega))
  have HMay := hid hmay
  clear hk2 hmb hp2 hn hm hmF HB1 HF hmay
  go_wp2_with fail
  refine (v5Make_any 60 16 (by omega) w2).mono ?_
  rintro e w3 ⟨hb3, ⟨h, -⟩ | ⟨k, r, g, gi, hk, -, rfl, hr, hg, hi, hR⟩⟩
  · exact absurd HMay.out h
  obtain rfl : k = 16 := by omega
  have HP3 := hid (HSt.out w3 r g gi hb3 hr hg hi hR)
  clear HSt hb3 hr hg hi hR HMay hk
  go_wp2_with fail
  refine (l5live_any w3).mono ?_
  rintro e w4 ⟨rfl, hb4⟩
  have HC4 := hid ((HP3.out.below hb4).commit 1 (by omega) (by omega))
  clear hb4 HP3
  go_wp2_with fail
  refine HC4.out.mono ?_
  clear HC4
  rintro e w5 ⟨rfl, hp5⟩
  have HP5 : Hid (PrTo w c m r (fun _ => False) 50 60 16 0 1 w5) := ⟨_, _, hp5⟩
  clear hp5
  go_wp2
  go_loopw [10] (fun iv wr => ∃ j : Nat, j ≤ ds.length ∧ j ≤ 30 ∧ iv = .int .i64 j ∧ Hid (PrTo w c m r (fun _ => False) 50 60 16 0 (1 + 2 * j) wr)) (fun iv _ => 30 - (intOf iv).toNat)
  case atStart => exact ⟨0, by omega, by omega, rfl, HP5⟩
  case round =>
    obtain ⟨j, hj1, hj2, rfl, HPj⟩ := hrel
    clear HP5
    by_cases hlt : j < ds.length ∧ j < 30
    · obtain ⟨hja, hjb⟩ := hlt
      have hj0 : (0 : Int) ≤ (j : Int) := by omega
      have hja' : (j : Int) < (ds.length : Int) := by omega
      have hjb' : (j : Int) < 30 := by omega
      obtain ⟨ab, ao, rfl, hdj⟩ := hD.out j hja
      obtain ⟨Lp, Li, hpj⟩ := HPj.out
      have hDj := hid ((hdj j hja).below hpj.out)
      obtain ⟨D, hDe⟩ : ∃ D, D = ds[j] := ⟨_, rfl⟩
      rw [← hDe] at hDj
      obtain ⟨dk, dn⟩ := D
      obtain ⟨q0, q1⟩ := hDj.out
      dsimp only at q0 q1
      have HDo := hid (l5do_any hpj dk dn (by omega) (by omega) (by omega))
      clear HPj hpj hdj hDe hDj
      go_wp2_with fail
      refine HDo.out.mono ?_
      clear HDo
      rintro e w6 ⟨rfl, hp6⟩
      have HP6 : Hid (PrTo w c m r (fun _ => False) 50 60 16 0 (1 + 2 * (j + 1)) w6) := hp6
      clear hp6 q0 q1
      go_wp2
      exact ⟨⟨j + 1, by omega, by omega, by go_num, HP6⟩, by simp [intOf]; omega⟩
    · by_cases hg : j < ds.length
      · have hge : ((j : Int) < (ds.length : Int)) := by omega
        have hge2 : ¬ ((j : Int) < 30) := by omega
        clear hlt hg
        have HA0 : Hid (Ab5 w wr c m r 50 60 16 70) := HPj.out.ab.more (by omega)
        clear HPj
        go_wp2
        go_loopw [11] (fun iv wr => ∃ i : Nat, i ≤ dm.length ∧ i ≤ 10 ∧ iv = .int .i64 i ∧ Hid (Ab5 w wr c m r 50 60 16 (70 + i))) (fun iv _ => 10 - (intOf iv).toNat)
        case atStart => exact ⟨0, by omega, by omega, rfl, HA0⟩
        case round =>
          obtain ⟨i, hi1, hi2, rfl, HAi⟩ := hrel
          clear HA0
          by_cases hlt : i < dm.length ∧ i < 10
          · obtain ⟨hia, hib⟩ := hlt
            have hi0 : (0 : Int) ≤ (i : Int) := by omega
            have hia' : (i : Int) < (dm.length : Int) := by omega
            have hib' : (i : Int) < 10 := by omega
            obtain ⟨mb, mo, rfl, hdi⟩ := hM.out i hia
            have hDi := hid ((hdi i hia).below HAi.out.out)
            obtain ⟨D, hDe⟩ : ∃ D, D = dm[i] := ⟨_, rfl⟩
            rw [← hDe] at hDi
            obtain ⟨dk, dn⟩ := D
            obtain ⟨q0, q1⟩ := hDi.out
            dsimp only at q0 q1
            clear hdi hDe hDi
            by_cases hk0 : dk = 0
            · subst hk0
              have HCl := hid (HAi.out.page (by omega))
              clear HAi
              go_wp2_with fail
              refine HCl.out.mono ?_
              clear HCl
              rintro e w20 ⟨xa, xb, rfl, h20⟩
              have H20 := hid h20
              clear h20 q0 q1
              go_wp2
              exact ⟨⟨i + 1, by omega, by omega, by go_num, H20⟩, by simp [intOf]; omega⟩
            · have hk0b : (dk == 0) = false := beq_eq_false_iff_ne.2 hk0
              by_cases hk1 : dk = 1
              · subst hk1
                clear hk0
                have HCl := hid (HAi.out.inode (by omega))
                clear HAi
                go_wp2_with fail
                refine HCl.out.mono ?_
                clear HCl
                rintro e w20 ⟨xa, xb, rfl, h20⟩
                have H20 := hid h20
                clear h20 q0 q1
                go_wp2
                exact ⟨⟨i + 1, by omega, by omega, by go_num, H20⟩, by simp [intOf]; omega⟩
              · have hk1b : (dk == 1) = false := beq_eq_false_iff_ne.2 hk1
                by_cases hk2 : dk = 2
                · subst hk2
                  clear hk0 hk1
                  have HCl := hid (HAi.out.giveP dn (by omega))
                  clear HAi
                  go_wp2_with fail
                  refine HCl.out.mono ?_
                  clear HCl
                  rintro e w20 ⟨xa, rfl, h20⟩
                  have H20 := hid h20
                  clear h20 q0 q1
                  go_wp2
                  exact ⟨⟨i + 1, by omega, by omega, by go_num, H20⟩, by simp [intOf]; omega⟩
                · have hk2b : (dk == 2) = false := beq_eq_false_iff_ne.2 hk2
                  by_cases hk3 : dk = 3
                  · subst hk3
                    clear hk0 hk1 hk2
                    have HCl := hid (HAi.out.giveI dn (by omega))
                    clear HAi
                    go_wp2_with fail
                    refine HCl.out.mono ?_
                    clear HCl
                    rintro e w20 ⟨xa, rfl, h20⟩
                    have H20 := hid h20
                    clear h20 q0 q1
                    go_wp2
                    exact ⟨⟨i + 1, by omega, by omega, by go_num, H20⟩, by simp [intOf]; omega⟩
                  · have hk3b : (dk == 3) = false := beq_eq_false_iff_ne.2 hk3
                    have HA2 := hid (HAi.out.more (show 70 + i ≤ 70 + (i + 1) by omega))
                    clear hk0 hk1 hk2 hk3 HAi
                    go_wp2
                    exact ⟨⟨i + 1, by omega, by omega, by go_num, HA2⟩, by simp [intOf]; omega⟩
          · by_cases hg : i < dm.length
            · have hgi : ((i : Int) < (dm.length : Int)) := by omega
              have hgi2 : ¬ ((i : Int) < 10) := by omega
              clear hlt hg
              have HAb := hid HAi.out.abort
              clear HAi
              go_wp2_with fail
              refine HAb.out.mono ?_
              clear HAb
              rintro e w21 ⟨⟨v21, rfl⟩, Lp, Li, hp21⟩
              have HSm := hid (l5same_any hp21 (by omega))
              clear hp21
              go_wp2_with fail
              refine HSm.out.mono ?_
              clear HSm
              rintro e w22 ⟨rfl, hB⟩
              have HB := hid hB
              clear hB
              go_wp2
              go_ret
              exact ⟨rfl, HB.out⟩
            · have hgi : ¬ ((i : Int) < (dm.length : Int)) := by omega
              clear hlt hg
              have HAb := hid HAi.out.abort
              clear HAi
              go_wp2_with fail
              refine HAb.out.mono ?_
              clear HAb
              rintro e w21 ⟨⟨v21, rfl⟩, Lp, Li, hp21⟩
              have HSm := hid (l5same_any hp21 (by omega))
              clear hp21
              go_wp2_with fail
              refine HSm.out.mono ?_
              clear HSm
              rintro e w22 ⟨rfl, hB⟩
              have HB := hid hB
              clear hB
              go_wp2
              go_ret
              exact ⟨rfl, HB.out⟩
      · have hge : ¬ ((j : Int) < (ds.length : Int)) := by omega
        clear hlt hg
        have HA0 : Hid (Ab5 w wr c m r 50 60 16 70) := HPj.out.ab.more (by omega)
        clear HPj
        go_wp2
        go_loopw [11] (fun iv wr => ∃ i : Nat, i ≤ dm.length ∧ i ≤ 10 ∧ iv = .int .i64 i ∧ Hid (Ab5 w wr c m r 50 60 16 (70 + i))) (fun iv _ => 10 - (intOf iv).toNat)
        case atStart => exact ⟨0, by omega, by omega, rfl, HA0⟩
        case round =>
          obtain ⟨i, hi1, hi2, rfl, HAi⟩ := hrel
          clear HA0
          by_cases hlt : i < dm.length ∧ i < 10
          · obtain ⟨hia, hib⟩ := hlt
            have hi0 : (0 : Int) ≤ (i : Int) := by omega
            have hia' : (i : Int) < (dm.length : Int) := by omega
            have hib' : (i : Int) < 10 := by omega
            obtain ⟨mb, mo, rfl, hdi⟩ := hM.out i hia
            have hDi := hid ((hdi i hia).below HAi.out.out)
            obtain ⟨D, hDe⟩ : ∃ D, D = dm[i] := ⟨_, rfl⟩
            rw [← hDe] at hDi
            obtain ⟨dk, dn⟩ := D
            obtain ⟨q0, q1⟩ := hDi.out
            dsimp only at q0 q1
            clear hdi hDe hDi
            by_cases hk0 : dk = 0
            · subst hk0
              have HCl := hid (HAi.out.page (by omega))
              clear HAi
              go_wp2_with fail
              refine HCl.out.mono ?_
              clear HCl
              rintro e w20 ⟨xa, xb, rfl, h20⟩
              have H20 := hid h20
              clear h20 q0 q1
              go_wp2
              exact ⟨⟨i + 1, by omega, by omega, by go_num, H20⟩, by simp [intOf]; omega⟩
            · have hk0b : (dk == 0) = false := beq_eq_false_iff_ne.2 hk0
              by_cases hk1 : dk = 1
              · subst hk1
                clear hk0
                have HCl := hid (HAi.out.inode (by omega))
                clear HAi
                go_wp2_with fail
                refine HCl.out.mono ?_
                clear HCl
                rintro e w20 ⟨xa, xb, rfl, h20⟩
                have H20 := hid h20
                clear h20 q0 q1
                go_wp2
                exact ⟨⟨i + 1, by omega, by omega, by go_num, H20⟩, by simp [intOf]; omega⟩
              · have hk1b : (dk == 1) = false := beq_eq_false_iff_ne.2 hk1
                by_cases hk2 : dk = 2
                · subst hk2
                  clear hk0 hk1
                  have HCl := hid (HAi.out.giveP dn (by omega))
                  clear HAi
                  go_wp2_with fail
                  refine HCl.out.mono ?_
                  clear HCl
                  rintro e w20 ⟨xa, rfl, h20⟩
                  have H20 := hid h20
                  clear h20 q0 q1
                  go_wp2
                  exact ⟨⟨i + 1, by omega, by omega, by go_num, H20⟩, by simp [intOf]; omega⟩
                · have hk2b : (dk == 2) = false := beq_eq_false_iff_ne.2 hk2
                  by_cases hk3 : dk = 3
                  · subst hk3
                    clear hk0 hk1 hk2
                    have HCl := hid (HAi.out.giveI dn (by omega))
                    clear HAi
                    go_wp2_with fail
                    refine HCl.out.mono ?_
                    clear HCl
                    rintro e w20 ⟨xa, rfl, h20⟩
                    have H20 := hid h20
                    clear h20 q0 q1
                    go_wp2
                    exact ⟨⟨i + 1, by omega, by omega, by go_num, H20⟩, by simp [intOf]; omega⟩
                  · have hk3b : (dk == 3) = false := beq_eq_false_iff_ne.2 hk3
                    have HA2 := hid (HAi.out.more (show 70 + i ≤ 70 + (i + 1) by omega))
                    clear hk0 hk1 hk2 hk3 HAi
                    go_wp2
                    exact ⟨⟨i + 1, by omega, by omega, by go_num, HA2⟩, by simp [intOf]; omega⟩
          · by_cases hg : i < dm.length
            · have hgi : ((i : Int) < (dm.length : Int)) := by omega
              have hgi2 : ¬ ((i : Int) < 10) := by omega
              clear hlt hg
              have HAb := hid HAi.out.abort
              clear HAi
              go_wp2_with fail
              refine HAb.out.mono ?_
              clear HAb
              rintro e w21 ⟨⟨v21, rfl⟩, Lp, Li, hp21⟩
              have HSm := hid (l5same_any hp21 (by omega))
              clear hp21
              go_wp2_with fail
              refine HSm.out.mono ?_
              clear HSm
              rintro e w22 ⟨rfl, hB⟩
              have HB := hid hB
              clear hB
              go_wp2
              go_ret
              exact ⟨rfl, HB.out⟩
            · have hgi : ¬ ((i : Int) < (dm.length : Int)) := by omega
              clear hlt hg
              have HAb := hid HAi.out.abort
              clear HAi
              go_wp2_with fail
              refine HAb.out.mono ?_
              clear HAb
              rintro e w21 ⟨⟨v21, rfl⟩, Lp, Li, hp21⟩
              have HSm := hid (l5same_any hp21 (by omega))
              clear hp21
              go_wp2_with fail
              refine HSm.out.mono ?_
              clear HSm
              rintro e w22 ⟨rfl, hB⟩
              have HB := hid hB
              clear hB
              go_wp2
              go_ret
              exact ⟨rfl, HB.out⟩
end Go.Proofs.YtkkmbgjlmdddoaaGreat
