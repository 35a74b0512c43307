/- AllocFirst: the walk. Written by mk_afirst.py. -/
import Derived.Test.YtkkmbgjlmdddoabGreatAFirstP
import Derived.Test.YtkkmbgjlmdddoabGreatLDeeds
namespace Go.Proofs.YtkkmbgjlmdddoabGreat
open Go.RowKit
set_option maxRecDepth 100000 in
set_option maxHeartbeats 8000000 in
theorem allocFirst_walk (ds : List LDeed) (a : Option Addr) (cp0 : Nat) (w : World) (hds : ldeedsAt w a ds) : Calls Tryz.prog 4 #[.slice a ds.length cp0] w fun e w' => e = .returned (.bool true) ∧ Below w.heap.size w w' := by
  have hD := hid hds
  clear hds
  go_enter Tryz.func4, Tryz.ntmps4
  go_wp2_with fail
  refine (cached_any 60 50 (by omega) (by omega) (by omega) w).mono ?_
  rintro e w1 ⟨c, F, rfl, hF, hp1, hb1⟩
  have HF := hid hF
  have HB1 := hid hb1
  have HMk := hid (amake_any 16 hp1)
  clear hF hp1 hb1
  go_wp2_with fail
  refine HMk.out.mono ?_
  clear HMk
  rintro e w2 ⟨hk2, hx⟩
  have hmay : mayP 60 ((16 : Nat) : Int) := by decide
  rcases hx with ⟨h, -⟩ | ⟨k0, hn, -, hx⟩
  · exact absurd hmay h
  obtain rfl : k0 = 16 := by omega
  rcases hx with ⟨h, -⟩ | ⟨-, m, hm, hmF, hmb, rfl, hp2⟩
  · rw [dkD_none] at h; exact absurd h (by decide)
  have HSt := hid (fun W r g gi (hb : Below w2.heap.size w2 W) (h1 : w2.heap.size ≤ r) (h2 : w2.heap.size ≤ g) (h3 : w2.heap.size ≤ gi) (hR : R5In W r g 60 gi 16 (startB (3 + 16 / 8) 60) (startB 1 16)) => PrAt.start HB1.out HF.out hk2 hmF hmb hp2 hb h1 h2 h3 hR hmay (by omega))
  have HMay := hid hmay
  clear hk2 hmb hp2 hn hm hmF HB1 HF hmay
  go_wp2_with fail
  refine (v5Make_any 60 16 (by omega) w2).mono ?_
  rintro e w3 ⟨hb3, ⟨h, -⟩ | ⟨k, r, g, gi, hk, -, rfl, hr, hg, hi, hR⟩⟩
  · exact absurd HMay.out h
  obtain rfl : k = 16 := by omega
  have HP3 := hid (HSt.out w3 r g gi hb3 hr hg hi hR)
  clear HSt hb3 hr hg hi hR HMay hk
  go_wp2_with fail
  refine (l5live_any w3).mono ?_
  rintro e w4 ⟨rfl, hb4⟩
  have HC4 := hid ((HP3.out.below hb4).commit 1 (by omega) (by omega))
  clear hb4 HP3
  go_wp2_with fail
  refine HC4.out.mono ?_
  clear HC4
  rintro e w5 ⟨rfl, hp5⟩
  have HP5 : Hid (PrTo w c m r (fun _ => False) 50 60 16 0 1 w5) := ⟨_, _, hp5⟩
  clear hp5
  go_wp2
  go_loopw [8] (fun iv wr => ∃ j : Nat, j ≤ ds.length ∧ j ≤ 30 ∧ iv = .int .i64 j ∧ Hid (PrTo w c m r (fun _ => False) 50 60 16 0 (1 + 2 * j) wr)) (fun iv _ => 30 - (intOf iv).toNat)
  case atStart => exact ⟨0, by omega, by omega, rfl, HP5⟩
  case round =>
    obtain ⟨j, hj1, hj2, rfl, HPj⟩ := hrel
    clear HP5
    by_cases hlt : j < ds.length ∧ j < 30
    · obtain ⟨hja, hjb⟩ := hlt
      have hj0 : (0 : Int) ≤ (j : Int) := by omega
      have hja' : (j : Int) < (ds.length : Int) := by omega
      have hjb' : (j : Int) < 30 := by omega
      obtain ⟨ab, ao, rfl, hdj⟩ := hD.out j hja
      obtain ⟨Lp, Li, hpj⟩ := HPj.out
      have hDj := hid ((hdj j hja).below hpj.out)
      obtain ⟨D, hDe⟩ : ∃ D, D = ds[j] := ⟨_, rfl⟩
      rw [← hDe] at hDj
      obtain ⟨dk, dn⟩ := D
      obtain ⟨q0, q1⟩ := hDj.out
      dsimp only at q0 q1
      have HDo := hid (l5do_any hpj dk dn (by omega) (by omega) (by omega))
      clear HPj hpj hdj hDe hDj
      go_wp2_with fail
      refine HDo.out.mono ?_
      clear HDo
      rintro e w6 ⟨rfl, hp6⟩
      have HP6 : Hid (PrTo w c m r (fun _ => False) 50 60 16 0 (1 + 2 * (j + 1)) w6) := hp6
      clear hp6 q0 q1
      go_wp2
      exact ⟨⟨j + 1, by omega, by omega, by go_num, HP6⟩, by simp [intOf]; omega⟩
    · by_cases hg : j < ds.length
      · have hge : ((j : Int) < (ds.length : Int)) := by omega
        have hge2 : ¬ ((j : Int) < 30) := by omega
        clear hlt hg
        obtain ⟨Lp, Li, hpj⟩ := HPj.out
        have HLow := hid hpj.low
        have HFi : Hid (Calls Tryz.prog 16 #[.pointer (some ⟨m, 0, none⟩)] wr fun e w' => e = .returned (.int .i64 5) ∧ w' = wr) := hpj.firstM
        have HR0 := hid hpj
        clear HPj hpj
        go_wp2_with fail
        refine HFi.out.mono ?_
        clear HFi
        rintro e w10 ⟨rfl, h10⟩
        obtain rfl := h10.symm
        clear h10
        go_wp2
        go_loopw [9] (fun nv wr => ∃ n : Nat, 5 ≤ n ∧ n ≤ 60 ∧ nv = .int .i64 n ∧ Hid (∀ j (hj : j < Lp.length), j < n → Lp[j] = true) ∧ Hid (PrAt w wr c m r (fun _ => False) 50 60 16 Lp Li 0 (65 + n))) (fun nv _ => 60 - (intOf nv).toNat)
        case atStart => exact ⟨5, by omega, by omega, rfl, HLow.out.1, HR0.out.more (Nat.le_refl _) (by omega)⟩
        case round =>
          obtain ⟨n, hn1, hn2, rfl, HLn, HRn⟩ := hrel
          clear HR0
          by_cases hlt : n < 60
          · have hlt2 : (n : Int) < 60 := by omega
            have hU := HRn.out.used n (by omega)
            have hin : n < Lp.length := by rw [HRn.out.dims.1]; exact hlt
            rw [usedB_in hin] at hU
            have HU := hid hU
            clear hU HRn
            go_wp2_with fail
            refine HU.out.mono ?_
            clear HU
            rintro e w11 ⟨rfl, h11⟩
            cases hb : Lp[n] with
            | true =>
              have HLn2 : Hid (∀ j (hj : j < Lp.length), j < n + 1 → Lp[j] = true) := fun j hj hjn => by
                rcases Nat.lt_or_ge j n with h | h
                · exact HLn.out j hj h
                · obtain rfl : j = n := by omega
                  exact hb
              have H11 := hid h11
              clear h11 hb HLn hin
              go_wp2
              exact ⟨⟨n + 1, by omega, by omega, by go_num, HLn2, H11⟩, by simp [intOf]; omega⟩
            | false =>
              have HEn : Hid (EndAt5 Lp n) := .inr ⟨hin, hb, fun j hj => HLn.out j (by omega) hj⟩
              have HR := hid h11
              clear h11 hb HLn hin
              go_wp2
              go_loopw [10] (fun iv wr => ∃ i : Nat, 1 ≤ i ∧ i ≤ 16 ∧ iv = .int .i64 i ∧ Hid (∀ j (hj : j < Li.length), j < i → Li[j] = true) ∧ Hid (PrAt w wr c m r (fun _ => False) 50 60 16 Lp Li 0 (140 + i))) (fun iv _ => 16 - (intOf iv).toNat)
              case atStart => exact ⟨1, by omega, by omega, rfl, HLow.out.2, HR.out.more (Nat.le_refl _) (by omega)⟩
              case round =>
                obtain ⟨i, hi1, hi2, rfl, HLi, HRi⟩ := hrel
                clear HR
                by_cases hlt : i < 16
                · have hlt3 : (i : Int) < 16 := by omega
                  have hU := HRi.out.usedI i (by omega)
                  have hin : i < Li.length := by rw [HRi.out.dims.2.1]; exact hlt
                  rw [usedB_in hin] at hU
                  have HU := hid hU
                  clear hU HRi
                  go_wp2_with fail
                  refine HU.out.mono ?_
                  clear HU
                  rintro e w12 ⟨rfl, h12⟩
                  cases hb : Li[i] with
                  | true =>
                    have HLi2 : Hid (∀ j (hj : j < Li.length), j < i + 1 → Li[j] = true) := fun j hj hji => by
                      rcases Nat.lt_or_ge j i with h | h
                      · exact HLi.out j hj h
                      · obtain rfl : j = i := by omega
                        exact hb
                    have H12 := hid h12
                    clear h12 hb HLi hin
                    go_wp2
                    exact ⟨⟨i + 1, by omega, by omega, by go_num, HLi2, H12⟩, by simp [intOf]; omega⟩
                  | false =>
                    have HT := hid (h12.take2 (by omega) (by omega) n i HEn.out (.inr ⟨hin, hb, fun j hj => HLi.out j (by omega) hj⟩))
                    clear h12 hb HLi hin HEn HLow
                    go_wp2_with fail
                    refine HT.out.mono ?_
                    clear HT
                    rintro e w20 ⟨av, xv, rfl, hax, hc⟩
                    have HC := hid hc
                    clear hc
                    go_wp2_with fail
                    refine HC.out.mono ?_
                    clear HC
                    rintro e w21 ⟨bv, yv, rfl, hby, hB⟩
                    have HB := hid hB
                    clear hB
                    rcases hax with ⟨hx1, rfl⟩ | ⟨hx1, rfl, rfl⟩
                    · have hx2 : (n : Int) = 60 := by omega
                      rcases hby with ⟨hy1, rfl⟩ | ⟨hy1, rfl, rfl⟩
                      · have hy2 : (i : Int) = 16 := by omega
                        clear hx1 hy1
                        go_wp2
                        go_ret
                        exact ⟨rfl, HB.out⟩
                      · have hy2 : ¬ ((i : Int) = 16) := by omega
                        clear hx1 hy1
                        go_wp2
                        go_ret
                        exact ⟨rfl, HB.out⟩
                    · have hx2 : ¬ ((n : Int) = 60) := by omega
                      rcases hby with ⟨hy1, rfl⟩ | ⟨hy1, rfl, rfl⟩
                      · have hy2 : (i : Int) = 16 := by omega
                        clear hx1 hy1
                        go_wp2
                        go_ret
                        exact ⟨rfl, HB.out⟩
                      · have hy2 : ¬ ((i : Int) = 16) := by omega
                        clear hx1 hy1
                        go_wp2
                        go_ret
                        exact ⟨rfl, HB.out⟩
                · obtain rfl : i = 16 := by omega
                  have hlt3 : ¬ (((16 : Nat) : Int) < 16) := by omega
                  have hl16 := HRi.out.dims.2.1
                  have HT := hid (HRi.out.take2 (by omega) (by omega) n 16 HEn.out (.inl ⟨hl16.symm, fun j hj => HLi.out j hj (by omega)⟩))
                  obtain ⟨i, hi⟩ : ∃ i, i = 16 := ⟨_, rfl⟩
                  clear hl16 HRi HLi HEn HLow hlt hi1 hi2
                  rw [← hi] at HT
                  go_wp2_with fail
                  refine HT.out.mono ?_
                  clear HT
                  rintro e w20 ⟨av, xv, rfl, hax, hc⟩
                  have HC := hid hc
                  clear hc
                  go_wp2_with fail
                  refine HC.out.mono ?_
                  clear HC
                  rintro e w21 ⟨bv, yv, rfl, hby, hB⟩
                  have HB := hid hB
                  clear hB
                  rcases hax with ⟨hx1, rfl⟩ | ⟨hx1, rfl, rfl⟩
                  · have hx2 : (n : Int) = 60 := by omega
                    rcases hby with ⟨hy1, rfl⟩ | ⟨hy1, rfl, rfl⟩
                    · have hy2 : (i : Int) = 16 := by omega
                      clear hx1 hy1
                      go_wp2
                      go_ret
                      exact ⟨rfl, HB.out⟩
                    · have hy2 : ¬ ((i : Int) = 16) := by omega
                      clear hx1 hy1
                      go_wp2
                      go_ret
                      exact ⟨rfl, HB.out⟩
                  · have hx2 : ¬ ((n : Int) = 60) := by omega
                    rcases hby with ⟨hy1, rfl⟩ | ⟨hy1, rfl, rfl⟩
                    · have hy2 : (i : Int) = 16 := by omega
                      clear hx1 hy1
                      go_wp2
                      go_ret
                      exact ⟨rfl, HB.out⟩
                    · have hy2 : ¬ ((i : Int) = 16) := by omega
                      clear hx1 hy1
                      go_wp2
                      go_ret
                      exact ⟨rfl, HB.out⟩
          · have hlt2 : ¬ ((n : Int) < 60) := by omega
            have hl60 := HRn.out.dims.1
            have HEn : Hid (EndAt5 Lp n) := .inl ⟨by omega, fun j hj => HLn.out j hj (by omega)⟩
            have HR := HRn
            clear HRn HLn hl60
            go_wp2
            go_loopw [10] (fun iv wr => ∃ i : Nat, 1 ≤ i ∧ i ≤ 16 ∧ iv = .int .i64 i ∧ Hid (∀ j (hj : j < Li.length), j < i → Li[j] = true) ∧ Hid (PrAt w wr c m r (fun _ => False) 50 60 16 Lp Li 0 (140 + i))) (fun iv _ => 16 - (intOf iv).toNat)
            case atStart => exact ⟨1, by omega, by omega, rfl, HLow.out.2, HR.out.more (Nat.le_refl _) (by omega)⟩
            case round =>
              obtain ⟨i, hi1, hi2, rfl, HLi, HRi⟩ := hrel
              clear HR
              by_cases hlt : i < 16
              · have hlt3 : (i : Int) < 16 := by omega
                have hU := HRi.out.usedI i (by omega)
                have hin : i < Li.length := by rw [HRi.out.dims.2.1]; exact hlt
                rw [usedB_in hin] at hU
                have HU := hid hU
                clear hU HRi
                go_wp2_with fail
                refine HU.out.mono ?_
                clear HU
                rintro e w12 ⟨rfl, h12⟩
                cases hb : Li[i] with
                | true =>
                  have HLi2 : Hid (∀ j (hj : j < Li.length), j < i + 1 → Li[j] = true) := fun j hj hji => by
                    rcases Nat.lt_or_ge j i with h | h
                    · exact HLi.out j hj h
                    · obtain rfl : j = i := by omega
                      exact hb
                  have H12 := hid h12
                  clear h12 hb HLi hin
                  go_wp2
                  exact ⟨⟨i + 1, by omega, by omega, by go_num, HLi2, H12⟩, by simp [intOf]; omega⟩
                | false =>
                  have HT := hid (h12.take2 (by omega) (by omega) n i HEn.out (.inr ⟨hin, hb, fun j hj => HLi.out j (by omega) hj⟩))
                  clear h12 hb HLi hin HEn HLow
                  go_wp2_with fail
                  refine HT.out.mono ?_
                  clear HT
                  rintro e w20 ⟨av, xv, rfl, hax, hc⟩
                  have HC := hid hc
                  clear hc
                  go_wp2_with fail
                  refine HC.out.mono ?_
                  clear HC
                  rintro e w21 ⟨bv, yv, rfl, hby, hB⟩
                  have HB := hid hB
                  clear hB
                  rcases hax with ⟨hx1, rfl⟩ | ⟨hx1, rfl, rfl⟩
                  · have hx2 : (n : Int) = 60 := by omega
                    rcases hby with ⟨hy1, rfl⟩ | ⟨hy1, rfl, rfl⟩
                    · have hy2 : (i : Int) = 16 := by omega
                      clear hx1 hy1
                      go_wp2
                      go_ret
                      exact ⟨rfl, HB.out⟩
                    · have hy2 : ¬ ((i : Int) = 16) := by omega
                      clear hx1 hy1
                      go_wp2
                      go_ret
                      exact ⟨rfl, HB.out⟩
                  · have hx2 : ¬ ((n : Int) = 60) := by omega
                    rcases hby with ⟨hy1, rfl⟩ | ⟨hy1, rfl, rfl⟩
                    · have hy2 : (i : Int) = 16 := by omega
                      clear hx1 hy1
                      go_wp2
                      go_ret
                      exact ⟨rfl, HB.out⟩
                    · have hy2 : ¬ ((i : Int) = 16) := by omega
                      clear hx1 hy1
                      go_wp2
                      go_ret
                      exact ⟨rfl, HB.out⟩
              · obtain rfl : i = 16 := by omega
                have hlt3 : ¬ (((16 : Nat) : Int) < 16) := by omega
                have hl16 := HRi.out.dims.2.1
                have HT := hid (HRi.out.take2 (by omega) (by omega) n 16 HEn.out (.inl ⟨hl16.symm, fun j hj => HLi.out j hj (by omega)⟩))
                obtain ⟨i, hi⟩ : ∃ i, i = 16 := ⟨_, rfl⟩
                clear hl16 HRi HLi HEn HLow hlt hi1 hi2
                rw [← hi] at HT
                go_wp2_with fail
                refine HT.out.mono ?_
                clear HT
                rintro e w20 ⟨av, xv, rfl, hax, hc⟩
                have HC := hid hc
                clear hc
                go_wp2_with fail
                refine HC.out.mono ?_
                clear HC
                rintro e w21 ⟨bv, yv, rfl, hby, hB⟩
                have HB := hid hB
                clear hB
                rcases hax with ⟨hx1, rfl⟩ | ⟨hx1, rfl, rfl⟩
                · have hx2 : (n : Int) = 60 := by omega
                  rcases hby with ⟨hy1, rfl⟩ | ⟨hy1, rfl, rfl⟩
                  · have hy2 : (i : Int) = 16 := by omega
                    clear hx1 hy1
                    go_wp2
                    go_ret
                    exact ⟨rfl, HB.out⟩
                  · have hy2 : ¬ ((i : Int) = 16) := by omega
                    clear hx1 hy1
                    go_wp2
                    go_ret
                    exact ⟨rfl, HB.out⟩
                · have hx2 : ¬ ((n : Int) = 60) := by omega
                  rcases hby with ⟨hy1, rfl⟩ | ⟨hy1, rfl, rfl⟩
                  · have hy2 : (i : Int) = 16 := by omega
                    clear hx1 hy1
                    go_wp2
                    go_ret
                    exact ⟨rfl, HB.out⟩
                  · have hy2 : ¬ ((i : Int) = 16) := by omega
                    clear hx1 hy1
                    go_wp2
                    go_ret
                    exact ⟨rfl, HB.out⟩
      · have hge : ¬ ((j : Int) < (ds.length : Int)) := by omega
        clear hlt hg
        obtain ⟨Lp, Li, hpj⟩ := HPj.out
        have HLow := hid hpj.low
        have HFi : Hid (Calls Tryz.prog 16 #[.pointer (some ⟨m, 0, none⟩)] wr fun e w' => e = .returned (.int .i64 5) ∧ w' = wr) := hpj.firstM
        have HR0 := hid hpj
        clear HPj hpj
        go_wp2_with fail
        refine HFi.out.mono ?_
        clear HFi
        rintro e w10 ⟨rfl, h10⟩
        obtain rfl := h10.symm
        clear h10
        go_wp2
        go_loopw [9] (fun nv wr => ∃ n : Nat, 5 ≤ n ∧ n ≤ 60 ∧ nv = .int .i64 n ∧ Hid (∀ j (hj : j < Lp.length), j < n → Lp[j] = true) ∧ Hid (PrAt w wr c m r (fun _ => False) 50 60 16 Lp Li 0 (65 + n))) (fun nv _ => 60 - (intOf nv).toNat)
        case atStart => exact ⟨5, by omega, by omega, rfl, HLow.out.1, HR0.out.more (Nat.le_refl _) (by omega)⟩
        case round =>
          obtain ⟨n, hn1, hn2, rfl, HLn, HRn⟩ := hrel
          clear HR0
          by_cases hlt : n < 60
          · have hlt2 : (n : Int) < 60 := by omega
            have hU := HRn.out.used n (by omega)
            have hin : n < Lp.length := by rw [HRn.out.dims.1]; exact hlt
            rw [usedB_in hin] at hU
            have HU := hid hU
            clear hU HRn
            go_wp2_with fail
            refine HU.out.mono ?_
            clear HU
            rintro e w11 ⟨rfl, h11⟩
            cases hb : Lp[n] with
            | true =>
              have HLn2 : Hid (∀ j (hj : j < Lp.length), j < n + 1 → Lp[j] = true) := fun j hj hjn => by
                rcases Nat.lt_or_ge j n with h | h
                · exact HLn.out j hj h
                · obtain rfl : j = n := by omega
                  exact hb
              have H11 := hid h11
              clear h11 hb HLn hin
              go_wp2
              exact ⟨⟨n + 1, by omega, by omega, by go_num, HLn2, H11⟩, by simp [intOf]; omega⟩
            | false =>
              have HEn : Hid (EndAt5 Lp n) := .inr ⟨hin, hb, fun j hj => HLn.out j (by omega) hj⟩
              have HR := hid h11
              clear h11 hb HLn hin
              go_wp2
              go_loopw [10] (fun iv wr => ∃ i : Nat, 1 ≤ i ∧ i ≤ 16 ∧ iv = .int .i64 i ∧ Hid (∀ j (hj : j < Li.length), j < i → Li[j] = true) ∧ Hid (PrAt w wr c m r (fun _ => False) 50 60 16 Lp Li 0 (140 + i))) (fun iv _ => 16 - (intOf iv).toNat)
              case atStart => exact ⟨1, by omega, by omega, rfl, HLow.out.2, HR.out.more (Nat.le_refl _) (by omega)⟩
              case round =>
                obtain ⟨i, hi1, hi2, rfl, HLi, HRi⟩ := hrel
                clear HR
                by_cases hlt : i < 16
                · have hlt3 : (i : Int) < 16 := by omega
                  have hU := HRi.out.usedI i (by omega)
                  have hin : i < Li.length := by rw [HRi.out.dims.2.1]; exact hlt
                  rw [usedB_in hin] at hU
                  have HU := hid hU
                  clear hU HRi
                  go_wp2_with fail
                  refine HU.out.mono ?_
                  clear HU
                  rintro e w12 ⟨rfl, h12⟩
                  cases hb : Li[i] with
                  | true =>
                    have HLi2 : Hid (∀ j (hj : j < Li.length), j < i + 1 → Li[j] = true) := fun j hj hji => by
                      rcases Nat.lt_or_ge j i with h | h
                      · exact HLi.out j hj h
                      · obtain rfl : j = i := by omega
                        exact hb
                    have H12 := hid h12
                    clear h12 hb HLi hin
                    go_wp2
                    exact ⟨⟨i + 1, by omega, by omega, by go_num, HLi2, H12⟩, by simp [intOf]; omega⟩
                  | false =>
                    have HT := hid (h12.take2 (by omega) (by omega) n i HEn.out (.inr ⟨hin, hb, fun j hj => HLi.out j (by omega) hj⟩))
                    clear h12 hb HLi hin HEn HLow
                    go_wp2_with fail
                    refine HT.out.mono ?_
                    clear HT
                    rintro e w20 ⟨av, xv, rfl, hax, hc⟩
                    have HC := hid hc
                    clear hc
                    go_wp2_with fail
                    refine HC.out.mono ?_
                    clear HC
                    rintro e w21 ⟨bv, yv, rfl, hby, hB⟩
                    have HB := hid hB
                    clear hB
                    rcases hax with ⟨hx1, rfl⟩ | ⟨hx1, rfl, rfl⟩
                    · have hx2 : (n : Int) = 60 := by omega
                      rcases hby with ⟨hy1, rfl⟩ | ⟨hy1, rfl, rfl⟩
                      · have hy2 : (i : Int) = 16 := by omega
                        clear hx1 hy1
                        go_wp2
                        go_ret
                        exact ⟨rfl, HB.out⟩
                      · have hy2 : ¬ ((i : Int) = 16) := by omega
                        clear hx1 hy1
                        go_wp2
                        go_ret
                        exact ⟨rfl, HB.out⟩
                    · have hx2 : ¬ ((n : Int) = 60) := by omega
                      rcases hby with ⟨hy1, rfl⟩ | ⟨hy1, rfl, rfl⟩
                      · have hy2 : (i : Int) = 16 := by omega
                        clear hx1 hy1
                        go_wp2
                        go_ret
                        exact ⟨rfl, HB.out⟩
                      · have hy2 : ¬ ((i : Int) = 16) := by omega
                        clear hx1 hy1
                        go_wp2
                        go_ret
                        exact ⟨rfl, HB.out⟩
                · obtain rfl : i = 16 := by omega
                  have hlt3 : ¬ (((16 : Nat) : Int) < 16) := by omega
                  have hl16 := HRi.out.dims.2.1
                  have HT := hid (HRi.out.take2 (by omega) (by omega) n 16 HEn.out (.inl ⟨hl16.symm, fun j hj => HLi.out j hj (by omega)⟩))
                  obtain ⟨i, hi⟩ : ∃ i, i = 16 := ⟨_, rfl⟩
                  clear hl16 HRi HLi HEn HLow hlt hi1 hi2
                  rw [← hi] at HT
                  go_wp2_with fail
                  refine HT.out.mono ?_
                  clear HT
                  rintro e w20 ⟨av, xv, rfl, hax, hc⟩
                  have HC := hid hc
                  clear hc
                  go_wp2_with fail
                  refine HC.out.mono ?_
                  clear HC
                  rintro e w21 ⟨bv, yv, rfl, hby, hB⟩
                  have HB := hid hB
                  clear hB
                  rcases hax with ⟨hx1, rfl⟩ | ⟨hx1, rfl, rfl⟩
                  · have hx2 : (n : Int) = 60 := by omega
                    rcases hby with ⟨hy1, rfl⟩ | ⟨hy1, rfl, rfl⟩
                    · have hy2 : (i : Int) = 16 := by omega
                      clear hx1 hy1
                      go_wp2
                      go_ret
                      exact ⟨rfl, HB.out⟩
                    · have hy2 : ¬ ((i : Int) = 16) := by omega
                      clear hx1 hy1
                      go_wp2
                      go_ret
                      exact ⟨rfl, HB.out⟩
                  · have hx2 : ¬ ((n : Int) = 60) := by omega
                    rcases hby with ⟨hy1, rfl⟩ | ⟨hy1, rfl, rfl⟩
                    · have hy2 : (i : Int) = 16 := by omega
                      clear hx1 hy1
                      go_wp2
                      go_ret
                      exact ⟨rfl, HB.out⟩
                    · have hy2 : ¬ ((i : Int) = 16) := by omega
                      clear hx1 hy1
                      go_wp2
                      go_ret
                      exact ⟨rfl, HB.out⟩
          · have hlt2 : ¬ ((n : Int) < 60) := by omega
            have hl60 := HRn.out.dims.1
            have HEn : Hid (EndAt5 Lp n) := .inl ⟨by omega, fun j hj => HLn.out j hj (by omega)⟩
            have HR := HRn
            clear HRn HLn hl60
            go_wp2
            go_loopw [10] (fun iv wr => ∃ i : Nat, 1 ≤ i ∧ i ≤ 16 ∧ iv = .int .i64 i ∧ Hid (∀ j (hj : j < Li.length), j < i → Li[j] = true) ∧ Hid (PrAt w wr c m r (fun _ => False) 50 60 16 Lp Li 0 (140 + i))) (fun iv _ => 16 - (intOf iv).toNat)
            case atStart => exact ⟨1, by omega, by omega, rfl, HLow.out.2, HR.out.more (Nat.le_refl _) (by omega)⟩
            case round =>
              obtain ⟨i, hi1, hi2, rfl, HLi, HRi⟩ := hrel
              clear HR
              by_cases hlt : i < 16
              · have hlt3 : (i : Int) < 16 := by omega
                have hU := HRi.out.usedI i (by omega)
                have hin : i < Li.length := by rw [HRi.out.dims.2.1]; exact hlt
                rw [usedB_in hin] at hU
                have HU := hid hU
                clear hU HRi
                go_wp2_with fail
                refine HU.out.mono ?_
                clear HU
                rintro e w12 ⟨rfl, h12⟩
                cases hb : Li[i] with
                | true =>
                  have HLi2 : Hid (∀ j (hj : j < Li.length), j < i + 1 → Li[j] = true) := fun j hj hji => by
                    rcases Nat.lt_or_ge j i with h | h
                    · exact HLi.out j hj h
                    · obtain rfl : j = i := by omega
                      exact hb
                  have H12 := hid h12
                  clear h12 hb HLi hin
                  go_wp2
                  exact ⟨⟨i + 1, by omega, by omega, by go_num, HLi2, H12⟩, by simp [intOf]; omega⟩
                | false =>
                  have HT := hid (h12.take2 (by omega) (by omega) n i HEn.out (.inr ⟨hin, hb, fun j hj => HLi.out j (by omega) hj⟩))
                  clear h12 hb HLi hin HEn HLow
                  go_wp2_with fail
                  refine HT.out.mono ?_
                  clear HT
                  rintro e w20 ⟨av, xv, rfl, hax, hc⟩
                  have HC := hid hc
                  clear hc
                  go_wp2_with fail
                  refine HC.out.mono ?_
                  clear HC
                  rintro e w21 ⟨bv, yv, rfl, hby, hB⟩
                  have HB := hid hB
                  clear hB
                  rcases hax with ⟨hx1, rfl⟩ | ⟨hx1, rfl, rfl⟩
                  · have hx2 : (n : Int) = 60 := by omega
                    rcases hby with ⟨hy1, rfl⟩ | ⟨hy1, rfl, rfl⟩
                    · have hy2 : (i : Int) = 16 := by omega
                      clear hx1 hy1
                      go_wp2
                      go_ret
                      exact ⟨rfl, HB.out⟩
                    · have hy2 : ¬ ((i : Int) = 16) := by omega
                      clear hx1 hy1
                      go_wp2
                      go_ret
                      exact ⟨rfl, HB.out⟩
                  · have hx2 : ¬ ((n : Int) = 60) := by omega
                    rcases hby with ⟨hy1, rfl⟩ | ⟨hy1, rfl, rfl⟩
                    · have hy2 : (i : Int) = 16 := by omega
                      clear hx1 hy1
                      go_wp2
                      go_ret
                      exact ⟨rfl, HB.out⟩
                    · have hy2 : ¬ ((i : Int) = 16) := by omega
                      clear hx1 hy1
                      go_wp2
                      go_ret
                      exact ⟨rfl, HB.out⟩
              · obtain rfl : i = 16 := by omega
                have hlt3 : ¬ (((16 : Nat) : Int) < 16) := by omega
                have hl16 := HRi.out.dims.2.1
                have HT := hid (HRi.out.take2 (by omega) (by omega) n 16 HEn.out (.inl ⟨hl16.symm, fun j hj => HLi.out j hj (by omega)⟩))
                obtain ⟨i, hi⟩ : ∃ i, i = 16 := ⟨_, rfl⟩
                clear hl16 HRi HLi HEn HLow hlt hi1 hi2
                rw [← hi] at HT
                go_wp2_with fail
                refine HT.out.mono ?_
                clear HT
                rintro e w20 ⟨av, xv, rfl, hax, hc⟩
                have HC := hid hc
                clear hc
                go_wp2_with fail
                refine HC.out.mono ?_
                clear HC
                rintro e w21 ⟨bv, yv, rfl, hby, hB⟩
                have HB := hid hB
                clear hB
                rcases hax with ⟨hx1, rfl⟩ | ⟨hx1, rfl, rfl⟩
                · have hx2 : (n : Int) = 60 := by omega
                  rcases hby with ⟨hy1, rfl⟩ | ⟨hy1, rfl, rfl⟩
                  · have hy2 : (i : Int) = 16 := by omega
                    clear hx1 hy1
                    go_wp2
                    go_ret
                    exact ⟨rfl, HB.out⟩
                  · have hy2 : ¬ ((i : Int) = 16) := by omega
                    clear hx1 hy1
                    go_wp2
                    go_ret
                    exact ⟨rfl, HB.out⟩
                · have hx2 : ¬ ((n : Int) = 60) := by omega
                  rcases hby with ⟨hy1, rfl⟩ | ⟨hy1, rfl, rfl⟩
                  · have hy2 : (i : Int) = 16 := by omega
                    clear hx1 hy1
                    go_wp2
                    go_ret
                    exact ⟨rfl, HB.out⟩
                  · have hy2 : ¬ ((i : Int) = 16) := by omega
                    clear hx1 hy1
                    go_wp2
                    go_ret
                    exact ⟨rfl, HB.out⟩
end Go.Proofs.YtkkmbgjlmdddoabGreat
