/- AllocOpens: the walk. Written by mk_alloc.py. -/
import Derived.Test.YtkkmbgjlmdddoaaGreatAOpensP
import Derived.Test.YtkkmbgjlmdddoaaGreatBaseH
import Derived.Test.YtkkmbgjlmdddoaaGreatLDeeds
namespace Go.Proofs.YtkkmbgjlmdddoaaGreat
open Go.RowKit
set_option maxRecDepth 100000 in
set_option maxHeartbeats 8000000 in
theorem allocOpens_walk (ds : List LDeed) (a : Option Addr) (cp0 : Nat) (w : World) (hds : ldeedsAt w a ds) : Calls Tryz.prog 4 #[.slice a ds.length cp0] w fun e w' => e = .returned (.bool true) ∧ Below w.heap.size w w' := by
  have hD := hid hds
  clear hds
  go_enter Tryz.func4, Tryz.ntmps4
  go_wp2_with fail
  refine (cached_any 60 50 (by omega) (by omega) (by omega) w).mono ?_
  rintro e w1 ⟨c, F, rfl, hF, hp1, hb1⟩
  have HF := hid hF
  have HB1 := hid hb1
  have HMk := hid (amake_any 16 hp1)
  clear hF hp1 hb1
  go_wp2_with fail
  refine HMk.out.mono ?_
  clear HMk
  rintro e w2 ⟨hk2, hx⟩
  have hmay : mayP 60 ((16 : Nat) : Int) := by decide
  rcases hx with ⟨h, -⟩ | ⟨k0, hn, -, hx⟩
  · exact absurd hmay h
  obtain rfl : k0 = 16 := by omega
  rcases hx with ⟨h, -⟩ | ⟨-, m, hm, hmF, hmb, rfl, hp2⟩
  · rw [dkD_none] at h; exact absurd h (by decide)
  have HSt := hid (fun W r g gi (hb : Below w2.heap.size w2 W) (h1 : w2.heap.size ≤ r) (h2 : w2.heap.size ≤ g) (h3 : w2.heap.size ≤ gi) (hR : R5In W r g 60 gi 16 (startB (3 + 16 / 8) 60) (startB 1 16)) => PrAt.start HB1.out HF.out hk2 hmF hmb hp2 hb h1 h2 h3 hR hmay (by omega))
  have HMay := hid hmay
  clear hk2 hmb hp2 hn hm hmF HB1 HF hmay
  go_wp2_with fail
  refine (v5Make_any 60 16 (by omega) w2).mono ?_
  rintro e w3 ⟨hb3, ⟨h, -⟩ | ⟨k, r, g, gi, hk, -, rfl, hr, hg, hi, hR⟩⟩
  · exact absurd HMay.out h
  obtain rfl : k = 16 := by omega
  have HP3 := hid (HSt.out w3 r g gi hb3 hr hg hi hR)
  clear HSt hb3 hr hg hi hR HMay hk
  go_wp2_with fail
  refine (l5live_any w3).mono ?_
  rintro e w4 ⟨rfl, hb4⟩
  have HP5 : Hid (PrTo w c m r (fun _ => False) 50 60 16 5 1 w4) := ⟨_, _, (HP3.out.below hb4).more (by omega) (by omega)⟩
  clear hb4 HP3
  go_wp2
  go_loopw [8] (fun iv wr => ∃ j : Nat, j ≤ ds.length ∧ j ≤ 40 ∧ iv = .int .i64 j ∧ Hid (PrTo w c m r (fun _ => False) 50 60 16 5 (1 + 2 * j) wr)) (fun iv _ => 40 - (intOf iv).toNat)
  case atStart => exact ⟨0, by omega, by omega, rfl, HP5⟩
  case round =>
    obtain ⟨j, hj1, hj2, rfl, HPj⟩ := hrel
    clear HP5
    by_cases hlt : j < ds.length ∧ j < 40
    · obtain ⟨hja, hjb⟩ := hlt
      have hj0 : (0 : Int) ≤ (j : Int) := by omega
      have hja' : (j : Int) < (ds.length : Int) := by omega
      have hjb' : (j : Int) < 40 := by omega
      obtain ⟨ab, ao, rfl, hdj⟩ := hD.out j hja
      obtain ⟨Lp, Li, hpj⟩ := HPj.out
      have hDj := hid ((hdj j hja).below hpj.out)
      obtain ⟨D, hDe⟩ : ∃ D, D = ds[j] := ⟨_, rfl⟩
      rw [← hDe] at hDj
      obtain ⟨dk, dn⟩ := D
      obtain ⟨q0, q1⟩ := hDj.out
      dsimp only at q0 q1
      have HDo := hid (l5do_any hpj dk dn (by omega) (by omega) (by omega))
      clear HPj hpj hdj hDe hDj
      go_wp2_with fail
      refine HDo.out.mono ?_
      clear HDo
      rintro e w6 ⟨rfl, hp6⟩
      have HP6 : Hid (PrTo w c m r (fun _ => False) 50 60 16 5 (1 + 2 * (j + 1)) w6) := by obtain ⟨Lp6, Li6, hp7⟩ := hp6; exact ⟨Lp6, Li6, hp7.more (by omega) (by omega)⟩
      clear hp6 q0 q1
      go_wp2
      exact ⟨⟨j + 1, by omega, by omega, by go_num, HP6⟩, by simp [intOf]; omega⟩
    · by_cases hg : j < ds.length
      · have hge : ((j : Int) < (ds.length : Int)) := by omega
        have hge2 : ¬ ((j : Int) < 40) := by omega
        clear hlt hg
        obtain ⟨Lp, Li, hpj⟩ := HPj.out
        have HC := hid (hpj.commit 1 (by omega) (by omega))
        clear HPj hpj
        go_wp2_with fail
        refine HC.out.mono ?_
        clear HC
        rintro e w10 ⟨rfl, h10⟩
        obtain ⟨p, hl1, hl2⟩ := h10.again (by omega) (by omega) ino6016
        have HL1 := hid hl1
        have HL2 := hid hl2
        clear h10 hl1 hl2
        go_wp2_with fail
        refine HL1.out.mono ?_
        clear HL1
        rintro e w11 ⟨rfl, h11⟩
        obtain rfl := h11.symm
        clear h11
        go_wp2_with fail
        refine HL2.out.mono ?_
        clear HL2
        rintro e w12 ⟨q, rfl, hop⟩
        have HOp := hid hop
        clear hop
        go_wp2_with fail
        refine HOp.out.mono ?_
        clear HOp
        rintro e w13 ⟨s, rfl, hnw⟩
        have HNw := hid hnw
        clear hnw
        go_wp2_with fail
        refine HNw.out.mono ?_
        clear HNw
        rintro e w14 ⟨c5, rfl, hao⟩
        have HAo := hid hao
        clear hao
        go_wp2_with fail
        refine HAo.out.mono ?_
        clear HAo
        rintro e w15 ⟨m5, rfl, hp15⟩
        have HSm := hid (l5same_any hp15 (by omega))
        clear hp15
        go_wp2_with fail
        refine HSm.out.mono ?_
        clear HSm
        rintro e w16 ⟨rfl, hB⟩
        have HB := hid hB
        clear hB
        go_wp2
        go_ret
        exact ⟨rfl, HB.out⟩
      · have hge : ¬ ((j : Int) < (ds.length : Int)) := by omega
        clear hlt hg
        obtain ⟨Lp, Li, hpj⟩ := HPj.out
        have HC := hid (hpj.commit 1 (by omega) (by omega))
        clear HPj hpj
        go_wp2_with fail
        refine HC.out.mono ?_
        clear HC
        rintro e w10 ⟨rfl, h10⟩
        obtain ⟨p, hl1, hl2⟩ := h10.again (by omega) (by omega) ino6016
        have HL1 := hid hl1
        have HL2 := hid hl2
        clear h10 hl1 hl2
        go_wp2_with fail
        refine HL1.out.mono ?_
        clear HL1
        rintro e w11 ⟨rfl, h11⟩
        obtain rfl := h11.symm
        clear h11
        go_wp2_with fail
        refine HL2.out.mono ?_
        clear HL2
        rintro e w12 ⟨q, rfl, hop⟩
        have HOp := hid hop
        clear hop
        go_wp2_with fail
        refine HOp.out.mono ?_
        clear HOp
        rintro e w13 ⟨s, rfl, hnw⟩
        have HNw := hid hnw
        clear hnw
        go_wp2_with fail
        refine HNw.out.mono ?_
        clear HNw
        rintro e w14 ⟨c5, rfl, hao⟩
        have HAo := hid hao
        clear hao
        go_wp2_with fail
        refine HAo.out.mono ?_
        clear HAo
        rintro e w15 ⟨m5, rfl, hp15⟩
        have HSm := hid (l5same_any hp15 (by omega))
        clear hp15
        go_wp2_with fail
        refine HSm.out.mono ?_
        clear HSm
        rintro e w16 ⟨rfl, hB⟩
        have HB := hid hB
        clear hB
        go_wp2
        go_ret
        exact ⟨rfl, HB.out⟩
end Go.Proofs.YtkkmbgjlmdddoaaGreat
