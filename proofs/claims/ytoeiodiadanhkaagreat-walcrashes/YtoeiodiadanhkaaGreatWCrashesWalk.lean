/- The walk of WalCrashes. -/
import Derived.Test.YtoeiodiadanhkaaGreatWCrashQ
import Derived.Test.YtoeiodiadanhkaaGreatWMid
import Derived.Test.YtoeiodiadanhkaaGreatWOpensWalk
namespace Go.Proofs.YtoeiodiadanhkaaGreat
open Go.RowKit
set_option maxRecDepth 100000 in
set_option maxHeartbeats 4000000 in
theorem walCrashes_walk (ds : List WDeed) (a : Option Addr) (c : Nat) (kx : Int) (hx0 : 0 ≤ kx) (hx1 : kx ≤ 65535) (ch : List UInt8) (ca : Option Addr) (cc : Nat) (w : World) (hds : wdeedsAt w a ds) (hlen : ds.length ≤ 9223372036854775807) (hcb : bytesIn w ca ch) (hch : ch.length ≤ 9223372036854775807) :
    Calls Tryz.prog 4 #[.slice a ds.length c, .int .u16 kx, .slice ca ch.length cc] w fun e w' => e = .returned (.bool true) ∧ Below w.heap.size w w' := by
  have hD := hid hds
  have HCB := hid hcb
  clear hds hcb
  rcases Nat.eq_zero_or_pos ds.length with h0 | hpos
  · rw [h0]
    clear h0 hD hlen
    go_enter Tryz.func4, Tryz.ntmps4
    go_wp2_with fail
    refine (wopen_ok 20 8 (by omega) (by omega) (by omega) w).mono ?_
    rintro e w1 ⟨hb1, p, d1, q, r, fv, Rd, rfl, -, -, -, -⟩
    have HB1 := hid hb1
    clear hb1
    go_wp2_with fail
    refine (wlive_any w1).mono ?_
    rintro e w2 ⟨rfl, hb2⟩
    have HB2 := hid (HB1.out.trans (hb2.mono HB1.out.size))
    clear hb2 HB1
    go_wp2_with fail
    refine (wlive_any w2).mono ?_
    rintro e w3 ⟨rfl, hb3⟩
    have HB3 := hid (HB2.out.trans (hb3.mono HB2.out.size))
    clear hb3 HB2
    go_wp2
    go_ret
    exact ⟨rfl, HB3.out⟩
  obtain ⟨n1, hn1⟩ : ∃ n1, ds.length = n1 + 1 := ⟨ds.length - 1, by omega⟩
  rw [hn1] at hlen ⊢
  have HLd := hid hn1
  have hnz : (((n1 : Int) + 1) == 0) = false := by rw [beq_eq_false_iff_ne]; omega
  clear hn1 hpos
  go_enter Tryz.func4, Tryz.ntmps4
  go_wp2_with fail
  refine (wopen_ok 20 8 (by omega) (by omega) (by omega) w).mono ?_
  rintro e w1 ⟨hb1, p, d1, q, r, fv, Rd, rfl, hp1, hL1, -, -⟩
  have HM1 := hid (Mid.start (by omega) (by omega) hL1 hb1)
  clear hb1 hL1 hp1
  go_wp2_with fail
  refine (wlive_any w1).mono ?_
  rintro e w2 ⟨rfl, hb2⟩
  have HM2 := hid (HM1.out.next hb2)
  clear hb2 HM1
  go_wp2
  go_loopw [10] (fun i wr => ∃ (k : Nat) (d : DL) (S : DiskS) (F : Nat → Prop), k ≤ n1 ∧ k ≤ 8 ∧ i = .int .i64 k ∧ Hid (Mid w wr p d S 8 20 k F)) (fun i _ => 8 - (intOf i).toNat)
  case atStart => exact ⟨0, _, _, _, by omega, by omega, rfl, HM2⟩
  case round =>
    obtain ⟨k, d, S, F, hk1, hk2, rfl, hM⟩ := hrel
    clear HM2
    by_cases hlt : k < n1 ∧ k < 8
    · obtain ⟨hka, hkb⟩ := hlt
      have hk0 : (0 : Int) ≤ (k : Int) := by omega
      have hka' : (k : Int) < (n1 : Int) := by omega
      have hkb' : (k : Int) < 8 := by omega
      have hkl : k < ds.length := by have := HLd.out; omega
      obtain ⟨ab, ao, rfl, hdk⟩ := hD.out k hkl
      have hDk := hid (hdk k hkl)
      obtain ⟨D, hDe⟩ : ∃ D, D = ds[k] := ⟨_, rfl⟩
      rw [← hDe] at hDk
      clear hdk hDe
      obtain ⟨q0, q1, q2, hin, -⟩ := hDk.out.below hM.out.below
      have HDp := hid (deed_any D.s D.ns D.na D.nc D.x wr hin)
      clear hin
      go_wp2_with fail
      refine HDp.out.mono ?_
      clear HDp
      rintro e w4 ⟨hb4, hd4⟩
      obtain ⟨pa, pc, bs, rfl, hps, hbs, -⟩ := deedAny_pages hd4
      obtain ⟨m, hm⟩ : ∃ m, m = min D.ns.length 102 := ⟨_, rfl⟩
      rw [← hm] at hps hbs ⊢
      have hM4 := hM.out.next hb4
      have HCm := hid (commit_deed D.s D.ns m D.x bs pa pc w4 wr.heap.size hM4.log hM.out.lt hb4.size (by rw [hM4.len]; omega) hps hbs (by have := hM4.ops; omega))
      have HM4 := hid hM4
      clear hb4 hd4 hps hbs hm hM4 hM q0 q1 q2
      go_wp2_with fail
      refine HCm.out.mono ?_
      clear HCm
      rintro e w5 ⟨rfl, d5, hL5, hK5⟩
      have HM5 := hid (HM4.out.com (by omega) _ _ (length_rowX D.x) hL5 hK5)
      clear hL5 hK5 HM4
      go_wp2
      exact ⟨⟨k + 1, _, _, _, by omega, by omega, by go_num, HM5⟩, by simp [intOf]; omega⟩
    · have hln : n1 < ds.length := by have := HLd.out; omega
      obtain ⟨ab, ao, rfl, hdk⟩ := hD.out n1 hln
      have hDk := hid (hdk n1 hln)
      obtain ⟨D, hDe⟩ : ∃ D, D = ds[n1] := ⟨_, rfl⟩
      rw [← hDe] at hDk
      clear hdk hDe
      have HFit : Hid (8 + 1 ≤ S.safe.length) := by unfold Hid; rw [hM.out.len]; omega
      have HA1 := hid (all_any wr hM.out.log HFit.out (fun n hn => hM.out.made.sec n hn))
      by_cases hg : k < n1
      · have hge : ((k : Int) < (n1 : Int)) := by omega
        have hge2 : ¬ ((k : Int) < 8) := by omega
        clear hlt hg
        go_wp2_with fail
        refine HA1.out.mono ?_
        clear HA1
        rintro e w3 ⟨hb3, a3, c3, rfl, hr3⟩
        have HM3 := hid (hM.out.next hb3)
        have HR3 := hid hr3
        have HFlt := hid hM.out.lt
        have HLen := hid (length_allL S 8)
        have HLens := hid (allL_lens hM.out.made 8 HFit.out)
        clear hb3 hr3 hM
        obtain ⟨LA, hLA⟩ : ∃ LA, LA = allL S 8 := ⟨_, rfl⟩
        rw [← hLA] at HR3 HLen HLens ⊢
        have HLA := hid hLA
        clear hLA
        have HD3 := hid (log_disk w3 HM3.out.log (by have := HM3.out.ops; omega))
        go_wp2_with fail
        refine HD3.out.mono ?_
        clear HD3
        rintro e w4 ⟨hb4, d4, rfl, hC4, -⟩
        have HO4 := hid (ops_disk_rd d4 S w4 hC4.rd)
        have HM4 := hid (HM3.out.next hb4)
        have HR4 := hid (HR3.out.below hb4)
        clear hb4 hC4 HM3 HR3
        go_wp2_with fail
        refine HO4.out.mono ?_
        clear HO4
        rintro e w9 ⟨rfl, h9⟩
        obtain rfl := h9.symm
        obtain ⟨q0, q1, q2, hin, -⟩ := hDk.out.below HM4.out.below
        have HDp := hid (deed_any D.s D.ns D.na D.nc D.x w4 hin)
        clear hin
        go_wp2_with fail
        refine HDp.out.mono ?_
        clear HDp
        rintro e w5 ⟨hb5, hd5⟩
        obtain ⟨pa, pc, bs, rfl, hps, hbs, -⟩ := deedAny_pages hd5
        obtain ⟨m, hm⟩ : ∃ m, m = min D.ns.length 102 := ⟨_, rfl⟩
        rw [← hm] at hps hbs ⊢
        have hM5 := HM4.out.next hb5
        have HCm := hid (commit_deed D.s D.ns m D.x bs pa pc w5 w4.heap.size hM5.log HM4.out.lt hb5.size (by rw [hM5.len]; omega) hps hbs (by have := hM5.ops; omega))
        have HM5 := hid hM5
        have HR5 := hid (HR4.out.below hb5)
        clear hb5 hd5 hps hbs hm hM5 HM4 q0 q1 q2 HR4
        go_wp2_with fail
        refine HCm.out.mono ?_
        clear HCm
        rintro e w6 ⟨rfl, d6, hL6, hK6⟩
        have HM6 := hid (HM5.out.com (by omega) _ _ (length_rowX D.x) hL6 hK6)
        have HR6 := hid (HR5.out.keep hK6 HFlt.out)
        have HMS := hid (And.intro HM5.out.made (And.intro HM5.out.waits (And.intro HM5.out.head (And.intro HM5.out.len HM5.out.ops))))
        clear hL6 hK6 HM5 HR5
        obtain ⟨T, hT⟩ : ∃ T, T = comS S 8 (deedPs D.s D.ns bs m) (rowX D.x) := ⟨_, rfl⟩
        rw [← hT] at HM6
        have HT := hid hT
        clear hT
        generalize (fun i => F i ∨ (w5.heap.size ≤ i ∧ i < w6.heap.size)) = F6 at *
        have HFit6 : Hid (8 + 1 ≤ T.safe.length) := by unfold Hid; rw [HM6.out.len]; omega
        have HA6 := hid (all_any w6 HM6.out.log HFit6.out (fun n hn => HM6.out.made.sec n hn))
        have HLenB := hid (length_allL T 8)
        have HLensB := hid (allL_lens HM6.out.made 8 HFit6.out)
        obtain ⟨LB, hLB⟩ : ∃ LB, LB = allL T 8 := ⟨_, rfl⟩
        rw [← hLB] at HA6 HLenB HLensB
        have HLB := hid hLB
        clear hLB
        go_wp2_with fail
        refine HA6.out.mono ?_
        clear HA6
        rintro e w7 ⟨hb7, a7, c7, rfl, hr7⟩
        have HM7 := hid (HM6.out.next hb7)
        have HR7 := hid hr7.at
        have HRA7 := hid (HR6.out.below hb7).at
        clear hb7 hr7 HM6 HR6
        have HD7 := hid (log_disk w7 HM7.out.log (by have := HM7.out.ops; omega))
        go_wp2_with fail
        refine HD7.out.mono ?_
        clear HD7
        rintro e w8 ⟨hb8, d8, rfl, hC8, -⟩
        have HC8 := hid hC8
        have HO8 := hid (fun W (hW : Below w8.heap.size w8 W) => ops_disk_rd d8 T W (hC8.rd.below hW))
        have HM8 := hid (HM7.out.next hb8)
        have HR8 := hid (HR7.out.below hb8)
        have HRA8 := hid (HRA7.out.below hb8)
        clear hb8 hC8 HM7 HR7 HRA7
        go_wp2_with fail
        refine (HO8.out w8 (Below.refl _ _)).mono ?_
        rintro e w9 ⟨rfl, h9⟩
        obtain rfl := h9.symm
        have hoS : S.ops.length ≤ 3000 := by have := HMS.out.2.2.2.2; omega
        have hoT : T.ops.length ≤ 3000 := by have := HM8.out.ops; omega
        have hoST : S.ops.length ≤ T.ops.length := by rw [HT.out, comS_ops]; omega
        have HCr := hid (fun q hq => wcrashed_any d8 T q ch ca cc w8 HC8.out hq (by omega) HM8.out.made.ok hch (HCB.out.below HM8.out.below))
        have HOpens := hid (fun r hr => crash_opens HMS.out.1 HMS.out.2.1 HMS.out.2.2.1 8 (deedPs D.s D.ns bs m) (rowX D.x) HFit.out (by rw [HMS.out.2.2.2.1]; omega) r hr ch)
        rw [← HT.out, ← HLA.out, ← HLB.out] at HOpens
        obtain ⟨oS, hoSe⟩ : ∃ oS, oS = S.ops.length := ⟨_, rfl⟩
        obtain ⟨oT, hoTe⟩ : ∃ oT, oT = T.ops.length := ⟨_, rfl⟩
        rw [← hoSe] at hoS hoST HOpens ⊢
        rw [← hoTe] at hoT hoST HOpens HCr HO8 ⊢
        clear hoSe hoTe HMS HC8
        have hmz : (oT : Int) - (oS : Int) + 1 ≠ 0 := by omega
        have hm0 : 0 ≤ kx % ((oT : Int) - (oS : Int) + 1) := Int.emod_nonneg kx hmz
        have hm1 : kx % ((oT : Int) - (oS : Int) + 1) < (oT : Int) - (oS : Int) + 1 := Int.emod_lt_of_pos kx (by omega)
        obtain ⟨r, hr⟩ : ∃ r : Nat, (r : Int) = kx % ((oT : Int) - (oS : Int) + 1) := ⟨(kx % ((oT : Int) - (oS : Int) + 1)).toNat, by omega⟩
        have HRr := hid hr
        have hm2 : kx % ((oT : Int) - (oS : Int) + 1) ≤ 65535 := by omega
        clear hr hm1
        go_wp2_with fail
        have hrT : oS + r ≤ oT := by
          have h1 := HRr.out
          have h2 := Int.emod_lt_of_pos kx (show 0 < (oT : Int) - (oS : Int) + 1 by omega)
          omega
        rw [← HRr.out, show (oS : Int) + (r : Int) = ((oS + r : Nat) : Int) by omega]
        obtain ⟨A, hAe⟩ : ∃ A, A = oS + r := ⟨_, rfl⟩
        rw [← hAe] at hrT ⊢
        obtain ⟨P, hOp, hP0, hPT, hPor⟩ := HOpens.out r (by rw [← hAe]; exact hrT)
        rw [← hAe] at hOp hPT
        have hA0 : A = oS → P = LA := fun h => hP0 (by omega)
        have HPs := hid (And.intro hA0 (And.intro hPT hPor))
        have HOp := hid hOp
        clear hm0 hm2 hmz HRr hAe hOp hP0 hPT hPor hA0 HOpens
        refine (HCr.out A hrT).mono ?_
        clear HCr
        rintro e w10 ⟨hb10, d10, rfl, hD10⟩
        have HM10 := hid (HM8.out.next hb10)
        have HB10 := hid hb10
        have hXl := crashed_len HM8.out.made A ch
        have HXm := hid (crashed_made HM8.out.made A ch)
        rw [HM8.out.len] at hXl
        have HXl := hid hXl
        obtain ⟨X, hX⟩ : ∃ X, X = crashedS T A ch := ⟨_, rfl⟩
        rw [← hX] at hD10 HXl HXm HOp
        have hXo : X.ops = [] := by rw [hX]; rfl
        have HOn := hid (open_any d10 X (fun i => d10.foot X.waits i) 8 w10 (.inr ⟨hD10, fun _ h => h⟩) (by rw [hXo]; decide) (by omega) (by rw [HXl.out]; omega) (fun n hn => HXm.out.sec n hn))
        clear hb10 hD10 hX hXo hXl HM8
        go_wp2_with fail
        refine HOn.out.mono ?_
        clear HOn
        rintro e w11 ⟨hb11, ho11⟩
        obtain ⟨ns, hns, hPe⟩ := HOp.out
        rcases ho11 with ⟨hno, -⟩ | ⟨ns2, p11, d11, hso, rfl, hp11, hL11⟩
        · rw [hns] at hno; cases hno
        obtain rfl : ns = ns2 := Option.some.inj (hns.symm.trans hso)
        obtain ⟨hf1, hf2, hf3⟩ := headNums_facts hns
        have hOm := HXm.out.opened 8 ns (by omega) hf2 hf3 (by rw [HXl.out]; omega)
        have hOl : (openS X 8 ns).safe.length = 20 := by rw [openS_len, HXl.out]
        have hA11 := all_any w11 hL11 (by rw [hOl]; omega) (fun n hn => hOm.sec n hn)
        have hPl := allL_lens hOm 8 (by rw [hOl]; omega)
        have hPn := length_allL (openS X 8 ns) 8
        rw [hPe] at hA11 hPl hPn
        have hPn2 : P.length ≤ 100 := by omega
        have HPl := hid hPl
        have HA11 := hid hA11
        have HB11 := hid (HB10.out.trans (hb11.mono HB10.out.size))
        have HM11 := hid (HM10.out.next hb11)
        clear hb11 hns hPe hso hL11 hp11 hf1 hf2 hf3 hOm hOl hA11 hPl hPn HM10 HB10 HXm HXl HOp
        go_wp2_with fail
        refine HA11.out.mono ?_
        clear HA11
        rintro e w12 ⟨hb12, a12, c12, rfl, hr12⟩
        have HB12 := hid (HB11.out.trans (hb12.mono HB11.out.size))
        have HM12 := hid (HM11.out.next hb12)
        have HRP := hid hr12.at
        have HRB := hid (HR8.out.below HB12.out)
        have HRA := hid (HRA8.out.below HB12.out)
        have HSB := hid (fun W (hW : Below w12.heap.size w12 W) => same_all P LB a12 a7 c12 c7 W (HRP.out.below hW) (HRB.out.below hW) (by omega) (fun l hl => by rw [HPl.out l hl]; decide))
        have HSA := hid (same_all P LA a12 a3 c12 c3 w12 HRP.out HRA.out (by omega) (fun l hl => by rw [HPl.out l hl]; decide))
        have HBw := hid HM12.out.below
        clear hb12 hr12 HM11 HB11 HM12 HR8 HRA8 HRP HRB HRA
        go_wp2_with fail
        refine (HO8.out w12 HB12.out).mono ?_
        clear HO8
        rintro e w9 ⟨rfl, h9⟩
        obtain rfl := h9.symm
        obtain ⟨hPa, hPb, hPo⟩ := HPs.out
        by_cases hAT : A = oT
        · have hcmp : ((A : Int) == (oT : Int)) = true := by rw [hAT]; exact beq_self_eq_true _
          have hsb := HSB.out w12 (Below.refl _ _)
          rw [decide_eq_true (hPb hAT)] at hsb
          have HSb := hid hsb
          clear hsb hAT hPa hPb hPo HPs HSA HSB
          go_wp2_with fail
          refine HSb.out.mono ?_
          clear HSb
          rintro e w13 ⟨rfl, hb13⟩
          have HB13 := hid (HBw.out.trans (hb13.mono HBw.out.size))
          clear hb13
          go_wp2
          go_ret
          exact ⟨rfl, HB13.out⟩
        · have hcmp : ((A : Int) == (oT : Int)) = false := by rw [beq_eq_false_iff_ne]; omega
          by_cases hAS : A = oS
          · have hcmp2 : ((A : Int) == (oS : Int)) = true := by rw [hAS]; exact beq_self_eq_true _
            have hsa := HSA.out
            rw [decide_eq_true (hPa hAS)] at hsa
            have HSa := hid hsa
            clear hsa hAT hAS hPa hPb hPo HPs HSA HSB
            go_wp2_with fail
            refine HSa.out.mono ?_
            clear HSa
            rintro e w13 ⟨rfl, hb13⟩
            have HB13 := hid (HBw.out.trans (hb13.mono HBw.out.size))
            clear hb13
            go_wp2
            go_ret
            exact ⟨rfl, HB13.out⟩
          · have hcmp2 : ((A : Int) == (oS : Int)) = false := by rw [beq_eq_false_iff_ne]; omega
            by_cases hPA : P = LA
            · have hsa := HSA.out
              rw [decide_eq_true hPA] at hsa
              have HSa := hid hsa
              clear hsa hAT hAS hPa hPb hPo HPs HSA HSB hPA
              go_wp2_with fail
              refine HSa.out.mono ?_
              clear HSa
              rintro e w13 ⟨rfl, hb13⟩
              have HB13 := hid (HBw.out.trans (hb13.mono HBw.out.size))
              clear hb13
              go_wp2
              go_ret
              exact ⟨rfl, HB13.out⟩
            · have hPB : P = LB := hPo.resolve_left hPA
              have hsa := HSA.out
              rw [decide_eq_false hPA] at hsa
              have HSa := hid hsa
              have HPB := hid hPB
              clear hsa hAT hAS hPa hPb hPo HPs HSA hPA hPB
              go_wp2_with fail
              refine HSa.out.mono ?_
              clear HSa
              rintro e w13 ⟨rfl, hb13⟩
              have hsb := HSB.out w13 hb13
              rw [decide_eq_true HPB.out] at hsb
              have HSb := hid hsb
              have HB13 := hid (HBw.out.trans (hb13.mono HBw.out.size))
              clear hb13 hsb HSB
              go_wp2_with fail
              refine HSb.out.mono ?_
              clear HSb
              rintro e w14 ⟨rfl, hb14⟩
              have HB14 := hid (HB13.out.trans (hb14.mono HB13.out.size))
              clear hb14
              go_wp2
              go_ret
              exact ⟨rfl, HB14.out⟩
      · have hge : ¬ ((k : Int) < (n1 : Int)) := by omega
        clear hlt hg
        go_wp2_with fail
        refine HA1.out.mono ?_
        clear HA1
        rintro e w3 ⟨hb3, a3, c3, rfl, hr3⟩
        have HM3 := hid (hM.out.next hb3)
        have HR3 := hid hr3
        have HFlt := hid hM.out.lt
        have HLen := hid (length_allL S 8)
        have HLens := hid (allL_lens hM.out.made 8 HFit.out)
        clear hb3 hr3 hM
        obtain ⟨LA, hLA⟩ : ∃ LA, LA = allL S 8 := ⟨_, rfl⟩
        rw [← hLA] at HR3 HLen HLens ⊢
        have HLA := hid hLA
        clear hLA
        have HD3 := hid (log_disk w3 HM3.out.log (by have := HM3.out.ops; omega))
        go_wp2_with fail
        refine HD3.out.mono ?_
        clear HD3
        rintro e w4 ⟨hb4, d4, rfl, hC4, -⟩
        have HO4 := hid (ops_disk_rd d4 S w4 hC4.rd)
        have HM4 := hid (HM3.out.next hb4)
        have HR4 := hid (HR3.out.below hb4)
        clear hb4 hC4 HM3 HR3
        go_wp2_with fail
        refine HO4.out.mono ?_
        clear HO4
        rintro e w9 ⟨rfl, h9⟩
        obtain rfl := h9.symm
        obtain ⟨q0, q1, q2, hin, -⟩ := hDk.out.below HM4.out.below
        have HDp := hid (deed_any D.s D.ns D.na D.nc D.x w4 hin)
        clear hin
        go_wp2_with fail
        refine HDp.out.mono ?_
        clear HDp
        rintro e w5 ⟨hb5, hd5⟩
        obtain ⟨pa, pc, bs, rfl, hps, hbs, -⟩ := deedAny_pages hd5
        obtain ⟨m, hm⟩ : ∃ m, m = min D.ns.length 102 := ⟨_, rfl⟩
        rw [← hm] at hps hbs ⊢
        have hM5 := HM4.out.next hb5
        have HCm := hid (commit_deed D.s D.ns m D.x bs pa pc w5 w4.heap.size hM5.log HM4.out.lt hb5.size (by rw [hM5.len]; omega) hps hbs (by have := hM5.ops; omega))
        have HM5 := hid hM5
        have HR5 := hid (HR4.out.below hb5)
        clear hb5 hd5 hps hbs hm hM5 HM4 q0 q1 q2 HR4
        go_wp2_with fail
        refine HCm.out.mono ?_
        clear HCm
        rintro e w6 ⟨rfl, d6, hL6, hK6⟩
        have HM6 := hid (HM5.out.com (by omega) _ _ (length_rowX D.x) hL6 hK6)
        have HR6 := hid (HR5.out.keep hK6 HFlt.out)
        have HMS := hid (And.intro HM5.out.made (And.intro HM5.out.waits (And.intro HM5.out.head (And.intro HM5.out.len HM5.out.ops))))
        clear hL6 hK6 HM5 HR5
        obtain ⟨T, hT⟩ : ∃ T, T = comS S 8 (deedPs D.s D.ns bs m) (rowX D.x) := ⟨_, rfl⟩
        rw [← hT] at HM6
        have HT := hid hT
        clear hT
        generalize (fun i => F i ∨ (w5.heap.size ≤ i ∧ i < w6.heap.size)) = F6 at *
        have HFit6 : Hid (8 + 1 ≤ T.safe.length) := by unfold Hid; rw [HM6.out.len]; omega
        have HA6 := hid (all_any w6 HM6.out.log HFit6.out (fun n hn => HM6.out.made.sec n hn))
        have HLenB := hid (length_allL T 8)
        have HLensB := hid (allL_lens HM6.out.made 8 HFit6.out)
        obtain ⟨LB, hLB⟩ : ∃ LB, LB = allL T 8 := ⟨_, rfl⟩
        rw [← hLB] at HA6 HLenB HLensB
        have HLB := hid hLB
        clear hLB
        go_wp2_with fail
        refine HA6.out.mono ?_
        clear HA6
        rintro e w7 ⟨hb7, a7, c7, rfl, hr7⟩
        have HM7 := hid (HM6.out.next hb7)
        have HR7 := hid hr7.at
        have HRA7 := hid (HR6.out.below hb7).at
        clear hb7 hr7 HM6 HR6
        have HD7 := hid (log_disk w7 HM7.out.log (by have := HM7.out.ops; omega))
        go_wp2_with fail
        refine HD7.out.mono ?_
        clear HD7
        rintro e w8 ⟨hb8, d8, rfl, hC8, -⟩
        have HC8 := hid hC8
        have HO8 := hid (fun W (hW : Below w8.heap.size w8 W) => ops_disk_rd d8 T W (hC8.rd.below hW))
        have HM8 := hid (HM7.out.next hb8)
        have HR8 := hid (HR7.out.below hb8)
        have HRA8 := hid (HRA7.out.below hb8)
        clear hb8 hC8 HM7 HR7 HRA7
        go_wp2_with fail
        refine (HO8.out w8 (Below.refl _ _)).mono ?_
        rintro e w9 ⟨rfl, h9⟩
        obtain rfl := h9.symm
        have hoS : S.ops.length ≤ 3000 := by have := HMS.out.2.2.2.2; omega
        have hoT : T.ops.length ≤ 3000 := by have := HM8.out.ops; omega
        have hoST : S.ops.length ≤ T.ops.length := by rw [HT.out, comS_ops]; omega
        have HCr := hid (fun q hq => wcrashed_any d8 T q ch ca cc w8 HC8.out hq (by omega) HM8.out.made.ok hch (HCB.out.below HM8.out.below))
        have HOpens := hid (fun r hr => crash_opens HMS.out.1 HMS.out.2.1 HMS.out.2.2.1 8 (deedPs D.s D.ns bs m) (rowX D.x) HFit.out (by rw [HMS.out.2.2.2.1]; omega) r hr ch)
        rw [← HT.out, ← HLA.out, ← HLB.out] at HOpens
        obtain ⟨oS, hoSe⟩ : ∃ oS, oS = S.ops.length := ⟨_, rfl⟩
        obtain ⟨oT, hoTe⟩ : ∃ oT, oT = T.ops.length := ⟨_, rfl⟩
        rw [← hoSe] at hoS hoST HOpens ⊢
        rw [← hoTe] at hoT hoST HOpens HCr HO8 ⊢
        clear hoSe hoTe HMS HC8
        have hmz : (oT : Int) - (oS : Int) + 1 ≠ 0 := by omega
        have hm0 : 0 ≤ kx % ((oT : Int) - (oS : Int) + 1) := Int.emod_nonneg kx hmz
        have hm1 : kx % ((oT : Int) - (oS : Int) + 1) < (oT : Int) - (oS : Int) + 1 := Int.emod_lt_of_pos kx (by omega)
        obtain ⟨r, hr⟩ : ∃ r : Nat, (r : Int) = kx % ((oT : Int) - (oS : Int) + 1) := ⟨(kx % ((oT : Int) - (oS : Int) + 1)).toNat, by omega⟩
        have HRr := hid hr
        have hm2 : kx % ((oT : Int) - (oS : Int) + 1) ≤ 65535 := by omega
        clear hr hm1
        go_wp2_with fail
        have hrT : oS + r ≤ oT := by
          have h1 := HRr.out
          have h2 := Int.emod_lt_of_pos kx (show 0 < (oT : Int) - (oS : Int) + 1 by omega)
          omega
        rw [← HRr.out, show (oS : Int) + (r : Int) = ((oS + r : Nat) : Int) by omega]
        obtain ⟨A, hAe⟩ : ∃ A, A = oS + r := ⟨_, rfl⟩
        rw [← hAe] at hrT ⊢
        obtain ⟨P, hOp, hP0, hPT, hPor⟩ := HOpens.out r (by rw [← hAe]; exact hrT)
        rw [← hAe] at hOp hPT
        have hA0 : A = oS → P = LA := fun h => hP0 (by omega)
        have HPs := hid (And.intro hA0 (And.intro hPT hPor))
        have HOp := hid hOp
        clear hm0 hm2 hmz HRr hAe hOp hP0 hPT hPor hA0 HOpens
        refine (HCr.out A hrT).mono ?_
        clear HCr
        rintro e w10 ⟨hb10, d10, rfl, hD10⟩
        have HM10 := hid (HM8.out.next hb10)
        have HB10 := hid hb10
        have hXl := crashed_len HM8.out.made A ch
        have HXm := hid (crashed_made HM8.out.made A ch)
        rw [HM8.out.len] at hXl
        have HXl := hid hXl
        obtain ⟨X, hX⟩ : ∃ X, X = crashedS T A ch := ⟨_, rfl⟩
        rw [← hX] at hD10 HXl HXm HOp
        have hXo : X.ops = [] := by rw [hX]; rfl
        have HOn := hid (open_any d10 X (fun i => d10.foot X.waits i) 8 w10 (.inr ⟨hD10, fun _ h => h⟩) (by rw [hXo]; decide) (by omega) (by rw [HXl.out]; omega) (fun n hn => HXm.out.sec n hn))
        clear hb10 hD10 hX hXo hXl HM8
        go_wp2_with fail
        refine HOn.out.mono ?_
        clear HOn
        rintro e w11 ⟨hb11, ho11⟩
        obtain ⟨ns, hns, hPe⟩ := HOp.out
        rcases ho11 with ⟨hno, -⟩ | ⟨ns2, p11, d11, hso, rfl, hp11, hL11⟩
        · rw [hns] at hno; cases hno
        obtain rfl : ns = ns2 := Option.some.inj (hns.symm.trans hso)
        obtain ⟨hf1, hf2, hf3⟩ := headNums_facts hns
        have hOm := HXm.out.opened 8 ns (by omega) hf2 hf3 (by rw [HXl.out]; omega)
        have hOl : (openS X 8 ns).safe.length = 20 := by rw [openS_len, HXl.out]
        have hA11 := all_any w11 hL11 (by rw [hOl]; omega) (fun n hn => hOm.sec n hn)
        have hPl := allL_lens hOm 8 (by rw [hOl]; omega)
        have hPn := length_allL (openS X 8 ns) 8
        rw [hPe] at hA11 hPl hPn
        have hPn2 : P.length ≤ 100 := by omega
        have HPl := hid hPl
        have HA11 := hid hA11
        have HB11 := hid (HB10.out.trans (hb11.mono HB10.out.size))
        have HM11 := hid (HM10.out.next hb11)
        clear hb11 hns hPe hso hL11 hp11 hf1 hf2 hf3 hOm hOl hA11 hPl hPn HM10 HB10 HXm HXl HOp
        go_wp2_with fail
        refine HA11.out.mono ?_
        clear HA11
        rintro e w12 ⟨hb12, a12, c12, rfl, hr12⟩
        have HB12 := hid (HB11.out.trans (hb12.mono HB11.out.size))
        have HM12 := hid (HM11.out.next hb12)
        have HRP := hid hr12.at
        have HRB := hid (HR8.out.below HB12.out)
        have HRA := hid (HRA8.out.below HB12.out)
        have HSB := hid (fun W (hW : Below w12.heap.size w12 W) => same_all P LB a12 a7 c12 c7 W (HRP.out.below hW) (HRB.out.below hW) (by omega) (fun l hl => by rw [HPl.out l hl]; decide))
        have HSA := hid (same_all P LA a12 a3 c12 c3 w12 HRP.out HRA.out (by omega) (fun l hl => by rw [HPl.out l hl]; decide))
        have HBw := hid HM12.out.below
        clear hb12 hr12 HM11 HB11 HM12 HR8 HRA8 HRP HRB HRA
        go_wp2_with fail
        refine (HO8.out w12 HB12.out).mono ?_
        clear HO8
        rintro e w9 ⟨rfl, h9⟩
        obtain rfl := h9.symm
        obtain ⟨hPa, hPb, hPo⟩ := HPs.out
        by_cases hAT : A = oT
        · have hcmp : ((A : Int) == (oT : Int)) = true := by rw [hAT]; exact beq_self_eq_true _
          have hsb := HSB.out w12 (Below.refl _ _)
          rw [decide_eq_true (hPb hAT)] at hsb
          have HSb := hid hsb
          clear hsb hAT hPa hPb hPo HPs HSA HSB
          go_wp2_with fail
          refine HSb.out.mono ?_
          clear HSb
          rintro e w13 ⟨rfl, hb13⟩
          have HB13 := hid (HBw.out.trans (hb13.mono HBw.out.size))
          clear hb13
          go_wp2
          go_ret
          exact ⟨rfl, HB13.out⟩
        · have hcmp : ((A : Int) == (oT : Int)) = false := by rw [beq_eq_false_iff_ne]; omega
          by_cases hAS : A = oS
          · have hcmp2 : ((A : Int) == (oS : Int)) = true := by rw [hAS]; exact beq_self_eq_true _
            have hsa := HSA.out
            rw [decide_eq_true (hPa hAS)] at hsa
            have HSa := hid hsa
            clear hsa hAT hAS hPa hPb hPo HPs HSA HSB
            go_wp2_with fail
            refine HSa.out.mono ?_
            clear HSa
            rintro e w13 ⟨rfl, hb13⟩
            have HB13 := hid (HBw.out.trans (hb13.mono HBw.out.size))
            clear hb13
            go_wp2
            go_ret
            exact ⟨rfl, HB13.out⟩
          · have hcmp2 : ((A : Int) == (oS : Int)) = false := by rw [beq_eq_false_iff_ne]; omega
            by_cases hPA : P = LA
            · have hsa := HSA.out
              rw [decide_eq_true hPA] at hsa
              have HSa := hid hsa
              clear hsa hAT hAS hPa hPb hPo HPs HSA HSB hPA
              go_wp2_with fail
              refine HSa.out.mono ?_
              clear HSa
              rintro e w13 ⟨rfl, hb13⟩
              have HB13 := hid (HBw.out.trans (hb13.mono HBw.out.size))
              clear hb13
              go_wp2
              go_ret
              exact ⟨rfl, HB13.out⟩
            · have hPB : P = LB := hPo.resolve_left hPA
              have hsa := HSA.out
              rw [decide_eq_false hPA] at hsa
              have HSa := hid hsa
              have HPB := hid hPB
              clear hsa hAT hAS hPa hPb hPo HPs HSA hPA hPB
              go_wp2_with fail
              refine HSa.out.mono ?_
              clear HSa
              rintro e w13 ⟨rfl, hb13⟩
              have hsb := HSB.out w13 hb13
              rw [decide_eq_true HPB.out] at hsb
              have HSb := hid hsb
              have HB13 := hid (HBw.out.trans (hb13.mono HBw.out.size))
              clear hb13 hsb HSB
              go_wp2_with fail
              refine HSb.out.mono ?_
              clear HSb
              rintro e w14 ⟨rfl, hb14⟩
              have HB14 := hid (HB13.out.trans (hb14.mono HB13.out.size))
              clear hb14
              go_wp2
              go_ret
              exact ⟨rfl, HB14.out⟩
end Go.Proofs.YtoeiodiadanhkaaGreat
