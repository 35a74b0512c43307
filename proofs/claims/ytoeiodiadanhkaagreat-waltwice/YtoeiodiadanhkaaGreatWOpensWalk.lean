/- The walk of WalOpens. -/
import Derived.Test.YtoeiodiadanhkaaGreatWMid
import Derived.Test.YtoeiodiadanhkaaGreatWHead
import Derived.Test.YtoeiodiadanhkaaGreatAllP
import Derived.Test.YtoeiodiadanhkaaGreatBaseB
import Derived.Test.YtoeiodiadanhkaaGreatBaseD
namespace Go.Proofs.YtoeiodiadanhkaaGreat
open Go.RowKit
section
variable {p : Nat} {d : DL} {S : DiskS} {size rec : Nat} {F : Nat → Prop}
set_option maxRecDepth 100000 in
theorem log_recovered (w : World) (h : LogIn w p d S size rec F) : Calls Tryz.prog 22 #[.pointer (some ⟨p, 0, none⟩)] w fun e w' => e = .returned (.int .i64 rec) ∧ w' = w := by
  have c2 : w.cell? ⟨p, 2, none⟩ = some (.int .i64 rec) := cell_of_block h.heap 2
  clear h
  go_enter Tryz.func22, Tryz.ntmps22
  go_wp2
  go_ret
  exact ⟨rfl, rfl⟩
end
theorem allL_lens {S : DiskS} (h : Made S) (size : Nat) (hs : size + 1 ≤ S.safe.length) : ∀ l ∈ allL S size, l.length = 512 := fun l hl => by
  obtain ⟨i, hi, rfl⟩ := List.mem_iff_getElem.1 hl
  rw [allL_at]
  rw [length_allL] at hi
  exact h.sec _ (by unfold pagesS at hi; omega)
set_option maxRecDepth 100000 in
set_option maxHeartbeats 2000000 in
theorem walOpens_walk (x : Int) (hx0 : 0 ≤ x) (hx1 : x ≤ 255) (ds : List WDeed) (a : Option Addr) (c : Nat) (w : World) (hds : wdeedsAt w a ds) :
    Calls Tryz.prog 8 #[.int .u8 x, .slice a ds.length c] w fun e w' => e = .returned (.bool true) ∧ Below w.heap.size w w' := by
  obtain ⟨N, hN⟩ : ∃ N : Nat, (N : Int) = x % 20 + 1 := ⟨(x % 20 + 1).toNat, by omega⟩
  have hN1 : 1 ≤ N := by omega
  have hN2 : N ≤ 20 := by omega
  have hD := hid hds
  clear hds
  go_enter Tryz.func8, Tryz.ntmps8
  go_wp2_with fail
  rw [← hN, show (N : Int) + 12 = ((N + 12 : Nat) : Int) by omega]
  clear hN
  refine (wopen_ok (N + 12) N hN1 (by omega) (by omega) w).mono ?_
  rintro e w1 ⟨hb1, p, d1, q, r, fv, Rd, rfl, hp1, hL1, -, -⟩
  have HM1 := hid (Mid.start (by omega) (by omega) hL1 hb1)
  clear hb1 hL1 hp1
  go_wp2_with fail
  refine (wlive_any w1).mono ?_
  rintro e w2 ⟨rfl, hb2⟩
  have HM2 := hid (HM1.out.next hb2)
  clear hb2 HM1
  go_wp2
  go_loopw [9] (fun i wr => ∃ (k : Nat) (d : DL) (S : DiskS) (F : Nat → Prop), k ≤ ds.length ∧ k ≤ 12 ∧ i = .int .i64 k ∧ Hid (Mid w wr p d S N (N + 12) k F)) (fun i _ => 12 - (intOf i).toNat)
  case atStart => exact ⟨0, _, _, _, by omega, by omega, rfl, HM2⟩
  case round =>
    obtain ⟨k, d, S, F, hk1, hk2, rfl, hM⟩ := hrel
    clear HM2
    by_cases hlt : k < ds.length ∧ k < 12
    · obtain ⟨hka, hkb⟩ := hlt
      have hk0 : (0 : Int) ≤ (k : Int) := by omega
      have hka' : (k : Int) < (ds.length : Int) := by omega
      have hkb' : (k : Int) < 12 := by omega
      obtain ⟨ab, ao, rfl, hdk⟩ := hD.out k hka
      have hDk := hid (hdk k hka)
      obtain ⟨D, hDe⟩ : ∃ D, D = ds[k] := ⟨_, rfl⟩
      rw [← hDe] at hDk
      clear hdk hDe
      obtain ⟨q0, q1, q2, hin, -⟩ := hDk.out.below hM.out.below
      have HDp := hid (deed_any D.s D.ns D.na D.nc D.x wr hin)
      clear hin
      go_wp2_with fail
      refine HDp.out.mono ?_
      clear HDp
      rintro e w4 ⟨hb4, hd4⟩
      obtain ⟨pa, pc, bs, rfl, hps, hbs, -⟩ := deedAny_pages hd4
      obtain ⟨m, hm⟩ : ∃ m, m = min D.ns.length 102 := ⟨_, rfl⟩
      rw [← hm] at hps hbs ⊢
      have hM4 := hM.out.next hb4
      have HCm := hid (commit_deed D.s D.ns m D.x bs pa pc w4 wr.heap.size hM4.log hM.out.lt hb4.size (by rw [hM4.len]; omega) hps hbs (by have := hM4.ops; omega))
      have HM4 := hid hM4
      clear hb4 hd4 hps hbs hm hM4 hM q0 q1 q2
      go_wp2_with fail
      refine HCm.out.mono ?_
      clear HCm
      rintro e w5 ⟨rfl, d5, hL5, hK5⟩
      have HM5 := hid (HM4.out.com (by omega) _ _ (length_rowX D.x) hL5 hK5)
      clear hL5 hK5 HM4
      go_wp2
      exact ⟨⟨k + 1, _, _, _, by omega, by omega, by go_num, HM5⟩, by simp [intOf]; omega⟩
    · have HDk := hid (log_disk wr hM.out.log (by have := hM.out.ops; omega))
      by_cases hg : k < ds.length
      · have hge : ((k : Int) < (ds.length : Int)) := by omega
        have hge2 : ¬ ((k : Int) < 12) := by omega
        clear hlt hg
        go_wp2_with fail
        refine HDk.out.mono ?_
        clear HDk
        rintro e w3 ⟨hb3, d3, rfl, hC3, hf3⟩
        have hM3 := hM.out.next hb3
        have HM3 := hid hM3
        have hop := open_any d3 S (fun i => d3.cutFoot S.waits i) N w3 (.inl ⟨hC3, fun _ h => h⟩) (by have := hM3.ops; omega) hN1 (by rw [hM3.len]; omega) (fun n hn => hM3.made.sec n hn)
        have HOp := hid hop
        clear hb3 hC3 hf3 hop hM3 hM
        go_wp2_with fail
        refine HOp.out.mono ?_
        clear HOp
        rintro e w4 ⟨hb4, ho4⟩
        have hpm : pagesS S N ≤ 4096 := by unfold pagesS; rw [HM3.out.len]; omega
        rcases ho4 with ⟨hno, -⟩ | ⟨ns, p4, d4, hso, rfl, hp4, hL4⟩
        · rw [headNums_ok HM3.out.head hpm] at hno; cases hno
        rw [headNums_ok HM3.out.head hpm] at hso
        obtain rfl := Option.some.inj hso
        have hL4' : LogIn w4 p4 d4 S N 0 (fun i => w3.heap.size ≤ i ∧ i < p4) := hL4
        have HL4 := hid hL4'
        have HM4 := hid (HM3.out.next hb4)
        have HFit : Hid (N + 1 ≤ S.safe.length) := by unfold Hid; rw [HM3.out.len]; omega
        have HLens := hid (allL_lens HM3.out.made N HFit.out)
        have HLn : Hid ((allL S N).length ≤ 100) := by unfold Hid; rw [length_allL]; omega
        have HA1 := hid (all_any w4 HM4.out.log HFit.out (fun n hn => HM4.out.made.sec n hn))
        have HA2 := hid (fun W (hW : Below w4.heap.size w4 W) => all_any W (HL4.out.below hW) HFit.out (fun n hn => HM4.out.made.sec n hn))
        have HRc := hid (fun W (hW : Below w4.heap.size w4 W) => log_recovered W (HL4.out.below hW))
        have HB4 := hid HM4.out.below
        clear hb4 hso hL4 hL4' HM3 hpm HM4 HL4
        generalize allL S N = L at *
        go_wp2_with fail
        refine HA1.out.mono ?_
        clear HA1
        rintro e w5 ⟨hb5, a5, c5, rfl, hr5⟩
        have HB5 := hid hb5
        have HR5 := hid hr5.at
        clear hb5 hr5
        go_wp2_with fail
        refine (HA2.out w5 HB5.out).mono ?_
        clear HA2
        rintro e w6 ⟨hb6, a6, c6, rfl, hr6⟩
        have hsa := same_all L L a5 a6 c5 c6 w6 (HR5.out.below hb6) hr6.at (by have := HLn.out; omega) (fun l hl => by rw [HLens.out l hl]; decide)
        rw [decide_eq_true rfl] at hsa
        have HSa := hid hsa
        have HB6 := hid (HB5.out.trans (hb6.mono HB5.out.size))
        clear hb6 hr6 hsa HR5 HB5
        go_wp2_with fail
        refine HSa.out.mono ?_
        clear HSa
        rintro e w7 ⟨rfl, hb7⟩
        have HB7 := hid (HB6.out.trans (hb7.mono HB6.out.size))
        clear hb7 HB6
        go_wp2_with fail
        refine (HRc.out w7 HB7.out).mono ?_
        clear HRc
        rintro e w9 ⟨rfl, h9⟩
        obtain rfl := h9.symm
        go_wp2
        go_ret
        exact ⟨rfl, HB4.out.trans (HB7.out.mono HB4.out.size)⟩
      · have hge : ¬ ((k : Int) < (ds.length : Int)) := by omega
        clear hlt hg
        go_wp2_with fail
        refine HDk.out.mono ?_
        clear HDk
        rintro e w3 ⟨hb3, d3, rfl, hC3, hf3⟩
        have hM3 := hM.out.next hb3
        have HM3 := hid hM3
        have hop := open_any d3 S (fun i => d3.cutFoot S.waits i) N w3 (.inl ⟨hC3, fun _ h => h⟩) (by have := hM3.ops; omega) hN1 (by rw [hM3.len]; omega) (fun n hn => hM3.made.sec n hn)
        have HOp := hid hop
        clear hb3 hC3 hf3 hop hM3 hM
        go_wp2_with fail
        refine HOp.out.mono ?_
        clear HOp
        rintro e w4 ⟨hb4, ho4⟩
        have hpm : pagesS S N ≤ 4096 := by unfold pagesS; rw [HM3.out.len]; omega
        rcases ho4 with ⟨hno, -⟩ | ⟨ns, p4, d4, hso, rfl, hp4, hL4⟩
        · rw [headNums_ok HM3.out.head hpm] at hno; cases hno
        rw [headNums_ok HM3.out.head hpm] at hso
        obtain rfl := Option.some.inj hso
        have hL4' : LogIn w4 p4 d4 S N 0 (fun i => w3.heap.size ≤ i ∧ i < p4) := hL4
        have HL4 := hid hL4'
        have HM4 := hid (HM3.out.next hb4)
        have HFit : Hid (N + 1 ≤ S.safe.length) := by unfold Hid; rw [HM3.out.len]; omega
        have HLens := hid (allL_lens HM3.out.made N HFit.out)
        have HLn : Hid ((allL S N).length ≤ 100) := by unfold Hid; rw [length_allL]; omega
        have HA1 := hid (all_any w4 HM4.out.log HFit.out (fun n hn => HM4.out.made.sec n hn))
        have HA2 := hid (fun W (hW : Below w4.heap.size w4 W) => all_any W (HL4.out.below hW) HFit.out (fun n hn => HM4.out.made.sec n hn))
        have HRc := hid (fun W (hW : Below w4.heap.size w4 W) => log_recovered W (HL4.out.below hW))
        have HB4 := hid HM4.out.below
        clear hb4 hso hL4 hL4' HM3 hpm HM4 HL4
        generalize allL S N = L at *
        go_wp2_with fail
        refine HA1.out.mono ?_
        clear HA1
        rintro e w5 ⟨hb5, a5, c5, rfl, hr5⟩
        have HB5 := hid hb5
        have HR5 := hid hr5.at
        clear hb5 hr5
        go_wp2_with fail
        refine (HA2.out w5 HB5.out).mono ?_
        clear HA2
        rintro e w6 ⟨hb6, a6, c6, rfl, hr6⟩
        have hsa := same_all L L a5 a6 c5 c6 w6 (HR5.out.below hb6) hr6.at (by have := HLn.out; omega) (fun l hl => by rw [HLens.out l hl]; decide)
        rw [decide_eq_true rfl] at hsa
        have HSa := hid hsa
        have HB6 := hid (HB5.out.trans (hb6.mono HB5.out.size))
        clear hb6 hr6 hsa HR5 HB5
        go_wp2_with fail
        refine HSa.out.mono ?_
        clear HSa
        rintro e w7 ⟨rfl, hb7⟩
        have HB7 := hid (HB6.out.trans (hb7.mono HB6.out.size))
        clear hb7 HB6
        go_wp2_with fail
        refine (HRc.out w7 HB7.out).mono ?_
        clear HRc
        rintro e w9 ⟨rfl, h9⟩
        obtain rfl := h9.symm
        go_wp2
        go_ret
        exact ⟨rfl, HB4.out.trans (HB7.out.mono HB4.out.size)⟩
end Go.Proofs.YtoeiodiadanhkaaGreat
