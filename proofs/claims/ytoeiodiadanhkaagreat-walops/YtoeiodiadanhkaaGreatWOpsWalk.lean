/- The walk of WalOps. -/
import Derived.Test.YtoeiodiadanhkaaGreatWMid
import Derived.Test.YtoeiodiadanhkaaGreatBaseD
import Derived.Test.YtoeiodiadanhkaaGreatBaseA
namespace Go.Proofs.YtoeiodiadanhkaaGreat
open Go.RowKit
theorem waitKeys_none (f : Int → List ByteArray) (n : Nat) (h : f = fun _ => []) : waitKeys f n = [] := by
  subst h; simp [waitKeys]
set_option maxRecDepth 100000 in
set_option maxHeartbeats 2000000 in
theorem walOps_walk (x : Int) (hx0 : 0 ≤ x) (hx1 : x ≤ 255) (ds : List WDeed) (a : Option Addr) (c : Nat) (w : World) (hds : wdeedsAt w a ds) :
    Calls Tryz.prog 7 #[.int .u8 x, .slice a ds.length c] w fun e w' => e = .returned (.bool true) ∧ Below w.heap.size w w' := by
  obtain ⟨N, hN⟩ : ∃ N : Nat, (N : Int) = x % 20 + 1 := ⟨(x % 20 + 1).toNat, by omega⟩
  have hN1 : 1 ≤ N := by omega
  have hN2 : N ≤ 20 := by omega
  have hD := hid hds
  clear hds
  go_enter Tryz.func7, Tryz.ntmps7
  go_wp2_with fail
  rw [← hN, show (N : Int) + 12 = ((N + 12 : Nat) : Int) by omega]
  clear hN
  refine (wopen_ok (N + 12) N hN1 (by omega) (by omega) w).mono ?_
  rintro e w1 ⟨hb1, p, d1, q, r, fv, Rd, rfl, hp1, hL1, -, -⟩
  have HM1 := hid (Mid.start (by omega) (by omega) hL1 hb1)
  clear hb1 hL1 hp1
  go_wp2_with fail
  refine (wlive_any w1).mono ?_
  rintro e w2 ⟨rfl, hb2⟩
  have HM2 := hid (HM1.out.next hb2)
  clear hb2 HM1
  go_wp2
  go_loopw [9] (fun i wr => ∃ (k : Nat) (d : DL) (S : DiskS) (F : Nat → Prop), k ≤ ds.length ∧ k ≤ 12 ∧ i = .int .i64 k ∧ Hid (Mid w wr p d S N (N + 12) k F)) (fun i _ => 12 - (intOf i).toNat)
  case atStart => exact ⟨0, _, _, _, by omega, by omega, rfl, HM2⟩
  case round =>
    obtain ⟨k, d, S, F, hk1, hk2, rfl, hM⟩ := hrel
    clear HM2
    by_cases hlt : k < ds.length ∧ k < 12
    · obtain ⟨hka, hkb⟩ := hlt
      have hk0 : (0 : Int) ≤ (k : Int) := by omega
      have hka' : (k : Int) < (ds.length : Int) := by omega
      have hkb' : (k : Int) < 12 := by omega
      obtain ⟨ab, ao, rfl, hdk⟩ := hD.out k hka
      have hDk := hid (hdk k hka)
      obtain ⟨D, hDe⟩ : ∃ D, D = ds[k] := ⟨_, rfl⟩
      rw [← hDe] at hDk
      clear hdk hDe
      have HD1 := hid (log_disk wr hM.out.log (by have := hM.out.ops; omega))
      go_wp2_with fail
      refine HD1.out.mono ?_
      clear HD1
      rintro e w3 ⟨hb3, d3, rfl, hC3, -⟩
      have HO3 := hid (ops_disk_rd d3 S w3 hC3.rd)
      have HM3 := hid (hM.out.next hb3)
      clear hb3 hC3 hM
      go_wp2_with fail
      refine HO3.out.mono ?_
      clear HO3
      rintro e w9 ⟨rfl, h9⟩
      obtain rfl := h9.symm
      obtain ⟨q0, q1, q2, hin, -⟩ := hDk.out.below HM3.out.below
      have HDp := hid (deed_any D.s D.ns D.na D.nc D.x w3 hin)
      clear hin
      go_wp2_with fail
      refine HDp.out.mono ?_
      clear HDp
      rintro e w4 ⟨hb4, hd4⟩
      obtain ⟨pa, pc, bs, rfl, hps, hbs, -⟩ := deedAny_pages hd4
      obtain ⟨m, hm⟩ : ∃ m, m = min D.ns.length 102 := ⟨_, rfl⟩
      rw [← hm] at hps hbs ⊢
      have hm2 : m ≤ 102 := by omega
      have hM4 := HM3.out.next hb4
      have HCm := hid (commit_deed D.s D.ns m D.x bs pa pc w4 w3.heap.size hM4.log HM3.out.lt hb4.size (by rw [hM4.len]; omega) hps hbs (by have := hM4.ops; omega))
      have HM4 := hid hM4
      clear hb4 hd4 hps hbs hm hM4 HM3 q0 q1 q2
      obtain ⟨E, hE⟩ : ∃ E, E = comErr (pagesS S N) N (deedPs D.s D.ns bs m) := ⟨_, rfl⟩
      rw [← hE] at HCm
      have HE := hid hE
      clear hE
      go_wp2_with fail
      refine HCm.out.mono ?_
      clear HCm
      rintro e w5 ⟨rfl, d5, hL5, hK5⟩
      have hM5 := HM4.out.com (by omega) _ _ (length_rowX D.x) hL5 hK5
      have hops := comS_ops S N (deedPs D.s D.ns bs m) (rowX D.x)
      rw [length_deedPs, ← HE.out] at hops
      have HOps := hid hops
      have HM5 := hid hM5
      have hso := HM4.out.ops
      clear hL5 hK5 hM5 hops HM4
      obtain ⟨S5, hS5⟩ : ∃ S5, S5 = comS S N (deedPs D.s D.ns bs m) (rowX D.x) := ⟨_, rfl⟩
      rw [← hS5] at HM5 HOps
      clear hS5 HE
      generalize (fun i => F i ∨ (w4.heap.size ≤ i ∧ i < w5.heap.size)) = F5 at *
      have HW5 := hid (fun W hW => log_disk W (HM5.out.log.below (w' := W) hW) (by have := HM5.out.ops; omega))
      by_cases hok : E = 0 ∧ m ≠ 0
      · obtain ⟨hE0, hm0⟩ := hok
        have hops := HOps.out
        rw [if_pos ⟨hE0, hm0⟩] at hops
        have HOp5 := hid hops
        subst hE0
        have hm1 : (0 : Int) < (m : Int) := by omega
        clear HOps hops hm0
        go_wp2_with fail
        refine (HW5.out w5 (Below.refl _ _)).mono ?_
        rintro e w6 ⟨hb6, d6, rfl, hC6, -⟩
        have hwt := waiting_disk_rd d6 S5 w6 hC6.rd (by have := HM5.out.ops; unfold opsMax; omega)
        rw [waitKeys_none _ _ HM5.out.waits] at hwt
        have HWt := hid hwt
        have HB6 := hid hb6
        clear hwt hC6 hb6
        go_wp2_with fail
        refine HWt.out.mono ?_
        clear HWt
        rintro e w7 ⟨v1, v2, rfl, hr1, hr2, hb7⟩
        have HB7 := hid (HB6.out.trans (hb7.mono HB6.out.size))
        have hv1 : ∃ a1 c1, v1 = .slice a1 0 c1 := by
          rcases Joins.ownsRow_forms hr1 with ⟨rfl, -⟩ | ⟨g, cp, rfl⟩
          · exact ⟨none, 0, rfl⟩
          · exact ⟨some ⟨g, 0, none⟩, cp, rfl⟩
        obtain ⟨a1, c1, rfl⟩ := hv1
        clear hr1 hr2 hb7 HB6
        go_wp2_with fail
        refine (HW5.out w7 HB7.out).mono ?_
        clear HW5
        rintro e w8 ⟨hb8, d8, rfl, hC8, -⟩
        have hop := ops_disk_rd d8 S5 w8 hC8.rd
        rw [HOp5.out] at hop
        have HOp := hid hop
        have HM8 := hid ((HM5.out.next HB7.out).next hb8)
        clear hop hC8 hb8 HM5 HB7
        go_wp2_with fail
        refine HOp.out.mono ?_
        clear HOp
        rintro e w9 ⟨rfl, h9⟩
        obtain rfl := h9.symm
        have hso' : S.ops.length ≤ 3000 := by omega
        clear hso
        go_wp2
        exact ⟨⟨k + 1, _, S5, F5, by omega, by omega, by go_num, HM8⟩, by simp [intOf]; omega⟩
      · have hops := HOps.out
        rw [if_neg hok] at hops
        have HOp5 := hid hops
        clear HOps hops
        by_cases hE0 : E = 0
        · subst hE0
          obtain rfl : m = 0 := by omega
          clear hok
          go_wp2_with fail
          refine (HW5.out w5 (Below.refl _ _)).mono ?_
          rintro e w6 ⟨hb6, d6, rfl, hC6, -⟩
          have hwt := waiting_disk_rd d6 S5 w6 hC6.rd (by have := HM5.out.ops; unfold opsMax; omega)
          rw [waitKeys_none _ _ HM5.out.waits] at hwt
          have HWt := hid hwt
          have HB6 := hid hb6
          clear hwt hC6 hb6
          go_wp2_with fail
          refine HWt.out.mono ?_
          clear HWt
          rintro e w7 ⟨v1, v2, rfl, hr1, hr2, hb7⟩
          have HB7 := hid (HB6.out.trans (hb7.mono HB6.out.size))
          have hv1 : ∃ a1 c1, v1 = .slice a1 0 c1 := by
            rcases Joins.ownsRow_forms hr1 with ⟨rfl, -⟩ | ⟨g, cp, rfl⟩
            · exact ⟨none, 0, rfl⟩
            · exact ⟨some ⟨g, 0, none⟩, cp, rfl⟩
          obtain ⟨a1, c1, rfl⟩ := hv1
          clear hr1 hr2 hb7 HB6
          go_wp2_with fail
          refine (HW5.out w7 HB7.out).mono ?_
          clear HW5
          rintro e w8 ⟨hb8, d8, rfl, hC8, -⟩
          have hop := ops_disk_rd d8 S5 w8 hC8.rd
          rw [HOp5.out] at hop
          have HOp := hid hop
          have HM8 := hid ((HM5.out.next HB7.out).next hb8)
          clear hop hC8 hb8 HM5 HB7
          go_wp2_with fail
          refine HOp.out.mono ?_
          clear HOp
          rintro e w9 ⟨rfl, h9⟩
          obtain rfl := h9.symm
          have hso' : S.ops.length ≤ 3000 := by omega
          clear hso
          go_wp2
          exact ⟨⟨k + 1, _, S5, F5, by omega, by omega, by go_num, HM8⟩, by simp [intOf]; omega⟩
        · have hE1 : ((E : Int) == 0) = false := by rw [beq_eq_false_iff_ne]; exact hE0
          clear hok hE0
          go_wp2_with fail
          refine (HW5.out w5 (Below.refl _ _)).mono ?_
          rintro e w6 ⟨hb6, d6, rfl, hC6, -⟩
          have hwt := waiting_disk_rd d6 S5 w6 hC6.rd (by have := HM5.out.ops; unfold opsMax; omega)
          rw [waitKeys_none _ _ HM5.out.waits] at hwt
          have HWt := hid hwt
          have HB6 := hid hb6
          clear hwt hC6 hb6
          go_wp2_with fail
          refine HWt.out.mono ?_
          clear HWt
          rintro e w7 ⟨v1, v2, rfl, hr1, hr2, hb7⟩
          have HB7 := hid (HB6.out.trans (hb7.mono HB6.out.size))
          have hv1 : ∃ a1 c1, v1 = .slice a1 0 c1 := by
            rcases Joins.ownsRow_forms hr1 with ⟨rfl, -⟩ | ⟨g, cp, rfl⟩
            · exact ⟨none, 0, rfl⟩
            · exact ⟨some ⟨g, 0, none⟩, cp, rfl⟩
          obtain ⟨a1, c1, rfl⟩ := hv1
          clear hr1 hr2 hb7 HB6
          go_wp2_with fail
          refine (HW5.out w7 HB7.out).mono ?_
          clear HW5
          rintro e w8 ⟨hb8, d8, rfl, hC8, -⟩
          have hop := ops_disk_rd d8 S5 w8 hC8.rd
          rw [HOp5.out] at hop
          have HOp := hid hop
          have HM8 := hid ((HM5.out.next HB7.out).next hb8)
          clear hop hC8 hb8 HM5 HB7
          go_wp2_with fail
          refine HOp.out.mono ?_
          clear HOp
          rintro e w9 ⟨rfl, h9⟩
          obtain rfl := h9.symm
          have hso' : S.ops.length ≤ 3000 := by omega
          clear hso
          go_wp2
          exact ⟨⟨k + 1, _, S5, F5, by omega, by omega, by go_num, HM8⟩, by simp [intOf]; omega⟩
    · by_cases hg : k < ds.length
      · have hge : ((k : Int) < (ds.length : Int)) := by omega
        have hge2 : ¬ ((k : Int) < 12) := by omega
        clear hlt hg
        go_wp2
        go_ret
        exact ⟨rfl, hM.out.below⟩
      · have hge : ¬ ((k : Int) < (ds.length : Int)) := by omega
        clear hlt hg
        go_wp2
        go_ret
        exact ⟨rfl, hM.out.below⟩
end Go.Proofs.YtoeiodiadanhkaaGreat
