/- The walk of WalBroken. -/
import Derived.Test.YtmnepbdbbdcllaaGreatWBrokenP
import Derived.Test.YtmnepbdbbdcllaaGreatSameW
import Derived.Test.YtmnepbdbbdcllaaGreatWPlaysWalk
namespace Go.Proofs.YtmnepbdbbdcllaaGreat
open Go.RowKit
set_option maxRecDepth 100000 in
set_option maxHeartbeats 4000000 in
theorem walBroken_walk (x : Int) (hx0 : 0 ≤ x) (hx1 : x ≤ 255) (ds : List WDeed) (a : Option Addr) (c : Nat) (sp : List SpoilS) (ba : Option Addr) (bc : Nat) (w : World) (hds : wdeedsAt w a ds) (hsp : spoilsAt w ba sp) :
    Calls Tryz.prog 4 #[.int .u8 x, .slice a ds.length c, .slice ba sp.length bc] w fun e w' => e = .returned (.bool true) ∧ Below w.heap.size w w' := by
  obtain ⟨N, hN⟩ : ∃ N : Nat, (N : Int) = x % 9 + 1 := ⟨(x % 9 + 1).toNat, by omega⟩
  have hN1 : 1 ≤ N := by omega
  have hN2 : N ≤ 9 := by omega
  have hD := hid hds
  have hSp := hid hsp
  have HOp := hid (wopen_pl (N + 10) N hN1 (by omega) (by omega) w)
  clear hds hsp
  go_enter Tryz.func4, Tryz.ntmps4
  go_wp2_with fail
  rw [← hN, show (N : Int) + 10 = ((N + 10 : Nat) : Int) by omega]
  clear hN
  refine HOp.out.mono ?_
  clear HOp
  rintro e w1 ⟨hb1, p, d1, q, r, fv, F1, Rd1, rfl, hp1, hpq, hpr, hL1, hT1, hfv1, hF1, hR1, hRd1, hap1⟩
  have hpl := lt_of_heap hL1.heap
  have HP1 : Hid (Pl w w1 p d1 (freshN (N + 10)) N (N + 10) 0 F1 q r fv (.slice none 0 0) [] Rd1) := by
    rw [rfresh_ref] at hR1
    exact ⟨⟨hL1, fun i hi => Nat.lt_trans (hF1 i hi).2 hpl, fun i hi => (hF1 i hi).1, freshN_len (N + 10), rfl, Nat.zero_le _, made_fresh _ (by simp; omega) (fun s hs => by rw [List.eq_of_mem_replicate hs]; exact blank_size), by omega, headOk_fresh (N + 10) (by omega), hb1⟩, hT1, hfv1, hR1, hap1, fun i hi => ⟨by have := hF1 i hi; omega, by have := hF1 i hi; omega⟩, ⟨hpq, hpr⟩, hp1⟩
  clear hb1 hp1 hpq hpr hL1 hT1 hfv1 hF1 hR1 hRd1 hap1 hpl
  go_wp2_with fail
  refine (wlive_any w1).mono ?_
  rintro e w2 ⟨rfl, hb2⟩
  have HP2 := hid (HP1.out.next hb2)
  clear hb2 HP1
  go_wp2
  go_loopw [11] (fun i wr => ∃ (k : Nat) (d : DL) (S : DiskS) (F : Nat → Prop) (lv : Value) (vs : List Value) (Rd : Nat → Prop), k ≤ ds.length ∧ k ≤ 4 ∧ i = .int .i64 k ∧ Hid (Pl w wr p d S N (N + 10) k F q r fv lv vs Rd)) (fun i _ => 4 - (intOf i).toNat)
  case atStart => exact ⟨0, _, _, _, _, _, _, by omega, by omega, rfl, HP2⟩
  case round =>
    obtain ⟨k, d, S, F, lv, vs, Rd, hk1, hk2, rfl, hM⟩ := hrel
    clear HP2
    by_cases hlt : k < ds.length ∧ k < 4
    · obtain ⟨hka, hkb⟩ := hlt
      have hk0 : (0 : Int) ≤ (k : Int) := by omega
      have hka' : (k : Int) < (ds.length : Int) := by omega
      have hkb' : (k : Int) < 4 := by omega
      obtain ⟨ab, ao, rfl, hdk⟩ := hD.out k hka
      have hDk := hid (hdk k hka)
      obtain ⟨D, hDe⟩ : ∃ D, D = ds[k] := ⟨_, rfl⟩
      rw [← hDe] at hDk
      clear hdk hDe
      obtain ⟨q0, q1, q2, hin, -⟩ := hDk.out.below hM.out.mid.below
      have HDp := hid (deed_any D.s D.ns D.na D.nc D.x wr hin)
      clear hin
      go_wp2_with fail
      refine HDp.out.mono ?_
      clear HDp
      rintro e w4 ⟨hb4, hd4⟩
      obtain ⟨pa, pc, bs, rfl, hps, hbs, -⟩ := deedAny_pages hd4
      obtain ⟨m, hm⟩ : ∃ m, m = min D.ns.length 102 := ⟨_, rfl⟩
      rw [← hm] at hps hbs ⊢
      have hM4 := hM.out.next hb4
      have HCm := hid (commit_deed_fv D.s D.ns m D.x bs pa pc w4 wr.heap.size hM4.mid.log hM.out.mid.lt hb4.size (by rw [hM4.mid.len]; omega) hps hbs (by have := hM4.mid.ops; omega))
      have HM4 := hid hM4
      have HDp : Hid (∀ W, Below w.heap.size w W → Calls Tryz.prog 8 #[.agg #[.bool D.s, .slice D.na D.ns.length D.nc, .int .u8 (D.x.toNat : Int)]] W fun e w' => Below W.heap.size W w' ∧ DeedAny D.s D.ns m D.x W.heap.size w' e) := fun W hW => by
        obtain ⟨-, -, -, hi, -⟩ := hDk.out.below hW
        rw [hm]
        exact deed_any D.s D.ns D.na D.nc D.x W hi
      have hrlt := lt_of_heap hM.out.rlog.disk.heap
      have hsz4 := hb4.size
      clear hb4 hd4 hps hbs hm q0 q1 q2 hM4 hM
      go_wp2_with fail
      refine HCm.out.mono ?_
      clear HCm
      rintro e w5 ⟨rfl, d5, hd5, hL5, hK5⟩
      have HD5 := hid hd5
      have HL5 := hid hL5
      have HK5 := hid hK5
      have HB5 := hid (HM4.out.mid.below.trans (hK5.below HM4.out.mid.below.size HM4.out.mid.new))
      have HR5 := hid (HM4.out.ref5 hK5)
      have hsz5 := hK5.size
      obtain ⟨y0, y1, y2, -, -⟩ := hDk.out.below HB5.out
      clear hd5 hL5 hK5
      generalize comErr (pagesS S N) N (deedPs D.s D.ns bs m) = E1 at *
      go_wp2_with fail
      refine (HDp.out w5 HB5.out).mono ?_
      clear HDp
      rintro e w6 ⟨hb6, hd6⟩
      obtain ⟨pa6, pc6, cs, rfl, hps6, hcs, -⟩ := deedAny_pages hd6
      have HRc := hid (rcommit_deed D.s D.ns m D.x cs pa6 pc6 w6 w5.heap.size (HR5.out.below hb6) (by omega) HM4.out.okR (by rw [refOf_len]; have := HM4.out.mid.ops; omega) (by rw [HM4.out.flen]; omega) hps6 hcs)
      have HB6 := hid hb6
      clear hb6 hd6 hps6 hcs y0 y1 y2 HR5
      generalize hE2 : comErr (pagesR (refOf S) N) N (deedPs D.s D.ns cs m) = E2 at *
      clear hE2
      go_wp2_with fail
      refine HRc.out.mono ?_
      clear HRc
      rintro e w7 ⟨rfl, lv7, vs7, hR7, hK7⟩
      have HP7 := hid (HM4.out.round (by omega) (likeP_deed D.s D.ns bs cs m) (rowX D.x) (length_rowX D.x) HD5.out HL5.out HK5.out HB6.out hR7 hK7)
      clear hR7 hK7 HD5 HL5 HK5 HB6 HM4
      go_wp2
      exact ⟨⟨k + 1, _, _, _, _, _, _, by omega, by omega, by go_num, HP7⟩, by simp [intOf]; omega⟩
    · have HDk := hid (rldisk_any wr hM.out.rlog)
      have HoR := hid hM.out.okR
      have HFl := hid hM.out.flen
      have HBw := hid hM.out.mid.below
      have HRl : Hid ((refOf S).l.length ≤ 1000) := by unfold Hid; rw [refOf_len]; have := hM.out.mid.ops; omega
      obtain ⟨NN, hNN⟩ : ∃ NN, NN = N + 10 := ⟨_, rfl⟩
      rw [← hNN] at HFl
      have hNN1 : NN ≤ 19 := by omega
      have hNN2 : 11 ≤ NN := by omega
      have hNN3 : N + 2 ≤ NN := by omega
      clear hNN
      by_cases hg : k < ds.length
      · have hge : ((k : Int) < (ds.length : Int)) := by omega
        have hge2 : ¬ ((k : Int) < 4) := by omega
        clear hlt hg hM
        go_wp2_with fail
        refine HDk.out.mono ?_
        clear HDk
        rintro e w4 ⟨rfl, hb4, hR4⟩
        have HIm := hid (rimage_w wr.heap.size fv lv vs Rd (refOf S) w4 hR4 HoR.out (by have := HRl.out; omega))
        have HB4 := hid (HBw.out.trans (hb4.mono HBw.out.size))
        clear hb4 hR4
        go_wp2_with fail
        refine HIm.out.mono ?_
        clear HIm
        rintro e w5 ⟨hb5, sa, c6, vk, rfl, hC5⟩
        rw [HFl.out] at hC5 ⊢
        have HC5 := hid hC5
        have HB5 := hid (HB4.out.trans (hb5.mono HB4.out.size))
        have HL0 : Hid ((atL (refOf S) (refOf S).l.length).length = NN) := by unfold Hid; rw [length_atL, HFl.out]
        have HL50 := hid (atL_512P HoR.out (refOf S).l.length)
        have HLo : Hid (w.heap.size ≤ w4.heap.size) := HB4.out.size
        clear hb5 hC5
        generalize atL (refOf S) (refOf S).l.length = L0 at *
        go_wp2
        go_loopw [13] (fun i wr => ∃ (j : Nat) (L : List (List UInt8)), j ≤ sp.length ∧ j ≤ 12 ∧ i = .int .i64 j ∧ Hid (copiedW wr w4.heap.size (.slice sa NN c6) vk L NN) ∧ Hid (L.length = NN) ∧ Hid (∀ l ∈ L, l.length = 512) ∧ Hid (Below w.heap.size w wr)) (fun i _ => 12 - (intOf i).toNat)
        case atStart => exact ⟨0, L0, by omega, by omega, rfl, HC5, HL0, HL50, HB5⟩
        case round =>
          obtain ⟨j, L, hj1, hj2, rfl, hC, hLn, hL5, hB⟩ := hrel
          clear HC5 HL0 HL50 HB5
          by_cases hlt : j < sp.length ∧ j < 12
          · obtain ⟨hja, hjb⟩ := hlt
            have hj0 : (0 : Int) ≤ (j : Int) := by omega
            have hja' : (j : Int) < (sp.length : Int) := by omega
            have hjb' : (j : Int) < 12 := by omega
            obtain ⟨ab, ao, rfl, hdk⟩ := hSp.out j hja
            have hDw := hdk j hja
            obtain ⟨q0, q1, q2⟩ := hDw.below hB.out
            have HSp0 : Hid (ab < w4.heap.size) := by
              have h1 : ab < w.heap.size := World.block_lt_of_cell? w _ hDw.1
              have := HLo.out
              unfold Hid
              omega
            obtain ⟨D, hDe⟩ : ∃ D, D = sp[j] := ⟨_, rfl⟩
            rw [← hDe] at q0 q1 q2
            clear hdk hDe hDw
            by_cases h0 : 0 ≤ D.s ∧ D.s < (NN : Int) ∧ 0 ≤ D.a ∧ D.a < 512
            · skip
              have hs1 : (0 : Int) ≤ D.s := h0.1
              have hs2 : D.s < (NN : Int) := h0.2.1
              have ha1 : (0 : Int) ≤ D.a := h0.2.2.1
              have ha2 : D.a < 512 := h0.2.2.2
              obtain ⟨sn, hsn⟩ : ∃ sn : Nat, D.s = (sn : Int) := ⟨D.s.toNat, by omega⟩
              obtain ⟨an, han⟩ : ∃ an : Nat, D.a = (an : Int) := ⟨D.a.toNat, by omega⟩
              have hsl : sn < L.length := by rw [hLn.out]; omega
              obtain ⟨gi, ci, y1, y2, y3, y4, y5⟩ := hC.out.2.1 sn hsl (by omega)
              have h5s := hL5.out _ (List.getElem_mem hsl)
              obtain ⟨gt, ct, et, -⟩ := hC.out.1.form (by omega)
              simp only [Value.slice.injEq, true_and] at et
              obtain ⟨rfl, rfl⟩ := et
              have ctab : wr.cell? ⟨gt, sn, none⟩ = some (.slice (some ⟨gi, 0, none⟩) 512 ci) := by rw [hC.out.1.cellAt sn (by omega), y1, h5s]
              have fz : wr.frozen? ⟨gi, an, none⟩ = false := y5.frozenAt _
              obtain ⟨z, cz⟩ : ∃ z, wr.cell? ⟨gi, an, none⟩ = some (.int .u8 z) := ⟨_, by rw [y5.cellAt an (by omega), List.getElem?_map, List.getElem?_eq_getElem (by omega)]; rfl⟩
              have HPk := hid (copiedW_poke (x := an) hC.out hsl y1 y5 y4 D.b)
              have HL5 : Hid (∀ l ∈ L.set sn ((L[sn]).set an D.b), l.length = 512) := fun l hl => by
                rcases List.mem_or_eq_of_mem_set hl with h1 | h1
                · exact hL5.out l h1
                · rw [h1, List.length_set]; exact h5s
              have hgn : gi ≠ gt := fun e => y4 (by rw [e]; rfl)
              have hga : ab ≠ gi := by have := HSp0.out; omega
              have HBp : Hid (Below w.heap.size w (wr.setCell ⟨gi, an, none⟩ (.int .u8 (D.b.toNat : Int))).drew) := (hB.out.trans (below_of_grown (grown_setCell (grown_refl _ _) _ _) (by have := HLo.out; omega) hB.out.size)).drew
              have HPd : Hid (copiedW (wr.setCell ⟨gi, an, none⟩ (.int .u8 (D.b.toNat : Int))).drew w4.heap.size (.slice (some ⟨gt, 0, none⟩) NN c6) vk (L.set sn ((L[sn]).set an D.b)) NN) := copiedW_below HPk.out (Below.refl _ _).drew
              have hln2 : (L.set sn ((L[sn]).set an D.b)).length = NN := by rw [List.length_set]; exact hLn.out
              have HLn2 := hid hln2
              rw [hsn] at q0
              rw [han] at q1
              generalize L.set sn ((L[sn]).set an D.b) = L2 at *
              generalize D.b.toNat = bb at *
              have k0 : (0 : Int) ≤ (sn : Int) := by omega
              have k1 : (sn : Int) < (NN : Int) := by omega
              have k2 : (0 : Int) ≤ (an : Int) := by omega
              have k3 : (an : Int) < 512 := by omega
              clear h0 hs1 hs2 ha1 ha2 hsn han y1 y2 y3 y4 y5 h5s HPk hC hL5 hln2
              go_wp2
              refine wp_region_noPanic ?_
              refine wp_region_held_drew (S := fun W => W.cell? ⟨ab, ao + j * 3, none⟩ = some (.int .i64 (sn : Int)) ∧ W.cell? ⟨ab, ao + j * 3 + 1, none⟩ = some (.int .i64 (an : Int)) ∧ W.cell? ⟨ab, ao + j * 3 + 2, none⟩ = some (.int .u8 (bb : Int)) ∧ W.cell? ⟨gt, sn, none⟩ = some (.slice (some ⟨gi, 0, none⟩) 512 ci)) (by kernel_rfl) ⟨q0, q1, q2, ctab⟩ (fun hHeld => ?_)
              refine wpAnyH_take (i := 0) (v := ?_) rfl (by kernel_rfl) (by kernel_rfl) (by kernel_rfl) (fun _ _ _ h => h) (Or.inl ⟨by rfl, ?_⟩) (by assumption) ?_
              rotate_left
              · (intro W hSw; (try dsimp only at hSw); obtain ⟨s1, s2, s3, s4⟩ := hSw; go_simp; try with_reducible rfl)
              try simp only [List.getElem_toArray, List.getElem_cons_zero, Act.put, List.setIfInBounds_toArray, List.set_cons_zero, List.set_cons_succ]
              refine wpAnyH_take (i := 1) (v := ?_) rfl (by kernel_rfl) (by kernel_rfl) (by kernel_rfl) (fun _ _ _ h => h) (Or.inl ⟨by rfl, ?_⟩) (by assumption) ?_
              rotate_left
              · (intro W hSw; (try dsimp only at hSw); obtain ⟨s1, s2, s3, s4⟩ := hSw; go_simp; try with_reducible rfl)
              try simp only [List.getElem_toArray, List.getElem_cons_succ, List.getElem_cons_zero, Act.put, List.setIfInBounds_toArray, List.set_cons_zero, List.set_cons_succ]
              refine wpAnyH_take (i := 2) (v := ?_) rfl (by kernel_rfl) (by kernel_rfl) (by kernel_rfl) (fun _ _ _ h => h) (Or.inl ⟨by rfl, ?_⟩) (by assumption) ?_
              rotate_left
              · (intro W hSw; (try dsimp only at hSw); obtain ⟨s1, s2, s3, s4⟩ := hSw; go_simp; try with_reducible rfl)
              try simp only [List.getElem_toArray, List.getElem_cons_succ, List.getElem_cons_zero, Act.put, List.setIfInBounds_toArray, List.set_cons_zero, List.set_cons_succ]
              refine wpAnyH_take (i := 3) (v := ?_) rfl (by kernel_rfl) (by kernel_rfl) (by kernel_rfl) (fun _ _ _ h => h) (Or.inl ⟨by rfl, ?_⟩) (by assumption) ?_
              rotate_left
              · (intro W hSw; (try dsimp only at hSw); obtain ⟨s1, s2, s3, s4⟩ := hSw; go_simp; try with_reducible rfl)
              try simp only [List.getElem_toArray, List.getElem_cons_succ, List.getElem_cons_zero, Act.put, List.setIfInBounds_toArray, List.set_cons_zero, List.set_cons_succ]
              refine wpAnyH_take (i := 4) (v := ?_) rfl (by kernel_rfl) (by kernel_rfl) (by kernel_rfl) (fun _ _ _ h => h) (Or.inl ⟨by rfl, ?_⟩) (by assumption) ?_
              rotate_left
              · (intro W hSw; (try dsimp only at hSw); obtain ⟨s1, s2, s3, s4⟩ := hSw; go_simp; try with_reducible rfl)
              try simp only [List.getElem_toArray, List.getElem_cons_succ, List.getElem_cons_zero, Act.put, List.setIfInBounds_toArray, List.set_cons_zero, List.set_cons_succ]
              refine wpAnyH_take (i := 5) (v := ?_) rfl (by kernel_rfl) (by kernel_rfl) (by kernel_rfl) (fun _ _ _ h => h) (Or.inl ⟨by rfl, ?_⟩) (by assumption) ?_
              rotate_left
              · (intro W hSw; (try dsimp only at hSw); obtain ⟨s1, s2, s3, s4⟩ := hSw; go_simp; try with_reducible rfl)
              try simp only [List.getElem_toArray, List.getElem_cons_succ, List.getElem_cons_zero, Act.put, List.setIfInBounds_toArray, List.set_cons_zero, List.set_cons_succ]
              refine wpAnyH_take (i := 6) (v := ?_) rfl (by kernel_rfl) (by kernel_rfl) (by kernel_rfl) (fun _ _ _ h => h) (Or.inl ⟨by rfl, ?_⟩) (by assumption) ?_
              rotate_left
              · (intro W hSw; (try dsimp only at hSw); obtain ⟨s1, s2, s3, s4⟩ := hSw; go_simp; try with_reducible rfl)
              try simp only [List.getElem_toArray, List.getElem_cons_succ, List.getElem_cons_zero, Act.put, List.setIfInBounds_toArray, List.set_cons_zero, List.set_cons_succ]
              refine wpAnyH_take (i := 7) (v := ?_) rfl (by kernel_rfl) (by kernel_rfl) (by kernel_rfl) (fun _ _ _ h => h) (Or.inl ⟨by rfl, ?_⟩) (by assumption) ?_
              rotate_left
              · (intro W hSw; (try dsimp only at hSw); obtain ⟨s1, s2, s3, s4⟩ := hSw; go_simp; try with_reducible rfl)
              try simp only [List.getElem_toArray, List.getElem_cons_succ, List.getElem_cons_zero, Act.put, List.setIfInBounds_toArray, List.set_cons_zero, List.set_cons_succ]
              refine wpAnyH_take (i := 8) (v := ?_) rfl (by kernel_rfl) (by kernel_rfl) (by kernel_rfl) (fun _ _ _ h => h) (Or.inl ⟨by rfl, ?_⟩) (by assumption) ?_
              rotate_left
              · (intro W hSw; (try dsimp only at hSw); obtain ⟨s1, s2, s3, s4⟩ := hSw; go_simp; try with_reducible rfl)
              try simp only [List.getElem_toArray, List.getElem_cons_succ, List.getElem_cons_zero, Act.put, List.setIfInBounds_toArray, List.set_cons_zero, List.set_cons_succ]
              refine wpAnyH_take (i := 9) (v := ?_) rfl (by kernel_rfl) (by kernel_rfl) (by kernel_rfl) (fun _ _ _ h => h) (Or.inl ⟨by rfl, ?_⟩) (by assumption) ?_
              rotate_left
              · (intro W hSw; (try dsimp only at hSw); obtain ⟨s1, s2, s3, s4⟩ := hSw; go_simp; try with_reducible rfl)
              try simp only [List.getElem_toArray, List.getElem_cons_succ, List.getElem_cons_zero, Act.put, List.setIfInBounds_toArray, List.set_cons_zero, List.set_cons_succ]
              refine wpAnyH_take (i := 10) (v := ?_) rfl (by kernel_rfl) (by kernel_rfl) (by kernel_rfl) (fun _ _ _ h => h) (Or.inl ⟨by rfl, ?_⟩) (by assumption) ?_
              rotate_left
              · (intro W hSw; (try dsimp only at hSw); obtain ⟨s1, s2, s3, s4⟩ := hSw; go_simp; try with_reducible rfl)
              try simp only [List.getElem_toArray, List.getElem_cons_succ, List.getElem_cons_zero, Act.put, List.setIfInBounds_toArray, List.set_cons_zero, List.set_cons_succ]
              refine wpAnyH_take (i := 11) (v := ?_) rfl (by kernel_rfl) (by kernel_rfl) (by kernel_rfl) (fun _ _ _ h => h) (Or.inl ⟨by rfl, ?_⟩) (by assumption) ?_
              rotate_left
              · (intro W hSw; (try dsimp only at hSw); obtain ⟨s1, s2, s3, s4⟩ := hSw; go_simp; try with_reducible rfl)
              try simp only [List.getElem_toArray, List.getElem_cons_succ, List.getElem_cons_zero, Act.put, List.setIfInBounds_toArray, List.set_cons_zero, List.set_cons_succ]
              refine wpAnyH_take (i := 12) (v := ?_) rfl (by kernel_rfl) (by kernel_rfl) (by kernel_rfl) (fun _ _ _ h => h) (Or.inl ⟨by rfl, ?_⟩) (by assumption) ?_
              rotate_left
              · (intro W hSw; (try dsimp only at hSw); obtain ⟨s1, s2, s3, s4⟩ := hSw; go_simp; try with_reducible rfl)
              try simp only [List.getElem_toArray, List.getElem_cons_succ, List.getElem_cons_zero, Act.put, List.setIfInBounds_toArray, List.set_cons_zero, List.set_cons_succ]
              refine wpAnyH_take (i := 13) (v := ?_) rfl (by kernel_rfl) (by kernel_rfl) (by kernel_rfl) (fun _ _ _ h => h) (Or.inl ⟨by rfl, ?_⟩) (by assumption) ?_
              rotate_left
              · (intro W hSw; (try dsimp only at hSw); obtain ⟨s1, s2, s3, s4⟩ := hSw; go_simp; try with_reducible rfl)
              try simp only [List.getElem_toArray, List.getElem_cons_succ, List.getElem_cons_zero, Act.put, List.setIfInBounds_toArray, List.set_cons_zero, List.set_cons_succ]
              refine wpAnyH_take (i := 14) (v := ?_) rfl (by kernel_rfl) (by kernel_rfl) (by kernel_rfl) (fun _ _ _ h => h) (Or.inl ⟨by rfl, ?_⟩) (by assumption) ?_
              rotate_left
              · (intro W hSw; (try dsimp only at hSw); obtain ⟨s1, s2, s3, s4⟩ := hSw; go_simp; try with_reducible rfl)
              try simp only [List.getElem_toArray, List.getElem_cons_succ, List.getElem_cons_zero, Act.put, List.setIfInBounds_toArray, List.set_cons_zero, List.set_cons_succ]
              refine wpAnyH_take (i := 15) (v := ?_) rfl (by kernel_rfl) (by kernel_rfl) (by kernel_rfl) (fun _ _ _ h => h) (Or.inl ⟨by rfl, ?_⟩) (by assumption) ?_
              rotate_left
              · (intro W hSw; (try dsimp only at hSw); obtain ⟨s1, s2, s3, s4⟩ := hSw; go_simp; try with_reducible rfl)
              try simp only [List.getElem_toArray, List.getElem_cons_succ, List.getElem_cons_zero, Act.put, List.setIfInBounds_toArray, List.set_cons_zero, List.set_cons_succ]
              refine wpAnyH_take (i := 16) (v := ?_) rfl (by kernel_rfl) (by kernel_rfl) (by kernel_rfl) (fun _ _ _ h => h) (Or.inl ⟨by rfl, ?_⟩) (by assumption) ?_
              rotate_left
              · (intro W hSw; (try dsimp only at hSw); obtain ⟨s1, s2, s3, s4⟩ := hSw; go_simp; try with_reducible rfl)
              try simp only [List.getElem_toArray, List.getElem_cons_succ, List.getElem_cons_zero, Act.put, List.setIfInBounds_toArray, List.set_cons_zero, List.set_cons_succ]
              refine wpAnyH_take (i := 17) (v := ?_) rfl (by kernel_rfl) (by kernel_rfl) (by kernel_rfl) (fun _ _ _ h => h) (Or.inl ⟨by rfl, ?_⟩) (by assumption) ?_
              rotate_left
              · (intro W hSw; (try dsimp only at hSw); obtain ⟨s1, s2, s3, s4⟩ := hSw; go_simp; try with_reducible rfl)
              try simp only [List.getElem_toArray, List.getElem_cons_succ, List.getElem_cons_zero, Act.put, List.setIfInBounds_toArray, List.set_cons_zero, List.set_cons_succ]
              refine wpAnyH_take (i := 18) (v := ?_) rfl (by kernel_rfl) (by kernel_rfl) (by kernel_rfl) (fun _ _ _ h => h) (Or.inl ⟨by rfl, ?_⟩) (by assumption) ?_
              rotate_left
              · (intro W hSw; (try dsimp only at hSw); obtain ⟨s1, s2, s3, s4⟩ := hSw; go_simp; try with_reducible rfl)
              try simp only [List.getElem_toArray, List.getElem_cons_succ, List.getElem_cons_zero, Act.put, List.setIfInBounds_toArray, List.set_cons_zero, List.set_cons_succ]
              refine wpAnyH_ready (rs := [19]) (by kernel_rfl) (by simp) (AllReadyH.cons rfl (fun K hKK => ?_) AllReadyH.nil)
              rw [if_pos (by rfl)]
              unfold Oper.wp
              go_simp
              refine hKK.out _ _ ⟨by show (wr.setCell _ _).cell? _ = _; rw [World.cell?_setCell_far _ _ _ _ (fun e => hga e.symm)]; exact q0, by show (wr.setCell _ _).cell? _ = _; rw [World.cell?_setCell_far _ _ _ _ (fun e => hga e.symm)]; exact q1, by show (wr.setCell _ _).cell? _ = _; rw [World.cell?_setCell_far _ _ _ _ (fun e => hga e.symm)]; exact q2, by show (wr.setCell _ _).cell? _ = _; rw [World.cell?_setCell_far _ _ _ _ hgn]; exact ctab⟩ (fun hHeld => ?_)
              clear hKK K
              refine wpAnyH_done (by kernel_rfl) ?_ _
              refine NoPanic.normal ?_
              clear hHeld q0 q1 q2 ctab fz cz
              go_wp2
              exact ⟨⟨j + 1, L2, by omega, by omega, by go_num, HPd, HLn2, HL5, HBp⟩, by simp [intOf]; omega⟩
            · skip
              by_cases hn1 : D.s < 0
              · have hd : decide (D.s ≥ 0) = false := decide_eq_false (by omega)
                have hd' : ¬ (D.s ≥ 0) := by omega
                go_wp2
                exact ⟨⟨j + 1, L, by omega, by omega, by go_num, hC, hLn, hL5, hB⟩, by simp [intOf]; omega⟩
              · by_cases hn2 : D.s ≥ (NN : Int)
                · have hd' : D.s ≥ 0 := by omega
                  have hd2 : ¬ (D.s < (NN : Int)) := by omega
                  go_wp2
                  exact ⟨⟨j + 1, L, by omega, by omega, by go_num, hC, hLn, hL5, hB⟩, by simp [intOf]; omega⟩
                · have hd' : D.s ≥ 0 := by omega
                  have hd2 : D.s < (NN : Int) := by omega
                  by_cases hn3 : D.a < 0
                  · have hd3 : ¬ (D.a ≥ 0) := by omega
                    go_wp2
                    exact ⟨⟨j + 1, L, by omega, by omega, by go_num, hC, hLn, hL5, hB⟩, by simp [intOf]; omega⟩
                  · have hd3 : D.a ≥ 0 := by omega
                    have hd4 : ¬ (D.a < 512) := by omega
                    go_wp2
                    exact ⟨⟨j + 1, L, by omega, by omega, by go_num, hC, hLn, hL5, hB⟩, by simp [intOf]; omega⟩
          · by_cases hg2 : j < sp.length
            · have hgf : ((j : Int) < (sp.length : Int)) := by omega
              have hgf2 : ¬ ((j : Int) < 12) := by omega
              clear hlt hg2
              have hLen1 : 1 ≤ L.length ∧ L.length ≤ 4096 := by rw [hLn.out]; omega
              have hrw : rowsAt wr sa L := by
                have h1 := hC.out
                rw [← hLn.out] at h1
                obtain ⟨a2, c2, e2, h2⟩ := copiedW_end h1
                simp only [Value.slice.injEq] at e2
                obtain ⟨rfl, -, rfl⟩ := e2
                exact h2.at
              have hld := load_disk L sa c6 wr hrw (by omega)
              have hrl := fun W (hW : Below wr.heap.size wr W) => rload_any L sa c6 W (hrw.below hW) (by omega)
              rw [hLn.out] at hld
              have hrl' : ∀ W, Below wr.heap.size wr W → Calls Tryz.prog 25 #[.slice sa NN c6] W fun e w' => rloaded L W w' e := fun W hW => by
                have := hrl W hW
                rw [hLn.out] at this
                exact this
              have HLd := hid hld
              have HRl := hid hrl'
              have hlen0 := hLen1
              clear hrw hld hrl hrl' hC hLen1
              go_wp2_with fail
              refine HLd.out.mono ?_
              clear HLd
              rintro e w7 ⟨hb7, hl7⟩
              rcases hl7 with ⟨hx, -⟩ | ⟨-, hx, -⟩ | ⟨-, -, d7, rfl, hD7, hf7, -⟩
              · rw [hLn.out] at hlen0; exact absurd hlen0 hx
              · exact absurd hL5.out hx
              have HB7 := hid hb7
              have HD7 := hid hD7
              clear hb7 hD7 hf7
              go_wp2_with fail
              refine (HRl.out w7 HB7.out).mono ?_
              clear HRl
              rintro e w8 ⟨hb8, hl8⟩
              rcases hl8 with ⟨hx, -⟩ | ⟨-, hx, -⟩ | ⟨-, -, r8, a8, c8, rfl, hr8, hh8, hf8⟩
              · exact absurd hlen0 hx
              · exact absurd hL5.out hx
              have hRi := refIn_load hh8 hf8 (by rw [hLn.out]; omega) hL5.out
              have hMd : Made (freshS (secsOf L)) := made_fresh _ (by rw [length_secsOf]; exact hlen0.2) (fun s hs => by
                obtain ⟨l, hl, rfl⟩ := List.mem_map.1 hs
                exact size_bytes _ (hL5.out l hl))
              have hrf : (⟨L, []⟩ : RefS) = refOf (freshS (secsOf L)) := by
                show _ = (⟨bytesOf (secsOf L), []⟩ : RefS)
                rw [bytesOf_secs]
              rw [hrf] at hRi
              have hsl8 : (freshS (secsOf L)).safe.length = NN := by
                show (secsOf L).length = NN
                rw [length_secsOf, hLn.out]
              have HD8 := hid (HD7.out.below hb8)
              have HB8 := hid (HB7.out.trans (hb8.mono HB7.out.size))
              have HRi := hid hRi
              have HMd := hid hMd
              have HSl := hid hsl8
              have HS8o : Hid ((freshS (secsOf L)).ops.length = 0) := rfl
              clear hb8 hh8 hf8 hRi hrf hMd hsl8 hlen0 hL5 HD7
              generalize freshS (secsOf L) = S8 at *
              have hop := open_any d7 S8 (fun i => d7.foot S8.waits i) N w8 (.inr ⟨HD8.out, fun _ h => h⟩) (by rw [HS8o.out]; decide) hN1 (by rw [HSl.out]; omega) (fun n hn => HMd.out.sec n hn)
              have HOp := hid hop
              have hb0 : (atL (refOf S8) (refOf S8).l.length)[0]? = some (secL S8 0) := img_atP HMd.out 0 (by rw [HSl.out]; omega)
              have hfl8 : (refOf S8).first.length = NN := by
                show (bytesOf S8.first).length = NN
                rw [length_bytesOf, ← HMd.out.len, HSl.out]
              have HRo : Hid (∀ W, Below w8.heap.size w8 W → Calls Tryz.prog 27 #[.pointer (some ⟨r8, 0, none⟩), .int .i64 N] W fun e w' => Below W.heap.size W w' ∧ ROpenTo (refOf S8) N (.slice a8 L.length c8) W.heap.size w' e (headNums (secL S8 0) N (pagesS S8 N))) := fun W hW => by
                have := ropen_any r8 _ _ _ _ (refOf S8) N (secL S8 0) W (HRi.out.below hW) (fun i hi => Nat.lt_of_lt_of_le hi.1 hW.size) HMd.out.alike.ok (by rw [refOf_len, HS8o.out]; decide) hN1 (by rw [hfl8]; omega) hb0 (HMd.out.sec 0 (by rw [HSl.out]; omega))
                rwa [HMd.out.pagesR] at this
              have HOps : Hid (∀ W, Below w8.heap.size w8 W → Calls Tryz.prog 28 #[.pointer (some ⟨d7.p, 0, none⟩)] W fun e w' => e = .returned (.int .i64 0) ∧ w' = W) := fun W hW => by
                have := ops_disk d7 S8 W (HD8.out.below hW)
                rw [HS8o.out] at this
                exact this
              have HBw8 := hid (hB.out.trans (HB8.out.mono hB.out.size))
              clear hop hb0 hfl8 HRi
              go_wp2_with fail
              refine HOp.out.mono ?_
              clear HOp
              rintro e w9 ⟨hb9, ho9⟩
              have HB9 := hid hb9
              rcases ho9 with ⟨hno, rfl⟩ | ⟨ns, p9, d9, hsm, rfl, hp9, hL9⟩
              · have HNo := hid hno
                clear hb9 hno
                go_wp2_with fail
                refine (HRo.out w9 HB9.out).mono ?_
                clear HRo
                rintro e w10 ⟨hb10, ho10⟩
                rw [HNo.out] at ho10
                obtain rfl := ho10
                have HB10 := hid (HB9.out.trans (hb10.mono HB9.out.size))
                clear hb10
                go_wp2_with fail
                refine (HOps.out w10 HB10.out).mono ?_
                clear HOps
                rintro e w11 ⟨rfl, h11⟩
                obtain rfl := h11.symm
                go_wp2_with fail
                refine (recovered_nil _).mono ?_
                rintro e w11 ⟨rfl, h11⟩
                obtain rfl := h11.symm
                go_wp2_with fail
                refine (rlrec_nil _).mono ?_
                rintro e w11 ⟨rfl, h11⟩
                obtain rfl := h11.symm
                go_wp2
                go_ret
                exact ⟨rfl, HBw8.out.trans (HB10.out.mono HBw8.out.size)⟩
              · obtain ⟨f1, f2, f3⟩ := headNums_facts hsm
                have HSm := hid hsm
                have HL9 := hid hL9
                have hal := (HMd.out.opened N ns (by omega) f2 f3 (by rw [HSl.out]; omega)).alike
                rw [← ropen_of HMd.out N ns f2 (by omega) (by rw [HSl.out]; omega)] at hal
                have HAl := hid hal
                have hol : (openS S8 N ns).ops.length ≤ 200 := by
                  unfold openS
                  split
                  · rw [HS8o.out]; omega
                  · rw [homeS_doOps, (doOps_facts S8 _).2.2, List.length_append, HS8o.out]
                    simp [homeOps, natsZ]
                    omega
                have HOl := hid hol
                have hrol : (ropenR (refOf S8) N ns).l.length ≤ 1000 := by rw [← hal.ops]; omega
                have HRol := hid hrol
                have hnl : ns.length ≤ 100 := by omega
                clear hb9 hsm hL9 f1 f2 f3 hal hol hrol
                go_wp2_with fail
                refine (HRo.out w9 HB9.out).mono ?_
                clear HRo
                rintro e w10 ⟨hb10, ho10⟩
                rw [HSm.out] at ho10
                obtain ⟨q10, r10, lv10, vs10, Rd10, rfl, -, hR10⟩ := ho10
                have HR10 := hid hR10
                have HL10 := hid (HL9.out.below hb10)
                have HB10 := hid (HB9.out.trans (hb10.mono HB9.out.size))
                clear hb10 hR10 HL9
                go_wp2_with fail
                refine (HOps.out w10 HB10.out).mono ?_
                clear HOps
                rintro e w11 ⟨rfl, h11⟩
                obtain rfl := h11.symm
                have HRe := hid (wlog_rec w10 HL10.out)
                have HRr := hid (rlrec_any w10 HR10.out)
                go_wp2_with fail
                refine HRe.out.mono ?_
                clear HRe
                rintro e w11 ⟨rfl, h11⟩
                obtain rfl := h11.symm
                go_wp2_with fail
                refine HRr.out.mono ?_
                clear HRr
                rintro e w11 ⟨rfl, h11⟩
                obtain rfl := h11.symm
                have HLd := hid (log_disk w10 HL10.out (by have := HOl.out; omega))
                go_wp2_with fail
                refine HLd.out.mono ?_
                clear HLd
                rintro e w12 ⟨hb12, d12, rfl, hC12, -⟩
                have HRd := hid (rldisk_any w12 (HR10.out.below hb12))
                have HB12 := hid (HB10.out.trans (hb12.mono HB10.out.size))
                have HC12 := hid hC12
                clear hb12 hC12
                go_wp2_with fail
                refine HRd.out.mono ?_
                clear HRd
                rintro e w13 ⟨rfl, hb13, hR13⟩
                have HB13 := hid (HB12.out.trans (hb13.mono HB12.out.size))
                have HS13 := hid (wsame_ref d12 (openS S8 N ns) _ _ lv10 vs10 _ (ropenR (refOf S8) N ns) w13 (HC12.out.below hb13).rd hR13 HAl.out (by have := HRol.out; omega))
                clear hb13 hR13
                go_wp2_with fail
                refine HS13.out.mono ?_
                clear HS13
                rintro e w14 ⟨rfl, hb14⟩
                have HB14 := hid (HB13.out.trans (hb14.mono HB13.out.size))
                clear hb14
                go_wp2
                go_ret
                exact ⟨rfl, HBw8.out.trans (HB14.out.mono HBw8.out.size)⟩
            · have hgf : ¬ ((j : Int) < (sp.length : Int)) := by omega
              clear hlt hg2
              have hLen1 : 1 ≤ L.length ∧ L.length ≤ 4096 := by rw [hLn.out]; omega
              have hrw : rowsAt wr sa L := by
                have h1 := hC.out
                rw [← hLn.out] at h1
                obtain ⟨a2, c2, e2, h2⟩ := copiedW_end h1
                simp only [Value.slice.injEq] at e2
                obtain ⟨rfl, -, rfl⟩ := e2
                exact h2.at
              have hld := load_disk L sa c6 wr hrw (by omega)
              have hrl := fun W (hW : Below wr.heap.size wr W) => rload_any L sa c6 W (hrw.below hW) (by omega)
              rw [hLn.out] at hld
              have hrl' : ∀ W, Below wr.heap.size wr W → Calls Tryz.prog 25 #[.slice sa NN c6] W fun e w' => rloaded L W w' e := fun W hW => by
                have := hrl W hW
                rw [hLn.out] at this
                exact this
              have HLd := hid hld
              have HRl := hid hrl'
              have hlen0 := hLen1
              clear hrw hld hrl hrl' hC hLen1
              go_wp2_with fail
              refine HLd.out.mono ?_
              clear HLd
              rintro e w7 ⟨hb7, hl7⟩
              rcases hl7 with ⟨hx, -⟩ | ⟨-, hx, -⟩ | ⟨-, -, d7, rfl, hD7, hf7, -⟩
              · rw [hLn.out] at hlen0; exact absurd hlen0 hx
              · exact absurd hL5.out hx
              have HB7 := hid hb7
              have HD7 := hid hD7
              clear hb7 hD7 hf7
              go_wp2_with fail
              refine (HRl.out w7 HB7.out).mono ?_
              clear HRl
              rintro e w8 ⟨hb8, hl8⟩
              rcases hl8 with ⟨hx, -⟩ | ⟨-, hx, -⟩ | ⟨-, -, r8, a8, c8, rfl, hr8, hh8, hf8⟩
              · exact absurd hlen0 hx
              · exact absurd hL5.out hx
              have hRi := refIn_load hh8 hf8 (by rw [hLn.out]; omega) hL5.out
              have hMd : Made (freshS (secsOf L)) := made_fresh _ (by rw [length_secsOf]; exact hlen0.2) (fun s hs => by
                obtain ⟨l, hl, rfl⟩ := List.mem_map.1 hs
                exact size_bytes _ (hL5.out l hl))
              have hrf : (⟨L, []⟩ : RefS) = refOf (freshS (secsOf L)) := by
                show _ = (⟨bytesOf (secsOf L), []⟩ : RefS)
                rw [bytesOf_secs]
              rw [hrf] at hRi
              have hsl8 : (freshS (secsOf L)).safe.length = NN := by
                show (secsOf L).length = NN
                rw [length_secsOf, hLn.out]
              have HD8 := hid (HD7.out.below hb8)
              have HB8 := hid (HB7.out.trans (hb8.mono HB7.out.size))
              have HRi := hid hRi
              have HMd := hid hMd
              have HSl := hid hsl8
              have HS8o : Hid ((freshS (secsOf L)).ops.length = 0) := rfl
              clear hb8 hh8 hf8 hRi hrf hMd hsl8 hlen0 hL5 HD7
              generalize freshS (secsOf L) = S8 at *
              have hop := open_any d7 S8 (fun i => d7.foot S8.waits i) N w8 (.inr ⟨HD8.out, fun _ h => h⟩) (by rw [HS8o.out]; decide) hN1 (by rw [HSl.out]; omega) (fun n hn => HMd.out.sec n hn)
              have HOp := hid hop
              have hb0 : (atL (refOf S8) (refOf S8).l.length)[0]? = some (secL S8 0) := img_atP HMd.out 0 (by rw [HSl.out]; omega)
              have hfl8 : (refOf S8).first.length = NN := by
                show (bytesOf S8.first).length = NN
                rw [length_bytesOf, ← HMd.out.len, HSl.out]
              have HRo : Hid (∀ W, Below w8.heap.size w8 W → Calls Tryz.prog 27 #[.pointer (some ⟨r8, 0, none⟩), .int .i64 N] W fun e w' => Below W.heap.size W w' ∧ ROpenTo (refOf S8) N (.slice a8 L.length c8) W.heap.size w' e (headNums (secL S8 0) N (pagesS S8 N))) := fun W hW => by
                have := ropen_any r8 _ _ _ _ (refOf S8) N (secL S8 0) W (HRi.out.below hW) (fun i hi => Nat.lt_of_lt_of_le hi.1 hW.size) HMd.out.alike.ok (by rw [refOf_len, HS8o.out]; decide) hN1 (by rw [hfl8]; omega) hb0 (HMd.out.sec 0 (by rw [HSl.out]; omega))
                rwa [HMd.out.pagesR] at this
              have HOps : Hid (∀ W, Below w8.heap.size w8 W → Calls Tryz.prog 28 #[.pointer (some ⟨d7.p, 0, none⟩)] W fun e w' => e = .returned (.int .i64 0) ∧ w' = W) := fun W hW => by
                have := ops_disk d7 S8 W (HD8.out.below hW)
                rw [HS8o.out] at this
                exact this
              have HBw8 := hid (hB.out.trans (HB8.out.mono hB.out.size))
              clear hop hb0 hfl8 HRi
              go_wp2_with fail
              refine HOp.out.mono ?_
              clear HOp
              rintro e w9 ⟨hb9, ho9⟩
              have HB9 := hid hb9
              rcases ho9 with ⟨hno, rfl⟩ | ⟨ns, p9, d9, hsm, rfl, hp9, hL9⟩
              · have HNo := hid hno
                clear hb9 hno
                go_wp2_with fail
                refine (HRo.out w9 HB9.out).mono ?_
                clear HRo
                rintro e w10 ⟨hb10, ho10⟩
                rw [HNo.out] at ho10
                obtain rfl := ho10
                have HB10 := hid (HB9.out.trans (hb10.mono HB9.out.size))
                clear hb10
                go_wp2_with fail
                refine (HOps.out w10 HB10.out).mono ?_
                clear HOps
                rintro e w11 ⟨rfl, h11⟩
                obtain rfl := h11.symm
                go_wp2_with fail
                refine (recovered_nil _).mono ?_
                rintro e w11 ⟨rfl, h11⟩
                obtain rfl := h11.symm
                go_wp2_with fail
                refine (rlrec_nil _).mono ?_
                rintro e w11 ⟨rfl, h11⟩
                obtain rfl := h11.symm
                go_wp2
                go_ret
                exact ⟨rfl, HBw8.out.trans (HB10.out.mono HBw8.out.size)⟩
              · obtain ⟨f1, f2, f3⟩ := headNums_facts hsm
                have HSm := hid hsm
                have HL9 := hid hL9
                have hal := (HMd.out.opened N ns (by omega) f2 f3 (by rw [HSl.out]; omega)).alike
                rw [← ropen_of HMd.out N ns f2 (by omega) (by rw [HSl.out]; omega)] at hal
                have HAl := hid hal
                have hol : (openS S8 N ns).ops.length ≤ 200 := by
                  unfold openS
                  split
                  · rw [HS8o.out]; omega
                  · rw [homeS_doOps, (doOps_facts S8 _).2.2, List.length_append, HS8o.out]
                    simp [homeOps, natsZ]
                    omega
                have HOl := hid hol
                have hrol : (ropenR (refOf S8) N ns).l.length ≤ 1000 := by rw [← hal.ops]; omega
                have HRol := hid hrol
                have hnl : ns.length ≤ 100 := by omega
                clear hb9 hsm hL9 f1 f2 f3 hal hol hrol
                go_wp2_with fail
                refine (HRo.out w9 HB9.out).mono ?_
                clear HRo
                rintro e w10 ⟨hb10, ho10⟩
                rw [HSm.out] at ho10
                obtain ⟨q10, r10, lv10, vs10, Rd10, rfl, -, hR10⟩ := ho10
                have HR10 := hid hR10
                have HL10 := hid (HL9.out.below hb10)
                have HB10 := hid (HB9.out.trans (hb10.mono HB9.out.size))
                clear hb10 hR10 HL9
                go_wp2_with fail
                refine (HOps.out w10 HB10.out).mono ?_
                clear HOps
                rintro e w11 ⟨rfl, h11⟩
                obtain rfl := h11.symm
                have HRe := hid (wlog_rec w10 HL10.out)
                have HRr := hid (rlrec_any w10 HR10.out)
                go_wp2_with fail
                refine HRe.out.mono ?_
                clear HRe
                rintro e w11 ⟨rfl, h11⟩
                obtain rfl := h11.symm
                go_wp2_with fail
                refine HRr.out.mono ?_
                clear HRr
                rintro e w11 ⟨rfl, h11⟩
                obtain rfl := h11.symm
                have HLd := hid (log_disk w10 HL10.out (by have := HOl.out; omega))
                go_wp2_with fail
                refine HLd.out.mono ?_
                clear HLd
                rintro e w12 ⟨hb12, d12, rfl, hC12, -⟩
                have HRd := hid (rldisk_any w12 (HR10.out.below hb12))
                have HB12 := hid (HB10.out.trans (hb12.mono HB10.out.size))
                have HC12 := hid hC12
                clear hb12 hC12
                go_wp2_with fail
                refine HRd.out.mono ?_
                clear HRd
                rintro e w13 ⟨rfl, hb13, hR13⟩
                have HB13 := hid (HB12.out.trans (hb13.mono HB12.out.size))
                have HS13 := hid (wsame_ref d12 (openS S8 N ns) _ _ lv10 vs10 _ (ropenR (refOf S8) N ns) w13 (HC12.out.below hb13).rd hR13 HAl.out (by have := HRol.out; omega))
                clear hb13 hR13
                go_wp2_with fail
                refine HS13.out.mono ?_
                clear HS13
                rintro e w14 ⟨rfl, hb14⟩
                have HB14 := hid (HB13.out.trans (hb14.mono HB13.out.size))
                clear hb14
                go_wp2
                go_ret
                exact ⟨rfl, HBw8.out.trans (HB14.out.mono HBw8.out.size)⟩
      · have hge : ¬ ((k : Int) < (ds.length : Int)) := by omega
        clear hlt hg hM
        go_wp2_with fail
        refine HDk.out.mono ?_
        clear HDk
        rintro e w4 ⟨rfl, hb4, hR4⟩
        have HIm := hid (rimage_w wr.heap.size fv lv vs Rd (refOf S) w4 hR4 HoR.out (by have := HRl.out; omega))
        have HB4 := hid (HBw.out.trans (hb4.mono HBw.out.size))
        clear hb4 hR4
        go_wp2_with fail
        refine HIm.out.mono ?_
        clear HIm
        rintro e w5 ⟨hb5, sa, c6, vk, rfl, hC5⟩
        rw [HFl.out] at hC5 ⊢
        have HC5 := hid hC5
        have HB5 := hid (HB4.out.trans (hb5.mono HB4.out.size))
        have HL0 : Hid ((atL (refOf S) (refOf S).l.length).length = NN) := by unfold Hid; rw [length_atL, HFl.out]
        have HL50 := hid (atL_512P HoR.out (refOf S).l.length)
        have HLo : Hid (w.heap.size ≤ w4.heap.size) := HB4.out.size
        clear hb5 hC5
        generalize atL (refOf S) (refOf S).l.length = L0 at *
        go_wp2
        go_loopw [13] (fun i wr => ∃ (j : Nat) (L : List (List UInt8)), j ≤ sp.length ∧ j ≤ 12 ∧ i = .int .i64 j ∧ Hid (copiedW wr w4.heap.size (.slice sa NN c6) vk L NN) ∧ Hid (L.length = NN) ∧ Hid (∀ l ∈ L, l.length = 512) ∧ Hid (Below w.heap.size w wr)) (fun i _ => 12 - (intOf i).toNat)
        case atStart => exact ⟨0, L0, by omega, by omega, rfl, HC5, HL0, HL50, HB5⟩
        case round =>
          obtain ⟨j, L, hj1, hj2, rfl, hC, hLn, hL5, hB⟩ := hrel
          clear HC5 HL0 HL50 HB5
          by_cases hlt : j < sp.length ∧ j < 12
          · obtain ⟨hja, hjb⟩ := hlt
            have hj0 : (0 : Int) ≤ (j : Int) := by omega
            have hja' : (j : Int) < (sp.length : Int) := by omega
            have hjb' : (j : Int) < 12 := by omega
            obtain ⟨ab, ao, rfl, hdk⟩ := hSp.out j hja
            have hDw := hdk j hja
            obtain ⟨q0, q1, q2⟩ := hDw.below hB.out
            have HSp0 : Hid (ab < w4.heap.size) := by
              have h1 : ab < w.heap.size := World.block_lt_of_cell? w _ hDw.1
              have := HLo.out
              unfold Hid
              omega
            obtain ⟨D, hDe⟩ : ∃ D, D = sp[j] := ⟨_, rfl⟩
            rw [← hDe] at q0 q1 q2
            clear hdk hDe hDw
            by_cases h0 : 0 ≤ D.s ∧ D.s < (NN : Int) ∧ 0 ≤ D.a ∧ D.a < 512
            · skip
              have hs1 : (0 : Int) ≤ D.s := h0.1
              have hs2 : D.s < (NN : Int) := h0.2.1
              have ha1 : (0 : Int) ≤ D.a := h0.2.2.1
              have ha2 : D.a < 512 := h0.2.2.2
              obtain ⟨sn, hsn⟩ : ∃ sn : Nat, D.s = (sn : Int) := ⟨D.s.toNat, by omega⟩
              obtain ⟨an, han⟩ : ∃ an : Nat, D.a = (an : Int) := ⟨D.a.toNat, by omega⟩
              have hsl : sn < L.length := by rw [hLn.out]; omega
              obtain ⟨gi, ci, y1, y2, y3, y4, y5⟩ := hC.out.2.1 sn hsl (by omega)
              have h5s := hL5.out _ (List.getElem_mem hsl)
              obtain ⟨gt, ct, et, -⟩ := hC.out.1.form (by omega)
              simp only [Value.slice.injEq, true_and] at et
              obtain ⟨rfl, rfl⟩ := et
              have ctab : wr.cell? ⟨gt, sn, none⟩ = some (.slice (some ⟨gi, 0, none⟩) 512 ci) := by rw [hC.out.1.cellAt sn (by omega), y1, h5s]
              have fz : wr.frozen? ⟨gi, an, none⟩ = false := y5.frozenAt _
              obtain ⟨z, cz⟩ : ∃ z, wr.cell? ⟨gi, an, none⟩ = some (.int .u8 z) := ⟨_, by rw [y5.cellAt an (by omega), List.getElem?_map, List.getElem?_eq_getElem (by omega)]; rfl⟩
              have HPk := hid (copiedW_poke (x := an) hC.out hsl y1 y5 y4 D.b)
              have HL5 : Hid (∀ l ∈ L.set sn ((L[sn]).set an D.b), l.length = 512) := fun l hl => by
                rcases List.mem_or_eq_of_mem_set hl with h1 | h1
                · exact hL5.out l h1
                · rw [h1, List.length_set]; exact h5s
              have hgn : gi ≠ gt := fun e => y4 (by rw [e]; rfl)
              have hga : ab ≠ gi := by have := HSp0.out; omega
              have HBp : Hid (Below w.heap.size w (wr.setCell ⟨gi, an, none⟩ (.int .u8 (D.b.toNat : Int))).drew) := (hB.out.trans (below_of_grown (grown_setCell (grown_refl _ _) _ _) (by have := HLo.out; omega) hB.out.size)).drew
              have HPd : Hid (copiedW (wr.setCell ⟨gi, an, none⟩ (.int .u8 (D.b.toNat : Int))).drew w4.heap.size (.slice (some ⟨gt, 0, none⟩) NN c6) vk (L.set sn ((L[sn]).set an D.b)) NN) := copiedW_below HPk.out (Below.refl _ _).drew
              have hln2 : (L.set sn ((L[sn]).set an D.b)).length = NN := by rw [List.length_set]; exact hLn.out
              have HLn2 := hid hln2
              rw [hsn] at q0
              rw [han] at q1
              generalize L.set sn ((L[sn]).set an D.b) = L2 at *
              generalize D.b.toNat = bb at *
              have k0 : (0 : Int) ≤ (sn : Int) := by omega
              have k1 : (sn : Int) < (NN : Int) := by omega
              have k2 : (0 : Int) ≤ (an : Int) := by omega
              have k3 : (an : Int) < 512 := by omega
              clear h0 hs1 hs2 ha1 ha2 hsn han y1 y2 y3 y4 y5 h5s HPk hC hL5 hln2
              go_wp2
              refine wp_region_noPanic ?_
              refine wp_region_held_drew (S := fun W => W.cell? ⟨ab, ao + j * 3, none⟩ = some (.int .i64 (sn : Int)) ∧ W.cell? ⟨ab, ao + j * 3 + 1, none⟩ = some (.int .i64 (an : Int)) ∧ W.cell? ⟨ab, ao + j * 3 + 2, none⟩ = some (.int .u8 (bb : Int)) ∧ W.cell? ⟨gt, sn, none⟩ = some (.slice (some ⟨gi, 0, none⟩) 512 ci)) (by kernel_rfl) ⟨q0, q1, q2, ctab⟩ (fun hHeld => ?_)
              refine wpAnyH_take (i := 0) (v := ?_) rfl (by kernel_rfl) (by kernel_rfl) (by kernel_rfl) (fun _ _ _ h => h) (Or.inl ⟨by rfl, ?_⟩) (by assumption) ?_
              rotate_left
              · (intro W hSw; (try dsimp only at hSw); obtain ⟨s1, s2, s3, s4⟩ := hSw; go_simp; try with_reducible rfl)
              try simp only [List.getElem_toArray, List.getElem_cons_zero, Act.put, List.setIfInBounds_toArray, List.set_cons_zero, List.set_cons_succ]
              refine wpAnyH_take (i := 1) (v := ?_) rfl (by kernel_rfl) (by kernel_rfl) (by kernel_rfl) (fun _ _ _ h => h) (Or.inl ⟨by rfl, ?_⟩) (by assumption) ?_
              rotate_left
              · (intro W hSw; (try dsimp only at hSw); obtain ⟨s1, s2, s3, s4⟩ := hSw; go_simp; try with_reducible rfl)
              try simp only [List.getElem_toArray, List.getElem_cons_succ, List.getElem_cons_zero, Act.put, List.setIfInBounds_toArray, List.set_cons_zero, List.set_cons_succ]
              refine wpAnyH_take (i := 2) (v := ?_) rfl (by kernel_rfl) (by kernel_rfl) (by kernel_rfl) (fun _ _ _ h => h) (Or.inl ⟨by rfl, ?_⟩) (by assumption) ?_
              rotate_left
              · (intro W hSw; (try dsimp only at hSw); obtain ⟨s1, s2, s3, s4⟩ := hSw; go_simp; try with_reducible rfl)
              try simp only [List.getElem_toArray, List.getElem_cons_succ, List.getElem_cons_zero, Act.put, List.setIfInBounds_toArray, List.set_cons_zero, List.set_cons_succ]
              refine wpAnyH_take (i := 3) (v := ?_) rfl (by kernel_rfl) (by kernel_rfl) (by kernel_rfl) (fun _ _ _ h => h) (Or.inl ⟨by rfl, ?_⟩) (by assumption) ?_
              rotate_left
              · (intro W hSw; (try dsimp only at hSw); obtain ⟨s1, s2, s3, s4⟩ := hSw; go_simp; try with_reducible rfl)
              try simp only [List.getElem_toArray, List.getElem_cons_succ, List.getElem_cons_zero, Act.put, List.setIfInBounds_toArray, List.set_cons_zero, List.set_cons_succ]
              refine wpAnyH_take (i := 4) (v := ?_) rfl (by kernel_rfl) (by kernel_rfl) (by kernel_rfl) (fun _ _ _ h => h) (Or.inl ⟨by rfl, ?_⟩) (by assumption) ?_
              rotate_left
              · (intro W hSw; (try dsimp only at hSw); obtain ⟨s1, s2, s3, s4⟩ := hSw; go_simp; try with_reducible rfl)
              try simp only [List.getElem_toArray, List.getElem_cons_succ, List.getElem_cons_zero, Act.put, List.setIfInBounds_toArray, List.set_cons_zero, List.set_cons_succ]
              refine wpAnyH_take (i := 5) (v := ?_) rfl (by kernel_rfl) (by kernel_rfl) (by kernel_rfl) (fun _ _ _ h => h) (Or.inl ⟨by rfl, ?_⟩) (by assumption) ?_
              rotate_left
              · (intro W hSw; (try dsimp only at hSw); obtain ⟨s1, s2, s3, s4⟩ := hSw; go_simp; try with_reducible rfl)
              try simp only [List.getElem_toArray, List.getElem_cons_succ, List.getElem_cons_zero, Act.put, List.setIfInBounds_toArray, List.set_cons_zero, List.set_cons_succ]
              refine wpAnyH_take (i := 6) (v := ?_) rfl (by kernel_rfl) (by kernel_rfl) (by kernel_rfl) (fun _ _ _ h => h) (Or.inl ⟨by rfl, ?_⟩) (by assumption) ?_
              rotate_left
              · (intro W hSw; (try dsimp only at hSw); obtain ⟨s1, s2, s3, s4⟩ := hSw; go_simp; try with_reducible rfl)
              try simp only [List.getElem_toArray, List.getElem_cons_succ, List.getElem_cons_zero, Act.put, List.setIfInBounds_toArray, List.set_cons_zero, List.set_cons_succ]
              refine wpAnyH_take (i := 7) (v := ?_) rfl (by kernel_rfl) (by kernel_rfl) (by kernel_rfl) (fun _ _ _ h => h) (Or.inl ⟨by rfl, ?_⟩) (by assumption) ?_
              rotate_left
              · (intro W hSw; (try dsimp only at hSw); obtain ⟨s1, s2, s3, s4⟩ := hSw; go_simp; try with_reducible rfl)
              try simp only [List.getElem_toArray, List.getElem_cons_succ, List.getElem_cons_zero, Act.put, List.setIfInBounds_toArray, List.set_cons_zero, List.set_cons_succ]
              refine wpAnyH_take (i := 8) (v := ?_) rfl (by kernel_rfl) (by kernel_rfl) (by kernel_rfl) (fun _ _ _ h => h) (Or.inl ⟨by rfl, ?_⟩) (by assumption) ?_
              rotate_left
              · (intro W hSw; (try dsimp only at hSw); obtain ⟨s1, s2, s3, s4⟩ := hSw; go_simp; try with_reducible rfl)
              try simp only [List.getElem_toArray, List.getElem_cons_succ, List.getElem_cons_zero, Act.put, List.setIfInBounds_toArray, List.set_cons_zero, List.set_cons_succ]
              refine wpAnyH_take (i := 9) (v := ?_) rfl (by kernel_rfl) (by kernel_rfl) (by kernel_rfl) (fun _ _ _ h => h) (Or.inl ⟨by rfl, ?_⟩) (by assumption) ?_
              rotate_left
              · (intro W hSw; (try dsimp only at hSw); obtain ⟨s1, s2, s3, s4⟩ := hSw; go_simp; try with_reducible rfl)
              try simp only [List.getElem_toArray, List.getElem_cons_succ, List.getElem_cons_zero, Act.put, List.setIfInBounds_toArray, List.set_cons_zero, List.set_cons_succ]
              refine wpAnyH_take (i := 10) (v := ?_) rfl (by kernel_rfl) (by kernel_rfl) (by kernel_rfl) (fun _ _ _ h => h) (Or.inl ⟨by rfl, ?_⟩) (by assumption) ?_
              rotate_left
              · (intro W hSw; (try dsimp only at hSw); obtain ⟨s1, s2, s3, s4⟩ := hSw; go_simp; try with_reducible rfl)
              try simp only [List.getElem_toArray, List.getElem_cons_succ, List.getElem_cons_zero, Act.put, List.setIfInBounds_toArray, List.set_cons_zero, List.set_cons_succ]
              refine wpAnyH_take (i := 11) (v := ?_) rfl (by kernel_rfl) (by kernel_rfl) (by kernel_rfl) (fun _ _ _ h => h) (Or.inl ⟨by rfl, ?_⟩) (by assumption) ?_
              rotate_left
              · (intro W hSw; (try dsimp only at hSw); obtain ⟨s1, s2, s3, s4⟩ := hSw; go_simp; try with_reducible rfl)
              try simp only [List.getElem_toArray, List.getElem_cons_succ, List.getElem_cons_zero, Act.put, List.setIfInBounds_toArray, List.set_cons_zero, List.set_cons_succ]
              refine wpAnyH_take (i := 12) (v := ?_) rfl (by kernel_rfl) (by kernel_rfl) (by kernel_rfl) (fun _ _ _ h => h) (Or.inl ⟨by rfl, ?_⟩) (by assumption) ?_
              rotate_left
              · (intro W hSw; (try dsimp only at hSw); obtain ⟨s1, s2, s3, s4⟩ := hSw; go_simp; try with_reducible rfl)
              try simp only [List.getElem_toArray, List.getElem_cons_succ, List.getElem_cons_zero, Act.put, List.setIfInBounds_toArray, List.set_cons_zero, List.set_cons_succ]
              refine wpAnyH_take (i := 13) (v := ?_) rfl (by kernel_rfl) (by kernel_rfl) (by kernel_rfl) (fun _ _ _ h => h) (Or.inl ⟨by rfl, ?_⟩) (by assumption) ?_
              rotate_left
              · (intro W hSw; (try dsimp only at hSw); obtain ⟨s1, s2, s3, s4⟩ := hSw; go_simp; try with_reducible rfl)
              try simp only [List.getElem_toArray, List.getElem_cons_succ, List.getElem_cons_zero, Act.put, List.setIfInBounds_toArray, List.set_cons_zero, List.set_cons_succ]
              refine wpAnyH_take (i := 14) (v := ?_) rfl (by kernel_rfl) (by kernel_rfl) (by kernel_rfl) (fun _ _ _ h => h) (Or.inl ⟨by rfl, ?_⟩) (by assumption) ?_
              rotate_left
              · (intro W hSw; (try dsimp only at hSw); obtain ⟨s1, s2, s3, s4⟩ := hSw; go_simp; try with_reducible rfl)
              try simp only [List.getElem_toArray, List.getElem_cons_succ, List.getElem_cons_zero, Act.put, List.setIfInBounds_toArray, List.set_cons_zero, List.set_cons_succ]
              refine wpAnyH_take (i := 15) (v := ?_) rfl (by kernel_rfl) (by kernel_rfl) (by kernel_rfl) (fun _ _ _ h => h) (Or.inl ⟨by rfl, ?_⟩) (by assumption) ?_
              rotate_left
              · (intro W hSw; (try dsimp only at hSw); obtain ⟨s1, s2, s3, s4⟩ := hSw; go_simp; try with_reducible rfl)
              try simp only [List.getElem_toArray, List.getElem_cons_succ, List.getElem_cons_zero, Act.put, List.setIfInBounds_toArray, List.set_cons_zero, List.set_cons_succ]
              refine wpAnyH_take (i := 16) (v := ?_) rfl (by kernel_rfl) (by kernel_rfl) (by kernel_rfl) (fun _ _ _ h => h) (Or.inl ⟨by rfl, ?_⟩) (by assumption) ?_
              rotate_left
              · (intro W hSw; (try dsimp only at hSw); obtain ⟨s1, s2, s3, s4⟩ := hSw; go_simp; try with_reducible rfl)
              try simp only [List.getElem_toArray, List.getElem_cons_succ, List.getElem_cons_zero, Act.put, List.setIfInBounds_toArray, List.set_cons_zero, List.set_cons_succ]
              refine wpAnyH_take (i := 17) (v := ?_) rfl (by kernel_rfl) (by kernel_rfl) (by kernel_rfl) (fun _ _ _ h => h) (Or.inl ⟨by rfl, ?_⟩) (by assumption) ?_
              rotate_left
              · (intro W hSw; (try dsimp only at hSw); obtain ⟨s1, s2, s3, s4⟩ := hSw; go_simp; try with_reducible rfl)
              try simp only [List.getElem_toArray, List.getElem_cons_succ, List.getElem_cons_zero, Act.put, List.setIfInBounds_toArray, List.set_cons_zero, List.set_cons_succ]
              refine wpAnyH_take (i := 18) (v := ?_) rfl (by kernel_rfl) (by kernel_rfl) (by kernel_rfl) (fun _ _ _ h => h) (Or.inl ⟨by rfl, ?_⟩) (by assumption) ?_
              rotate_left
              · (intro W hSw; (try dsimp only at hSw); obtain ⟨s1, s2, s3, s4⟩ := hSw; go_simp; try with_reducible rfl)
              try simp only [List.getElem_toArray, List.getElem_cons_succ, List.getElem_cons_zero, Act.put, List.setIfInBounds_toArray, List.set_cons_zero, List.set_cons_succ]
              refine wpAnyH_ready (rs := [19]) (by kernel_rfl) (by simp) (AllReadyH.cons rfl (fun K hKK => ?_) AllReadyH.nil)
              rw [if_pos (by rfl)]
              unfold Oper.wp
              go_simp
              refine hKK.out _ _ ⟨by show (wr.setCell _ _).cell? _ = _; rw [World.cell?_setCell_far _ _ _ _ (fun e => hga e.symm)]; exact q0, by show (wr.setCell _ _).cell? _ = _; rw [World.cell?_setCell_far _ _ _ _ (fun e => hga e.symm)]; exact q1, by show (wr.setCell _ _).cell? _ = _; rw [World.cell?_setCell_far _ _ _ _ (fun e => hga e.symm)]; exact q2, by show (wr.setCell _ _).cell? _ = _; rw [World.cell?_setCell_far _ _ _ _ hgn]; exact ctab⟩ (fun hHeld => ?_)
              clear hKK K
              refine wpAnyH_done (by kernel_rfl) ?_ _
              refine NoPanic.normal ?_
              clear hHeld q0 q1 q2 ctab fz cz
              go_wp2
              exact ⟨⟨j + 1, L2, by omega, by omega, by go_num, HPd, HLn2, HL5, HBp⟩, by simp [intOf]; omega⟩
            · skip
              by_cases hn1 : D.s < 0
              · have hd : decide (D.s ≥ 0) = false := decide_eq_false (by omega)
                have hd' : ¬ (D.s ≥ 0) := by omega
                go_wp2
                exact ⟨⟨j + 1, L, by omega, by omega, by go_num, hC, hLn, hL5, hB⟩, by simp [intOf]; omega⟩
              · by_cases hn2 : D.s ≥ (NN : Int)
                · have hd' : D.s ≥ 0 := by omega
                  have hd2 : ¬ (D.s < (NN : Int)) := by omega
                  go_wp2
                  exact ⟨⟨j + 1, L, by omega, by omega, by go_num, hC, hLn, hL5, hB⟩, by simp [intOf]; omega⟩
                · have hd' : D.s ≥ 0 := by omega
                  have hd2 : D.s < (NN : Int) := by omega
                  by_cases hn3 : D.a < 0
                  · have hd3 : ¬ (D.a ≥ 0) := by omega
                    go_wp2
                    exact ⟨⟨j + 1, L, by omega, by omega, by go_num, hC, hLn, hL5, hB⟩, by simp [intOf]; omega⟩
                  · have hd3 : D.a ≥ 0 := by omega
                    have hd4 : ¬ (D.a < 512) := by omega
                    go_wp2
                    exact ⟨⟨j + 1, L, by omega, by omega, by go_num, hC, hLn, hL5, hB⟩, by simp [intOf]; omega⟩
          · by_cases hg2 : j < sp.length
            · have hgf : ((j : Int) < (sp.length : Int)) := by omega
              have hgf2 : ¬ ((j : Int) < 12) := by omega
              clear hlt hg2
              have hLen1 : 1 ≤ L.length ∧ L.length ≤ 4096 := by rw [hLn.out]; omega
              have hrw : rowsAt wr sa L := by
                have h1 := hC.out
                rw [← hLn.out] at h1
                obtain ⟨a2, c2, e2, h2⟩ := copiedW_end h1
                simp only [Value.slice.injEq] at e2
                obtain ⟨rfl, -, rfl⟩ := e2
                exact h2.at
              have hld := load_disk L sa c6 wr hrw (by omega)
              have hrl := fun W (hW : Below wr.heap.size wr W) => rload_any L sa c6 W (hrw.below hW) (by omega)
              rw [hLn.out] at hld
              have hrl' : ∀ W, Below wr.heap.size wr W → Calls Tryz.prog 25 #[.slice sa NN c6] W fun e w' => rloaded L W w' e := fun W hW => by
                have := hrl W hW
                rw [hLn.out] at this
                exact this
              have HLd := hid hld
              have HRl := hid hrl'
              have hlen0 := hLen1
              clear hrw hld hrl hrl' hC hLen1
              go_wp2_with fail
              refine HLd.out.mono ?_
              clear HLd
              rintro e w7 ⟨hb7, hl7⟩
              rcases hl7 with ⟨hx, -⟩ | ⟨-, hx, -⟩ | ⟨-, -, d7, rfl, hD7, hf7, -⟩
              · rw [hLn.out] at hlen0; exact absurd hlen0 hx
              · exact absurd hL5.out hx
              have HB7 := hid hb7
              have HD7 := hid hD7
              clear hb7 hD7 hf7
              go_wp2_with fail
              refine (HRl.out w7 HB7.out).mono ?_
              clear HRl
              rintro e w8 ⟨hb8, hl8⟩
              rcases hl8 with ⟨hx, -⟩ | ⟨-, hx, -⟩ | ⟨-, -, r8, a8, c8, rfl, hr8, hh8, hf8⟩
              · exact absurd hlen0 hx
              · exact absurd hL5.out hx
              have hRi := refIn_load hh8 hf8 (by rw [hLn.out]; omega) hL5.out
              have hMd : Made (freshS (secsOf L)) := made_fresh _ (by rw [length_secsOf]; exact hlen0.2) (fun s hs => by
                obtain ⟨l, hl, rfl⟩ := List.mem_map.1 hs
                exact size_bytes _ (hL5.out l hl))
              have hrf : (⟨L, []⟩ : RefS) = refOf (freshS (secsOf L)) := by
                show _ = (⟨bytesOf (secsOf L), []⟩ : RefS)
                rw [bytesOf_secs]
              rw [hrf] at hRi
              have hsl8 : (freshS (secsOf L)).safe.length = NN := by
                show (secsOf L).length = NN
                rw [length_secsOf, hLn.out]
              have HD8 := hid (HD7.out.below hb8)
              have HB8 := hid (HB7.out.trans (hb8.mono HB7.out.size))
              have HRi := hid hRi
              have HMd := hid hMd
              have HSl := hid hsl8
              have HS8o : Hid ((freshS (secsOf L)).ops.length = 0) := rfl
              clear hb8 hh8 hf8 hRi hrf hMd hsl8 hlen0 hL5 HD7
              generalize freshS (secsOf L) = S8 at *
              have hop := open_any d7 S8 (fun i => d7.foot S8.waits i) N w8 (.inr ⟨HD8.out, fun _ h => h⟩) (by rw [HS8o.out]; decide) hN1 (by rw [HSl.out]; omega) (fun n hn => HMd.out.sec n hn)
              have HOp := hid hop
              have hb0 : (atL (refOf S8) (refOf S8).l.length)[0]? = some (secL S8 0) := img_atP HMd.out 0 (by rw [HSl.out]; omega)
              have hfl8 : (refOf S8).first.length = NN := by
                show (bytesOf S8.first).length = NN
                rw [length_bytesOf, ← HMd.out.len, HSl.out]
              have HRo : Hid (∀ W, Below w8.heap.size w8 W → Calls Tryz.prog 27 #[.pointer (some ⟨r8, 0, none⟩), .int .i64 N] W fun e w' => Below W.heap.size W w' ∧ ROpenTo (refOf S8) N (.slice a8 L.length c8) W.heap.size w' e (headNums (secL S8 0) N (pagesS S8 N))) := fun W hW => by
                have := ropen_any r8 _ _ _ _ (refOf S8) N (secL S8 0) W (HRi.out.below hW) (fun i hi => Nat.lt_of_lt_of_le hi.1 hW.size) HMd.out.alike.ok (by rw [refOf_len, HS8o.out]; decide) hN1 (by rw [hfl8]; omega) hb0 (HMd.out.sec 0 (by rw [HSl.out]; omega))
                rwa [HMd.out.pagesR] at this
              have HOps : Hid (∀ W, Below w8.heap.size w8 W → Calls Tryz.prog 28 #[.pointer (some ⟨d7.p, 0, none⟩)] W fun e w' => e = .returned (.int .i64 0) ∧ w' = W) := fun W hW => by
                have := ops_disk d7 S8 W (HD8.out.below hW)
                rw [HS8o.out] at this
                exact this
              have HBw8 := hid (hB.out.trans (HB8.out.mono hB.out.size))
              clear hop hb0 hfl8 HRi
              go_wp2_with fail
              refine HOp.out.mono ?_
              clear HOp
              rintro e w9 ⟨hb9, ho9⟩
              have HB9 := hid hb9
              rcases ho9 with ⟨hno, rfl⟩ | ⟨ns, p9, d9, hsm, rfl, hp9, hL9⟩
              · have HNo := hid hno
                clear hb9 hno
                go_wp2_with fail
                refine (HRo.out w9 HB9.out).mono ?_
                clear HRo
                rintro e w10 ⟨hb10, ho10⟩
                rw [HNo.out] at ho10
                obtain rfl := ho10
                have HB10 := hid (HB9.out.trans (hb10.mono HB9.out.size))
                clear hb10
                go_wp2_with fail
                refine (HOps.out w10 HB10.out).mono ?_
                clear HOps
                rintro e w11 ⟨rfl, h11⟩
                obtain rfl := h11.symm
                go_wp2_with fail
                refine (recovered_nil _).mono ?_
                rintro e w11 ⟨rfl, h11⟩
                obtain rfl := h11.symm
                go_wp2_with fail
                refine (rlrec_nil _).mono ?_
                rintro e w11 ⟨rfl, h11⟩
                obtain rfl := h11.symm
                go_wp2
                go_ret
                exact ⟨rfl, HBw8.out.trans (HB10.out.mono HBw8.out.size)⟩
              · obtain ⟨f1, f2, f3⟩ := headNums_facts hsm
                have HSm := hid hsm
                have HL9 := hid hL9
                have hal := (HMd.out.opened N ns (by omega) f2 f3 (by rw [HSl.out]; omega)).alike
                rw [← ropen_of HMd.out N ns f2 (by omega) (by rw [HSl.out]; omega)] at hal
                have HAl := hid hal
                have hol : (openS S8 N ns).ops.length ≤ 200 := by
                  unfold openS
                  split
                  · rw [HS8o.out]; omega
                  · rw [homeS_doOps, (doOps_facts S8 _).2.2, List.length_append, HS8o.out]
                    simp [homeOps, natsZ]
                    omega
                have HOl := hid hol
                have hrol : (ropenR (refOf S8) N ns).l.length ≤ 1000 := by rw [← hal.ops]; omega
                have HRol := hid hrol
                have hnl : ns.length ≤ 100 := by omega
                clear hb9 hsm hL9 f1 f2 f3 hal hol hrol
                go_wp2_with fail
                refine (HRo.out w9 HB9.out).mono ?_
                clear HRo
                rintro e w10 ⟨hb10, ho10⟩
                rw [HSm.out] at ho10
                obtain ⟨q10, r10, lv10, vs10, Rd10, rfl, -, hR10⟩ := ho10
                have HR10 := hid hR10
                have HL10 := hid (HL9.out.below hb10)
                have HB10 := hid (HB9.out.trans (hb10.mono HB9.out.size))
                clear hb10 hR10 HL9
                go_wp2_with fail
                refine (HOps.out w10 HB10.out).mono ?_
                clear HOps
                rintro e w11 ⟨rfl, h11⟩
                obtain rfl := h11.symm
                have HRe := hid (wlog_rec w10 HL10.out)
                have HRr := hid (rlrec_any w10 HR10.out)
                go_wp2_with fail
                refine HRe.out.mono ?_
                clear HRe
                rintro e w11 ⟨rfl, h11⟩
                obtain rfl := h11.symm
                go_wp2_with fail
                refine HRr.out.mono ?_
                clear HRr
                rintro e w11 ⟨rfl, h11⟩
                obtain rfl := h11.symm
                have HLd := hid (log_disk w10 HL10.out (by have := HOl.out; omega))
                go_wp2_with fail
                refine HLd.out.mono ?_
                clear HLd
                rintro e w12 ⟨hb12, d12, rfl, hC12, -⟩
                have HRd := hid (rldisk_any w12 (HR10.out.below hb12))
                have HB12 := hid (HB10.out.trans (hb12.mono HB10.out.size))
                have HC12 := hid hC12
                clear hb12 hC12
                go_wp2_with fail
                refine HRd.out.mono ?_
                clear HRd
                rintro e w13 ⟨rfl, hb13, hR13⟩
                have HB13 := hid (HB12.out.trans (hb13.mono HB12.out.size))
                have HS13 := hid (wsame_ref d12 (openS S8 N ns) _ _ lv10 vs10 _ (ropenR (refOf S8) N ns) w13 (HC12.out.below hb13).rd hR13 HAl.out (by have := HRol.out; omega))
                clear hb13 hR13
                go_wp2_with fail
                refine HS13.out.mono ?_
                clear HS13
                rintro e w14 ⟨rfl, hb14⟩
                have HB14 := hid (HB13.out.trans (hb14.mono HB13.out.size))
                clear hb14
                go_wp2
                go_ret
                exact ⟨rfl, HBw8.out.trans (HB14.out.mono HBw8.out.size)⟩
            · have hgf : ¬ ((j : Int) < (sp.length : Int)) := by omega
              clear hlt hg2
              have hLen1 : 1 ≤ L.length ∧ L.length ≤ 4096 := by rw [hLn.out]; omega
              have hrw : rowsAt wr sa L := by
                have h1 := hC.out
                rw [← hLn.out] at h1
                obtain ⟨a2, c2, e2, h2⟩ := copiedW_end h1
                simp only [Value.slice.injEq] at e2
                obtain ⟨rfl, -, rfl⟩ := e2
                exact h2.at
              have hld := load_disk L sa c6 wr hrw (by omega)
              have hrl := fun W (hW : Below wr.heap.size wr W) => rload_any L sa c6 W (hrw.below hW) (by omega)
              rw [hLn.out] at hld
              have hrl' : ∀ W, Below wr.heap.size wr W → Calls Tryz.prog 25 #[.slice sa NN c6] W fun e w' => rloaded L W w' e := fun W hW => by
                have := hrl W hW
                rw [hLn.out] at this
                exact this
              have HLd := hid hld
              have HRl := hid hrl'
              have hlen0 := hLen1
              clear hrw hld hrl hrl' hC hLen1
              go_wp2_with fail
              refine HLd.out.mono ?_
              clear HLd
              rintro e w7 ⟨hb7, hl7⟩
              rcases hl7 with ⟨hx, -⟩ | ⟨-, hx, -⟩ | ⟨-, -, d7, rfl, hD7, hf7, -⟩
              · rw [hLn.out] at hlen0; exact absurd hlen0 hx
              · exact absurd hL5.out hx
              have HB7 := hid hb7
              have HD7 := hid hD7
              clear hb7 hD7 hf7
              go_wp2_with fail
              refine (HRl.out w7 HB7.out).mono ?_
              clear HRl
              rintro e w8 ⟨hb8, hl8⟩
              rcases hl8 with ⟨hx, -⟩ | ⟨-, hx, -⟩ | ⟨-, -, r8, a8, c8, rfl, hr8, hh8, hf8⟩
              · exact absurd hlen0 hx
              · exact absurd hL5.out hx
              have hRi := refIn_load hh8 hf8 (by rw [hLn.out]; omega) hL5.out
              have hMd : Made (freshS (secsOf L)) := made_fresh _ (by rw [length_secsOf]; exact hlen0.2) (fun s hs => by
                obtain ⟨l, hl, rfl⟩ := List.mem_map.1 hs
                exact size_bytes _ (hL5.out l hl))
              have hrf : (⟨L, []⟩ : RefS) = refOf (freshS (secsOf L)) := by
                show _ = (⟨bytesOf (secsOf L), []⟩ : RefS)
                rw [bytesOf_secs]
              rw [hrf] at hRi
              have hsl8 : (freshS (secsOf L)).safe.length = NN := by
                show (secsOf L).length = NN
                rw [length_secsOf, hLn.out]
              have HD8 := hid (HD7.out.below hb8)
              have HB8 := hid (HB7.out.trans (hb8.mono HB7.out.size))
              have HRi := hid hRi
              have HMd := hid hMd
              have HSl := hid hsl8
              have HS8o : Hid ((freshS (secsOf L)).ops.length = 0) := rfl
              clear hb8 hh8 hf8 hRi hrf hMd hsl8 hlen0 hL5 HD7
              generalize freshS (secsOf L) = S8 at *
              have hop := open_any d7 S8 (fun i => d7.foot S8.waits i) N w8 (.inr ⟨HD8.out, fun _ h => h⟩) (by rw [HS8o.out]; decide) hN1 (by rw [HSl.out]; omega) (fun n hn => HMd.out.sec n hn)
              have HOp := hid hop
              have hb0 : (atL (refOf S8) (refOf S8).l.length)[0]? = some (secL S8 0) := img_atP HMd.out 0 (by rw [HSl.out]; omega)
              have hfl8 : (refOf S8).first.length = NN := by
                show (bytesOf S8.first).length = NN
                rw [length_bytesOf, ← HMd.out.len, HSl.out]
              have HRo : Hid (∀ W, Below w8.heap.size w8 W → Calls Tryz.prog 27 #[.pointer (some ⟨r8, 0, none⟩), .int .i64 N] W fun e w' => Below W.heap.size W w' ∧ ROpenTo (refOf S8) N (.slice a8 L.length c8) W.heap.size w' e (headNums (secL S8 0) N (pagesS S8 N))) := fun W hW => by
                have := ropen_any r8 _ _ _ _ (refOf S8) N (secL S8 0) W (HRi.out.below hW) (fun i hi => Nat.lt_of_lt_of_le hi.1 hW.size) HMd.out.alike.ok (by rw [refOf_len, HS8o.out]; decide) hN1 (by rw [hfl8]; omega) hb0 (HMd.out.sec 0 (by rw [HSl.out]; omega))
                rwa [HMd.out.pagesR] at this
              have HOps : Hid (∀ W, Below w8.heap.size w8 W → Calls Tryz.prog 28 #[.pointer (some ⟨d7.p, 0, none⟩)] W fun e w' => e = .returned (.int .i64 0) ∧ w' = W) := fun W hW => by
                have := ops_disk d7 S8 W (HD8.out.below hW)
                rw [HS8o.out] at this
                exact this
              have HBw8 := hid (hB.out.trans (HB8.out.mono hB.out.size))
              clear hop hb0 hfl8 HRi
              go_wp2_with fail
              refine HOp.out.mono ?_
              clear HOp
              rintro e w9 ⟨hb9, ho9⟩
              have HB9 := hid hb9
              rcases ho9 with ⟨hno, rfl⟩ | ⟨ns, p9, d9, hsm, rfl, hp9, hL9⟩
              · have HNo := hid hno
                clear hb9 hno
                go_wp2_with fail
                refine (HRo.out w9 HB9.out).mono ?_
                clear HRo
                rintro e w10 ⟨hb10, ho10⟩
                rw [HNo.out] at ho10
                obtain rfl := ho10
                have HB10 := hid (HB9.out.trans (hb10.mono HB9.out.size))
                clear hb10
                go_wp2_with fail
                refine (HOps.out w10 HB10.out).mono ?_
                clear HOps
                rintro e w11 ⟨rfl, h11⟩
                obtain rfl := h11.symm
                go_wp2_with fail
                refine (recovered_nil _).mono ?_
                rintro e w11 ⟨rfl, h11⟩
                obtain rfl := h11.symm
                go_wp2_with fail
                refine (rlrec_nil _).mono ?_
                rintro e w11 ⟨rfl, h11⟩
                obtain rfl := h11.symm
                go_wp2
                go_ret
                exact ⟨rfl, HBw8.out.trans (HB10.out.mono HBw8.out.size)⟩
              · obtain ⟨f1, f2, f3⟩ := headNums_facts hsm
                have HSm := hid hsm
                have HL9 := hid hL9
                have hal := (HMd.out.opened N ns (by omega) f2 f3 (by rw [HSl.out]; omega)).alike
                rw [← ropen_of HMd.out N ns f2 (by omega) (by rw [HSl.out]; omega)] at hal
                have HAl := hid hal
                have hol : (openS S8 N ns).ops.length ≤ 200 := by
                  unfold openS
                  split
                  · rw [HS8o.out]; omega
                  · rw [homeS_doOps, (doOps_facts S8 _).2.2, List.length_append, HS8o.out]
                    simp [homeOps, natsZ]
                    omega
                have HOl := hid hol
                have hrol : (ropenR (refOf S8) N ns).l.length ≤ 1000 := by rw [← hal.ops]; omega
                have HRol := hid hrol
                have hnl : ns.length ≤ 100 := by omega
                clear hb9 hsm hL9 f1 f2 f3 hal hol hrol
                go_wp2_with fail
                refine (HRo.out w9 HB9.out).mono ?_
                clear HRo
                rintro e w10 ⟨hb10, ho10⟩
                rw [HSm.out] at ho10
                obtain ⟨q10, r10, lv10, vs10, Rd10, rfl, -, hR10⟩ := ho10
                have HR10 := hid hR10
                have HL10 := hid (HL9.out.below hb10)
                have HB10 := hid (HB9.out.trans (hb10.mono HB9.out.size))
                clear hb10 hR10 HL9
                go_wp2_with fail
                refine (HOps.out w10 HB10.out).mono ?_
                clear HOps
                rintro e w11 ⟨rfl, h11⟩
                obtain rfl := h11.symm
                have HRe := hid (wlog_rec w10 HL10.out)
                have HRr := hid (rlrec_any w10 HR10.out)
                go_wp2_with fail
                refine HRe.out.mono ?_
                clear HRe
                rintro e w11 ⟨rfl, h11⟩
                obtain rfl := h11.symm
                go_wp2_with fail
                refine HRr.out.mono ?_
                clear HRr
                rintro e w11 ⟨rfl, h11⟩
                obtain rfl := h11.symm
                have HLd := hid (log_disk w10 HL10.out (by have := HOl.out; omega))
                go_wp2_with fail
                refine HLd.out.mono ?_
                clear HLd
                rintro e w12 ⟨hb12, d12, rfl, hC12, -⟩
                have HRd := hid (rldisk_any w12 (HR10.out.below hb12))
                have HB12 := hid (HB10.out.trans (hb12.mono HB10.out.size))
                have HC12 := hid hC12
                clear hb12 hC12
                go_wp2_with fail
                refine HRd.out.mono ?_
                clear HRd
                rintro e w13 ⟨rfl, hb13, hR13⟩
                have HB13 := hid (HB12.out.trans (hb13.mono HB12.out.size))
                have HS13 := hid (wsame_ref d12 (openS S8 N ns) _ _ lv10 vs10 _ (ropenR (refOf S8) N ns) w13 (HC12.out.below hb13).rd hR13 HAl.out (by have := HRol.out; omega))
                clear hb13 hR13
                go_wp2_with fail
                refine HS13.out.mono ?_
                clear HS13
                rintro e w14 ⟨rfl, hb14⟩
                have HB14 := hid (HB13.out.trans (hb14.mono HB13.out.size))
                clear hb14
                go_wp2
                go_ret
                exact ⟨rfl, HBw8.out.trans (HB14.out.mono HBw8.out.size)⟩
end Go.Proofs.YtmnepbdbbdcllaaGreat
