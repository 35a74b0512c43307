/- The walk of TopPages. -/
import Derived.Test.YtjgclmlclkfgpaaGreatTPagesP
namespace Go.Proofs.YtjgclmlclkfgpaaGreat
open Go.RowKit
theorem u8_add (x : UInt8) (k : Nat) : ∃ y : UInt8, IntKind.u8.wrap ((x.toNat : Int) + (k : Int)) = (y.toNat : Int) := by
  refine ⟨UInt8.ofNat ((x.toNat + k) % 256), ?_⟩
  rw [UInt8.toNat_ofNat']
  rw [IntKind.wrap_u8]
  omega
theorem zN_at (n i : Nat) (h : i < n) : (zN n)[i]? = some 0 := by unfold zN; rw [List.getElem?_replicate, if_pos h]
/-- A page of noughts with one byte. -/
def sevL (y : UInt8) : List UInt8 := (zN 512).set 7 y
theorem length_sevL (y : UInt8) : (sevL y).length = 512 := by unfold sevL; rw [List.length_set, length_zN]
theorem sevL_at (y : UInt8) : (sevL y)[7]? = some y := by unfold sevL; rw [List.getElem?_set_self (by rw [length_zN]; decide)]
set_option maxRecDepth 100000 in
set_option maxHeartbeats 4000000 in
theorem topPages_walk (ls : List (List UInt8)) (la : Option Addr) (lc : Nat) (x : UInt8) (ch : List UInt8) (ca : Option Addr) (cc : Nat) (w : World) (hls : rowsAt w la ls) (hcb : bytesIn w ca ch) (hch : ch.length ≤ 9223372036854775807) :
    Calls Tryz.prog 6 #[.slice la ls.length lc, .int .u8 (x.toNat : Int), .slice ca ch.length cc] w fun e w' => e = .returned (.bool true) ∧ Below w.heap.size w w' := by
  have HLs := hid hls
  have HCB := hid hcb
  have hx0 : (0 : Int) ≤ (x.toNat : Int) := by omega
  have hx1 : (x.toNat : Int) ≤ 255 := by have := x.toNat_lt; omega
  have HX := hid (u8_add x)
  clear hls hcb
  go_enter Tryz.func6, Tryz.ntmps6
  go_wp2_with fail
  refine (new_disk 60 (by omega) (by omega) _).mono ?_
  rintro e w1 ⟨d, rfl, hD, -, -, hB⟩
  have HD : Hid (DiskIn w1 d (freshN 60)) := hD
  have HB1 := hid hB
  have HOp := hid (open_zero d (freshN 60) 20 w1 hD (by show 0 ≤ 4096; decide) (by decide) (by rw [freshN_len]; decide) (by rw [show ((0 : Int)) = ((0 : Nat) : Int) from rfl, freshN_seen 60 0 (by omega)]; exact blank_zeros))
  clear hD hB
  go_wp2_with fail
  refine HOp.out.mono ?_
  clear HOp
  rintro e w2 ⟨hb2, p, d2, rfl, hp2, hL2⟩
  have HL2 := hid hL2
  have HB2 := hid (HB1.out.trans (hb2.mono HB1.out.size))
  have hs12 := hb2.size
  have hpl2 := lt_of_heap hL2.heap
  have hs01 := HB1.out.size
  have HNw := hid (bnew_ok p d2 (freshN 60) 20 _ 2 (by omega) (by omega) w2 hL2 (fun i hi => Nat.lt_trans hi.2 hpl2) (by rw [freshN_len]; decide))
  clear hb2 hL2 HD HB1
  go_wp2_with fail
  refine HNw.out.mono ?_
  clear HNw
  rintro e w3 ⟨hb3, c, L, rfl, hc, hdv, hF, hft, hC⟩
  have HC := hid hC
  have HB3 := hid (HB2.out.trans (hb3.mono HB2.out.size))
  have HDv := hid hdv
  have HFt : Hid (∀ i, L.foot c i → w1.heap.size ≤ i ∧ i < w3.heap.size) := fun i hi => ⟨by rcases hft i hi with h | h; exact h.1; omega, hC.footLt i hi⟩
  clear hb3 hdv hF hft hC hc HL2 HB2
  go_wp2_with (refine wpList_make_u8 rfl (.const (.int .i64 39)) (.const (.int .i64 39)) rfl 39 39 rfl rfl rfl (by omega) ?_; intro w4 hb4 hr4 hz4; have HB34 := hid hb4; have HR4 : Hid (ownB w4 w3.heap.size (zN 39)) := (by unfold Hid ownB; rw [hr4, rep_U8]); have hz4' := hz4; clear hb4 hr4 hz4)
  obtain ⟨WB, hWB⟩ : ∃ WB, WB = w3.heap.size := ⟨_, rfl⟩
  rw [← hWB] at HR4 hz4' HFt ⊢
  have HP4 : Hid (PgAt w w4 c WB 0 0 0 (zN 39) (zN 39)) := by
    refine ⟨HB3.out.trans (HB34.out.mono HB3.out.size), L, _, HC.out.below HB34.out, rfl, ?_, ?_, rfl, headOk_fresh 60 (by omega), Nat.le_refl _, by rw [CS.dirtyKeys_none rfl]; simp, Nat.le_refl _, fun i hi => Nat.le_trans hs01 (HFt.out i hi).1, fun hi => Nat.lt_irrefl _ (HFt.out _ hi).2, ?_, fun n g cap hn => (by rw [HDv.out] at hn; cases hn), HR4.out, length_zN _, length_zN _, fun n hn => ?_⟩
    · show pagesS (freshN 60) 20 = 39
      unfold pagesS; rw [freshN_len]
    · exact made_fresh _ (by simp) (fun s hs => by rw [List.eq_of_mem_replicate hs]; exact blank_size)
    · rw [hWB]; exact HB3.out.size
    · have e1 : ({ S := freshN 60, size := 20, N := pagesS (freshN 60) 20, dirty := fun _ => none, most := 2, uses := 0, used := fun _ => none } : CS).see n = zN 512 := by
        show secL (freshN 60) (1 + 20 + n) = zN 512
        unfold secL
        rw [freshN_seen 60 (1 + 20 + n) (by omega)]
        exact blank_zeros
      rw [e1, zN_at 512 7 (by decide), zN_at 39 n hn]
  have hWw : w.heap.size ≤ WB := by rw [hWB]; exact HB3.out.size
  clear HC HB3 HB34 HDv HFt HR4 hWB hs12 hs01 hpl2 hz4' hp2
  go_loopw [9, 10, 11, 14] (fun lp ev cp i wr => ∃ (k : Nat) (c : Nat) (wl : List UInt8), k ≤ ls.length ∧ k ≤ 10 ∧ cp = .pointer (some ⟨c, 0, none⟩) ∧ i = .int .i64 k ∧ Hid (PgAt w wr c WB 0 0 0 wl wl)) (fun _ _ _ i _ => 10 - (intOf i).toNat)
  case atStart => exact ⟨0, c, zN 39, by omega, by omega, rfl, rfl, HP4⟩
  case round =>
    obtain ⟨k, c1, wl1, hk1, hk2, rfl, rfl, hP⟩ := hrel
    clear HP4
    by_cases hlt : k < ls.length ∧ k < 10
    · obtain ⟨hka, hkb⟩ := hlt
      have hk0 : (0 : Int) ≤ (k : Int) := by omega
      have hka' : (k : Int) < (ls.length : Int) := by omega
      have hkb' : (k : Int) < 10 := by omega
      obtain ⟨lb, lo, rfl, hrow⟩ := HLs.out k hka
      obtain ⟨ra, rc, hrc, hrb⟩ := hrow k hka
      obtain ⟨R, hR⟩ : ∃ R, R = ls[k] := ⟨_, rfl⟩
      rw [← hR] at hrc hrb
      have HRc : Hid (∀ W, Below w.heap.size w W → W.cell? ⟨lb, lo + k, none⟩ = some (.slice ra R.length rc)) := fun W hW => (hW.cell (p := ⟨lb, lo + k, none⟩) (World.block_lt_of_cell? w _ hrc)).trans hrc
      have HRb := hid hrb
      clear hrow hrc hrb hR
      go_wp2
      go_loopw [15] (fun i wr => ∃ (j : Nat) (wl : List UInt8), j ≤ R.length ∧ j ≤ 15 ∧ i = .int .i64 j ∧ Hid (PgAt w wr c1 WB j 0 0 wl wl)) (fun i _ => 15 - (intOf i).toNat)
      case atStart => exact ⟨0, wl1, by omega, by omega, rfl, hP⟩
      case round =>
        obtain ⟨j, wl, hj1, hj2, rfl, hQ⟩ := hrel
        clear hP
        have cr := HRc.out _ hQ.out.1
        by_cases hltj : j < R.length ∧ j < 15
        · obtain ⟨hja, hjb⟩ := hltj
          have hj0 : (0 : Int) ≤ (j : Int) := by omega
          have hja' : (j : Int) < (R.length : Int) := by omega
          have hjb' : (j : Int) < 15 := by omega
          obtain ⟨gb, go, rfl, hgc⟩ := HRb.out j hja
          have hck := hgc j hja
          have ck := (hQ.out.1.cell (p := ⟨gb, go + j, none⟩) (World.block_lt_of_cell? w _ hck)).trans hck
          obtain ⟨n, hn⟩ : ∃ n : Nat, (n : Int) = (R[j].toNat : Int) % 39 := ⟨R[j].toNat % 39, by omega⟩
          have hn39 : n < 39 := by omega
          have hp0 : (0 : Int) ≤ (R[j].toNat : Int) := by omega
          have hp1 : (R[j].toNat : Int) ≤ 255 := by have := R[j].toNat_lt; omega
          have hpn := hn.symm
          generalize (R[j].toNat : Int) = pv at *
          obtain ⟨y, hy⟩ := HX.out j
          have hjw : IntKind.u8.wrap (j : Int) = (j : Int) := IntWalk.u8_in _ (by omega)
          have hn0 : (0 : Int) ≤ (n : Int) := by omega
          have hn1 : (n : Int) < 39 := by omega
          clear hgc hck hn
          go_upto_region 14 with fail
          clear ck cr
          go_upto_region 15 with (refine wpList_make_u8 rfl (.const (.int .i64 512)) (.const (.int .i64 512)) rfl 512 512 rfl rfl rfl (by omega) ?_; intro w5 hb5 hr5 hz5; have HK5 := hid hb5; have HR5 : Hid (ownB w5 wr.heap.size (zN 512)) := (by unfold Hid ownB; rw [hr5, rep_U8]); clear hb5 hr5 hz5)
          have HX5 := hid (hQ.out.make HK5.out HR5.out y)
          obtain ⟨B1, hB1⟩ : ∃ B1, B1 = wr.heap.size := ⟨_, rfl⟩
          rw [← hB1] at HX5 HR5 ⊢
          obtain ⟨old7, c7⟩ : ∃ v, w5.cell? ⟨B1, 7, none⟩ = some v := ⟨_, HR5.out.cell 7 (by rw [length_zN]; decide)⟩
          have f7 := HR5.out.frozen 7
          clear hQ HK5 HR5 hB1
          go_upto_region 16 with fail
          generalize w5.setCell ⟨B1, 7, none⟩ (.int .u8 (y.toNat : Int)) = w6 at *
          clear c7 f7
          have HW := hid (HX5.out.write (by omega) n hn39 y 512 (by rw [List.length_set, length_zN]) (by rw [List.getElem?_set_self (by rw [length_zN]; decide)]))
          clear HX5
          go_wp2_with fail
          refine HW.out.mono ?_
          clear HW
          rintro e w7 ⟨rfl, hP7, hb7⟩
          have c7 : w7.cell? ⟨B1, 7, none⟩ = some (.int .u8 (y.toNat : Int)) := by
            have := hb7.cell 7 (by rw [List.length_set, length_zN]; decide)
            rw [List.getElem_set_self] at this
            exact this
          obtain ⟨hown, hwl, hsl⟩ := hP7.own
          have hwn : n < wl.length := by omega
          obtain ⟨oldn, cn⟩ : ∃ v, w7.cell? ⟨WB, n, none⟩ = some v := ⟨_, hown.cell n hwn⟩
          have fn := hown.frozen n
          have HP8 := hid (hP7.store n y)
          clear hP7 hb7 hown hwl hsl hwn
          go_wp2
          exact ⟨⟨j + 1, _, by omega, by omega, by go_num, HP8⟩, by simp [intOf]; omega⟩
        · have HCm := hid (hQ.out.commit (by omega) (by omega))
          clear hQ
          by_cases hgj : j < R.length
          · have hge : ((j : Int) < (R.length : Int)) := by omega
            have hge2 : ¬ ((j : Int) < 15) := by omega
            clear hltj hgj
            go_wp2_with fail
            refine HCm.out.mono ?_
            clear HCm
            rintro e w5 ⟨rfl, hP5⟩
            obtain ⟨p5, oT, hoT, hlg, hdk⟩ := hP5.again (by omega) ch ca cc hch HCB.out
            have HLg := hid hlg
            have HDk := hid hdk
            clear hP5 hlg hdk cr
            go_wp2_with fail
            refine HLg.out.mono ?_
            clear HLg
            rintro e w9 ⟨rfl, h9⟩
            obtain rfl := h9.symm
            clear h9
            go_wp2_with fail
            refine HDk.out.mono ?_
            clear HDk
            rintro e w6 ⟨hb6, q6, rfl, hops, hcr⟩
            have HOps := hid (hops w6 (Below.refl _ _))
            have HCr := hid (hcr w6 (Below.refl _ _))
            clear hb6 hops hcr
            go_wp2_with fail
            refine HOps.out.mono ?_
            clear HOps
            rintro e w9 ⟨rfl, h9⟩
            obtain rfl := h9.symm
            clear h9
            go_wp2_with fail
            refine HCr.out.mono ?_
            clear HCr
            rintro e w7 ⟨r7, rfl, hopn⟩
            have HOpn := hid hopn
            clear hopn
            go_wp2_with fail
            refine HOpn.out.mono ?_
            clear HOpn
            rintro e w8 ⟨s8, rfl, hnew⟩
            have HNw := hid hnew
            clear hnew
            go_wp2_with fail
            refine HNw.out.mono ?_
            clear HNw
            rintro e w10 ⟨c10, rfl, hP10⟩
            have HP10 := hid hP10
            clear hP10
            go_wp2
            exact ⟨⟨k + 1, c10, wl, by omega, by omega, rfl, by go_num, HP10⟩, by simp [intOf]; omega⟩
          · have hge : ¬ ((j : Int) < (R.length : Int)) := by omega
            clear hltj hgj
            go_wp2_with fail
            refine HCm.out.mono ?_
            clear HCm
            rintro e w5 ⟨rfl, hP5⟩
            obtain ⟨p5, oT, hoT, hlg, hdk⟩ := hP5.again (by omega) ch ca cc hch HCB.out
            have HLg := hid hlg
            have HDk := hid hdk
            clear hP5 hlg hdk cr
            go_wp2_with fail
            refine HLg.out.mono ?_
            clear HLg
            rintro e w9 ⟨rfl, h9⟩
            obtain rfl := h9.symm
            clear h9
            go_wp2_with fail
            refine HDk.out.mono ?_
            clear HDk
            rintro e w6 ⟨hb6, q6, rfl, hops, hcr⟩
            have HOps := hid (hops w6 (Below.refl _ _))
            have HCr := hid (hcr w6 (Below.refl _ _))
            clear hb6 hops hcr
            go_wp2_with fail
            refine HOps.out.mono ?_
            clear HOps
            rintro e w9 ⟨rfl, h9⟩
            obtain rfl := h9.symm
            clear h9
            go_wp2_with fail
            refine HCr.out.mono ?_
            clear HCr
            rintro e w7 ⟨r7, rfl, hopn⟩
            have HOpn := hid hopn
            clear hopn
            go_wp2_with fail
            refine HOpn.out.mono ?_
            clear HOpn
            rintro e w8 ⟨s8, rfl, hnew⟩
            have HNw := hid hnew
            clear hnew
            go_wp2_with fail
            refine HNw.out.mono ?_
            clear HNw
            rintro e w10 ⟨c10, rfl, hP10⟩
            have HP10 := hid hP10
            clear hP10
            go_wp2
            exact ⟨⟨k + 1, c10, wl, by omega, by omega, rfl, by go_num, HP10⟩, by simp [intOf]; omega⟩
    · by_cases hg : k < ls.length
      · have hge : ((k : Int) < (ls.length : Int)) := by omega
        have hge2 : ¬ ((k : Int) < 10) := by omega
        clear hlt hg
        go_wp2
        go_loopw [19] (fun i wr => ∃ (j : Nat), j ≤ 39 ∧ i = .int .i64 j ∧ Hid (PgAt w wr c1 WB 0 0 j wl1 wl1)) (fun i _ => 39 - (intOf i).toNat)
        case atStart => exact ⟨0, by omega, rfl, hP⟩
        case round =>
          obtain ⟨j, hj1, rfl, hQ⟩ := hrel
          clear hP
          by_cases hj : j < 39
          · have hj0 : (0 : Int) ≤ (j : Int) := by omega
            have hj9 : (j : Int) < 39 := by omega
            have HRd := hid (hQ.out.read (by omega) j hj)
            clear hQ
            go_wp2_with fail
            refine HRd.out.mono ?_
            clear HRd
            rintro e w5 ⟨g, cap, y, z, rfl, cg, cw, hy, hz, hP5⟩
            obtain rfl : y = z := Option.some.inj (hy.symm.trans hz)
            have HP5 := hid hP5
            clear hP5 hy hz
            have hyy : ((y.toNat : Int) == (y.toNat : Int)) = true := beq_self_eq_true _
            generalize (y.toNat : Int) = yv at *
            have HP6 := hid (HP5.out.below (Below.refl _ w5).drew)
            clear HP5
            go_wp2
            refine wp_region_noPanic ?_
            refine wp_region_held_drew (S := fun W => W.cell? ⟨g, 7, none⟩ = some (.int .u8 yv) ∧ W.cell? ⟨WB, j, none⟩ = some (.int .u8 yv)) (by kernel_rfl) ⟨cg, cw⟩ (fun hHeld => ?_)
            refine wpAnyH_take (i := 0) (v := ?_) rfl (by kernel_rfl) (by kernel_rfl) (by kernel_rfl) (fun _ _ _ h => h) (Or.inl ⟨by rfl, ?_⟩) (by assumption) ?_
            rotate_left
            · (intro W hSw; (try dsimp only at hSw); obtain ⟨s0, s1⟩ := hSw; go_simp; try with_reducible rfl)
            try simp only [List.getElem_toArray, List.getElem_cons_zero, Act.put, List.setIfInBounds_toArray, List.set_cons_zero, List.set_cons_succ]
            refine wpAnyH_take (i := 1) (v := ?_) rfl (by kernel_rfl) (by kernel_rfl) (by kernel_rfl) (fun _ _ _ h => h) (Or.inl ⟨by rfl, ?_⟩) (by assumption) ?_
            rotate_left
            · (intro W hSw; (try dsimp only at hSw); obtain ⟨s0, s1⟩ := hSw; go_simp; try with_reducible rfl)
            try simp only [List.getElem_toArray, List.getElem_cons_succ, List.getElem_cons_zero, Act.put, List.setIfInBounds_toArray, List.set_cons_zero, List.set_cons_succ]
            refine wpAnyH_take (i := 2) (v := ?_) rfl (by kernel_rfl) (by kernel_rfl) (by kernel_rfl) (fun _ _ _ h => h) (Or.inl ⟨by rfl, ?_⟩) (by assumption) ?_
            rotate_left
            · (intro W hSw; (try dsimp only at hSw); obtain ⟨s0, s1⟩ := hSw; go_simp; try with_reducible rfl)
            try simp only [List.getElem_toArray, List.getElem_cons_succ, List.getElem_cons_zero, Act.put, List.setIfInBounds_toArray, List.set_cons_zero, List.set_cons_succ]
            refine wpAnyH_take (i := 3) (v := ?_) rfl (by kernel_rfl) (by kernel_rfl) (by kernel_rfl) (fun _ _ _ h => h) (Or.inl ⟨by rfl, ?_⟩) (by assumption) ?_
            rotate_left
            · (intro W hSw; (try dsimp only at hSw); obtain ⟨s0, s1⟩ := hSw; go_simp; try with_reducible rfl)
            try simp only [List.getElem_toArray, List.getElem_cons_succ, List.getElem_cons_zero, Act.put, List.setIfInBounds_toArray, List.set_cons_zero, List.set_cons_succ]
            refine wpAnyH_take (i := 4) (v := ?_) rfl (by kernel_rfl) (by kernel_rfl) (by kernel_rfl) (fun _ _ _ h => h) (Or.inl ⟨by rfl, ?_⟩) (by assumption) ?_
            rotate_left
            · (intro W hSw; (try dsimp only at hSw); obtain ⟨s0, s1⟩ := hSw; go_simp; try with_reducible rfl)
            try simp only [List.getElem_toArray, List.getElem_cons_succ, List.getElem_cons_zero, Act.put, List.setIfInBounds_toArray, List.set_cons_zero, List.set_cons_succ]
            refine wpAnyH_take (i := 5) (v := ?_) rfl (by kernel_rfl) (by kernel_rfl) (by kernel_rfl) (fun _ _ _ h => h) (Or.inl ⟨by rfl, ?_⟩) (by assumption) ?_
            rotate_left
            · (intro W hSw; (try dsimp only at hSw); obtain ⟨s0, s1⟩ := hSw; go_simp; try with_reducible rfl)
            try simp only [List.getElem_toArray, List.getElem_cons_succ, List.getElem_cons_zero, Act.put, List.setIfInBounds_toArray, List.set_cons_zero, List.set_cons_succ]
            refine wpAnyH_take (i := 6) (v := ?_) rfl (by kernel_rfl) (by kernel_rfl) (by kernel_rfl) (fun _ _ _ h => h) (Or.inl ⟨by rfl, ?_⟩) (by assumption) ?_
            rotate_left
            · (intro W hSw; (try dsimp only at hSw); obtain ⟨s0, s1⟩ := hSw; go_simp; try with_reducible rfl)
            try simp only [List.getElem_toArray, List.getElem_cons_succ, List.getElem_cons_zero, Act.put, List.setIfInBounds_toArray, List.set_cons_zero, List.set_cons_succ]
            refine wpAnyH_take (i := 7) (v := ?_) rfl (by kernel_rfl) (by kernel_rfl) (by kernel_rfl) (fun _ _ _ h => h) (Or.inl ⟨by rfl, ?_⟩) (by assumption) ?_
            rotate_left
            · (intro W hSw; (try dsimp only at hSw); obtain ⟨s0, s1⟩ := hSw; go_simp; try with_reducible rfl)
            try simp only [List.getElem_toArray, List.getElem_cons_succ, List.getElem_cons_zero, Act.put, List.setIfInBounds_toArray, List.set_cons_zero, List.set_cons_succ]
            refine wpAnyH_take (i := 8) (v := ?_) rfl (by kernel_rfl) (by kernel_rfl) (by kernel_rfl) (fun _ _ _ h => h) (Or.inl ⟨by rfl, ?_⟩) (by assumption) ?_
            rotate_left
            · (intro W hSw; (try dsimp only at hSw); obtain ⟨s0, s1⟩ := hSw; go_simp; try with_reducible rfl)
            try simp only [List.getElem_toArray, List.getElem_cons_succ, List.getElem_cons_zero, Act.put, List.setIfInBounds_toArray, List.set_cons_zero, List.set_cons_succ]
            refine wpAnyH_take (i := 9) (v := ?_) rfl (by kernel_rfl) (by kernel_rfl) (by kernel_rfl) (fun _ _ _ h => h) (Or.inl ⟨by rfl, ?_⟩) (by assumption) ?_
            rotate_left
            · (intro W hSw; (try dsimp only at hSw); obtain ⟨s0, s1⟩ := hSw; go_simp; try with_reducible rfl)
            try simp only [List.getElem_toArray, List.getElem_cons_succ, List.getElem_cons_zero, Act.put, List.setIfInBounds_toArray, List.set_cons_zero, List.set_cons_succ]
            refine wpAnyH_take (i := 10) (v := ?_) rfl (by kernel_rfl) (by kernel_rfl) (by kernel_rfl) (fun _ _ _ h => h) (Or.inl ⟨by rfl, ?_⟩) (by assumption) ?_
            rotate_left
            · (intro W hSw; (try dsimp only at hSw); obtain ⟨s0, s1⟩ := hSw; go_simp; try with_reducible rfl)
            try simp only [List.getElem_toArray, List.getElem_cons_succ, List.getElem_cons_zero, Act.put, List.setIfInBounds_toArray, List.set_cons_zero, List.set_cons_succ]
            refine wpAnyH_take (i := 11) (v := ?_) rfl (by kernel_rfl) (by kernel_rfl) (by kernel_rfl) (fun _ _ _ h => h) (Or.inl ⟨by rfl, ?_⟩) (by assumption) ?_
            rotate_left
            · (intro W hSw; (try dsimp only at hSw); obtain ⟨s0, s1⟩ := hSw; go_simp; try with_reducible rfl)
            try simp only [List.getElem_toArray, List.getElem_cons_succ, List.getElem_cons_zero, Act.put, List.setIfInBounds_toArray, List.set_cons_zero, List.set_cons_succ]
            refine wpAnyH_take (i := 12) (v := ?_) rfl (by kernel_rfl) (by kernel_rfl) (by kernel_rfl) (fun _ _ _ h => h) (Or.inl ⟨by rfl, ?_⟩) (by assumption) ?_
            rotate_left
            · (intro W hSw; (try dsimp only at hSw); obtain ⟨s0, s1⟩ := hSw; go_simp; try with_reducible rfl)
            try simp only [List.getElem_toArray, List.getElem_cons_succ, List.getElem_cons_zero, Act.put, List.setIfInBounds_toArray, List.set_cons_zero, List.set_cons_succ]
            refine wpAnyH_take (i := 13) (v := ?_) rfl (by kernel_rfl) (by kernel_rfl) (by kernel_rfl) (fun _ _ _ h => h) (Or.inl ⟨by rfl, ?_⟩) (by assumption) ?_
            rotate_left
            · (intro W hSw; (try dsimp only at hSw); obtain ⟨s0, s1⟩ := hSw; go_simp; try with_reducible rfl)
            try simp only [List.getElem_toArray, List.getElem_cons_succ, List.getElem_cons_zero, Act.put, List.setIfInBounds_toArray, List.set_cons_zero, List.set_cons_succ]
            refine wpAnyH_take (i := 14) (v := ?_) rfl (by kernel_rfl) (by kernel_rfl) (by kernel_rfl) (fun _ _ _ h => h) (Or.inl ⟨by rfl, ?_⟩) (by assumption) ?_
            rotate_left
            · (intro W hSw; (try dsimp only at hSw); obtain ⟨s0, s1⟩ := hSw; go_simp; try with_reducible rfl)
            try simp only [List.getElem_toArray, List.getElem_cons_succ, List.getElem_cons_zero, Act.put, List.setIfInBounds_toArray, List.set_cons_zero, List.set_cons_succ]
            refine wpAnyH_take (i := 15) (v := ?_) rfl (by kernel_rfl) (by kernel_rfl) (by kernel_rfl) (fun _ _ _ h => h) (Or.inl ⟨by rfl, ?_⟩) (by assumption) ?_
            rotate_left
            · (intro W hSw; (try dsimp only at hSw); obtain ⟨s0, s1⟩ := hSw; go_simp; try with_reducible rfl)
            try simp only [List.getElem_toArray, List.getElem_cons_succ, List.getElem_cons_zero, Act.put, List.setIfInBounds_toArray, List.set_cons_zero, List.set_cons_succ]
            refine wpAnyH_take (i := 16) (v := ?_) rfl (by kernel_rfl) (by kernel_rfl) (by kernel_rfl) (fun _ _ _ h => h) (Or.inl ⟨by rfl, ?_⟩) (by assumption) ?_
            rotate_left
            · (intro W hSw; (try dsimp only at hSw); obtain ⟨s0, s1⟩ := hSw; go_simp; try with_reducible rfl)
            try simp only [List.getElem_toArray, List.getElem_cons_succ, List.getElem_cons_zero, Act.put, List.setIfInBounds_toArray, List.set_cons_zero, List.set_cons_succ]
            refine wpAnyH_done (by kernel_rfl) ?_ _
            refine NoPanic.normal ?_
            clear hHeld cg cw
            go_wp2
            exact ⟨⟨j + 1, by omega, by go_num, HP6⟩, by simp [intOf]; omega⟩
          · have hj9 : ¬ ((j : Int) < 39) := by omega
            have HB := hid hQ.out.1
            clear hQ
            go_wp2
            go_ret
            exact ⟨rfl, HB.out⟩
      · have hge : ¬ ((k : Int) < (ls.length : Int)) := by omega
        clear hlt hg
        go_wp2
        go_loopw [19] (fun i wr => ∃ (j : Nat), j ≤ 39 ∧ i = .int .i64 j ∧ Hid (PgAt w wr c1 WB 0 0 j wl1 wl1)) (fun i _ => 39 - (intOf i).toNat)
        case atStart => exact ⟨0, by omega, rfl, hP⟩
        case round =>
          obtain ⟨j, hj1, rfl, hQ⟩ := hrel
          clear hP
          by_cases hj : j < 39
          · have hj0 : (0 : Int) ≤ (j : Int) := by omega
            have hj9 : (j : Int) < 39 := by omega
            have HRd := hid (hQ.out.read (by omega) j hj)
            clear hQ
            go_wp2_with fail
            refine HRd.out.mono ?_
            clear HRd
            rintro e w5 ⟨g, cap, y, z, rfl, cg, cw, hy, hz, hP5⟩
            obtain rfl : y = z := Option.some.inj (hy.symm.trans hz)
            have HP5 := hid hP5
            clear hP5 hy hz
            have hyy : ((y.toNat : Int) == (y.toNat : Int)) = true := beq_self_eq_true _
            generalize (y.toNat : Int) = yv at *
            have HP6 := hid (HP5.out.below (Below.refl _ w5).drew)
            clear HP5
            go_wp2
            refine wp_region_noPanic ?_
            refine wp_region_held_drew (S := fun W => W.cell? ⟨g, 7, none⟩ = some (.int .u8 yv) ∧ W.cell? ⟨WB, j, none⟩ = some (.int .u8 yv)) (by kernel_rfl) ⟨cg, cw⟩ (fun hHeld => ?_)
            refine wpAnyH_take (i := 0) (v := ?_) rfl (by kernel_rfl) (by kernel_rfl) (by kernel_rfl) (fun _ _ _ h => h) (Or.inl ⟨by rfl, ?_⟩) (by assumption) ?_
            rotate_left
            · (intro W hSw; (try dsimp only at hSw); obtain ⟨s0, s1⟩ := hSw; go_simp; try with_reducible rfl)
            try simp only [List.getElem_toArray, List.getElem_cons_zero, Act.put, List.setIfInBounds_toArray, List.set_cons_zero, List.set_cons_succ]
            refine wpAnyH_take (i := 1) (v := ?_) rfl (by kernel_rfl) (by kernel_rfl) (by kernel_rfl) (fun _ _ _ h => h) (Or.inl ⟨by rfl, ?_⟩) (by assumption) ?_
            rotate_left
            · (intro W hSw; (try dsimp only at hSw); obtain ⟨s0, s1⟩ := hSw; go_simp; try with_reducible rfl)
            try simp only [List.getElem_toArray, List.getElem_cons_succ, List.getElem_cons_zero, Act.put, List.setIfInBounds_toArray, List.set_cons_zero, List.set_cons_succ]
            refine wpAnyH_take (i := 2) (v := ?_) rfl (by kernel_rfl) (by kernel_rfl) (by kernel_rfl) (fun _ _ _ h => h) (Or.inl ⟨by rfl, ?_⟩) (by assumption) ?_
            rotate_left
            · (intro W hSw; (try dsimp only at hSw); obtain ⟨s0, s1⟩ := hSw; go_simp; try with_reducible rfl)
            try simp only [List.getElem_toArray, List.getElem_cons_succ, List.getElem_cons_zero, Act.put, List.setIfInBounds_toArray, List.set_cons_zero, List.set_cons_succ]
            refine wpAnyH_take (i := 3) (v := ?_) rfl (by kernel_rfl) (by kernel_rfl) (by kernel_rfl) (fun _ _ _ h => h) (Or.inl ⟨by rfl, ?_⟩) (by assumption) ?_
            rotate_left
            · (intro W hSw; (try dsimp only at hSw); obtain ⟨s0, s1⟩ := hSw; go_simp; try with_reducible rfl)
            try simp only [List.getElem_toArray, List.getElem_cons_succ, List.getElem_cons_zero, Act.put, List.setIfInBounds_toArray, List.set_cons_zero, List.set_cons_succ]
            refine wpAnyH_take (i := 4) (v := ?_) rfl (by kernel_rfl) (by kernel_rfl) (by kernel_rfl) (fun _ _ _ h => h) (Or.inl ⟨by rfl, ?_⟩) (by assumption) ?_
            rotate_left
            · (intro W hSw; (try dsimp only at hSw); obtain ⟨s0, s1⟩ := hSw; go_simp; try with_reducible rfl)
            try simp only [List.getElem_toArray, List.getElem_cons_succ, List.getElem_cons_zero, Act.put, List.setIfInBounds_toArray, List.set_cons_zero, List.set_cons_succ]
            refine wpAnyH_take (i := 5) (v := ?_) rfl (by kernel_rfl) (by kernel_rfl) (by kernel_rfl) (fun _ _ _ h => h) (Or.inl ⟨by rfl, ?_⟩) (by assumption) ?_
            rotate_left
            · (intro W hSw; (try dsimp only at hSw); obtain ⟨s0, s1⟩ := hSw; go_simp; try with_reducible rfl)
            try simp only [List.getElem_toArray, List.getElem_cons_succ, List.getElem_cons_zero, Act.put, List.setIfInBounds_toArray, List.set_cons_zero, List.set_cons_succ]
            refine wpAnyH_take (i := 6) (v := ?_) rfl (by kernel_rfl) (by kernel_rfl) (by kernel_rfl) (fun _ _ _ h => h) (Or.inl ⟨by rfl, ?_⟩) (by assumption) ?_
            rotate_left
            · (intro W hSw; (try dsimp only at hSw); obtain ⟨s0, s1⟩ := hSw; go_simp; try with_reducible rfl)
            try simp only [List.getElem_toArray, List.getElem_cons_succ, List.getElem_cons_zero, Act.put, List.setIfInBounds_toArray, List.set_cons_zero, List.set_cons_succ]
            refine wpAnyH_take (i := 7) (v := ?_) rfl (by kernel_rfl) (by kernel_rfl) (by kernel_rfl) (fun _ _ _ h => h) (Or.inl ⟨by rfl, ?_⟩) (by assumption) ?_
            rotate_left
            · (intro W hSw; (try dsimp only at hSw); obtain ⟨s0, s1⟩ := hSw; go_simp; try with_reducible rfl)
            try simp only [List.getElem_toArray, List.getElem_cons_succ, List.getElem_cons_zero, Act.put, List.setIfInBounds_toArray, List.set_cons_zero, List.set_cons_succ]
            refine wpAnyH_take (i := 8) (v := ?_) rfl (by kernel_rfl) (by kernel_rfl) (by kernel_rfl) (fun _ _ _ h => h) (Or.inl ⟨by rfl, ?_⟩) (by assumption) ?_
            rotate_left
            · (intro W hSw; (try dsimp only at hSw); obtain ⟨s0, s1⟩ := hSw; go_simp; try with_reducible rfl)
            try simp only [List.getElem_toArray, List.getElem_cons_succ, List.getElem_cons_zero, Act.put, List.setIfInBounds_toArray, List.set_cons_zero, List.set_cons_succ]
            refine wpAnyH_take (i := 9) (v := ?_) rfl (by kernel_rfl) (by kernel_rfl) (by kernel_rfl) (fun _ _ _ h => h) (Or.inl ⟨by rfl, ?_⟩) (by assumption) ?_
            rotate_left
            · (intro W hSw; (try dsimp only at hSw); obtain ⟨s0, s1⟩ := hSw; go_simp; try with_reducible rfl)
            try simp only [List.getElem_toArray, List.getElem_cons_succ, List.getElem_cons_zero, Act.put, List.setIfInBounds_toArray, List.set_cons_zero, List.set_cons_succ]
            refine wpAnyH_take (i := 10) (v := ?_) rfl (by kernel_rfl) (by kernel_rfl) (by kernel_rfl) (fun _ _ _ h => h) (Or.inl ⟨by rfl, ?_⟩) (by assumption) ?_
            rotate_left
            · (intro W hSw; (try dsimp only at hSw); obtain ⟨s0, s1⟩ := hSw; go_simp; try with_reducible rfl)
            try simp only [List.getElem_toArray, List.getElem_cons_succ, List.getElem_cons_zero, Act.put, List.setIfInBounds_toArray, List.set_cons_zero, List.set_cons_succ]
            refine wpAnyH_take (i := 11) (v := ?_) rfl (by kernel_rfl) (by kernel_rfl) (by kernel_rfl) (fun _ _ _ h => h) (Or.inl ⟨by rfl, ?_⟩) (by assumption) ?_
            rotate_left
            · (intro W hSw; (try dsimp only at hSw); obtain ⟨s0, s1⟩ := hSw; go_simp; try with_reducible rfl)
            try simp only [List.getElem_toArray, List.getElem_cons_succ, List.getElem_cons_zero, Act.put, List.setIfInBounds_toArray, List.set_cons_zero, List.set_cons_succ]
            refine wpAnyH_take (i := 12) (v := ?_) rfl (by kernel_rfl) (by kernel_rfl) (by kernel_rfl) (fun _ _ _ h => h) (Or.inl ⟨by rfl, ?_⟩) (by assumption) ?_
            rotate_left
            · (intro W hSw; (try dsimp only at hSw); obtain ⟨s0, s1⟩ := hSw; go_simp; try with_reducible rfl)
            try simp only [List.getElem_toArray, List.getElem_cons_succ, List.getElem_cons_zero, Act.put, List.setIfInBounds_toArray, List.set_cons_zero, List.set_cons_succ]
            refine wpAnyH_take (i := 13) (v := ?_) rfl (by kernel_rfl) (by kernel_rfl) (by kernel_rfl) (fun _ _ _ h => h) (Or.inl ⟨by rfl, ?_⟩) (by assumption) ?_
            rotate_left
            · (intro W hSw; (try dsimp only at hSw); obtain ⟨s0, s1⟩ := hSw; go_simp; try with_reducible rfl)
            try simp only [List.getElem_toArray, List.getElem_cons_succ, List.getElem_cons_zero, Act.put, List.setIfInBounds_toArray, List.set_cons_zero, List.set_cons_succ]
            refine wpAnyH_take (i := 14) (v := ?_) rfl (by kernel_rfl) (by kernel_rfl) (by kernel_rfl) (fun _ _ _ h => h) (Or.inl ⟨by rfl, ?_⟩) (by assumption) ?_
            rotate_left
            · (intro W hSw; (try dsimp only at hSw); obtain ⟨s0, s1⟩ := hSw; go_simp; try with_reducible rfl)
            try simp only [List.getElem_toArray, List.getElem_cons_succ, List.getElem_cons_zero, Act.put, List.setIfInBounds_toArray, List.set_cons_zero, List.set_cons_succ]
            refine wpAnyH_take (i := 15) (v := ?_) rfl (by kernel_rfl) (by kernel_rfl) (by kernel_rfl) (fun _ _ _ h => h) (Or.inl ⟨by rfl, ?_⟩) (by assumption) ?_
            rotate_left
            · (intro W hSw; (try dsimp only at hSw); obtain ⟨s0, s1⟩ := hSw; go_simp; try with_reducible rfl)
            try simp only [List.getElem_toArray, List.getElem_cons_succ, List.getElem_cons_zero, Act.put, List.setIfInBounds_toArray, List.set_cons_zero, List.set_cons_succ]
            refine wpAnyH_take (i := 16) (v := ?_) rfl (by kernel_rfl) (by kernel_rfl) (by kernel_rfl) (fun _ _ _ h => h) (Or.inl ⟨by rfl, ?_⟩) (by assumption) ?_
            rotate_left
            · (intro W hSw; (try dsimp only at hSw); obtain ⟨s0, s1⟩ := hSw; go_simp; try with_reducible rfl)
            try simp only [List.getElem_toArray, List.getElem_cons_succ, List.getElem_cons_zero, Act.put, List.setIfInBounds_toArray, List.set_cons_zero, List.set_cons_succ]
            refine wpAnyH_done (by kernel_rfl) ?_ _
            refine NoPanic.normal ?_
            clear hHeld cg cw
            go_wp2
            exact ⟨⟨j + 1, by omega, by go_num, HP6⟩, by simp [intOf]; omega⟩
          · have hj9 : ¬ ((j : Int) < 39) := by omega
            have HB := hid hQ.out.1
            clear hQ
            go_wp2
            go_ret
            exact ⟨rfl, HB.out⟩
end Go.Proofs.YtjgclmlclkfgpaaGreat
