/- The walk of DiskForks. -/
import Derived.Test.YtpkjpkjcdpgaaaaFork
import Derived.Test.YtpkjpkjcdpgaaaaImageOwn
import Derived.Test.YtpkjpkjcdpgaaaaSameRef
namespace Go.Proofs.Ytpkjpkjcdpgaaaa
open Go.RowKit
/-- The Fork behind the first i deeds. -/
def forkS (S : DiskS) (ms : List DeedS) (i : Nat) : DiskS := (ms.take i).foldl stepS S
theorem forkS_step (S : DiskS) (ms : List DeedS) (i : Nat) (h : i < ms.length) : forkS S ms (i + 1) = stepS (forkS S ms i) ms[i] := by
  unfold forkS; rw [List.take_succ_eq_append_getElem h, List.foldl_append]; rfl
theorem stepS_more (S : DiskS) (D : DeedS) : S.ops.length ≤ (stepS S D).ops.length := by
  unfold stepS; split
  · simp [DiskS.flushed]
  · unfold DiskS.put; split <;> simp [DiskS.wrote]
theorem forkS_ops (S : DiskS) (ms : List DeedS) : ∀ i, i ≤ ms.length → S.ops.length ≤ (forkS S ms i).ops.length ∧ (forkS S ms i).ops.length ≤ S.ops.length + i
  | 0, _ => ⟨Nat.le_refl _, Nat.le_refl _⟩
  | i + 1, h => by
    obtain ⟨h1, h2⟩ := forkS_ops S ms i (by omega)
    rw [forkS_step S ms i (by omega)]
    have a := stepS_ops (forkS S ms i) ms[i]
    have b := stepS_more (forkS S ms i) ms[i]
    omega
set_option maxRecDepth 100000 in
set_option maxHeartbeats 2000000 in
theorem forks_walk (ds : List DeedS) (a : Option Addr) (c : Nat) (hlen : ds.length ≤ 9223372036854775807) (ms : List DeedS) (ma : Option Addr) (mc : Nat) (hmlen : ms.length ≤ 9223372036854775807) (w : World) (hds : deedsAt w a ds) (hms : deedsAt w ma ms) :
    Calls Try.prog 7 #[.slice a ds.length c, .slice ma ms.length mc] w fun e w' => e = .returned (.bool true) ∧ Below w.heap.size w w' := by
  have HPl := hid (play_any 4 (by omega) (by omega) ds a c hlen w hds)
  have HTo := hid (alike_play 4 (by omega) ds (min ds.length 40) (by omega))
  have HSz := hid (play_sizes 4 ds (min ds.length 40) (by omega))
  have HOk := hid (ok_play 4 ds (min ds.length 40) (by omega))
  have HMS := hid hms
  clear hds hms
  generalize playS 4 ds (min ds.length 40) = S at *
  generalize playR 4 ds (min ds.length 40) = R at *
  go_enter Try.func7, Try.ntmps7
  go_wp2_with fail
  refine HPl.out.mono ?_
  clear HPl
  rintro e w1 ⟨d, r, rfl, fv, lv, vs, Rd, hP⟩
  have HB1 := hid hP.below
  have HP := hid hP
  clear hP
  go_wp2_with fail
  refine (live_any w1).mono ?_
  rintro e w2 ⟨rfl, hB2⟩
  have HB2 := hid (HB1.out.trans (hB2.mono HB1.out.size))
  have HP2 := hid (HP.out.grow hB2)
  clear hB2 HB1 HP
  have hRm : R.l.length ≤ 1000000 := by have := HSz.out.2.2.2; omega
  have hSm : S.ops.length ≤ 40 := by have := HSz.out.2.2.1; omega
  have HFk := hid (fork_disk d S w2 HP2.out.D (by omega))
  go_wp2_with fail
  refine HFk.out.mono ?_
  clear HFk
  rintro e w3 ⟨hB3, df0, rfl, hDf, hft⟩
  have HBf := hid hB3
  have HAn : Hid (AnyIn w2.heap.size w3 df0 (forkS S ms 0)) := .inl ⟨hDf, hft⟩
  clear hB3 hDf hft
  have hw02 := HB2.out.size
  go_wp2
  go_loopw [9] (fun vi wr => ∃ (i : Nat) (df : DL), i ≤ ms.length ∧ i ≤ 40 ∧ vi = .int .i64 i ∧ Hid (df.p = df0.p) ∧ Hid (AnyIn w2.heap.size wr df (forkS S ms i)) ∧ Hid (Below w2.heap.size w2 wr)) (fun vi _ => 40 - (intOf vi).toNat)
  case atStart => exact ⟨0, df0, by omega, by omega, rfl, rfl, HAn, HBf⟩
  case round =>
    obtain ⟨i, df, hi1, hi2, rfl, hdf, hAn, hBr⟩ := hrel
    clear HAn HBf
    have HBw := hid (HB2.out.trans (hBr.out.mono hw02))
    obtain ⟨ho1, ho2⟩ := forkS_ops S ms i hi1
    by_cases hlt : i < ms.length ∧ i < 40
    · obtain ⟨hlt, h40⟩ := hlt
      have hk0 : (0 : Int) ≤ (i : Int) := by omega
      have hk3 : (i : Int) < (ms.length : Int) := by omega
      have hk4 : (i : Int) < 40 := by omega
      obtain ⟨b, o, rfl, hc⟩ := HMS.out i hlt
      obtain ⟨c0, c1, c2, c3, x0, x1⟩ := hc i hlt
      have hbl : b < w.heap.size := World.block_lt_of_cell? w _ c0
      have q0 : wr.cell? ⟨b, o + i * 4, none⟩ = some (.bool (ms[i]).f) := (HBw.out.cell (p := ⟨b, o + i * 4, none⟩) hbl).trans c0
      have q1 : wr.cell? ⟨b, o + i * 4 + 1, none⟩ = some (.int .i64 (ms[i]).n) := (HBw.out.cell (p := ⟨b, o + i * 4 + 1, none⟩) hbl).trans c1
      have q2 : wr.cell? ⟨b, o + i * 4 + 2, none⟩ = some (.int .i64 (ms[i]).l) := (HBw.out.cell (p := ⟨b, o + i * 4 + 2, none⟩) hbl).trans c2
      have q3 : wr.cell? ⟨b, o + i * 4 + 3, none⟩ = some (.int .u8 (ms[i]).x) := (HBw.out.cell (p := ⟨b, o + i * 4 + 3, none⟩) hbl).trans c3
      have HSt := hid (forkS_step S ms i hlt)
      clear c0 c1 c2 c3 hc
      generalize hD : ms[i] = D at *
      clear hD
      have HO2 := hid (show (forkS S ms i).ops.length ≤ 1000000 by omega)
      clear ho1 ho2
      cases hf : D.f
      · rw [hf] at q0
        rw [stepS, if_neg (by simp [hf])] at HSt
        have HDf := hid (fun W => deed_bytes false D.n D.l D.x W)
        clear hf
        go_wp2
        refine wp_region_noPanic ?_
        refine wp_region_held_drew (S := fun W => W.cell? ⟨b, o + i * 4, none⟩ = some (.bool false) ∧ W.cell? ⟨b, o + i * 4 + 1, none⟩ = some (.int .i64 D.n) ∧ W.cell? ⟨b, o + i * 4 + 2, none⟩ = some (.int .i64 D.l) ∧ W.cell? ⟨b, o + i * 4 + 3, none⟩ = some (.int .u8 D.x)) (by kernel_rfl) ⟨q0, q1, q2, q3⟩ (fun hHeld => ?_)
        refine wpAnyH_take (i := 0) (v := ?_) rfl (by kernel_rfl) (by kernel_rfl) (by kernel_rfl) (fun _ _ _ h => h) (Or.inl ⟨by rfl, ?_⟩) (by assumption) ?_
        rotate_left
        · (intro W hSw; (try dsimp only at hSw); obtain ⟨s0, s1, s2, s3⟩ := hSw; go_simp; try with_reducible rfl)
        try simp only [List.getElem_toArray, List.getElem_cons_zero, Act.put, List.setIfInBounds_toArray, List.set_cons_zero, List.set_cons_succ]
        refine wpAnyH_take (i := 1) (v := ?_) rfl (by kernel_rfl) (by kernel_rfl) (by kernel_rfl) (fun _ _ _ h => h) (Or.inl ⟨by rfl, ?_⟩) (by assumption) ?_
        rotate_left
        · (intro W hSw; (try dsimp only at hSw); obtain ⟨s0, s1, s2, s3⟩ := hSw; go_simp; try with_reducible rfl)
        try simp only [List.getElem_toArray, List.getElem_cons_succ, List.getElem_cons_zero, Act.put, List.setIfInBounds_toArray, List.set_cons_zero, List.set_cons_succ]
        refine wpAnyH_take (i := 2) (v := ?_) rfl (by kernel_rfl) (by kernel_rfl) (by kernel_rfl) (fun _ _ _ h => h) (Or.inl ⟨by rfl, ?_⟩) (by assumption) ?_
        rotate_left
        · (intro W hSw; (try dsimp only at hSw); obtain ⟨s0, s1, s2, s3⟩ := hSw; go_simp; try with_reducible rfl)
        try simp only [List.getElem_toArray, List.getElem_cons_succ, List.getElem_cons_zero, Act.put, List.setIfInBounds_toArray, List.set_cons_zero, List.set_cons_succ]
        refine wpAnyH_take (i := 3) (v := ?_) rfl (by kernel_rfl) (by kernel_rfl) (by kernel_rfl) (fun _ _ _ h => h) (Or.inl ⟨by rfl, ?_⟩) (by assumption) ?_
        rotate_left
        · (intro W hSw; (try dsimp only at hSw); obtain ⟨s0, s1, s2, s3⟩ := hSw; go_simp; try with_reducible rfl)
        try simp only [List.getElem_toArray, List.getElem_cons_succ, List.getElem_cons_zero, Act.put, List.setIfInBounds_toArray, List.set_cons_zero, List.set_cons_succ]
        refine wpAnyH_take (i := 4) (v := ?_) rfl (by kernel_rfl) (by kernel_rfl) (by kernel_rfl) (fun _ _ _ h => h) (Or.inl ⟨by rfl, ?_⟩) (by assumption) ?_
        rotate_left
        · (intro W hSw; (try dsimp only at hSw); obtain ⟨s0, s1, s2, s3⟩ := hSw; go_simp; try with_reducible rfl)
        try simp only [List.getElem_toArray, List.getElem_cons_succ, List.getElem_cons_zero, Act.put, List.setIfInBounds_toArray, List.set_cons_zero, List.set_cons_succ]
        refine wpAnyH_take (i := 5) (v := ?_) rfl (by kernel_rfl) (by kernel_rfl) (by kernel_rfl) (fun _ _ _ h => h) (Or.inl ⟨by rfl, ?_⟩) (by assumption) ?_
        rotate_left
        · (intro W hSw; (try dsimp only at hSw); obtain ⟨s0, s1, s2, s3⟩ := hSw; go_simp; try with_reducible rfl)
        try simp only [List.getElem_toArray, List.getElem_cons_succ, List.getElem_cons_zero, Act.put, List.setIfInBounds_toArray, List.set_cons_zero, List.set_cons_succ]
        refine wpAnyH_take (i := 6) (v := ?_) rfl (by kernel_rfl) (by kernel_rfl) (by kernel_rfl) (fun _ _ _ h => h) (Or.inl ⟨by rfl, ?_⟩) (by assumption) ?_
        rotate_left
        · (intro W hSw; (try dsimp only at hSw); obtain ⟨s0, s1, s2, s3⟩ := hSw; go_simp; try with_reducible rfl)
        try simp only [List.getElem_toArray, List.getElem_cons_succ, List.getElem_cons_zero, Act.put, List.setIfInBounds_toArray, List.set_cons_zero, List.set_cons_succ]
        refine wpAnyH_take (i := 7) (v := ?_) rfl (by kernel_rfl) (by kernel_rfl) (by kernel_rfl) (fun _ _ _ h => h) (Or.inl ⟨by rfl, ?_⟩) (by assumption) ?_
        rotate_left
        · (intro W hSw; (try dsimp only at hSw); obtain ⟨s0, s1, s2, s3⟩ := hSw; go_simp; try with_reducible rfl)
        try simp only [List.getElem_toArray, List.getElem_cons_succ, List.getElem_cons_zero, Act.put, List.setIfInBounds_toArray, List.set_cons_zero, List.set_cons_succ]
        refine wpAnyH_take (i := 8) (v := ?_) rfl (by kernel_rfl) (by kernel_rfl) (by kernel_rfl) (fun _ _ _ h => h) (Or.inl ⟨by rfl, ?_⟩) (by assumption) ?_
        rotate_left
        · (intro W hSw; (try dsimp only at hSw); obtain ⟨s0, s1, s2, s3⟩ := hSw; go_simp; try with_reducible rfl)
        try simp only [List.getElem_toArray, List.getElem_cons_succ, List.getElem_cons_zero, Act.put, List.setIfInBounds_toArray, List.set_cons_zero, List.set_cons_succ]
        refine wpAnyH_take (i := 9) (v := ?_) rfl (by kernel_rfl) (by kernel_rfl) (by kernel_rfl) (fun _ _ _ h => h) (Or.inl ⟨by rfl, ?_⟩) (by assumption) ?_
        rotate_left
        · (intro W hSw; (try dsimp only at hSw); obtain ⟨s0, s1, s2, s3⟩ := hSw; go_simp; try with_reducible rfl)
        try simp only [List.getElem_toArray, List.getElem_cons_succ, List.getElem_cons_zero, Act.put, List.setIfInBounds_toArray, List.set_cons_zero, List.set_cons_succ]
        refine wpAnyH_ready (rs := [10]) (by kernel_rfl) (by simp) (AllReadyH.cons rfl (fun K hK => ?_) AllReadyH.nil)
        rw [if_pos (by rfl)]
        go_simp
        refine (HDf.out wr.drew).mono ?_
        clear HDf
        rintro e w5 ⟨g5, rfl, hg5, hgb5, hB5⟩
        have hB5' := below_undrew hB5
        have hbw4 : b < wr.heap.size := Nat.lt_of_lt_of_le hbl HBw.out.size
        have u0 := (hB5'.cell (p := ⟨b, o + i * 4, none⟩) hbw4).trans q0
        have u1 := (hB5'.cell (p := ⟨b, o + i * 4 + 1, none⟩) hbw4).trans q1
        have u2 := (hB5'.cell (p := ⟨b, o + i * 4 + 2, none⟩) hbw4).trans q2
        have u3 := (hB5'.cell (p := ⟨b, o + i * 4 + 3, none⟩) hbw4).trans q3
        have HBr5 := hid (hBr.out.trans (hB5'.mono hBr.out.size))
        have HAn5 := hid (hAn.out.below hB5')
        have hw := any_write w2.heap.size df (forkS S ms i) D.n D.bytes ⟨g5, 0, none⟩ (deedLen D.l) (deedLen D.l) w5 HAn5.out HBr5.out.size HO2.out (length_full _ _) (bytes_full hgb5 x0 x1)
        rw [hdf.out] at hw
        have HWr := hid hw
        clear hw hgb5 hB5 hB5' HAn5 hAn
        go_wp2_with fail
        refine hK.out _ _ ⟨u0, u1, u2, u3⟩ (fun hHeld => ?_)
        clear hK K q0 q1 q2 q3
        try simp only [List.getElem_toArray, List.getElem_cons_succ, List.getElem_cons_zero, Act.put, List.setIfInBounds_toArray, List.set_cons_zero, List.set_cons_succ]
        refine wpAnyH_ready (rs := [11]) (by kernel_rfl) (by simp) (AllReadyH.cons rfl (fun K hK => ?_) AllReadyH.nil)
        rw [if_pos (by rfl)]
        go_simp
        refine HWr.out.mono ?_
        clear HWr
        rintro e w6 ⟨rfl, df', hp', hA', hB'⟩
        have HA' := hid hA'
        have HB' := hid (HBr5.out.trans hB')
        have HP' := hid hp'
        have hbw2 : b < w2.heap.size := by omega
        have t0 := (hB'.cell (p := ⟨b, o + i * 4, none⟩) hbw2).trans u0
        have t1 := (hB'.cell (p := ⟨b, o + i * 4 + 1, none⟩) hbw2).trans u1
        have t2 := (hB'.cell (p := ⟨b, o + i * 4 + 2, none⟩) hbw2).trans u2
        have t3 := (hB'.cell (p := ⟨b, o + i * 4 + 3, none⟩) hbw2).trans u3
        clear hA' hB' hp' u0 u1 u2 u3 HBr5
        go_wp2_with fail
        refine hK.out _ _ ⟨t0, t1, t2, t3⟩ (fun hHeld => ?_)
        clear hK K
        try simp only [List.getElem_toArray, List.getElem_cons_succ, List.getElem_cons_zero, Act.put, List.setIfInBounds_toArray, List.set_cons_zero, List.set_cons_succ]
        refine wpAnyH_done (by kernel_rfl) ?_ _
        refine NoPanic.normal ?_
        clear hHeld t0 t1 t2 t3
        go_wp2
        exact ⟨⟨i + 1, df', by omega, by omega, by go_num, HP', by rw [HSt.out]; exact HA'.out, HB'⟩, by simp [intOf]; omega⟩
      · rw [hf] at q0
        rw [stepS, if_pos hf] at HSt
        clear q1 q2 q3
        have hfl := any_flush w2.heap.size df (forkS S ms i) wr hAn.out hBr.out.size HO2.out
        rw [hdf.out] at hfl
        have HFl := hid hfl
        clear hfl hf
        go_wp2_with fail
        refine HFl.out.mono ?_
        clear HFl
        rintro e w5 ⟨rfl, df', hp', hA', hB'⟩
        have HA' := hid hA'
        have HB' := hid (hBr.out.trans hB')
        have HP' := hid hp'
        clear hA' hB' hp'
        go_wp2
        exact ⟨⟨i + 1, df', by omega, by omega, by go_num, HP', by rw [HSt.out]; exact HA'.out, HB'⟩, by simp [intOf]; omega⟩
    · have hcase : ¬ ((i : Int) < (ms.length : Int)) ∨ ((i : Int) < (ms.length : Int) ∧ ¬ ((i : Int) < 40)) := by omega
      have HD4 := hid (HP2.out.D.below hBr.out)
      have HI := hid (image_own d S wr HD4.out.rd)
      have HLi := hid (length_imgS S)
      have HSf := hid (fun W (hW : Below wr.heap.size wr W) => safe_own d S W (HD4.out.below hW).rd)
      have HS4 := hid HSz.out.1
      have hSle : S.safe.length ≤ 4096 := by have := HS4.out; omega
      have HO1 := hid ho1
      clear ho1 ho2
      rcases hcase with h | ⟨h, h'⟩
      all_goals
        go_wp2_with fail
        refine HI.out.mono ?_
        clear HI
        rintro e w4 ⟨hB4, vx, rfl, hX⟩
        have HSf4 := hid (HSf.out w4 hB4)
        have HX := hid hX
        have HB4 := hid hB4
        clear hX hB4 HSf
        go_wp2_with fail
        refine HSf4.out.mono ?_
        clear HSf4
        rintro e w5 ⟨hB5, vy, rfl, hY⟩
        have HX5 := hid (HX.out.below hB5)
        have HY := hid hY
        have HB5 := hid (HB4.out.trans (hB5.mono HB4.out.size))
        have hxy : wr.heap.size < w4.heap.size := lt_of_heap HX.out.2.1
        clear hY hB5 HX HB4
        go_wp2
        generalize hgx : wr.heap.size = gx at *
        generalize hgy : w4.heap.size = gy at *
        have HGx := hid hgx
        clear hgx hgy
        go_loopw [12] (fun vi W => ∃ j : Nat, j ≤ S.safe.length ∧ vi = .int .i64 j ∧ Hid (rowsOwn W gx (imgS S) (imgS S).length vx) ∧ Hid (rowsOwn W gy S.safe S.safe.length vy) ∧ Hid (Below gx wr W)) (fun vi _ => S.safe.length - (intOf vi).toNat)
        case atStart => exact ⟨0, by omega, rfl, HX5, HY, HB5⟩
        case round =>
          obtain ⟨j, hj, rfl, hX, hY, hBq⟩ := hrel
          clear HX5 HY HB5
          by_cases hjl : j < S.safe.length
          · have hj0 : (0 : Int) ≤ (j : Int) := by omega
            have hj1 : (j : Int) < (S.safe.length : Int) := by omega
            have hji : j < (imgS S).length := by rw [HLi.out]; exact hjl
            obtain ⟨bx, cx, Cx, ex, hbx, hhx, hcx⟩ := hX.out.2.2 j hji hji
            obtain ⟨bY, cy, Cy, ey, hby, hhy, hcy⟩ := hY.out.2.2 j hjl hjl
            have sx : ((imgS S)[j]).size = 512 := by rw [imgS_at]; exact ok_seen HOk.out j hjl
            have sy : (S.safe[j]).size = 512 := HOk.out.1 _ (List.getElem_mem hjl)
            rw [sx] at ex hcx
            rw [sy] at ey hcy
            have kx : wr.cell? ⟨gx, j, none⟩ = some (.slice (some ⟨bx, 0, none⟩) 512 cx) := by rw [cell_of_block hX.out.2.1, List.getElem?_toArray]; exact ex
            have ky : wr.cell? ⟨gy, j, none⟩ = some (.slice (some ⟨bY, 0, none⟩) 512 cy) := by rw [cell_of_block hY.out.2.1, List.getElem?_toArray]; exact ey
            have hbgy : bx ≠ gy := fun e => by
              have h1 := hY.out.2.1
              rw [← e, hhx] at h1
              simp only [Option.some.injEq, Obj.cells.injEq] at h1
              exact absurd h1.2.1 (by decide)
            have hbgx : bx ≠ gx := by omega
            have hygx : bY ≠ gx := by omega
            have hygy : bY ≠ gy := by omega
            have zx : wr.cell? ⟨bx, 0, none⟩ = some (Cx[0]'(by omega)) := by rw [cell_of_block hhx]; exact Array.getElem?_eq_getElem _
            have fx : wr.frozen? ⟨bx, 0, none⟩ = false := frozen_own hhx (by omega)
            have HX1 := hid (hX.out.set (b := bx) (o := 0) (v := .int .u8 200) hbgx)
            have HY1 := hid (hY.out.set (b := bx) (o := 0) (v := .int .u8 200) hbgy)
            have HB1q := hid (hBq.out.setCell (p := ⟨bx, 0, none⟩) (show gx ≤ bx by omega) (.int .u8 200))
            generalize Cx[0]'(by omega) = vx0 at *
            clear hX hY hBq hhx hhy ex ey hcx hcy sx sy
            go_wp2
            refine wp_region_noPanic ?_
            refine wp_region_held_drew (S := fun W => W.cell? ⟨gx, j, none⟩ = some (.slice (some ⟨bx, 0, none⟩) 512 cx) ∧ W.cell? ⟨gy, j, none⟩ = some (.slice (some ⟨bY, 0, none⟩) 512 cy)) (by kernel_rfl) ⟨kx, ky⟩ (fun hHeld => ?_)
            refine wpAnyH_take (i := 0) (v := ?_) rfl (by kernel_rfl) (by kernel_rfl) (by kernel_rfl) (fun _ _ _ h => h) (Or.inl ⟨by rfl, ?_⟩) (by assumption) ?_
            rotate_left
            · (intro W hSw; (try dsimp only at hSw); obtain ⟨s1, s2⟩ := hSw; go_simp; try with_reducible rfl)
            try simp only [List.getElem_toArray, List.getElem_cons_zero, Act.put, List.setIfInBounds_toArray, List.set_cons_zero, List.set_cons_succ]
            refine wpAnyH_take (i := 1) (v := ?_) rfl (by kernel_rfl) (by kernel_rfl) (by kernel_rfl) (fun _ _ _ h => h) (Or.inl ⟨by rfl, ?_⟩) (by assumption) ?_
            rotate_left
            · (intro W hSw; (try dsimp only at hSw); obtain ⟨s1, s2⟩ := hSw; go_simp; try with_reducible rfl)
            try simp only [List.getElem_toArray, List.getElem_cons_succ, List.getElem_cons_zero, Act.put, List.setIfInBounds_toArray, List.set_cons_zero, List.set_cons_succ]
            refine wpAnyH_take (i := 2) (v := ?_) rfl (by kernel_rfl) (by kernel_rfl) (by kernel_rfl) (fun _ _ _ h => h) (Or.inl ⟨by rfl, ?_⟩) (by assumption) ?_
            rotate_left
            · (intro W hSw; (try dsimp only at hSw); obtain ⟨s1, s2⟩ := hSw; go_simp; try with_reducible rfl)
            try simp only [List.getElem_toArray, List.getElem_cons_succ, List.getElem_cons_zero, Act.put, List.setIfInBounds_toArray, List.set_cons_zero, List.set_cons_succ]
            refine wpAnyH_take (i := 3) (v := ?_) rfl (by kernel_rfl) (by kernel_rfl) (by kernel_rfl) (fun _ _ _ h => h) (Or.inl ⟨by rfl, ?_⟩) (by assumption) ?_
            rotate_left
            · (intro W hSw; (try dsimp only at hSw); obtain ⟨s1, s2⟩ := hSw; go_simp; try with_reducible rfl)
            try simp only [List.getElem_toArray, List.getElem_cons_succ, List.getElem_cons_zero, Act.put, List.setIfInBounds_toArray, List.set_cons_zero, List.set_cons_succ]
            refine wpAnyH_take (i := 4) (v := ?_) rfl (by kernel_rfl) (by kernel_rfl) (by kernel_rfl) (fun _ _ _ h => h) (Or.inl ⟨by rfl, ?_⟩) (by assumption) ?_
            rotate_left
            · (intro W hSw; (try dsimp only at hSw); obtain ⟨s1, s2⟩ := hSw; go_simp; try with_reducible rfl)
            try simp only [List.getElem_toArray, List.getElem_cons_succ, List.getElem_cons_zero, Act.put, List.setIfInBounds_toArray, List.set_cons_zero, List.set_cons_succ]
            refine wpAnyH_take (i := 5) (v := ?_) rfl (by kernel_rfl) (by kernel_rfl) (by kernel_rfl) (fun _ _ _ h => h) (Or.inl ⟨by rfl, ?_⟩) (by assumption) ?_
            rotate_left
            · (intro W hSw; (try dsimp only at hSw); obtain ⟨s1, s2⟩ := hSw; go_simp; try with_reducible rfl)
            try simp only [List.getElem_toArray, List.getElem_cons_succ, List.getElem_cons_zero, Act.put, List.setIfInBounds_toArray, List.set_cons_zero, List.set_cons_succ]
            refine wpAnyH_take (i := 6) (v := ?_) rfl (by kernel_rfl) (by kernel_rfl) (by kernel_rfl) (fun _ _ _ h => h) (Or.inl ⟨by rfl, ?_⟩) (by assumption) ?_
            rotate_left
            · (intro W hSw; (try dsimp only at hSw); obtain ⟨s1, s2⟩ := hSw; go_simp; try with_reducible rfl)
            try simp only [List.getElem_toArray, List.getElem_cons_succ, List.getElem_cons_zero, Act.put, List.setIfInBounds_toArray, List.set_cons_zero, List.set_cons_succ]
            refine wpAnyH_take (i := 7) (v := ?_) rfl (by kernel_rfl) (by kernel_rfl) (by kernel_rfl) (fun _ _ _ h => h) (Or.inl ⟨by rfl, ?_⟩) (by assumption) ?_
            rotate_left
            · (intro W hSw; (try dsimp only at hSw); obtain ⟨s1, s2⟩ := hSw; go_simp; try with_reducible rfl)
            try simp only [List.getElem_toArray, List.getElem_cons_succ, List.getElem_cons_zero, Act.put, List.setIfInBounds_toArray, List.set_cons_zero, List.set_cons_succ]
            refine wpAnyH_take (i := 8) (v := ?_) rfl (by kernel_rfl) (by kernel_rfl) (by kernel_rfl) (fun _ _ _ h => h) (Or.inl ⟨by rfl, ?_⟩) (by assumption) ?_
            rotate_left
            · (intro W hSw; (try dsimp only at hSw); obtain ⟨s1, s2⟩ := hSw; go_simp; try with_reducible rfl)
            try simp only [List.getElem_toArray, List.getElem_cons_succ, List.getElem_cons_zero, Act.put, List.setIfInBounds_toArray, List.set_cons_zero, List.set_cons_succ]
            refine wpAnyH_ready (rs := [9]) (by kernel_rfl) (by simp) (AllReadyH.cons rfl (fun K hK => ?_) AllReadyH.nil)
            rw [if_pos (by rfl)]
            unfold Oper.wp
            go_simp
            have k2x : (wr.setCell ⟨bx, 0, none⟩ (.int .u8 200)).cell? ⟨gx, j, none⟩ = some (.slice (some ⟨bx, 0, none⟩) 512 cx) := by rw [World.cell?_setCell_far _ _ _ _ hbgx]; exact kx
            have k2y : (wr.setCell ⟨bx, 0, none⟩ (.int .u8 200)).cell? ⟨gy, j, none⟩ = some (.slice (some ⟨bY, 0, none⟩) 512 cy) := by rw [World.cell?_setCell_far _ _ _ _ hbgy]; exact ky
            generalize wr.setCell ⟨bx, 0, none⟩ (.int .u8 200) = w6 at *
            refine hK.out _ _ ⟨k2x, k2y⟩ (fun hHeld => ?_)
            clear hK K
            obtain ⟨bY', cy', Cy, ey, hby', hhy, hcy⟩ := HY1.out.2.2 j hjl hjl
            have eb : bY' = bY := by
              have h1 : w6.cell? ⟨gy, j, none⟩ = some (.slice (some ⟨bY', 0, none⟩) (S.safe[j]).size cy') := by rw [cell_of_block HY1.out.2.1, List.getElem?_toArray]; exact ey
              rw [k2y] at h1
              simp only [Option.some.injEq, Value.slice.injEq, Addr.mk.injEq, and_true] at h1
              exact h1.1.symm
            subst eb
            have sy : (S.safe[j]).size = 512 := HOk.out.1 _ (List.getElem_mem hjl)
            rw [sy] at hcy
            have zy : w6.cell? ⟨bY', 0, none⟩ = some (Cy[0]'(by omega)) := by rw [cell_of_block hhy]; exact Array.getElem?_eq_getElem _
            have fy : w6.frozen? ⟨bY', 0, none⟩ = false := frozen_own hhy (by omega)
            have HX2 := hid (HX1.out.set (b := bY') (o := 0) (v := .int .u8 201) hygx)
            have HY2 := hid (HY1.out.set (b := bY') (o := 0) (v := .int .u8 201) hygy)
            have HB2q := hid (HB1q.out.setCell (p := ⟨bY', 0, none⟩) (show gx ≤ bY' by omega) (.int .u8 201))
            generalize Cy[0]'(by omega) = vy0 at *
            clear hhy ey hcy HX1 HY1 HB1q zx fx
            try simp only [List.getElem_toArray, List.getElem_cons_succ, List.getElem_cons_zero, Act.put, List.setIfInBounds_toArray, List.set_cons_zero, List.set_cons_succ]
            refine wpAnyH_take (i := 10) (v := ?_) rfl (by kernel_rfl) (by kernel_rfl) (by kernel_rfl) (fun _ _ _ h => h) (Or.inl ⟨by rfl, ?_⟩) (by assumption) ?_
            rotate_left
            · (intro W hSw; (try dsimp only at hSw); obtain ⟨s1, s2⟩ := hSw; go_simp; try with_reducible rfl)
            try simp only [List.getElem_toArray, List.getElem_cons_succ, List.getElem_cons_zero, Act.put, List.setIfInBounds_toArray, List.set_cons_zero, List.set_cons_succ]
            refine wpAnyH_ready (rs := [11]) (by kernel_rfl) (by simp) (AllReadyH.cons rfl (fun K hK => ?_) AllReadyH.nil)
            rw [if_pos (by rfl)]
            unfold Oper.wp
            go_simp
            have k3x : (w6.setCell ⟨bY', 0, none⟩ (.int .u8 201)).cell? ⟨gx, j, none⟩ = some (.slice (some ⟨bx, 0, none⟩) 512 cx) := by rw [World.cell?_setCell_far _ _ _ _ hygx]; exact k2x
            have k3y : (w6.setCell ⟨bY', 0, none⟩ (.int .u8 201)).cell? ⟨gy, j, none⟩ = some (.slice (some ⟨bY', 0, none⟩) 512 cy) := by rw [World.cell?_setCell_far _ _ _ _ hygy]; exact k2y
            generalize w6.setCell ⟨bY', 0, none⟩ (.int .u8 201) = w7 at *
            refine hK.out _ _ ⟨k3x, k3y⟩ (fun hHeld => ?_)
            clear hK K zy fy
            refine wpAnyH_done (by kernel_rfl) ?_ _
            refine NoPanic.normal ?_
            clear hHeld k2x k2y k3x k3y kx ky
            go_wp2
            first | exact ⟨⟨j + 1, by omega, by go_num, HX2, HY2, HB2q⟩, by simp [intOf]; omega⟩ | exact ⟨⟨j + 1, by omega, by go_num, HX2, HY2, HB2q.out.drew⟩, by simp [intOf]; omega⟩
          · obtain rfl : j = S.safe.length := by omega
            have hge : ¬ ((S.safe.length : Int) < (S.safe.length : Int)) := by omega
            have HBe := hid (hBr.out.trans ((show Below _ _ _ from hBq.out).mono (by rw [← HGx.out]; exact hBr.out.size)))
            have HAe := hid (hAn.out.below (by rw [HGx.out]; exact hBq.out))
            have h4 := HS4.out
            have hs0 : (seenS S.safe S.waits (0 : Int)).size = 512 := ok_seen HOk.out 0 (by omega)
            have hrd := read_own d S 0 wr (HP2.out.D.below HBe.out).rd (by omega) (by omega)
            rw [hs0] at hrd
            have HRd := hid hrd
            clear hrd hs0 h4 hX hY hBq
            go_wp2_with fail
            refine HRd.out.mono ?_
            clear HRd
            rintro e w7 ⟨hB7, cb, Cb, rfl, hhb, hcb⟩
            have hz7 : w7.cell? ⟨wr.heap.size, 0, none⟩ = some (Cb[0]'(by omega)) := by rw [cell_of_block hhb]; exact Array.getElem?_eq_getElem _
            have hf7 : w7.frozen? ⟨wr.heap.size, 0, none⟩ = false := frozen_own hhb (by omega)
            have HB8 := hid (hB7.setCell (p := ⟨wr.heap.size, 0, none⟩) (Nat.le_refl _) (.int .u8 202))
            generalize Cb[0]'(by omega) = vb0 at *
            clear hB7 hhb hcb
            have HBf := hid (HBe.out.trans (HB8.out.mono HBe.out.size))
            have HAf := hid (HAe.out.below HB8.out)
            have HSr := hid (same_ref d S r fv lv vs Rd R (w7.setCell ⟨wr.heap.size, 0, none⟩ (.int .u8 202)) (HP2.out.D.below HBf.out).rd (HP2.out.Rf.below HBf.out) HTo.out hRm)
            have HDf := hid (HP2.out.D.below HBf.out)
            clear HB8 HBe HAe HP2 HD4 hBr hAn
            go_wp2_with fail
            refine HSr.out.mono ?_
            clear HSr
            generalize w7.setCell ⟨wr.heap.size, 0, none⟩ (.int .u8 202) = w8 at *
            clear hz7 hf7
            rintro e w9 ⟨rfl, hB9⟩
            have HB9 := hid (HBf.out.trans (hB9.mono HBf.out.size))
            have HD9 := hid (HDf.out.below hB9)
            have hof := ops_disk_rd df (forkS S ms i) w9 (HAf.out.below hB9).rd
            rw [hdf.out] at hof
            have HOf := hid hof
            have HOd := hid (ops_disk d S w9 HD9.out)
            have HFk := hid (fork_disk d S w9 HD9.out (by omega))
            have hge2 : (S.ops.length : Int) ≤ ((forkS S ms i).ops.length : Int) := by have := HO1.out; omega
            generalize (forkS S ms i).ops.length = fo at *
            clear hB9 hof HBf HAf HDf
            go_wp2_with fail
            refine HOf.out.mono ?_
            clear HOf
            rintro e w10 ⟨rfl, h10⟩
            obtain rfl := h10.symm
            go_wp2_with fail
            refine HOd.out.mono ?_
            clear HOd
            rintro e w10 ⟨rfl, h10⟩
            obtain rfl := h10.symm
            go_wp2_with fail
            refine HFk.out.mono ?_
            clear HFk
            rintro e w11 ⟨hB11, dk, rfl, hDk, -⟩
            have hsd := same_disks_rd d dk S S w11 (HD9.out.below hB11).rd hDk.rd
            rw [decide_eq_true rfl] at hsd
            have HSd := hid hsd
            have HB11 := hid (HB9.out.trans (hB11.mono HB9.out.size))
            clear hsd hB11 hDk HD9 HB9
            go_wp2_with fail
            refine HSd.out.mono ?_
            clear HSd
            rintro e w12 ⟨rfl, hB12⟩
            have HB12 := hid (HB2.out.trans ((HB11.out.trans (hB12.mono HB11.out.size)).mono hw02))
            clear hB12 HB11
            go_wp2
            go_ret
            exact ⟨rfl, HB12.out⟩
end Go.Proofs.Ytpkjpkjcdpgaaaa
