/- play: deeds done on the disk and on the reference; both answer alike. -/
import Derived.Test.YtpkjpkjcdpgaaaaPair
namespace Go.Proofs.Ytpkjpkjcdpgaaaa
open Go.RowKit
set_option maxRecDepth 100000 in
set_option maxHeartbeats 4000000 in
theorem play_any (n : Nat) (h1 : 1 ≤ n) (hn : n ≤ 4096) (ds : List DeedS) (a : Option Addr) (c : Nat) (hlen : ds.length ≤ 9223372036854775807) (w : World) (hds : deedsAt w a ds) :
    Calls Try.prog 9 #[.int .i64 n, .slice a ds.length c] w fun e w' => ∃ d r, e = .returned (.tuple #[.pointer (some ⟨d.p, 0, none⟩), .pointer (some ⟨r, 0, none⟩), .bool true]) ∧
      ∃ fv lv vs Rd, Pair w w' d (playS n ds (min ds.length 40)) r fv lv vs Rd (playR n ds (min ds.length 40)) := by
  have HDS := hid hds
  clear hds
  go_enter Try.func9, Try.ntmps9
  go_wp2_with fail
  refine (new_disk n h1 hn w).mono ?_
  rintro e w1 ⟨d0, rfl, hD0, hf0, hv0, hb0⟩
  have HD0 := hid hD0
  have HF0 := hid hf0
  have HV0 := hid hv0
  have HB0 := hid hb0
  clear hD0 hf0 hv0 hb0
  go_wp2_with fail
  refine (rnew_ok n h1 hn w1).mono ?_
  rintro e w2 ⟨rfl, hb1, fv, hR0⟩
  have HP : Hid (Pair w w2 d0 (playS n ds 0) w1.heap.size fv (.slice none 0 0) [] (fun i => w1.heap.size < i ∧ i < w2.heap.size) (playR n ds 0)) := by
    have hs0 := HB0.out.size
    refine ⟨HB0.out.trans (hb1.mono hs0), HD0.out.below hb1, hR0, fun i hi => ?_, hs0, fun e => ?_, fun i hi => hi.2⟩
    · have h3 := HF0.out i hi
      have h4 := HD0.out.foot_lt hi
      exact ⟨h3, fun e => by omega, by omega⟩
    · have := HD0.out.fv_lt e; omega
  clear hb1 hR0 HD0 HF0 HV0 HB0
  go_wp2
  generalize w1.heap.size = r at *
  go_loopw [11] (fun i wr => ∃ (k : Nat) (d : DL) (fv lv : Value) (vs : List Value) (Rd : Nat → Prop), k ≤ ds.length ∧ k ≤ 40 ∧ i = .int .i64 k ∧ Hid (d.p = d0.p) ∧ Hid (Pair w wr d (playS n ds k) r fv lv vs Rd (playR n ds k))) (fun i _ => 40 - (intOf i).toNat)
  case atStart => exact ⟨0, d0, _, _, _, _, by omega, by omega, rfl, rfl, HP⟩
  case round =>
    obtain ⟨k, d, fv, lv, vs, Rd, hk1, hk2, rfl, hdp, hPr⟩ := hrel
    clear HP
    obtain ⟨z1, z2, z3, z4⟩ := play_sizes n ds k hk1
    have HZ1 := hid z1
    have HZ2 := hid z2
    have HZ3 : Hid ((playS n ds k).ops.length < opsMax) := Nat.lt_of_le_of_lt z3 (by unfold opsMax; omega)
    have HZ4 : Hid ((playR n ds k).l.length ≤ 1000000) := by show _ ≤ _; omega
    clear z1 z2 z3 z4
    by_cases hlt : k < ds.length
    · by_cases h40 : k < 40
      · have hk0 : (0 : Int) ≤ (k : Int) := by omega
        have hk3 : (k : Int) < (ds.length : Int) := by omega
        have hk4 : (k : Int) < 40 := by omega
        obtain ⟨b, o, rfl, hc⟩ := HDS.out k hlt
        obtain ⟨c0, c1, c2, c3, x0, x1⟩ := hc k hlt
        have hbl : b < w.heap.size := World.block_lt_of_cell? w _ c0
        have q0 : wr.cell? ⟨b, o + k * 4, none⟩ = some (.bool (ds[k]).f) := (hPr.out.below.cell (p := ⟨b, o + k * 4, none⟩) hbl).trans c0
        have q1 : wr.cell? ⟨b, o + k * 4 + 1, none⟩ = some (.int .i64 (ds[k]).n) := (hPr.out.below.cell (p := ⟨b, o + k * 4 + 1, none⟩) hbl).trans c1
        have q2 : wr.cell? ⟨b, o + k * 4 + 2, none⟩ = some (.int .i64 (ds[k]).l) := (hPr.out.below.cell (p := ⟨b, o + k * 4 + 2, none⟩) hbl).trans c2
        have q3 : wr.cell? ⟨b, o + k * 4 + 3, none⟩ = some (.int .u8 (ds[k]).x) := (hPr.out.below.cell (p := ⟨b, o + k * 4 + 3, none⟩) hbl).trans c3
        have HS1 := hid (playS_step n ds k hlt)
        have HR1 := hid (playR_step n ds k hlt)
        clear c0 c1 c2 c3 hc
        generalize hD : ds[k] = D at *
        clear hD
        by_cases hf : D.f = true
        · rw [stepS, if_pos hf] at HS1
          rw [stepR, if_pos hf] at HR1
          rw [hf] at q0
          clear q1 q2 q3
          have hfl := flush_disk d (playS n ds k) wr hPr.out.D HZ3.out
          rw [hdp.out] at hfl
          have HFl := hid hfl
          clear hfl hf
          go_wp2_with fail
          refine HFl.out.mono ?_
          clear HFl
          rintro e w3 ⟨rfl, d3, hD3, e1, e2, hf3, hK3⟩
          have HP3 := hid (hPr.out.disk hD3 e2 hf3 hK3)
          have hE3 : d3.p = d0.p := e1
          have HE3 := hid hE3
          have HFr := hid (rflush_any r fv lv vs Rd (playR n ds k) w3 HP3.out.Rf HZ4.out)
          clear hD3 e1 e2 hf3 hK3 hE3 q0
          go_wp2_with fail
          refine HFr.out.mono ?_
          clear HFr
          rintro e w4 ⟨rfl, lv', vs', hR4, hK4⟩
          have HP4 := hid (HP3.out.ref hR4 hK4)
          clear hR4 hK4
          go_wp2
          refine ⟨⟨k + 1, d3, fv, lv', vs', moreOf Rd w3 w4, by omega, by omega, by go_num, HE3, ?_⟩, by simp [intOf]; omega⟩
          rw [HS1.out, HR1.out]
          exact HP4.out
        · have hff : D.f = false := by simpa using hf
          rw [stepS, if_neg hf] at HS1
          rw [stepR, if_neg hf] at HR1
          rw [hff] at q0
          have HDf := hid (deed_bytes false D.n D.l D.x wr)
          have hgt0 := lt_of_heap hPr.out.Rf.heap
          have HRlt := hid hPr.out.rdlt
          have HFvlt := hid (fun i hi => hPr.out.D.fv_lt (i := i) hi)
          clear hf hff
          go_wp2_with fail
          refine HDf.out.mono ?_
          clear HDf
          rintro e w3 ⟨g, rfl, hg, hgb, hB3⟩
          have HP3 := hid ((hPr.out.grow hB3).grow (wb := w3.drew) (Below.refl _ _).drew)
          have HGb := hid hgb
          have hg3 := lt_of_heap hgb
          have q1b : w3.cell? ⟨b, o + k * 4 + 1, none⟩ = some (.int .i64 D.n) := (hB3.cell (p := ⟨b, o + k * 4 + 1, none⟩) (Nat.lt_of_lt_of_le hbl hPr.out.below.size)).trans q1
          have hw := write_any d (playS n ds k) D.n D.bytes ⟨g, 0, none⟩ (deedLen D.l) (deedLen D.l) w3.drew HP3.out.D HZ3.out (length_full _ _) (bytes_full (w := w3.drew) hgb x0 x1)
          rw [hdp.out] at hw
          have HWr := hid hw
          have HEq := hid (err_same (S := playS n ds k) (R := playR n ds k) (HZ1.out.trans HZ2.out.symm) D.n D.bytes)
          clear hw hgb hB3 q0 q1 q2 q3
          go_wp2_with fail
          refine wp_region_noPanic ?_
          refine wp_region_held_drew (S := fun W => W.cell? ⟨b, o + k * 4 + 1, none⟩ = some (.int .i64 D.n)) (by kernel_rfl) q1b (fun hHeld => ?_)
          refine wpAnyH_take (i := 0) (v := ?_) rfl (by kernel_rfl) (by kernel_rfl) (by kernel_rfl) (fun _ _ _ h => h) (Or.inl ⟨by rfl, ?_⟩) (by assumption) ?_
          rotate_left
          · (intro W hSw; (try dsimp only at hSw); go_simp; try with_reducible rfl)
          try simp only [List.getElem_toArray, List.getElem_cons_zero, Act.put, List.setIfInBounds_toArray, List.set_cons_zero, List.set_cons_succ]
          refine wpAnyH_take (i := 1) (v := ?_) rfl (by kernel_rfl) (by kernel_rfl) (by kernel_rfl) (fun _ _ _ h => h) (Or.inl ⟨by rfl, ?_⟩) (by assumption) ?_
          rotate_left
          · (intro W hSw; (try dsimp only at hSw); go_simp; try with_reducible rfl)
          try simp only [List.getElem_toArray, List.getElem_cons_succ, List.getElem_cons_zero, Act.put, List.setIfInBounds_toArray, List.set_cons_zero, List.set_cons_succ]
          refine wpAnyH_take (i := 2) (v := ?_) rfl (by kernel_rfl) (by kernel_rfl) (by kernel_rfl) (fun _ _ _ h => h) (Or.inl ⟨by rfl, ?_⟩) (by assumption) ?_
          rotate_left
          · (intro W hSw; (try dsimp only at hSw); go_simp; try with_reducible rfl)
          try simp only [List.getElem_toArray, List.getElem_cons_succ, List.getElem_cons_zero, Act.put, List.setIfInBounds_toArray, List.set_cons_zero, List.set_cons_succ]
          refine wpAnyH_take (i := 3) (v := ?_) rfl (by kernel_rfl) (by kernel_rfl) (by kernel_rfl) (fun _ _ _ h => h) (Or.inl ⟨by rfl, ?_⟩) (by assumption) ?_
          rotate_left
          · (intro W hSw; (try dsimp only at hSw); go_simp; try with_reducible rfl)
          try simp only [List.getElem_toArray, List.getElem_cons_succ, List.getElem_cons_zero, Act.put, List.setIfInBounds_toArray, List.set_cons_zero, List.set_cons_succ]
          refine wpAnyH_take (i := 4) (v := ?_) rfl (by kernel_rfl) (by kernel_rfl) (by kernel_rfl) (fun _ _ _ h => h) (Or.inl ⟨by rfl, ?_⟩) (by assumption) ?_
          rotate_left
          · (intro W hSw; (try dsimp only at hSw); go_simp; try with_reducible rfl)
          try simp only [List.getElem_toArray, List.getElem_cons_succ, List.getElem_cons_zero, Act.put, List.setIfInBounds_toArray, List.set_cons_zero, List.set_cons_succ]
          refine wpAnyH_take (i := 5) (v := ?_) rfl (by kernel_rfl) (by kernel_rfl) (by kernel_rfl) (fun _ _ _ h => h) (Or.inl ⟨by rfl, ?_⟩) (by assumption) ?_
          rotate_left
          · (intro W hSw; (try dsimp only at hSw); go_simp; try with_reducible rfl)
          try simp only [List.getElem_toArray, List.getElem_cons_succ, List.getElem_cons_zero, Act.put, List.setIfInBounds_toArray, List.set_cons_zero, List.set_cons_succ]
          refine wpAnyH_take (i := 6) (v := ?_) rfl (by kernel_rfl) (by kernel_rfl) (by kernel_rfl) (fun _ _ _ h => h) (Or.inl ⟨by rfl, ?_⟩) (by assumption) ?_
          rotate_left
          · (intro W hSw; (try dsimp only at hSw); go_simp; try with_reducible rfl)
          try simp only [List.getElem_toArray, List.getElem_cons_succ, List.getElem_cons_zero, Act.put, List.setIfInBounds_toArray, List.set_cons_zero, List.set_cons_succ]
          refine wpAnyH_take (i := 8) (v := ?_) rfl (by kernel_rfl) (by kernel_rfl) (by kernel_rfl) (fun _ _ _ h => h) (Or.inl ⟨by rfl, ?_⟩) (by assumption) ?_
          rotate_left
          · (intro W hSw; (try dsimp only at hSw); go_simp; try with_reducible rfl)
          try simp only [List.getElem_toArray, List.getElem_cons_succ, List.getElem_cons_zero, Act.put, List.setIfInBounds_toArray, List.set_cons_zero, List.set_cons_succ]
          refine wpAnyH_take (i := 9) (v := ?_) rfl (by kernel_rfl) (by kernel_rfl) (by kernel_rfl) (fun _ _ _ h => h) (Or.inl ⟨by rfl, ?_⟩) (by assumption) ?_
          rotate_left
          · (intro W hSw; (try dsimp only at hSw); go_simp; try with_reducible rfl)
          try simp only [List.getElem_toArray, List.getElem_cons_succ, List.getElem_cons_zero, Act.put, List.setIfInBounds_toArray, List.set_cons_zero, List.set_cons_succ]
          refine wpAnyH_take (i := 10) (v := ?_) rfl (by kernel_rfl) (by kernel_rfl) (by kernel_rfl) (fun _ _ _ h => h) (Or.inl ⟨by rfl, ?_⟩) (by assumption) ?_
          rotate_left
          · (intro W hSw; (try dsimp only at hSw); go_simp; try with_reducible rfl)
          try simp only [List.getElem_toArray, List.getElem_cons_succ, List.getElem_cons_zero, Act.put, List.setIfInBounds_toArray, List.set_cons_zero, List.set_cons_succ]
          refine wpAnyH_take (i := 11) (v := ?_) rfl (by kernel_rfl) (by kernel_rfl) (by kernel_rfl) (fun _ _ _ h => h) (Or.inl ⟨by rfl, ?_⟩) (by assumption) ?_
          rotate_left
          · (intro W hSw; (try dsimp only at hSw); go_simp; try with_reducible rfl)
          try simp only [List.getElem_toArray, List.getElem_cons_succ, List.getElem_cons_zero, Act.put, List.setIfInBounds_toArray, List.set_cons_zero, List.set_cons_succ]
          refine wpAnyH_take (i := 12) (v := ?_) rfl (by kernel_rfl) (by kernel_rfl) (by kernel_rfl) (fun _ _ _ h => h) (Or.inl ⟨by rfl, ?_⟩) (by assumption) ?_
          rotate_left
          · (intro W hSw; (try dsimp only at hSw); go_simp; try with_reducible rfl)
          try simp only [List.getElem_toArray, List.getElem_cons_succ, List.getElem_cons_zero, Act.put, List.setIfInBounds_toArray, List.set_cons_zero, List.set_cons_succ]
          refine wpAnyH_take (i := 13) (v := ?_) rfl (by kernel_rfl) (by kernel_rfl) (by kernel_rfl) (fun _ _ _ h => h) (Or.inl ⟨by rfl, ?_⟩) (by assumption) ?_
          rotate_left
          · (intro W hSw; (try dsimp only at hSw); go_simp; try with_reducible rfl)
          try simp only [List.getElem_toArray, List.getElem_cons_succ, List.getElem_cons_zero, Act.put, List.setIfInBounds_toArray, List.set_cons_zero, List.set_cons_succ]
          refine wpAnyH_take (i := 14) (v := ?_) rfl (by kernel_rfl) (by kernel_rfl) (by kernel_rfl) (fun _ _ _ h => h) (Or.inl ⟨by rfl, ?_⟩) (by assumption) ?_
          rotate_left
          · (intro W hSw; (try dsimp only at hSw); go_simp; try with_reducible rfl)
          try simp only [List.getElem_toArray, List.getElem_cons_succ, List.getElem_cons_zero, Act.put, List.setIfInBounds_toArray, List.set_cons_zero, List.set_cons_succ]
          refine wpAnyH_ready (rs := [7]) (by kernel_rfl) (by simp) (AllReadyH.cons rfl (fun K hK => ?_) AllReadyH.nil)
          rw [if_pos (by rfl)]
          go_simp
          refine HWr.out.mono ?_
          clear HWr
          rintro e w4 ⟨rfl, d4, hD4, e1, e2, hf4, hK4⟩
          have HP4 := hid (HP3.out.disk hD4 e2 hf4 hK4)
          have HE4 := hid e1
          have HE42 := hid e2
          have hgb4 := hK4.heap (a := w3.drew) HGb.out (HP3.out.D.foot_u8 HGb.out)
          have HGb4 := hid hgb4
          have hs4 : w3.heap.size ≤ w4.heap.size := hK4.size
          have hbw : b < w3.heap.size := Nat.lt_of_lt_of_le hbl (Nat.le_trans hPr.out.below.size (by omega))
          have q4 : w4.cell? ⟨b, o + k * 4 + 1, none⟩ = some (.int .i64 D.n) := hK4.cell (a := w3.drew) q1b (fun e => by have := (HP3.out.fd b e).1; omega)
          have hrw := rwrite_any r fv lv vs Rd (playR n ds k) D.n D.bytes (some ⟨g, 0, none⟩) (deedLen D.l) (deedLen D.l) w4 HP4.out.Rf HZ4.out (length_full _ _) (bytesIn_of_at (bytes_full hgb4 x0 x1))
          rw [← HEq.out] at hrw
          have HRw := hid hrw
          clear hD4 e1 e2 hf4 hK4 hgb4 hrw
          go_wp2_with fail
          refine hK.out _ _ q4 (fun hHeld => ?_)
          clear hK K
          try simp only [List.getElem_toArray, List.getElem_cons_succ, List.getElem_cons_zero, Act.put, List.setIfInBounds_toArray, List.set_cons_zero, List.set_cons_succ]
          refine wpAnyH_ready (rs := [15]) (by kernel_rfl) (by simp) (AllReadyH.cons rfl (fun K hK => ?_) AllReadyH.nil)
          rw [if_pos (by rfl)]
          go_simp
          refine HRw.out.mono ?_
          clear HRw
          rintro e w5 ⟨rfl, lv', vs', hR5, hK5⟩
          have HP5 := hid (HP4.out.ref hR5 hK5)
          have hgr : g ≠ r := by omega
          have HGb5 := hid (hK5.heap HGb4.out hgr)
          have q5 : w5.cell? ⟨b, o + k * 4 + 1, none⟩ = some (.int .i64 D.n) := hK5.cell q4 (fun e => by have := HP4.out.fr; have e2 : b = r := e; omega)
          clear hR5 hK5
          go_wp2_with fail
          refine hK.out _ _ q5 (fun hHeld => ?_)
          clear hK K
          generalize errW (playS n ds k) D.n D.bytes = ev at *
          have hev : (ev != ev) = false := by simp
          try simp only [List.getElem_toArray, List.getElem_cons_succ, List.getElem_cons_zero, Act.put, List.setIfInBounds_toArray, List.set_cons_zero, List.set_cons_succ]
          refine wpAnyH_take (i := 16) (v := ?_) rfl (by kernel_rfl) (by kernel_rfl) (by kernel_rfl) (fun _ _ _ h => h) (Or.inl ⟨by rfl, ?_⟩) (by assumption) ?_
          rotate_left
          · (intro W hSw; (try dsimp only at hSw); go_simp; try with_reducible rfl)
          try simp only [List.getElem_toArray, List.getElem_cons_succ, List.getElem_cons_zero, Act.put, List.setIfInBounds_toArray, List.set_cons_zero, List.set_cons_succ]
          refine wpAnyH_done (by kernel_rfl) ?_ _
          refine NoPanic.normal ?_
          clear hHeld q4 q5 q1b
          go_wp2
          have hml : deedLen D.l ≤ 600 := by unfold deedLen; split <;> omega
          have hsz : (List.replicate (deedLen D.l) (Value.int .u8 D.x)).toArray.size = deedLen D.l := by simp
          have HSz := hid hsz
          clear hsz
          generalize hC0 : (List.replicate (deedLen D.l) (Value.int .u8 D.x)).toArray = C0 at *
          clear hC0
          generalize hmm : deedLen D.l = m at *
          clear hmm
          go_loopw [13] (fun i wq => ∃ (j : Nat) (C : Array Value), j ≤ m ∧ i = .int .i64 j ∧ Hid (C.size = m) ∧ Hid (wq.heap[g]? = some (.cells C 5 (0, 0))) ∧ Hid (Keeps (fun i => i = g) w5 wq)) (fun i _ => m - (intOf i).toNat)
          case atStart => exact ⟨0, C0, by omega, rfl, HSz, HGb5, Keeps.refl _ _⟩
          case round =>
            obtain ⟨j, C, hj, rfl, hCs, hCb, hKq⟩ := hrel
            by_cases hjl : j < m
            · have hj0 : (0 : Int) ≤ (j : Int) := by omega
              have hj1 : (j : Int) < (m : Int) := by omega
              have ce : wr.cell? ⟨g, j, none⟩ = some (C[j]'(by rw [hCs.out]; exact hjl)) := by rw [cell_of_block hCb.out]; exact Array.getElem?_eq_getElem _
              have fe : wr.frozen? ⟨g, j, none⟩ = false := frozen_of_block hCb.out _
              go_wp2
              refine ⟨⟨j + 1, C.setIfInBounds j (.int .u8 99), by omega, by go_num, by simpa [Hid] using hCs.out, block_setCell hCb.out j _, hKq.out.grown (grown_setCell (grown_refl _ _) _ _) (fun i e => .inl (Option.some.inj e).symm)⟩, by simp [intOf]; omega⟩
            · have hj1 : ¬ ((j : Int) < (m : Int)) := by omega
              have HP6 := hid (HP5.out.other hKq.out (Nat.le_trans hPr.out.below.size hg) (HP5.out.D.foot_u8 HGb5.out) (fun e => by rw [HE42.out] at e; have := HFvlt.out g e; omega) (fun e => by
                rcases e with e | e
                · have := HRlt.out g e; omega
                · omega) hgr)
              clear HP5 HGb5 hCb hKq HP4 HGb4 HP3 HGb HRlt HFvlt hCs HSz
              go_wp2
              refine ⟨⟨k + 1, d4, fv, lv', vs', moreOf Rd w4 w5, by omega, by omega, by go_num, HE4, ?_⟩, by simp [intOf]; omega⟩
              rw [HS1.out, HR1.out]
              exact HP6.out
      · have hk3 : (k : Int) < (ds.length : Int) := by omega
        have hk4 : ¬ ((k : Int) < 40) := by omega
        have hkm : min ds.length 40 = k := by omega
        have HKm := hid hkm
        clear hkm
        go_wp2
        go_returns
        refine ⟨d, r, ?_, fv, lv, vs, Rd, ?_⟩
        · rw [hdp.out]; rfl
        · rw [HKm.out]; exact hPr.out
    · have hk3 : ¬ ((k : Int) < (ds.length : Int)) := by omega
      have hkm : min ds.length 40 = k := by omega
      have HKm := hid hkm
      clear hkm
      go_wp2
      go_returns
      refine ⟨d, r, ?_, fv, lv, vs, Rd, ?_⟩
      · rw [hdp.out]; rfl
      · rw [HKm.out]; exact hPr.out
end Go.Proofs.Ytpkjpkjcdpgaaaa
