/- play of a number of sectors that is refused: both are nil, and answer alike. -/
import Derived.Test.YtpkjpkjcdpgaaaaPlay
import Derived.Test.YtpkjpkjcdpgaaaaRLoad
import Derived.Test.YtpkjpkjcdpgaaaaSameAll
namespace Go.Proofs.Ytpkjpkjcdpgaaaa
open Go.RowKit
theorem rlook_nil (n : Int) (w : World) : Calls Try.prog 38 #[.pointer none, .int .i64 n] w fun e w' => e = .returned (.int .i64 1) ∧ w' = w := by
  go_enter Try.func38, Try.ntmps38
  go_wp2
  go_ret
  exact ⟨rfl, rfl⟩
theorem rwrite_nil (n : Int) (v : Value) (w : World) : Calls Try.prog 35 #[.pointer none, .int .i64 n, v] w fun e w' => e = .returned (.int .i64 1) ∧ w' = w := by
  have HL := hid (rlook_nil n w)
  go_enter Try.func35, Try.ntmps35
  go_wp2_with fail
  refine HL.out.mono ?_
  rintro e w9 ⟨rfl, h9⟩
  obtain rfl := h9.symm
  go_wp2
  go_returns
  exact ⟨rfl, rfl⟩
theorem rflush_nil (w : World) : Calls Try.prog 34 #[.pointer none] w fun e w' => e = .returned (.int .i64 1) ∧ w' = w := by
  go_enter Try.func34, Try.ntmps34
  go_wp2
  go_ret
  exact ⟨rfl, rfl⟩
theorem rops_nil (w : World) : Calls Try.prog 42 #[.pointer none] w fun e w' => e = .returned (.int .i64 0) ∧ w' = w := by
  go_enter Try.func42, Try.ntmps42
  go_wp2
  go_ret
  exact ⟨rfl, rfl⟩
theorem rsectors_nil (w : World) : Calls Try.prog 44 #[.pointer none] w fun e w' => e = .returned (.int .i64 0) ∧ w' = w := by
  go_enter Try.func44, Try.ntmps44
  go_wp2
  go_ret
  exact ⟨rfl, rfl⟩
theorem rsafe_nil (w : World) : Calls Try.prog 45 #[.pointer none] w fun e w' => e = .returned (.slice none 0 0) ∧ w' = w := by
  go_enter Try.func45, Try.ntmps45
  go_wp2
  go_ret
  exact ⟨rfl, rfl⟩
set_option maxRecDepth 100000 in
theorem rwaiting_nil (w : World) : Calls Try.prog 40 #[.pointer none] w fun e w' => e = .returned (.tuple #[.slice none 0 0, .slice none 0 0]) ∧ w' = w := by
  go_enter Try.func40, Try.ntmps40
  go_wp2
  go_loopw [4, 5, 6] (fun v u i wr => wr = w ∧ i = .int .i64 0 ∧ v = .slice none 0 0 ∧ u = .slice none 0 0) (fun _ _ _ _ => 0)
  case atStart => exact ⟨rfl, rfl, rfl, rfl⟩
  case round =>
    obtain ⟨rfl, rfl, rfl, rfl⟩ := hrel
    go_wp2
    go_returns
    exact ⟨rfl, rfl⟩
theorem rnew_bad (n : Int) (h : ¬ (1 ≤ n ∧ n ≤ 4096)) (w : World) : Calls Try.prog 33 #[.int .i64 n] w fun e w' => e = .returned (.tuple #[.pointer none, .int .i64 2]) ∧ w' = w := by
  by_cases h1 : n < 1
  · go_enter Try.func33, Try.ntmps33
    go_wp2
    go_returns
    exact ⟨rfl, rfl⟩
  · have h2 : 4096 < n := by omega
    go_enter Try.func33, Try.ntmps33
    go_wp2
    go_returns
    exact ⟨rfl, rfl⟩
set_option maxRecDepth 100000 in
set_option maxHeartbeats 4000000 in
theorem play_no (n : Int) (h : ¬ (1 ≤ n ∧ n ≤ 4096)) (ds : List DeedS) (a : Option Addr) (c : Nat) (hlen : ds.length ≤ 9223372036854775807) (w : World) (hds : deedsAt w a ds) :
    Calls Try.prog 9 #[.int .i64 n, .slice a ds.length c] w fun e w' => e = .returned (.tuple #[.pointer none, .pointer none, .bool true]) ∧ Below w.heap.size w w' := by
  have HDS := hid hds
  have HN := hid (new_bad n h w)
  have HRN := hid (rnew_bad n h w)
  clear hds h
  go_enter Try.func9, Try.ntmps9
  go_wp2_with fail
  refine HN.out.mono ?_
  rintro e w9 ⟨rfl, h9⟩
  obtain rfl := h9.symm
  go_wp2_with fail
  refine HRN.out.mono ?_
  rintro e w9 ⟨rfl, h9⟩
  obtain rfl := h9.symm
  clear HN HRN
  go_wp2
  go_loopw [11] (fun i wr => ∃ (k : Nat), k ≤ ds.length ∧ k ≤ 40 ∧ i = .int .i64 k ∧ Hid (Below w.heap.size w wr)) (fun i _ => 40 - (intOf i).toNat)
  case atStart => exact ⟨0, by omega, by omega, rfl, Below.refl _ _⟩
  case round =>
    obtain ⟨k, hk1, hk2, rfl, hB⟩ := hrel
    by_cases hlt : k < ds.length ∧ k < 40
    · obtain ⟨hlt, h40⟩ := hlt
      have hk0 : (0 : Int) ≤ (k : Int) := by omega
      have hk3 : (k : Int) < (ds.length : Int) := by omega
      have hk4 : (k : Int) < 40 := by omega
      obtain ⟨b, o, rfl, hc⟩ := HDS.out k hlt
      obtain ⟨c0, c1, c2, c3, x0, x1⟩ := hc k hlt
      have hbl : b < w.heap.size := World.block_lt_of_cell? w _ c0
      have q0 : wr.cell? ⟨b, o + k * 4, none⟩ = some (.bool (ds[k]).f) := (hB.out.cell (p := ⟨b, o + k * 4, none⟩) hbl).trans c0
      have q1 : wr.cell? ⟨b, o + k * 4 + 1, none⟩ = some (.int .i64 (ds[k]).n) := (hB.out.cell (p := ⟨b, o + k * 4 + 1, none⟩) hbl).trans c1
      have q2 : wr.cell? ⟨b, o + k * 4 + 2, none⟩ = some (.int .i64 (ds[k]).l) := (hB.out.cell (p := ⟨b, o + k * 4 + 2, none⟩) hbl).trans c2
      have q3 : wr.cell? ⟨b, o + k * 4 + 3, none⟩ = some (.int .u8 (ds[k]).x) := (hB.out.cell (p := ⟨b, o + k * 4 + 3, none⟩) hbl).trans c3
      clear c0 c1 c2 c3 hc
      generalize hD : ds[k] = D at *
      clear hD
      cases hf : D.f
      · rw [hf] at q0
        have HDf := hid (deed_bytes false D.n D.l D.x wr)
        clear hf
        go_wp2_with fail
        refine HDf.out.mono ?_
        clear HDf
        rintro e w3 ⟨g, rfl, hg, hgb, hB3⟩
        have hgw : w.heap.size ≤ g := Nat.le_trans hB.out.size hg
        have HB3 := hid (hB.out.trans (hB3.mono hB.out.size))
        have HGb := hid hgb
        have q1b : w3.cell? ⟨b, o + k * 4 + 1, none⟩ = some (.int .i64 D.n) := (hB3.cell (p := ⟨b, o + k * 4 + 1, none⟩) (Nat.lt_of_lt_of_le hbl hB.out.size)).trans q1
        clear hgb hB3 q0 q1 q2 q3
        go_wp2_with fail
        refine wp_region_noPanic ?_
        refine wp_region_held_drew (S := fun W => W.cell? ⟨b, o + k * 4 + 1, none⟩ = some (.int .i64 D.n)) (by kernel_rfl) q1b (fun hHeld => ?_)
        refine wpAnyH_take (i := 0) (v := ?_) rfl (by kernel_rfl) (by kernel_rfl) (by kernel_rfl) (fun _ _ _ h => h) (Or.inl ⟨by rfl, ?_⟩) (by assumption) ?_
        rotate_left
        · (intro W hSw; (try dsimp only at hSw); go_simp; try with_reducible rfl)
        try simp only [List.getElem_toArray, List.getElem_cons_zero, Act.put, List.setIfInBounds_toArray, List.set_cons_zero, List.set_cons_succ]
        refine wpAnyH_take (i := 1) (v := ?_) rfl (by kernel_rfl) (by kernel_rfl) (by kernel_rfl) (fun _ _ _ h => h) (Or.inl ⟨by rfl, ?_⟩) (by assumption) ?_
        rotate_left
        · (intro W hSw; (try dsimp only at hSw); go_simp; try with_reducible rfl)
        try simp only [List.getElem_toArray, List.getElem_cons_succ, List.getElem_cons_zero, Act.put, List.setIfInBounds_toArray, List.set_cons_zero, List.set_cons_succ]
        refine wpAnyH_take (i := 2) (v := ?_) rfl (by kernel_rfl) (by kernel_rfl) (by kernel_rfl) (fun _ _ _ h => h) (Or.inl ⟨by rfl, ?_⟩) (by assumption) ?_
        rotate_left
        · (intro W hSw; (try dsimp only at hSw); go_simp; try with_reducible rfl)
        try simp only [List.getElem_toArray, List.getElem_cons_succ, List.getElem_cons_zero, Act.put, List.setIfInBounds_toArray, List.set_cons_zero, List.set_cons_succ]
        refine wpAnyH_take (i := 3) (v := ?_) rfl (by kernel_rfl) (by kernel_rfl) (by kernel_rfl) (fun _ _ _ h => h) (Or.inl ⟨by rfl, ?_⟩) (by assumption) ?_
        rotate_left
        · (intro W hSw; (try dsimp only at hSw); go_simp; try with_reducible rfl)
        try simp only [List.getElem_toArray, List.getElem_cons_succ, List.getElem_cons_zero, Act.put, List.setIfInBounds_toArray, List.set_cons_zero, List.set_cons_succ]
        refine wpAnyH_take (i := 4) (v := ?_) rfl (by kernel_rfl) (by kernel_rfl) (by kernel_rfl) (fun _ _ _ h => h) (Or.inl ⟨by rfl, ?_⟩) (by assumption) ?_
        rotate_left
        · (intro W hSw; (try dsimp only at hSw); go_simp; try with_reducible rfl)
        try simp only [List.getElem_toArray, List.getElem_cons_succ, List.getElem_cons_zero, Act.put, List.setIfInBounds_toArray, List.set_cons_zero, List.set_cons_succ]
        refine wpAnyH_take (i := 5) (v := ?_) rfl (by kernel_rfl) (by kernel_rfl) (by kernel_rfl) (fun _ _ _ h => h) (Or.inl ⟨by rfl, ?_⟩) (by assumption) ?_
        rotate_left
        · (intro W hSw; (try dsimp only at hSw); go_simp; try with_reducible rfl)
        try simp only [List.getElem_toArray, List.getElem_cons_succ, List.getElem_cons_zero, Act.put, List.setIfInBounds_toArray, List.set_cons_zero, List.set_cons_succ]
        refine wpAnyH_take (i := 6) (v := ?_) rfl (by kernel_rfl) (by kernel_rfl) (by kernel_rfl) (fun _ _ _ h => h) (Or.inl ⟨by rfl, ?_⟩) (by assumption) ?_
        rotate_left
        · (intro W hSw; (try dsimp only at hSw); go_simp; try with_reducible rfl)
        try simp only [List.getElem_toArray, List.getElem_cons_succ, List.getElem_cons_zero, Act.put, List.setIfInBounds_toArray, List.set_cons_zero, List.set_cons_succ]
        refine wpAnyH_take (i := 8) (v := ?_) rfl (by kernel_rfl) (by kernel_rfl) (by kernel_rfl) (fun _ _ _ h => h) (Or.inl ⟨by rfl, ?_⟩) (by assumption) ?_
        rotate_left
        · (intro W hSw; (try dsimp only at hSw); go_simp; try with_reducible rfl)
        try simp only [List.getElem_toArray, List.getElem_cons_succ, List.getElem_cons_zero, Act.put, List.setIfInBounds_toArray, List.set_cons_zero, List.set_cons_succ]
        refine wpAnyH_take (i := 9) (v := ?_) rfl (by kernel_rfl) (by kernel_rfl) (by kernel_rfl) (fun _ _ _ h => h) (Or.inl ⟨by rfl, ?_⟩) (by assumption) ?_
        rotate_left
        · (intro W hSw; (try dsimp only at hSw); go_simp; try with_reducible rfl)
        try simp only [List.getElem_toArray, List.getElem_cons_succ, List.getElem_cons_zero, Act.put, List.setIfInBounds_toArray, List.set_cons_zero, List.set_cons_succ]
        refine wpAnyH_take (i := 10) (v := ?_) rfl (by kernel_rfl) (by kernel_rfl) (by kernel_rfl) (fun _ _ _ h => h) (Or.inl ⟨by rfl, ?_⟩) (by assumption) ?_
        rotate_left
        · (intro W hSw; (try dsimp only at hSw); go_simp; try with_reducible rfl)
        try simp only [List.getElem_toArray, List.getElem_cons_succ, List.getElem_cons_zero, Act.put, List.setIfInBounds_toArray, List.set_cons_zero, List.set_cons_succ]
        refine wpAnyH_take (i := 11) (v := ?_) rfl (by kernel_rfl) (by kernel_rfl) (by kernel_rfl) (fun _ _ _ h => h) (Or.inl ⟨by rfl, ?_⟩) (by assumption) ?_
        rotate_left
        · (intro W hSw; (try dsimp only at hSw); go_simp; try with_reducible rfl)
        try simp only [List.getElem_toArray, List.getElem_cons_succ, List.getElem_cons_zero, Act.put, List.setIfInBounds_toArray, List.set_cons_zero, List.set_cons_succ]
        refine wpAnyH_take (i := 12) (v := ?_) rfl (by kernel_rfl) (by kernel_rfl) (by kernel_rfl) (fun _ _ _ h => h) (Or.inl ⟨by rfl, ?_⟩) (by assumption) ?_
        rotate_left
        · (intro W hSw; (try dsimp only at hSw); go_simp; try with_reducible rfl)
        try simp only [List.getElem_toArray, List.getElem_cons_succ, List.getElem_cons_zero, Act.put, List.setIfInBounds_toArray, List.set_cons_zero, List.set_cons_succ]
        refine wpAnyH_take (i := 13) (v := ?_) rfl (by kernel_rfl) (by kernel_rfl) (by kernel_rfl) (fun _ _ _ h => h) (Or.inl ⟨by rfl, ?_⟩) (by assumption) ?_
        rotate_left
        · (intro W hSw; (try dsimp only at hSw); go_simp; try with_reducible rfl)
        try simp only [List.getElem_toArray, List.getElem_cons_succ, List.getElem_cons_zero, Act.put, List.setIfInBounds_toArray, List.set_cons_zero, List.set_cons_succ]
        refine wpAnyH_take (i := 14) (v := ?_) rfl (by kernel_rfl) (by kernel_rfl) (by kernel_rfl) (fun _ _ _ h => h) (Or.inl ⟨by rfl, ?_⟩) (by assumption) ?_
        rotate_left
        · (intro W hSw; (try dsimp only at hSw); go_simp; try with_reducible rfl)
        try simp only [List.getElem_toArray, List.getElem_cons_succ, List.getElem_cons_zero, Act.put, List.setIfInBounds_toArray, List.set_cons_zero, List.set_cons_succ]
        refine wpAnyH_ready (rs := [7]) (by kernel_rfl) (by simp) (AllReadyH.cons rfl (fun K hK => ?_) AllReadyH.nil)
        rw [if_pos (by rfl)]
        go_simp
        refine (write_nil _ _ _).mono ?_
        rintro e w4 ⟨rfl, h9⟩
        subst h9
        go_wp2_with fail
        refine hK.out _ _ q1b (fun hHeld => ?_)
        clear hK K
        try simp only [List.getElem_toArray, List.getElem_cons_succ, List.getElem_cons_zero, Act.put, List.setIfInBounds_toArray, List.set_cons_zero, List.set_cons_succ]
        refine wpAnyH_ready (rs := [15]) (by kernel_rfl) (by simp) (AllReadyH.cons rfl (fun K hK => ?_) AllReadyH.nil)
        rw [if_pos (by rfl)]
        go_simp
        refine (rwrite_nil _ _ _).mono ?_
        rintro e w5 ⟨rfl, h9⟩
        subst h9
        go_wp2_with fail
        refine hK.out _ _ q1b (fun hHeld => ?_)
        clear hK K
        try simp only [List.getElem_toArray, List.getElem_cons_succ, List.getElem_cons_zero, Act.put, List.setIfInBounds_toArray, List.set_cons_zero, List.set_cons_succ]
        refine wpAnyH_take (i := 16) (v := ?_) rfl (by kernel_rfl) (by kernel_rfl) (by kernel_rfl) (fun _ _ _ h => h) (Or.inl ⟨by rfl, ?_⟩) (by assumption) ?_
        rotate_left
        · (intro W hSw; (try dsimp only at hSw); go_simp; try with_reducible rfl)
        try simp only [List.getElem_toArray, List.getElem_cons_succ, List.getElem_cons_zero, Act.put, List.setIfInBounds_toArray, List.set_cons_zero, List.set_cons_succ]
        refine wpAnyH_done (by kernel_rfl) ?_ _
        refine NoPanic.normal ?_
        clear hHeld q1b
        go_wp2
        have hml : deedLen D.l ≤ 600 := by unfold deedLen; split <;> omega
        have hsz : (List.replicate (deedLen D.l) (Value.int .u8 D.x)).toArray.size = deedLen D.l := by simp
        have HSz := hid hsz
        clear hsz
        generalize hC0 : (List.replicate (deedLen D.l) (Value.int .u8 D.x)).toArray = C0 at *
        clear hC0
        generalize hmm : deedLen D.l = m at *
        clear hmm
        go_loopw [13] (fun i wq => ∃ (j : Nat) (C : Array Value), j ≤ m ∧ i = .int .i64 j ∧ Hid (C.size = m) ∧ Hid (wq.heap[g]? = some (.cells C 5 (0, 0))) ∧ Hid (Below w.heap.size w wq)) (fun i _ => m - (intOf i).toNat)
        case atStart => exact ⟨0, C0, by omega, rfl, HSz, HGb, HB3.out.drew⟩
        case round =>
          obtain ⟨j, C, hj, rfl, hCs, hCb, hKq⟩ := hrel
          by_cases hjl : j < m
          · have hj0 : (0 : Int) ≤ (j : Int) := by omega
            have hj1 : (j : Int) < (m : Int) := by omega
            have ce : wr.cell? ⟨g, j, none⟩ = some (C[j]'(by rw [hCs.out]; exact hjl)) := by rw [cell_of_block hCb.out]; exact Array.getElem?_eq_getElem _
            have fe : wr.frozen? ⟨g, j, none⟩ = false := frozen_of_block hCb.out _
            go_wp2
            refine ⟨⟨j + 1, C.setIfInBounds j (.int .u8 99), by omega, by go_num, by simpa [Hid] using hCs.out, block_setCell hCb.out j _, hKq.out.setCell hgw _⟩, by simp [intOf]; omega⟩
          · have hj1 : ¬ ((j : Int) < (m : Int)) := by omega
            clear hCb hCs HSz HGb
            go_wp2
            exact ⟨⟨k + 1, by omega, by omega, by go_num, hKq⟩, by simp [intOf]; omega⟩
      · rw [hf] at q0
        clear q1 q2 q3
        go_wp2_with fail
        refine (flush_nil _).mono ?_
        rintro e w9 ⟨rfl, h9⟩
        obtain rfl := h9.symm
        go_wp2_with fail
        refine (rflush_nil _).mono ?_
        rintro e w9 ⟨rfl, h9⟩
        obtain rfl := h9.symm
        go_wp2
        exact ⟨⟨k + 1, by omega, by omega, by go_num, hB⟩, by simp [intOf]; omega⟩
    · have hcase : ¬ ((k : Int) < (ds.length : Int)) ∨ ((k : Int) < (ds.length : Int) ∧ ¬ ((k : Int) < 40)) := by omega
      rcases hcase with h | ⟨h, h'⟩
      all_goals
        go_wp2
        go_returns
        exact ⟨rfl, hB.out⟩
end Go.Proofs.Ytpkjpkjcdpgaaaa
