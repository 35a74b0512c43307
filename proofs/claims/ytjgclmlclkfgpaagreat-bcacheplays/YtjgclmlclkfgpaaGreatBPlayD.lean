/- law04's do: a deed on both. -/
import Derived.Test.YtjgclmlclkfgpaaGreatBPlayT
namespace Go.Proofs.YtjgclmlclkfgpaaGreat
open Go.RowKit Go.Maps
theorem JAt.box {w0 w : World} {c q size N o u : Nat} (h : JAt w0 w c q size N o u (fun _ => False)) (ob : Obj) : JAt w0 (w.alloc ob) c q size N o u (fun i => i = w.heap.size) := by
  have hb : Below w.heap.size w (w.alloc ob) := (Below.refl _ w).alloc (Nat.le_refl _) ob
  obtain ⟨L, C, m, r, fv, lv, vs, Rd, B, R, h1, h2, h3, -⟩ := h
  refine ⟨L, C, m, r, fv, lv, vs, Rd, B, R, h1.below hb, h2, h3, fun i hi => ?_⟩
  have hi' : i = w.heap.size := hi
  subst hi'
  refine ⟨fun hf => Nat.lt_irrefl _ (h1.at_.footLt _ hf), fun e => ?_, fun e => ?_, by simp⟩
  · obtain ⟨pa9, pc9, ca9, cc9, hh9, -⟩ := h1.r4.heap
    have := lt_of_heap hh9
    omega
  · have := lt_of_heap h1.rl.disk.heap
    omega
theorem JAt.drop {w0 w : World} {c q size N o u : Nat} {P : Nat → Prop} (h : JAt w0 w c q size N o u P) : JAt w0 w c q size N o u (fun _ => False) := by
  obtain ⟨L, C, m, r, fv, lv, vs, Rd, B, R, h1, h2, h3, -⟩ := h
  exact ⟨L, C, m, r, fv, lv, vs, Rd, B, R, h1, h2, h3, fun _ hi => hi.elim⟩
section
variable {w0 w w' : World} {c q size N o u : Nat}
set_option maxRecDepth 100000 in
set_option maxHeartbeats 2000000 in
theorem b4do_any (h : JAt w0 w c q size N o u (fun _ => False)) (k n : Int) (x : UInt8) (s : Bool) (hn0 : -9223372036854775808 ≤ n) (hn1 : n < 9223372036854775808) (hu : u ≤ 1000) (ho : o ≤ 100000) :
    Calls Tryz.prog 9 #[.pointer (some ⟨c, 0, none⟩), .pointer (some ⟨q, 0, none⟩), .agg #[.int .i64 k, .int .i64 n, .int .u8 (x.toNat : Int), .bool s]] w fun e w' => e = .returned (.bool true) ∧ JAt w0 w' c q size N (o + (2 * size + 6)) (u + 1) (fun _ => False) := by
  have HJ := hid (h.box (.cells #[.int .i64 k, .int .i64 n, .int .u8 (x.toNat : Int), .bool s] 30))
  have hbox : (w.alloc (.cells #[.int .i64 k, .int .i64 n, .int .u8 (x.toNat : Int), .bool s] 30)).heap[w.heap.size]? = some (.cells #[.int .i64 k, .int .i64 n, .int .u8 (x.toNat : Int), .bool s] 30) := block_new w _
  have HBx := hid hbox
  clear h hbox
  by_cases hk0 : k = 0
  · subst hk0
    have HRd := hid (HJ.out.read n hn0 hn1 hu ho)
    go_enter Tryz.func9, Tryz.ntmps9
    go_wp2_with fail
    generalize w.alloc (.cells #[.int .i64 0, .int .i64 n, .int .u8 (x.toNat : Int), .bool s] 30) = wa at *
    refine HRd.out.mono ?_
    clear HRd
    rintro e w1 ⟨pa, pl, pc, er, rfl, hb1, hbx1, hrd2⟩
    have hc1 := hbx1 w.heap.size rfl _ HBx.out
    have d1 : w1.cell? ⟨w.heap.size, 1, none⟩ = some (.int .i64 n) := cell_of_block hc1 1
    have HRd2 := hid hrd2
    clear hb1 hbx1 hrd2 hc1
    go_wp2_with fail
    refine HRd2.out.mono ?_
    clear HRd2
    rintro e w2 ⟨qa, qc, rfl, hJ2, hsm⟩
    have HJ2 := hid (hJ2.more (show o ≤ o + (2 * size + 6) by omega) (Nat.le_refl (u + 1)))
    have HSm := hid hsm
    have hee : (er == er) = true := beq_self_eq_true _
    clear hJ2 hsm d1
    go_wp2_with fail
    refine HSm.out.mono ?_
    clear HSm
    rintro e w3 ⟨rfl, hb3⟩
    have HJ3 := hid (HJ2.out.below hb3).drop
    clear hb3 HJ2
    go_wp2
    go_ret
    exact ⟨rfl, HJ3.out⟩
  · have hk0b : (k == 0) = false := beq_eq_false_iff_ne.2 hk0
    by_cases hk1 : k = 1
    · subst hk1
      have HBy := hid (fun W => b4bytes_any s (1 : Int) n x W)
      have HCs : Hid (∀ W : World, W.heap[w.heap.size]? = some (.cells #[.int .i64 1, .int .i64 n, .int .u8 (x.toNat : Int), .bool s] 30) → W.cell? ⟨w.heap.size, 0, none⟩ = some (.int .i64 1) ∧ W.cell? ⟨w.heap.size, 1, none⟩ = some (.int .i64 n) ∧ W.cell? ⟨w.heap.size, 2, none⟩ = some (.int .u8 (x.toNat : Int)) ∧ W.cell? ⟨w.heap.size, 3, none⟩ = some (.bool s)) := fun W hW => ⟨cell_of_block hW 0, cell_of_block hW 1, cell_of_block hW 2, cell_of_block hW 3⟩
      have hc0 := HCs.out _ HBx.out
      go_enter Tryz.func9, Tryz.ntmps9
      go_wp2
      generalize w.alloc (.cells #[.int .i64 1, .int .i64 n, .int .u8 (x.toNat : Int), .bool s] 30) = wa at *
      generalize w.heap.size = bx at *
      refine wp_region_noPanic ?_
      refine wp_region_held_drew (S := fun W => W.cell? ⟨bx, 0, none⟩ = some (.int .i64 1) ∧ W.cell? ⟨bx, 1, none⟩ = some (.int .i64 n) ∧ W.cell? ⟨bx, 2, none⟩ = some (.int .u8 (x.toNat : Int)) ∧ W.cell? ⟨bx, 3, none⟩ = some (.bool s)) (by kernel_rfl) hc0 (fun hHeld => ?_)
      refine wpAnyH_take (i := 0) (v := ?_) rfl (by kernel_rfl) (by kernel_rfl) (by kernel_rfl) (fun _ _ _ h => h) (Or.inl ⟨by rfl, ?_⟩) (by assumption) ?_
      rotate_left
      · (intro W hSw; (try dsimp only at hSw); obtain ⟨s0, s1, s2, s3⟩ := hSw; go_simp; try with_reducible rfl)
      try simp only [List.getElem_toArray, List.getElem_cons_zero, Act.put, List.setIfInBounds_toArray, List.set_cons_zero, List.set_cons_succ]
      refine wpAnyH_take (i := 1) (v := ?_) rfl (by kernel_rfl) (by kernel_rfl) (by kernel_rfl) (fun _ _ _ h => h) (Or.inl ⟨by rfl, ?_⟩) (by assumption) ?_
      rotate_left
      · (intro W hSw; (try dsimp only at hSw); obtain ⟨s0, s1, s2, s3⟩ := hSw; go_simp; try with_reducible rfl)
      try simp only [List.getElem_toArray, List.getElem_cons_succ, List.getElem_cons_zero, Act.put, List.setIfInBounds_toArray, List.set_cons_zero, List.set_cons_succ]
      refine wpAnyH_take (i := 2) (v := ?_) rfl (by kernel_rfl) (by kernel_rfl) (by kernel_rfl) (fun _ _ _ h => h) (Or.inl ⟨by rfl, ?_⟩) (by assumption) ?_
      rotate_left
      · (intro W hSw; (try dsimp only at hSw); obtain ⟨s0, s1, s2, s3⟩ := hSw; go_simp; try with_reducible rfl)
      try simp only [List.getElem_toArray, List.getElem_cons_succ, List.getElem_cons_zero, Act.put, List.setIfInBounds_toArray, List.set_cons_zero, List.set_cons_succ]
      refine wpAnyH_take (i := 3) (v := ?_) rfl (by kernel_rfl) (by kernel_rfl) (by kernel_rfl) (fun _ _ _ h => h) (Or.inl ⟨by rfl, ?_⟩) (by assumption) ?_
      rotate_left
      · (intro W hSw; (try dsimp only at hSw); obtain ⟨s0, s1, s2, s3⟩ := hSw; go_simp; try with_reducible rfl)
      try simp only [List.getElem_toArray, List.getElem_cons_succ, List.getElem_cons_zero, Act.put, List.setIfInBounds_toArray, List.set_cons_zero, List.set_cons_succ]
      refine wpAnyH_take (i := 6) (v := ?_) rfl (by kernel_rfl) (by kernel_rfl) (by kernel_rfl) (fun _ _ _ h => h) (Or.inl ⟨by rfl, ?_⟩) (by assumption) ?_
      rotate_left
      · (intro W hSw; (try dsimp only at hSw); obtain ⟨s0, s1, s2, s3⟩ := hSw; go_simp; try with_reducible rfl)
      try simp only [List.getElem_toArray, List.getElem_cons_succ, List.getElem_cons_zero, Act.put, List.setIfInBounds_toArray, List.set_cons_zero, List.set_cons_succ]
      refine wpAnyH_take (i := 7) (v := ?_) rfl (by kernel_rfl) (by kernel_rfl) (by kernel_rfl) (fun _ _ _ h => h) (Or.inl ⟨by rfl, ?_⟩) (by assumption) ?_
      rotate_left
      · (intro W hSw; (try dsimp only at hSw); obtain ⟨s0, s1, s2, s3⟩ := hSw; go_simp; try with_reducible rfl)
      try simp only [List.getElem_toArray, List.getElem_cons_succ, List.getElem_cons_zero, Act.put, List.setIfInBounds_toArray, List.set_cons_zero, List.set_cons_succ]
      refine wpAnyH_take (i := 8) (v := ?_) rfl (by kernel_rfl) (by kernel_rfl) (by kernel_rfl) (fun _ _ _ h => h) (Or.inl ⟨by rfl, ?_⟩) (by assumption) ?_
      rotate_left
      · (intro W hSw; (try dsimp only at hSw); obtain ⟨s0, s1, s2, s3⟩ := hSw; go_simp; try with_reducible rfl)
      try simp only [List.getElem_toArray, List.getElem_cons_succ, List.getElem_cons_zero, Act.put, List.setIfInBounds_toArray, List.set_cons_zero, List.set_cons_succ]
      refine wpAnyH_take (i := 9) (v := ?_) rfl (by kernel_rfl) (by kernel_rfl) (by kernel_rfl) (fun _ _ _ h => h) (Or.inl ⟨by rfl, ?_⟩) (by assumption) ?_
      rotate_left
      · (intro W hSw; (try dsimp only at hSw); obtain ⟨s0, s1, s2, s3⟩ := hSw; go_simp; try with_reducible rfl)
      try simp only [List.getElem_toArray, List.getElem_cons_succ, List.getElem_cons_zero, Act.put, List.setIfInBounds_toArray, List.set_cons_zero, List.set_cons_succ]
      refine wpAnyH_ready (rs := [4]) (by kernel_rfl) (by simp) (AllReadyH.cons rfl (fun K hK => ?_) AllReadyH.nil)
      rw [if_pos (by rfl)]
      go_simp
      refine (HBy.out wa.drew).mono ?_
      rintro e w4 ⟨hb4, rfl, hby4⟩
      have hbr : Below wa.heap.size wa w4 := (Below.refl _ wa).drew.trans (hb4.mono (Nat.le_refl _))
      have HJ4 := hid (HJ.out.below hbr)
      have HX4 := hid (below_block hbr HBx.out (lt_of_heap HBx.out))
      obtain ⟨b4, hb4e⟩ : ∃ b4, b4 = wa.drew.heap.size + 1 := ⟨_, rfl⟩
      rw [← hb4e] at hby4 ⊢
      have HW := hid (HJ4.out.write n s (dbytes s x) ⟨b4, 0, none⟩ (dlen s) (length_dbytes _ _) hby4.at)
      have hz := HCs.out w4 HX4.out
      clear hb4 hby4 hbr hb4e HJ HJ4 hc0
      go_wp2_with fail
      refine hK.out _ _ hz (fun hHeld => ?_)
      clear hK K
      try simp only [List.getElem_toArray, List.getElem_cons_succ, List.getElem_cons_zero, Act.put, List.setIfInBounds_toArray, List.set_cons_zero, List.set_cons_succ]
      refine wpAnyH_ready (rs := [5]) (by kernel_rfl) (by simp) (AllReadyH.cons rfl (fun K hK => ?_) AllReadyH.nil)
      rw [if_pos (by rfl)]
      go_simp
      refine HW.out.mono ?_
      clear HW
      rintro e w5 ⟨er, rfl, hb5, hbx5, hwr2⟩
      have HX5 := hid (hbx5 bx rfl _ HX4.out)
      have HW2 := hid hwr2
      have hz5 := HCs.out w5 HX5.out
      clear hb5 hbx5 hwr2 hz HX4
      go_wp2_with fail
      refine hK.out _ _ hz5 (fun hHeld => ?_)
      clear hK K
      try simp only [List.getElem_toArray, List.getElem_cons_succ, List.getElem_cons_zero, Act.put, List.setIfInBounds_toArray, List.set_cons_zero, List.set_cons_succ]
      refine wpAnyH_ready (rs := [10]) (by kernel_rfl) (by simp) (AllReadyH.cons rfl (fun K hK => ?_) AllReadyH.nil)
      rw [if_pos (by rfl)]
      go_simp
      refine (HBy.out w5).mono ?_
      clear HBy
      rintro e w9 ⟨hb9, rfl, hby9⟩
      have HW3 := hid (HW2.out w9 hb9 (w5.heap.size + 1) (dlen s) hby9.at)
      have HX9 := hid (below_block hb9 HX5.out (lt_of_heap HX5.out))
      have hz9 := HCs.out w9 HX9.out
      obtain ⟨b9, hb9e⟩ : ∃ b9, b9 = w5.heap.size + 1 := ⟨_, rfl⟩
      rw [← hb9e] at HW3 ⊢
      clear hb9 hby9 hb9e HW2 hz5 HX5
      go_wp2_with fail
      refine hK.out _ _ hz9 (fun hHeld => ?_)
      clear hK K
      try simp only [List.getElem_toArray, List.getElem_cons_succ, List.getElem_cons_zero, Act.put, List.setIfInBounds_toArray, List.set_cons_zero, List.set_cons_succ]
      refine wpAnyH_ready (rs := [11]) (by kernel_rfl) (by simp) (AllReadyH.cons rfl (fun K hK => ?_) AllReadyH.nil)
      rw [if_pos (by rfl)]
      go_simp
      refine HW3.out.mono ?_
      clear HW3
      rintro e w6 ⟨rfl, hJ6, hbx6⟩
      have hz6 := HCs.out w6 (hbx6 bx rfl _ HX9.out)
      have HJ6 := hid (hJ6.more (show o ≤ o + (2 * size + 6) by omega) (Nat.le_succ u)).drop
      have hee : (er == er) = true := beq_self_eq_true _
      clear hJ6 hbx6 hz9 HX9
      go_wp2_with fail
      refine hK.out _ _ hz6 (fun hHeld => ?_)
      clear hK K
      try simp only [List.getElem_toArray, List.getElem_cons_succ, List.getElem_cons_zero, Act.put, List.setIfInBounds_toArray, List.set_cons_zero, List.set_cons_succ]
      refine wpAnyH_take (i := 12) (v := ?_) rfl (by kernel_rfl) (by kernel_rfl) (by kernel_rfl) (fun _ _ _ h => h) (Or.inl ⟨by rfl, ?_⟩) (by assumption) ?_
      rotate_left
      · (intro W hSw; (try dsimp only at hSw); obtain ⟨s0, s1, s2, s3⟩ := hSw; go_simp; try with_reducible rfl)
      try simp only [List.getElem_toArray, List.getElem_cons_succ, List.getElem_cons_zero, Act.put, List.setIfInBounds_toArray, List.set_cons_zero, List.set_cons_succ]
      refine wpAnyH_take (i := 13) (v := ?_) rfl (by kernel_rfl) (by kernel_rfl) (by kernel_rfl) (fun _ _ _ h => h) (Or.inl ⟨by rfl, ?_⟩) (by assumption) ?_
      rotate_left
      · (intro W hSw; (try dsimp only at hSw); obtain ⟨s0, s1, s2, s3⟩ := hSw; go_simp; try with_reducible rfl)
      try simp only [List.getElem_toArray, List.getElem_cons_succ, List.getElem_cons_zero, Act.put, List.setIfInBounds_toArray, List.set_cons_zero, List.set_cons_succ]
      refine wpAnyH_done (by kernel_rfl) ?_ _
      refine NoPanic.normal ?_
      clear hHeld hz6
      go_wp2
      go_ret
      exact ⟨rfl, HJ6.out⟩
    · have hk1b : (k == 1) = false := beq_eq_false_iff_ne.2 hk1
      by_cases hk2 : k = 2
      · subst hk2
        have HCm := hid (HJ.out.commit ho)
        go_enter Tryz.func9, Tryz.ntmps9
        go_wp2_with fail
        generalize w.alloc (.cells #[.int .i64 2, .int .i64 n, .int .u8 (x.toNat : Int), .bool s] 30) = wa at *
        refine HCm.out.mono ?_
        clear HCm
        rintro e w1 ⟨rfl, hcm2⟩
        have HCm2 := hid hcm2
        clear hcm2
        go_wp2_with fail
        refine HCm2.out.mono ?_
        clear HCm2
        rintro e w2 ⟨rfl, hJ2⟩
        have HJ2 := hid (hJ2.more (Nat.le_refl _) (Nat.le_succ u)).drop
        clear hJ2
        go_wp2
        go_ret
        exact ⟨rfl, HJ2.out⟩
      · have hk2b : (k == 2) = false := beq_eq_false_iff_ne.2 hk2
        have HAb := hid HJ.out.abort
        go_enter Tryz.func9, Tryz.ntmps9
        go_wp2_with fail
        generalize w.alloc (.cells #[.int .i64 k, .int .i64 n, .int .u8 (x.toNat : Int), .bool s] 30) = wa at *
        refine HAb.out.mono ?_
        clear HAb
        rintro e w1 ⟨kk, hkk, rfl, hab2⟩
        have HAb2 := hid hab2
        clear hab2
        go_wp2_with fail
        refine HAb2.out.mono ?_
        clear HAb2
        rintro e w2 ⟨rfl, hJ2⟩
        have HJ2 := hid (hJ2.more (show o ≤ o + (2 * size + 6) by omega) (Nat.le_succ u)).drop
        have hee : ((kk : Int) == (kk : Int)) = true := beq_self_eq_true _
        clear hJ2
        go_wp2
        go_ret
        exact ⟨rfl, HJ2.out⟩
end
end Go.Proofs.YtjgclmlclkfgpaaGreat
