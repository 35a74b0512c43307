/- law04's do of nil caches; what the walk of BcachePlays asks of both. -/
import Derived.Test.YtjgclmlclkfgpaaGreatBPlayO
import Derived.Test.YtjgclmlclkfgpaaGreatBaseE
import Derived.Test.YtjgclmlclkfgpaaGreatBDeeds
namespace Go.Proofs.YtjgclmlclkfgpaaGreat
open Go.RowKit Go.Maps
set_option maxRecDepth 100000 in
set_option maxHeartbeats 2000000 in
theorem b4do_nil (k n : Int) (x : UInt8) (s : Bool) (w : World) :
    Calls Tryz.prog 9 #[.pointer none, .pointer none, .agg #[.int .i64 k, .int .i64 n, .int .u8 (x.toNat : Int), .bool s]] w fun e w' => e = .returned (.bool true) ∧ Below w.heap.size w w' := by
  have hbox : (w.alloc (.cells #[.int .i64 k, .int .i64 n, .int .u8 (x.toNat : Int), .bool s] 30)).heap[w.heap.size]? = some (.cells #[.int .i64 k, .int .i64 n, .int .u8 (x.toNat : Int), .bool s] 30) := block_new w _
  have HBx := hid hbox
  have HB := hid ((Below.refl w.heap.size w).alloc (Nat.le_refl _) (.cells #[.int .i64 k, .int .i64 n, .int .u8 (x.toNat : Int), .bool s] 30))
  clear hbox
  by_cases hk0 : k = 0
  · subst hk0
    have d1 : (w.alloc (.cells #[.int .i64 0, .int .i64 n, .int .u8 (x.toNat : Int), .bool s] 30)).cell? ⟨w.heap.size, 1, none⟩ = some (.int .i64 n) := cell_of_block HBx.out 1
    go_enter Tryz.func9, Tryz.ntmps9
    go_wp2_with fail
    generalize w.alloc (.cells #[.int .i64 0, .int .i64 n, .int .u8 (x.toNat : Int), .bool s] 30) = wa at *
    refine (bread_nil n _).mono ?_
    rintro e w1 ⟨rfl, h1⟩
    obtain rfl := h1.symm
    clear h1
    go_wp2_with fail
    refine (r4read_nil n _).mono ?_
    rintro e w1 ⟨rfl, h1⟩
    obtain rfl := h1.symm
    clear h1
    have hsm := same_bytes [] [] none none 0 0 wa (fun j hj => by simp at hj) (fun j hj => by simp at hj) (by simp)
    rw [decide_eq_true rfl] at hsm
    have HSm := hid hsm
    clear hsm d1
    go_wp2_with fail
    refine HSm.out.mono ?_
    clear HSm
    rintro e w3 ⟨rfl, hb3⟩
    have HB3 := hid (HB.out.trans (hb3.mono HB.out.size))
    clear hb3
    go_wp2
    go_ret
    exact ⟨rfl, HB3.out⟩
  · have hk0b : (k == 0) = false := beq_eq_false_iff_ne.2 hk0
    by_cases hk1 : k = 1
    · subst hk1
      have HBy := hid (fun W => b4bytes_any s (1 : Int) n x W)
      have HCs : Hid (∀ W : World, W.heap[w.heap.size]? = some (.cells #[.int .i64 1, .int .i64 n, .int .u8 (x.toNat : Int), .bool s] 30) → W.cell? ⟨w.heap.size, 0, none⟩ = some (.int .i64 1) ∧ W.cell? ⟨w.heap.size, 1, none⟩ = some (.int .i64 n) ∧ W.cell? ⟨w.heap.size, 2, none⟩ = some (.int .u8 (x.toNat : Int)) ∧ W.cell? ⟨w.heap.size, 3, none⟩ = some (.bool s)) := fun W hW => ⟨cell_of_block hW 0, cell_of_block hW 1, cell_of_block hW 2, cell_of_block hW 3⟩
      have hc0 := HCs.out _ HBx.out
      have HBf : Hid (∀ W, Below (w.alloc (.cells #[.int .i64 1, .int .i64 n, .int .u8 (x.toNat : Int), .bool s] 30)).heap.size (w.alloc (.cells #[.int .i64 1, .int .i64 n, .int .u8 (x.toNat : Int), .bool s] 30)) W → Below w.heap.size w W) := fun W hW => HB.out.trans (hW.mono HB.out.size)
      clear HB
      obtain ⟨n0, hn0⟩ : ∃ n0, w.heap.size = n0 := ⟨_, rfl⟩
      have HBg : Hid (∀ W, Below (w.alloc (.cells #[.int .i64 1, .int .i64 n, .int .u8 (x.toNat : Int), .bool s] 30)).heap.size (w.alloc (.cells #[.int .i64 1, .int .i64 n, .int .u8 (x.toNat : Int), .bool s] 30)) W → Below n0 w W) := by rw [← hn0]; exact HBf
      rw [hn0]
      clear hn0 HBf
      go_enter Tryz.func9, Tryz.ntmps9
      go_wp2
      generalize w.alloc (.cells #[.int .i64 1, .int .i64 n, .int .u8 (x.toNat : Int), .bool s] 30) = wa at *
      generalize w.heap.size = bx at *
      refine wp_region_noPanic ?_
      refine wp_region_held_drew (S := fun W => W.cell? ⟨bx, 0, none⟩ = some (.int .i64 1) ∧ W.cell? ⟨bx, 1, none⟩ = some (.int .i64 n) ∧ W.cell? ⟨bx, 2, none⟩ = some (.int .u8 (x.toNat : Int)) ∧ W.cell? ⟨bx, 3, none⟩ = some (.bool s)) (by kernel_rfl) hc0 (fun hHeld => ?_)
      refine wpAnyH_take (i := 0) (v := ?_) rfl (by kernel_rfl) (by kernel_rfl) (by kernel_rfl) (fun _ _ _ h => h) (Or.inl ⟨by rfl, ?_⟩) (by assumption) ?_
      rotate_left
      · (intro W hSw; (try dsimp only at hSw); obtain ⟨s0, s1, s2, s3⟩ := hSw; go_simp; try with_reducible rfl)
      try simp only [List.getElem_toArray, List.getElem_cons_zero, Act.put, List.setIfInBounds_toArray, List.set_cons_zero, List.set_cons_succ]
      refine wpAnyH_take (i := 1) (v := ?_) rfl (by kernel_rfl) (by kernel_rfl) (by kernel_rfl) (fun _ _ _ h => h) (Or.inl ⟨by rfl, ?_⟩) (by assumption) ?_
      rotate_left
      · (intro W hSw; (try dsimp only at hSw); obtain ⟨s0, s1, s2, s3⟩ := hSw; go_simp; try with_reducible rfl)
      try simp only [List.getElem_toArray, List.getElem_cons_succ, List.getElem_cons_zero, Act.put, List.setIfInBounds_toArray, List.set_cons_zero, List.set_cons_succ]
      refine wpAnyH_take (i := 2) (v := ?_) rfl (by kernel_rfl) (by kernel_rfl) (by kernel_rfl) (fun _ _ _ h => h) (Or.inl ⟨by rfl, ?_⟩) (by assumption) ?_
      rotate_left
      · (intro W hSw; (try dsimp only at hSw); obtain ⟨s0, s1, s2, s3⟩ := hSw; go_simp; try with_reducible rfl)
      try simp only [List.getElem_toArray, List.getElem_cons_succ, List.getElem_cons_zero, Act.put, List.setIfInBounds_toArray, List.set_cons_zero, List.set_cons_succ]
      refine wpAnyH_take (i := 3) (v := ?_) rfl (by kernel_rfl) (by kernel_rfl) (by kernel_rfl) (fun _ _ _ h => h) (Or.inl ⟨by rfl, ?_⟩) (by assumption) ?_
      rotate_left
      · (intro W hSw; (try dsimp only at hSw); obtain ⟨s0, s1, s2, s3⟩ := hSw; go_simp; try with_reducible rfl)
      try simp only [List.getElem_toArray, List.getElem_cons_succ, List.getElem_cons_zero, Act.put, List.setIfInBounds_toArray, List.set_cons_zero, List.set_cons_succ]
      refine wpAnyH_take (i := 6) (v := ?_) rfl (by kernel_rfl) (by kernel_rfl) (by kernel_rfl) (fun _ _ _ h => h) (Or.inl ⟨by rfl, ?_⟩) (by assumption) ?_
      rotate_left
      · (intro W hSw; (try dsimp only at hSw); obtain ⟨s0, s1, s2, s3⟩ := hSw; go_simp; try with_reducible rfl)
      try simp only [List.getElem_toArray, List.getElem_cons_succ, List.getElem_cons_zero, Act.put, List.setIfInBounds_toArray, List.set_cons_zero, List.set_cons_succ]
      refine wpAnyH_take (i := 7) (v := ?_) rfl (by kernel_rfl) (by kernel_rfl) (by kernel_rfl) (fun _ _ _ h => h) (Or.inl ⟨by rfl, ?_⟩) (by assumption) ?_
      rotate_left
      · (intro W hSw; (try dsimp only at hSw); obtain ⟨s0, s1, s2, s3⟩ := hSw; go_simp; try with_reducible rfl)
      try simp only [List.getElem_toArray, List.getElem_cons_succ, List.getElem_cons_zero, Act.put, List.setIfInBounds_toArray, List.set_cons_zero, List.set_cons_succ]
      refine wpAnyH_take (i := 8) (v := ?_) rfl (by kernel_rfl) (by kernel_rfl) (by kernel_rfl) (fun _ _ _ h => h) (Or.inl ⟨by rfl, ?_⟩) (by assumption) ?_
      rotate_left
      · (intro W hSw; (try dsimp only at hSw); obtain ⟨s0, s1, s2, s3⟩ := hSw; go_simp; try with_reducible rfl)
      try simp only [List.getElem_toArray, List.getElem_cons_succ, List.getElem_cons_zero, Act.put, List.setIfInBounds_toArray, List.set_cons_zero, List.set_cons_succ]
      refine wpAnyH_take (i := 9) (v := ?_) rfl (by kernel_rfl) (by kernel_rfl) (by kernel_rfl) (fun _ _ _ h => h) (Or.inl ⟨by rfl, ?_⟩) (by assumption) ?_
      rotate_left
      · (intro W hSw; (try dsimp only at hSw); obtain ⟨s0, s1, s2, s3⟩ := hSw; go_simp; try with_reducible rfl)
      try simp only [List.getElem_toArray, List.getElem_cons_succ, List.getElem_cons_zero, Act.put, List.setIfInBounds_toArray, List.set_cons_zero, List.set_cons_succ]
      refine wpAnyH_ready (rs := [4]) (by kernel_rfl) (by simp) (AllReadyH.cons rfl (fun K hK => ?_) AllReadyH.nil)
      rw [if_pos (by rfl)]
      go_simp
      refine (HBy.out wa.drew).mono ?_
      rintro e w4 ⟨hb4, rfl, hby4⟩
      have hbr : Below wa.heap.size wa w4 := (Below.refl _ wa).drew.trans (hb4.mono (Nat.le_refl _))
      have HX4 := hid (below_block hbr HBx.out (lt_of_heap HBx.out))
      have HB4 := hid hbr
      have hz := HCs.out w4 HX4.out
      clear hb4 hby4 hbr hc0
      go_wp2_with fail
      refine hK.out _ _ hz (fun hHeld => ?_)
      clear hK K
      try simp only [List.getElem_toArray, List.getElem_cons_succ, List.getElem_cons_zero, Act.put, List.setIfInBounds_toArray, List.set_cons_zero, List.set_cons_succ]
      refine wpAnyH_ready (rs := [5]) (by kernel_rfl) (by simp) (AllReadyH.cons rfl (fun K hK => ?_) AllReadyH.nil)
      rw [if_pos (by rfl)]
      go_simp
      refine (bwrite_nil n _ w4).mono ?_
      rintro e w5 ⟨rfl, h5⟩
      obtain rfl := h5.symm
      clear h5
      go_wp2_with fail
      refine hK.out _ _ hz (fun hHeld => ?_)
      clear hK K
      try simp only [List.getElem_toArray, List.getElem_cons_succ, List.getElem_cons_zero, Act.put, List.setIfInBounds_toArray, List.set_cons_zero, List.set_cons_succ]
      refine wpAnyH_ready (rs := [10]) (by kernel_rfl) (by simp) (AllReadyH.cons rfl (fun K hK => ?_) AllReadyH.nil)
      rw [if_pos (by rfl)]
      go_simp
      refine (HBy.out w4).mono ?_
      clear HBy
      rintro e w9 ⟨hb9, rfl, hby9⟩
      have HX9 := hid (below_block hb9 HX4.out (lt_of_heap HX4.out))
      have hz9 := HCs.out w9 HX9.out
      have HB9 := hid (HB4.out.trans (hb9.mono HB4.out.size))
      clear hb9 hby9 hz
      go_wp2_with fail
      refine hK.out _ _ hz9 (fun hHeld => ?_)
      clear hK K
      try simp only [List.getElem_toArray, List.getElem_cons_succ, List.getElem_cons_zero, Act.put, List.setIfInBounds_toArray, List.set_cons_zero, List.set_cons_succ]
      refine wpAnyH_ready (rs := [11]) (by kernel_rfl) (by simp) (AllReadyH.cons rfl (fun K hK => ?_) AllReadyH.nil)
      rw [if_pos (by rfl)]
      go_simp
      refine (r4write_nil n _ w9).mono ?_
      rintro e w6 ⟨rfl, h6⟩
      obtain rfl := h6.symm
      clear h6
      go_wp2_with fail
      refine hK.out _ _ hz9 (fun hHeld => ?_)
      clear hK K
      try simp only [List.getElem_toArray, List.getElem_cons_succ, List.getElem_cons_zero, Act.put, List.setIfInBounds_toArray, List.set_cons_zero, List.set_cons_succ]
      refine wpAnyH_take (i := 12) (v := ?_) rfl (by kernel_rfl) (by kernel_rfl) (by kernel_rfl) (fun _ _ _ h => h) (Or.inl ⟨by rfl, ?_⟩) (by assumption) ?_
      rotate_left
      · (intro W hSw; (try dsimp only at hSw); obtain ⟨s0, s1, s2, s3⟩ := hSw; go_simp; try with_reducible rfl)
      try simp only [List.getElem_toArray, List.getElem_cons_succ, List.getElem_cons_zero, Act.put, List.setIfInBounds_toArray, List.set_cons_zero, List.set_cons_succ]
      refine wpAnyH_take (i := 13) (v := ?_) rfl (by kernel_rfl) (by kernel_rfl) (by kernel_rfl) (fun _ _ _ h => h) (Or.inl ⟨by rfl, ?_⟩) (by assumption) ?_
      rotate_left
      · (intro W hSw; (try dsimp only at hSw); obtain ⟨s0, s1, s2, s3⟩ := hSw; go_simp; try with_reducible rfl)
      try simp only [List.getElem_toArray, List.getElem_cons_succ, List.getElem_cons_zero, Act.put, List.setIfInBounds_toArray, List.set_cons_zero, List.set_cons_succ]
      refine wpAnyH_done (by kernel_rfl) ?_ _
      refine NoPanic.normal ?_
      clear hHeld hz9
      go_wp2
      go_ret
      exact ⟨rfl, HBg.out _ HB9.out⟩
    · have hk1b : (k == 1) = false := beq_eq_false_iff_ne.2 hk1
      by_cases hk2 : k = 2
      · subst hk2
        go_enter Tryz.func9, Tryz.ntmps9
        go_wp2_with fail
        generalize w.alloc (.cells #[.int .i64 2, .int .i64 n, .int .u8 (x.toNat : Int), .bool s] 30) = wa at *
        refine (bcommit_nil _).mono ?_
        rintro e w1 ⟨rfl, h1⟩
        obtain rfl := h1.symm
        clear h1
        go_wp2_with fail
        refine (r4commit_nil _).mono ?_
        rintro e w1 ⟨rfl, h1⟩
        obtain rfl := h1.symm
        clear h1
        go_wp2
        go_ret
        exact ⟨rfl, HB.out⟩
      · have hk2b : (k == 2) = false := beq_eq_false_iff_ne.2 hk2
        go_enter Tryz.func9, Tryz.ntmps9
        go_wp2_with fail
        generalize w.alloc (.cells #[.int .i64 k, .int .i64 n, .int .u8 (x.toNat : Int), .bool s] 30) = wa at *
        refine (babort_nil _).mono ?_
        rintro e w1 ⟨rfl, h1⟩
        obtain rfl := h1.symm
        clear h1
        go_wp2_with fail
        refine (r4abort_nil _).mono ?_
        rintro e w1 ⟨rfl, h1⟩
        obtain rfl := h1.symm
        clear h1
        go_wp2
        go_ret
        exact ⟨rfl, HB.out⟩
/-- What the walk asks of both. -/
structure BPl (w0 : World) (pv qv : Value) (St : World → Nat → Prop) : Prop where
  below : ∀ w w' k, St w k → Below w.heap.size w w' → St w' k
  bel : ∀ w k, St w k → Below w0.heap.size w0 w
  do_ : ∀ w k, St w k → k < 50 → ∀ (x n : Int) (y : UInt8) (s : Bool), -9223372036854775808 ≤ n → n < 9223372036854775808 →
    Calls Tryz.prog 9 #[pv, qv, .agg #[.int .i64 x, .int .i64 n, .int .u8 (y.toNat : Int), .bool s]] w fun e w' => e = .returned (.bool true) ∧ St w' (k + 1)
  cached : ∀ w k, St w k → Calls Tryz.prog 11 #[pv] w fun e w1 => ∃ a l cp, e = .returned (.slice a (l : Nat) cp) ∧ Calls Tryz.prog 12 #[qv] w1 fun e2 w2 => ∃ a2 cp2, e2 = .returned (.slice a2 l cp2) ∧
      Calls Tryz.prog 10 #[.slice a l cp, .slice a2 l cp2] w2 fun e3 w3 => e3 = .returned (.bool true) ∧ St w3 k
  dirty : ∀ w k, St w k → Calls Tryz.prog 13 #[pv] w fun e w1 => ∃ a l cp, e = .returned (.slice a (l : Nat) cp) ∧ Calls Tryz.prog 14 #[qv] w1 fun e2 w2 => ∃ a2 cp2, e2 = .returned (.slice a2 l cp2) ∧
      Calls Tryz.prog 10 #[.slice a l cp, .slice a2 l cp2] w2 fun e3 w3 => e3 = .returned (.bool true) ∧ St w3 k
  room : ∀ w k, St w k → Calls Tryz.prog 15 #[pv] w fun e w1 => ∃ z : Int, e = .returned (.int .i64 z) ∧ Calls Tryz.prog 16 #[qv] w1 fun e2 w2 => e2 = .returned (.int .i64 z) ∧ St w2 k
theorem bpl_nil (w0 : World) : BPl w0 (.pointer none) (.pointer none) (fun w _ => Below w0.heap.size w0 w) := by
  refine ⟨fun w w' k h hb => h.trans (hb.mono h.size), fun w k h => h, fun w k h _ x n y s _ _ => ?_, fun w k h => ?_, fun w k h => ?_, fun w k h => ?_⟩
  · refine (b4do_nil x n y s w).mono ?_
    rintro e w1 ⟨rfl, hb⟩
    exact ⟨rfl, h.trans (hb.mono h.size)⟩
  · refine (bcached_nil w).mono ?_
    rintro e w1 ⟨rfl, rfl⟩
    refine ⟨none, 0, 0, rfl, (r4cached_nil w1).mono ?_⟩
    rintro e w2 ⟨rfl, rfl⟩
    have := same_ints [] [] none none 0 0 w2 (fun j hj => by simp at hj) (fun j hj => by simp at hj) (by simp)
    rw [decide_eq_true rfl] at this
    refine ⟨none, 0, rfl, this.mono ?_⟩
    rintro e w3 ⟨rfl, hb⟩
    exact ⟨rfl, h.trans (hb.mono h.size)⟩
  · refine (bdirty_nil w).mono ?_
    rintro e w1 ⟨rfl, rfl⟩
    refine ⟨none, 0, 0, rfl, (r4dirty_nil w1).mono ?_⟩
    rintro e w2 ⟨rfl, rfl⟩
    have := same_ints [] [] none none 0 0 w2 (fun j hj => by simp at hj) (fun j hj => by simp at hj) (by simp)
    rw [decide_eq_true rfl] at this
    refine ⟨none, 0, rfl, this.mono ?_⟩
    rintro e w3 ⟨rfl, hb⟩
    exact ⟨rfl, h.trans (hb.mono h.size)⟩
  · refine (broom_nil w).mono ?_
    rintro e w1 ⟨rfl, rfl⟩
    refine ⟨0, rfl, (r4room_nil w1).mono ?_⟩
    rintro e w2 ⟨rfl, rfl⟩
    exact ⟨rfl, h⟩
theorem bpl_ok (w0 : World) (c q size : Nat) (hs : size ≤ 12) : BPl w0 (.pointer (some ⟨c, 0, none⟩)) (.pointer (some ⟨q, 0, none⟩)) (fun w k => JAt w0 w c q size 11 (k * (2 * size + 6)) k (fun _ => False)) := by
  have hle : ∀ k, k ≤ 50 → k * (2 * size + 6) ≤ 1500 := fun k hk => Nat.le_trans (Nat.mul_le_mul hk (show 2 * size + 6 ≤ 30 by omega)) (by omega)
  refine ⟨fun w w' k h hb => h.below hb, fun w k h => h.bel, fun w k h hk x n y s hn0 hn1 => ?_, fun w k h => ?_, fun w k h => ?_, fun w k h => ?_⟩
  · refine (b4do_any h x n y s hn0 hn1 (by omega) (by have := hle k (by omega); omega)).mono ?_
    rintro e w1 ⟨rfl, hJ⟩
    exact ⟨rfl, hJ.more (by rw [Nat.add_mul]; omega) (Nat.le_refl _)⟩
  · refine h.cached.mono ?_
    rintro e w1 ⟨a, l, cp, rfl, -, h2⟩
    refine ⟨a, l, cp, rfl, h2.mono ?_⟩
    rintro e w2 ⟨a2, cp2, rfl, hJ, h3⟩
    refine ⟨a2, cp2, rfl, h3.mono ?_⟩
    rintro e w3 ⟨rfl, hb⟩
    exact ⟨rfl, hJ.below hb⟩
  · refine h.dirty.mono ?_
    rintro e w1 ⟨a, l, cp, rfl, -, h2⟩
    refine ⟨a, l, cp, rfl, h2.mono ?_⟩
    rintro e w2 ⟨a2, cp2, rfl, hJ, h3⟩
    refine ⟨a2, cp2, rfl, h3.mono ?_⟩
    rintro e w3 ⟨rfl, hb⟩
    exact ⟨rfl, hJ.below hb⟩
  · refine h.room.mono ?_
    rintro e w1 ⟨z, rfl, -, h2⟩
    refine ⟨z, rfl, h2.mono ?_⟩
    rintro e w2 ⟨rfl, hJ⟩
    exact ⟨rfl, hJ⟩
end Go.Proofs.YtjgclmlclkfgpaaGreat
