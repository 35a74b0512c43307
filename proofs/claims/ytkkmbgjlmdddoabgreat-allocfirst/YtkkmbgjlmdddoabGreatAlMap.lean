/- alloc's map in memory, and its small calls. -/
import Derived.Test.YtkkmbgjlmdddoabGreatAlPc
import Derived.Test.YtkkmbgjlmdddoabGreatAlBits
namespace Go.Proofs.YtkkmbgjlmdddoabGreat
open Go.RowKit
/-- A map in memory. -/
def mapB (w : World) (m c ino : Nat) : Prop := w.heap[m]? = some (.cells #[.pointer (some ⟨c, 0, none⟩), .int .i64 ino] 53 (0, 0))
theorem mapB.keep {w w' : World} {m c ino : Nat} {F : Nat → Prop} (h : mapB w m c ino) (k : Keeps F w w') (hF : ¬ F m) : mapB w' m c ino := k.heap h hF
theorem mapB.below {w w' : World} {m c ino : Nat} (h : mapB w m c ino) (k : Below w.heap.size w w') : mapB w' m c ino := below_block k h (lt_of_heap h)
theorem mapB.lt {w : World} {m c ino : Nat} (h : mapB w m c ino) : m < w.heap.size := lt_of_heap h
def oneF : Nat := 4607182418800017408
/-- numbers: the page of bits, the first one, the end, the worth. -/
def numV (b a z : Nat) (x y : Nat) : Value := .agg #[.int .i64 b, .int .i64 a, .int .i64 z, .complex .f64 x y]
theorem infoNum : (Tryz.prog.info? 68).map (·.size) = some 4 := by kernel_rfl
section
variable {w : World} {m c ino : Nat}
set_option maxRecDepth 100000 in
theorem amFirst_any (h : mapB w m c ino) (hi : ino ≤ 512) : Calls Tryz.prog 16 #[.pointer (some ⟨m, 0, none⟩)] w fun e w' => e = .returned (.int .i64 (3 + ino / 8 : Nat)) ∧ w' = w := by
  have c1 : w.cell? ⟨m, 1, none⟩ = some (.int .i64 ino) := cell_of_block h 1
  have HA := hid (afirst_any ino hi w)
  obtain ⟨f, hf⟩ : ∃ f, f = 3 + ino / 8 := ⟨_, rfl⟩
  rw [← hf] at HA ⊢
  clear h hi hf
  go_enter Tryz.func16, Tryz.ntmps16
  go_wp2_with fail
  refine HA.out.mono ?_
  rintro e w1 ⟨rfl, h1⟩
  obtain rfl := h1.symm
  clear h1
  go_wp2
  go_ret
  exact ⟨rfl, rfl⟩
set_option maxRecDepth 100000 in
theorem amInodes_any (h : mapB w m c ino) : Calls Tryz.prog 17 #[.pointer (some ⟨m, 0, none⟩)] w fun e w' => e = .returned (.int .i64 ino) ∧ w' = w := by
  have c1 : w.cell? ⟨m, 1, none⟩ = some (.int .i64 ino) := cell_of_block h 1
  clear h
  go_enter Tryz.func17, Tryz.ntmps17
  go_wp2
  go_ret
  exact ⟨rfl, rfl⟩
set_option maxRecDepth 100000 in
theorem amCache_any (h : mapB w m c ino) : Calls Tryz.prog 18 #[.pointer (some ⟨m, 0, none⟩)] w fun e w' => e = .returned (.pointer (some ⟨c, 0, none⟩)) ∧ w' = w := by
  have c0 : w.cell? ⟨m, 0, none⟩ = some (.pointer (some ⟨c, 0, none⟩)) := cell_of_block h 0
  clear h
  go_enter Tryz.func18, Tryz.ntmps18
  go_wp2
  go_ret
  exact ⟨rfl, rfl⟩
set_option maxRecDepth 100000 in
set_option maxHeartbeats 1000000 in
theorem amofInodes_any (h : mapB w m c ino) : Calls Tryz.prog 35 #[.pointer (some ⟨m, 0, none⟩)] w fun e w' => e = .returned (numV 1 1 ino 0 oneF) ∧ Below w.heap.size w w' := by
  have hb0 := (Below.refl w.heap.size w).alloc (Nat.le_refl _) (.cells #[.int .i64 0, .int .i64 0, .int .i64 0, .complex .f64 0 0] 68)
  have hb := below_block hb0 h h.lt
  have HB0 := hid hb0
  have c1 : (w.alloc (.cells #[.int .i64 0, .int .i64 0, .int .i64 0, .complex .f64 0 0] 68)).cell? ⟨m, 1, none⟩ = some (.int .i64 ino) := cell_of_block hb 1
  have Hbl := hid (block_new w (.cells #[.int .i64 0, .int .i64 0, .int .i64 0, .complex .f64 0 0] 68))
  clear h hb hb0
  go_enter Tryz.func35, Tryz.ntmps35
  go_wp2_with (refine wpList_store_block rfl 68 (.tmp 2) (.tmp 7) rfl w.heap.size #[.int .i64 1, .int .i64 1, .int .i64 ino, .complex .f64 0 4607182418800017408] rfl rfl _ 68 Hbl.out rfl infoNum (by simp [Value.oneCell']) ?_; intro w2 hg2 hb2 hz2)
  refine bodyPost_ret (results_cell Tryz.results35 _ _ rfl hb2 _ Tryz.underlying68 rfl infoNum) rfl ⟨rfl, ?_⟩
  exact HB0.out.grown hg2 HB0.out.size (fun i e => by cases e; exact Nat.le_refl _)
variable {F : Nat → Prop} {size N : Nat} {Pg Cm : Nat → List UInt8} {D : Int → Bool} {o u : Nat}
set_option maxRecDepth 100000 in
theorem ampages_any (h : mapB w m c ino) (hp : Pc w c F size N Pg Cm D o u) : Calls Tryz.prog 56 #[.pointer (some ⟨m, 0, none⟩)] w fun e w' => e = .returned (.int .i64 N) ∧ Below w.heap.size w w' := by
  have c0 : w.cell? ⟨m, 0, none⟩ = some (.pointer (some ⟨c, 0, none⟩)) := cell_of_block h 0
  obtain ⟨p, h1, h2⟩ := hp.logPages
  have H1 := hid h1
  have H2 := hid h2
  clear h hp h1 h2
  go_enter Tryz.func56, Tryz.ntmps56
  go_wp2_with fail
  refine H1.out.mono ?_
  rintro e w1 ⟨rfl, h1⟩
  obtain rfl := h1.symm
  clear h1
  go_wp2_with fail
  refine H2.out.mono ?_
  rintro e w1 ⟨rfl, hb⟩
  have HB := hid hb
  clear hb
  go_wp2
  go_ret
  exact ⟨rfl, HB.out⟩
set_option maxRecDepth 100000 in
set_option maxHeartbeats 1000000 in
theorem amofPages_any (h : mapB w m c ino) (hi : ino ≤ 512) (hp : Pc w c F size N Pg Cm D o u) : Calls Tryz.prog 32 #[.pointer (some ⟨m, 0, none⟩)] w fun e w' => e = .returned (numV 2 (3 + ino / 8) N oneF 0) ∧ Below w.heap.size w w' := by
  have hb0 := (Below.refl w.heap.size w).alloc (Nat.le_refl _) (.cells #[.int .i64 0, .int .i64 0, .int .i64 0, .complex .f64 0 0] 68)
  have HF := hid (amFirst_any (h.below hb0) hi)
  have HP := hid (ampages_any (h.below hb0) (hp.below hb0))
  have HB0 := hid hb0
  have Hbl := hid (block_new w (.cells #[.int .i64 0, .int .i64 0, .int .i64 0, .complex .f64 0 0] 68))
  obtain ⟨f, hf⟩ : ∃ f, f = 3 + ino / 8 := ⟨_, rfl⟩
  rw [← hf] at HF ⊢
  clear h hp hb0 hi hf
  go_enter Tryz.func32, Tryz.ntmps32
  go_wp2_with fail
  generalize w.alloc (.cells #[.int .i64 0, .int .i64 0, .int .i64 0, .complex .f64 0 0] 68) = wa at *
  refine HF.out.mono ?_
  rintro e w1 ⟨rfl, h1⟩
  obtain rfl := h1.symm
  clear h1
  go_wp2_with fail
  refine HP.out.mono ?_
  rintro e w1 ⟨rfl, hb⟩
  have HB1 := hid (HB0.out.trans (hb.mono HB0.out.size))
  have Hb1 := hid (below_block hb Hbl.out (lt_of_heap Hbl.out))
  clear hb HF HP
  go_wp2_with (refine wpList_store_block rfl 68 (.tmp 2) (.tmp 7) rfl w.heap.size #[.int .i64 2, .int .i64 f, .int .i64 N, .complex .f64 4607182418800017408 0] rfl rfl _ 68 Hb1.out rfl infoNum (by simp [Value.oneCell']) ?_; intro w2 hg2 hb2 hz2)
  refine bodyPost_ret (results_cell Tryz.results32 _ _ rfl hb2 _ Tryz.underlying68 rfl infoNum) rfl ⟨rfl, ?_⟩
  exact HB1.out.grown hg2 HB1.out.size (fun i e => by cases e; exact Nat.le_refl _)
set_option maxRecDepth 100000 in
set_option maxHeartbeats 1000000 in
theorem abits_any {w0 : World} (h : mapB w m c ino) (hmF : ¬ F m) (b a z x y : Nat) (hb : b < N) (hu : u < 1000000) (hp : Pc w0 c F size N Pg Cm D o u) (hw : Below w0.heap.size w0 w) :
    Calls Tryz.prog 63 #[.pointer (some ⟨m, 0, none⟩), numV b a z x y] w fun e w' => ∃ g cap, e = .returned (.slice (some ⟨g, 0, none⟩) 512 cap) ∧ 512 ≤ cap ∧ w.heap.size ≤ g ∧ rowU w' g (Pg b) ∧ Keeps F w w' ∧ ∀ W, Keeps (fun i => w0.heap.size ≤ i) w' W → Pc W c F size N Pg Cm D o (u + 1) := by
  have hb0 := (Below.refl w.heap.size w).alloc (Nat.le_refl _) (.cells #[.int .i64 b, .int .i64 a, .int .i64 z, .complex .f64 x y] 68)
  have hdr := (Below.refl (w.alloc (.cells #[.int .i64 b, .int .i64 a, .int .i64 z, .complex .f64 x y] 68)).heap.size (w.alloc (.cells #[.int .i64 b, .int .i64 a, .int .i64 z, .complex .f64 x y] 68))).drew
  have hm0 := h.below hb0
  have hbl := block_new w (.cells #[.int .i64 b, .int .i64 a, .int .i64 z, .complex .f64 x y] 68)
  have HFb : Hid (¬ F w.heap.size) := fun hf => by have := hp.lt _ hf; have := hw.size; omega
  have HR := hid (hp.read (hw.trans ((hb0.trans (hdr.mono hb0.size)).mono hw.size)) b hb hu)
  have HS : Hid (∀ W, Keeps F (w.alloc (.cells #[.int .i64 b, .int .i64 a, .int .i64 z, .complex .f64 x y] 68)) W → W.cell? ⟨m, 0, none⟩ = some (.pointer (some ⟨c, 0, none⟩)) ∧ W.cell? ⟨w.heap.size, 0, none⟩ = some (.int .i64 b)) := fun W hW => ⟨cell_of_block (hm0.keep hW hmF) 0, cell_of_block (hW.heap hbl HFb.out) 0⟩
  have HB0 := hid (hb0.trans (hdr.mono hb0.size))
  have HSz : Hid (w.heap.size ≤ (w.alloc (.cells #[.int .i64 b, .int .i64 a, .int .i64 z, .complex .f64 x y] 68)).heap.size) := hb0.size
  have hS0 := HS.out _ (Keeps.refl _ _)
  have HKd : Hid (Keeps F (w.alloc (.cells #[.int .i64 b, .int .i64 a, .int .i64 z, .complex .f64 x y] 68)) (w.alloc (.cells #[.int .i64 b, .int .i64 a, .int .i64 z, .complex .f64 x y] 68)).drew) := (Keeps.refl _ _).drew
  clear h hp hm0 hb0 hdr hbl HFb hw
  obtain ⟨n0, hn0⟩ : ∃ n0, n0 = w.heap.size := ⟨_, rfl⟩
  rw [← hn0] at HS hS0
  unfold numV
  go_enter Tryz.func63, Tryz.ntmps63
  go_wp2_with fail
  rw [← hn0]
  clear hn0
  generalize w.alloc (.cells #[.int .i64 b, .int .i64 a, .int .i64 z, .complex .f64 x y] 68) = wa at *
  refine wp_region_noPanic ?_
  refine wp_region_held_drew (S := fun W => W.cell? ⟨m, 0, none⟩ = some (.pointer (some ⟨c, 0, none⟩)) ∧ W.cell? ⟨n0, 0, none⟩ = some (.int .i64 b)) (by kernel_rfl) hS0 (fun hHeld => ?_)
  refine wpAnyH_take (i := 0) (v := ?_) rfl (by kernel_rfl) (by kernel_rfl) (by kernel_rfl) (fun _ _ _ h => h) (Or.inl ⟨by rfl, ?_⟩) (by assumption) ?_
  rotate_left
  · (intro W hSw; (try dsimp only at hSw); obtain ⟨s0, s1⟩ := hSw; go_simp; try with_reducible rfl)
  try simp only [List.getElem_toArray, List.getElem_cons_zero, Act.put, List.setIfInBounds_toArray, List.set_cons_zero, List.set_cons_succ]
  refine wpAnyH_take (i := 1) (v := ?_) rfl (by kernel_rfl) (by kernel_rfl) (by kernel_rfl) (fun _ _ _ h => h) (Or.inl ⟨by rfl, ?_⟩) (by assumption) ?_
  rotate_left
  · (intro W hSw; (try dsimp only at hSw); obtain ⟨s0, s1⟩ := hSw; go_simp; try with_reducible rfl)
  try simp only [List.getElem_toArray, List.getElem_cons_succ, List.getElem_cons_zero, Act.put, List.setIfInBounds_toArray, List.set_cons_zero, List.set_cons_succ]
  refine wpAnyH_take (i := 2) (v := ?_) rfl (by kernel_rfl) (by kernel_rfl) (by kernel_rfl) (fun _ _ _ h => h) (Or.inl ⟨by rfl, ?_⟩) (by assumption) ?_
  rotate_left
  · (intro W hSw; (try dsimp only at hSw); obtain ⟨s0, s1⟩ := hSw; go_simp; try with_reducible rfl)
  try simp only [List.getElem_toArray, List.getElem_cons_succ, List.getElem_cons_zero, Act.put, List.setIfInBounds_toArray, List.set_cons_zero, List.set_cons_succ]
  refine wpAnyH_take (i := 3) (v := ?_) rfl (by kernel_rfl) (by kernel_rfl) (by kernel_rfl) (fun _ _ _ h => h) (Or.inl ⟨by rfl, ?_⟩) (by assumption) ?_
  rotate_left
  · (intro W hSw; (try dsimp only at hSw); obtain ⟨s0, s1⟩ := hSw; go_simp; try with_reducible rfl)
  try simp only [List.getElem_toArray, List.getElem_cons_succ, List.getElem_cons_zero, Act.put, List.setIfInBounds_toArray, List.set_cons_zero, List.set_cons_succ]
  refine wpAnyH_take (i := 4) (v := ?_) rfl (by kernel_rfl) (by kernel_rfl) (by kernel_rfl) (fun _ _ _ h => h) (Or.inl ⟨by rfl, ?_⟩) (by assumption) ?_
  rotate_left
  · (intro W hSw; (try dsimp only at hSw); obtain ⟨s0, s1⟩ := hSw; go_simp; try with_reducible rfl)
  try simp only [List.getElem_toArray, List.getElem_cons_succ, List.getElem_cons_zero, Act.put, List.setIfInBounds_toArray, List.set_cons_zero, List.set_cons_succ]
  refine wpAnyH_take (i := 5) (v := ?_) rfl (by kernel_rfl) (by kernel_rfl) (by kernel_rfl) (fun _ _ _ h => h) (Or.inl ⟨by rfl, ?_⟩) (by assumption) ?_
  rotate_left
  · (intro W hSw; (try dsimp only at hSw); obtain ⟨s0, s1⟩ := hSw; go_simp; try with_reducible rfl)
  try simp only [List.getElem_toArray, List.getElem_cons_succ, List.getElem_cons_zero, Act.put, List.setIfInBounds_toArray, List.set_cons_zero, List.set_cons_succ]
  refine wpAnyH_ready (rs := [6]) (by kernel_rfl) (by simp) (AllReadyH.cons rfl (fun K hK => ?_) AllReadyH.nil)
  rw [if_pos (by rfl)]
  go_simp
  refine HR.out.mono ?_
  clear HR
  rintro e w1 ⟨g, cap, rfl, hc, hg, hr, hKk, hW⟩
  have Hr := hid hr
  have HK := hid ((Keeps.of_below HB0.out).trans hKk (fun i e => .inl e))
  have HW := hid hW
  have hg' : w.heap.size ≤ g := Nat.le_trans HSz.out hg
  have hz := HS.out w1 (HKd.out.trans hKk (fun i e => .inl e))
  clear hr hKk hW hg
  go_wp2_with fail
  refine hK.out _ _ hz (fun hHeld => ?_)
  clear hK K
  try simp only [List.getElem_toArray, List.getElem_cons_succ, List.getElem_cons_zero, Act.put, List.setIfInBounds_toArray, List.set_cons_zero, List.set_cons_succ]
  refine wpAnyH_take (i := 7) (v := ?_) rfl (by kernel_rfl) (by kernel_rfl) (by kernel_rfl) (fun _ _ _ h => h) (Or.inl ⟨by rfl, ?_⟩) (by assumption) ?_
  rotate_left
  · (intro W hSw; (try dsimp only at hSw); obtain ⟨s0, s1⟩ := hSw; go_simp; try with_reducible rfl)
  try simp only [List.getElem_toArray, List.getElem_cons_succ, List.getElem_cons_zero, Act.put, List.setIfInBounds_toArray, List.set_cons_zero, List.set_cons_succ]
  refine wpAnyH_take (i := 8) (v := ?_) rfl (by kernel_rfl) (by kernel_rfl) (by kernel_rfl) (fun _ _ _ h => h) (Or.inl ⟨by rfl, ?_⟩) (by assumption) ?_
  rotate_left
  · (intro W hSw; (try dsimp only at hSw); obtain ⟨s0, s1⟩ := hSw; go_simp; try with_reducible rfl)
  try simp only [List.getElem_toArray, List.getElem_cons_succ, List.getElem_cons_zero, Act.put, List.setIfInBounds_toArray, List.set_cons_zero, List.set_cons_succ]
  refine wpAnyH_take (i := 9) (v := ?_) rfl (by kernel_rfl) (by kernel_rfl) (by kernel_rfl) (fun _ _ _ h => h) (Or.inl ⟨by rfl, ?_⟩) (by assumption) ?_
  rotate_left
  · (intro W hSw; (try dsimp only at hSw); obtain ⟨s0, s1⟩ := hSw; go_simp; try with_reducible rfl)
  try simp only [List.getElem_toArray, List.getElem_cons_succ, List.getElem_cons_zero, Act.put, List.setIfInBounds_toArray, List.set_cons_zero, List.set_cons_succ]
  refine wpAnyH_take (i := 10) (v := ?_) rfl (by kernel_rfl) (by kernel_rfl) (by kernel_rfl) (fun _ _ _ h => h) (Or.inl ⟨by rfl, ?_⟩) (by assumption) ?_
  rotate_left
  · (intro W hSw; (try dsimp only at hSw); obtain ⟨s0, s1⟩ := hSw; go_simp; try with_reducible rfl)
  try simp only [List.getElem_toArray, List.getElem_cons_succ, List.getElem_cons_zero, Act.put, List.setIfInBounds_toArray, List.set_cons_zero, List.set_cons_succ]
  refine wpAnyH_take (i := 11) (v := ?_) rfl (by kernel_rfl) (by kernel_rfl) (by kernel_rfl) (fun _ _ _ h => h) (Or.inl ⟨by rfl, ?_⟩) (by assumption) ?_
  rotate_left
  · (intro W hSw; (try dsimp only at hSw); obtain ⟨s0, s1⟩ := hSw; go_simp; try with_reducible rfl)
  try simp only [List.getElem_toArray, List.getElem_cons_succ, List.getElem_cons_zero, Act.put, List.setIfInBounds_toArray, List.set_cons_zero, List.set_cons_succ]
  refine wpAnyH_done (by kernel_rfl) ?_ _
  refine NoPanic.normal ?_
  clear hHeld hz
  go_wp2
  go_ret
  exact ⟨g, cap, rfl, hc, hg', Hr.out, HK.out, HW.out⟩
end
set_option maxRecDepth 100000 in
theorem ahas_any (b a z x y : Nat) (n : Int) (w : World) : Calls Tryz.prog 67 #[numV b a z x y, .int .i64 n] w fun e w' => e = .returned (.bool (decide ((a : Int) ≤ n ∧ n < (z : Int)))) ∧ Below w.heap.size w w' := by
  have hb0 := (Below.refl w.heap.size w).alloc (Nat.le_refl _) (.cells #[.int .i64 b, .int .i64 a, .int .i64 z, .complex .f64 x y] 68)
  have HB0 := hid hb0
  clear hb0
  unfold numV
  by_cases h1 : (a : Int) ≤ n
  · have h1' : decide ((a : Int) ≤ n) = true := decide_eq_true h1
    by_cases h2 : n < (z : Int)
    · rw [decide_eq_true ⟨h1, h2⟩]
      go_enter Tryz.func67, Tryz.ntmps67
      go_wp2
      go_ret
      exact ⟨rfl, HB0.out⟩
    · rw [decide_eq_false (fun h => h2 h.2)]
      go_enter Tryz.func67, Tryz.ntmps67
      go_wp2
      go_ret
      exact ⟨rfl, HB0.out⟩
  · rw [decide_eq_false (fun h => h1 h.1)]
    go_enter Tryz.func67, Tryz.ntmps67
    go_wp2
    go_ret
    exact ⟨rfl, HB0.out⟩
/-- May so many pages have so many inodes? -/
def mayP (pages : Nat) (ino : Int) : Prop := 8 ≤ ino ∧ ino ≤ 512 ∧ ino % 8 = 0 ∧ 3 + ino / 8 < pages ∧ pages ≤ 4096
instance (pages : Nat) (ino : Int) : Decidable (mayP pages ino) := by unfold mayP; exact inferInstance
set_option maxRecDepth 100000 in
set_option maxHeartbeats 1000000 in
theorem amayBe_any (pages : Nat) (ino : Int) (hp : pages ≤ 4096) (w : World) : Calls Tryz.prog 23 #[.int .i64 pages, .int .i64 ino] w fun e w' => e = .returned (.bool (decide (mayP pages ino))) ∧ w' = w := by
  by_cases h1 : ino < 8
  · rw [decide_eq_false (fun h => by have := h.1; omega)]
    clear hp
    go_enter Tryz.func23, Tryz.ntmps23
    go_wp2
    go_ret
    exact ⟨rfl, rfl⟩
  · by_cases h2 : 512 < ino
    · rw [decide_eq_false (fun h => by have := h.2.1; omega)]
      clear hp
      go_enter Tryz.func23, Tryz.ntmps23
      go_wp2
      go_ret
      exact ⟨rfl, rfl⟩
    · obtain ⟨n, rfl⟩ : ∃ n : Nat, ino = (n : Int) := ⟨ino.toNat, by omega⟩
      by_cases h3 : (n : Int) % 8 = 0
      · have hA := afirst_any n (by omega) w
        obtain ⟨f, hf⟩ : ∃ f, f = 3 + n / 8 := ⟨_, rfl⟩
        rw [← hf] at hA
        have HA := hid hA
        have h4 : (pages : Int) ≤ 4096 := by omega
        have hdd : decide (mayP pages (n : Int)) = decide ((f : Int) < (pages : Int)) := by
          apply decide_eq_decide.2
          unfold mayP
          constructor
          · intro h; have := h.2.2.2.1; omega
          · intro h; exact ⟨by omega, by omega, h3, by omega, hp⟩
        rw [hdd]
        clear hdd hf hA hp
        by_cases h5 : (f : Int) < (pages : Int)
        · rw [decide_eq_true h5]
          go_enter Tryz.func23, Tryz.ntmps23
          go_wp2_with fail
          refine HA.out.mono ?_
          rintro e w1 ⟨rfl, h1⟩
          obtain rfl := h1.symm
          clear h1
          go_wp2
          go_ret
          exact ⟨rfl, rfl⟩
        · rw [decide_eq_false h5]
          go_enter Tryz.func23, Tryz.ntmps23
          go_wp2_with fail
          refine HA.out.mono ?_
          rintro e w1 ⟨rfl, h1⟩
          obtain rfl := h1.symm
          clear h1
          go_wp2
          go_ret
          exact ⟨rfl, rfl⟩
      · rw [decide_eq_false (fun h => h3 h.2.2.1)]
        clear hp
        go_enter Tryz.func23, Tryz.ntmps23
        go_wp2
        go_ret
        exact ⟨rfl, rfl⟩
end Go.Proofs.YtkkmbgjlmdddoabGreat
