/- disk.Disk.Fork. -/
import Derived.Test.YtoeiodiadanhkaaGreatShared
import Derived.Test.YtoeiodiadanhkaaGreatCopied
namespace Go.Proofs.YtoeiodiadanhkaaGreat
open Go.RowKit Go.Maps
set_option maxRecDepth 100000 in
set_option maxHeartbeats 2000000 in
theorem fork_disk (d : DL) (S : DiskS) (w : World) (h : DiskIn w d S) (hB : S.ops.length ≤ 4096) :
    Calls Tryz.prog 58 #[.pointer (some ⟨d.p, 0, none⟩)] w fun e w' => Below w.heap.size w w' ∧ ∃ d', e = .returned (.pointer (some ⟨d'.p, 0, none⟩)) ∧ CutIn w' d' S ∧ ∀ i, d'.cutFoot S.waits i → w.heap.size ≤ i := by
  obtain ⟨ad, fc, hfv, hfc, hfn⟩ := h.first
  obtain ⟨oa, oc, hov, hoa, hocc⟩ : ∃ oa oc, d.ov = .slice oa S.ops.length oc ∧ ((oa = none ∧ oc = 0 ∧ S.ops.length = 0) ∨ ∃ g, oa = some ⟨g, 0, none⟩ ∧ S.ops.length ≤ oc ∧ g < w.heap.size) ∧ ∀ b, oa = some b → ∀ j u, (S.ops.map encOp)[j]? = some u → w.cell? (b.add j) = some u := by
    rcases h.ops.2 with ⟨e1, e2⟩ | ⟨g, cap, cur, e1, e2, e3, e4, e5⟩
    · exact ⟨none, 0, by rw [e1, e2], .inl ⟨rfl, rfl, e2⟩, fun b e => by cases e⟩
    · have ho := h.ops
      rw [e1] at ho
      refine ⟨some ⟨g, 0, none⟩, cap, e1, .inr ⟨g, rfl, e4, lt_of_heap e3⟩, fun b e j u hu => ?_⟩
      obtain rfl := Option.some.inj e
      have hj : j < S.ops.length := by simpa using (List.getElem?_eq_some_iff.1 hu).1
      rw [Addr.add_mid, Nat.zero_add, ho.cellAt j (by omega)]
      exact hu
  have c0 : w.cell? ⟨d.p, 0, none⟩ = some (.slice (some ad) S.first.length fc) := by rw [cell_of_block h.heap, ← hfv]; rfl
  have c1 : w.cell? ⟨d.p, 1, none⟩ = some (.slice oa S.ops.length oc) := by rw [cell_of_block h.heap, ← hov]; rfl
  have HNt : Hid (∀ W : World, Below w.heap.size w W → Calls Tryz.prog 86 #[.pointer (some ⟨d.p, 0, none⟩), .int .i64 S.ops.length] W fun e w' => e = .returned (.slice oa S.ops.length S.ops.length) ∧ w' = W) := fun W hW => by
    have cw := (hW.cell (p := ⟨d.p, 1, none⟩) (World.block_lt_of_cell? w _ c1)).trans c1
    rcases hoa with ⟨rfl, rfl, e⟩ | ⟨g, rfl, e, -⟩
    · rw [e] at cw ⊢
      exact noted_none d.p W cw
    · exact noted_some d.p ⟨g, 0, none⟩ S.ops.length oc S.ops.length W cw (Nat.le_refl _) e
  have HCp := hid (fun W (hW : Below w.heap.size w W) => copied_any d.p d.fv d.ov d.L S.safe S.waits S.ops.length W (h.below hW).heap (h.below hW).plates hB)
  have H := hid h
  have hFl := h.flen
  have HFl := hid hFl
  have HFC := hid (And.intro hfc hfn)
  have HOc := hid hocc
  have HOa := hid hoa
  clear h hFl hfc hfn hocc hoa
  go_enter Tryz.func58, Tryz.ntmps58
  go_wp2
  refine wp_region_noPanic ?_
  refine wp_region_held_drew (S := fun W => W.cell? ⟨d.p, 0, none⟩ = some (.slice (some ad) S.first.length fc) ∧ W.cell? ⟨d.p, 1, none⟩ = some (.slice oa S.ops.length oc)) (by kernel_rfl) ⟨c0, c1⟩ (fun hHeld => ?_)
  refine wpAnyH_take (i := 0) (v := ?_) rfl (by kernel_rfl) (by kernel_rfl) (by kernel_rfl) (fun _ _ _ h => h) (Or.inl ⟨by rfl, ?_⟩) (by assumption) ?_
  rotate_left
  · (intro W hSw; (try dsimp only at hSw); obtain ⟨s1, s2⟩ := hSw; go_simp; try with_reducible rfl)
  try simp only [List.getElem_toArray, List.getElem_cons_zero, Act.put, List.setIfInBounds_toArray, List.set_cons_zero, List.set_cons_succ]
  refine wpAnyH_take (i := 1) (v := ?_) rfl (by kernel_rfl) (by kernel_rfl) (by kernel_rfl) (fun _ _ _ h => h) (Or.inl ⟨by rfl, ?_⟩) (by assumption) ?_
  rotate_left
  · (intro W hSw; (try dsimp only at hSw); obtain ⟨s1, s2⟩ := hSw; go_simp; try with_reducible rfl)
  try simp only [List.getElem_toArray, List.getElem_cons_succ, List.getElem_cons_zero, Act.put, List.setIfInBounds_toArray, List.set_cons_zero, List.set_cons_succ]
  refine wpAnyH_take (i := 2) (v := ?_) rfl (by kernel_rfl) (by kernel_rfl) (by kernel_rfl) (fun _ _ _ h => h) (Or.inl ⟨by rfl, ?_⟩) (by assumption) ?_
  rotate_left
  · (intro W hSw; (try dsimp only at hSw); obtain ⟨s1, s2⟩ := hSw; go_simp; try with_reducible rfl)
  try simp only [List.getElem_toArray, List.getElem_cons_succ, List.getElem_cons_zero, Act.put, List.setIfInBounds_toArray, List.set_cons_zero, List.set_cons_succ]
  refine wpAnyH_take (i := 3) (v := ?_) rfl (by kernel_rfl) (by kernel_rfl) (by kernel_rfl) (fun _ _ _ h => h) (Or.inl ⟨by rfl, ?_⟩) (by assumption) ?_
  rotate_left
  · (intro W hSw; (try dsimp only at hSw); obtain ⟨s1, s2⟩ := hSw; go_simp; try with_reducible rfl)
  try simp only [List.getElem_toArray, List.getElem_cons_succ, List.getElem_cons_zero, Act.put, List.setIfInBounds_toArray, List.set_cons_zero, List.set_cons_succ]
  refine wpAnyH_take (i := 4) (v := ?_) rfl (by kernel_rfl) (by kernel_rfl) (by kernel_rfl) (fun _ _ _ h => h) (Or.inl ⟨by rfl, ?_⟩) (by assumption) ?_
  rotate_left
  · (intro W hSw; (try dsimp only at hSw); obtain ⟨s1, s2⟩ := hSw; go_simp; try with_reducible rfl)
  try simp only [List.getElem_toArray, List.getElem_cons_succ, List.getElem_cons_zero, Act.put, List.setIfInBounds_toArray, List.set_cons_zero, List.set_cons_succ]
  refine wpAnyH_take (i := 5) (v := ?_) rfl (by kernel_rfl) (by kernel_rfl) (by kernel_rfl) (fun _ _ _ h => h) (Or.inl ⟨by rfl, ?_⟩) (by assumption) ?_
  rotate_left
  · (intro W hSw; (try dsimp only at hSw); obtain ⟨s1, s2⟩ := hSw; go_simp; try with_reducible rfl)
  try simp only [List.getElem_toArray, List.getElem_cons_succ, List.getElem_cons_zero, Act.put, List.setIfInBounds_toArray, List.set_cons_zero, List.set_cons_succ]
  refine wpAnyH_take (i := 6) (v := ?_) rfl (by kernel_rfl) (by kernel_rfl) (by kernel_rfl) (fun _ _ _ h => h) (Or.inl ⟨by rfl, ?_⟩) (by assumption) ?_
  rotate_left
  · (intro W hSw; (try dsimp only at hSw); obtain ⟨s1, s2⟩ := hSw; go_simp; try with_reducible rfl)
  try simp only [List.getElem_toArray, List.getElem_cons_succ, List.getElem_cons_zero, Act.put, List.setIfInBounds_toArray, List.set_cons_zero, List.set_cons_succ]
  refine wpAnyH_take (i := 7) (v := ?_) rfl (by kernel_rfl) (by kernel_rfl) (by kernel_rfl) (fun _ _ _ h => h) (Or.inl ⟨by rfl, ?_⟩) (by assumption) ?_
  rotate_left
  · (intro W hSw; (try dsimp only at hSw); obtain ⟨s1, s2⟩ := hSw; go_simp; try with_reducible rfl)
  try simp only [List.getElem_toArray, List.getElem_cons_succ, List.getElem_cons_zero, Act.put, List.setIfInBounds_toArray, List.set_cons_zero, List.set_cons_succ]
  refine wpAnyH_take (i := 8) (v := ?_) rfl (by kernel_rfl) (by kernel_rfl) (by kernel_rfl) (fun _ _ _ h => h) (Or.inl ⟨by rfl, ?_⟩) (by assumption) ?_
  rotate_left
  · (intro W hSw; (try dsimp only at hSw); obtain ⟨s1, s2⟩ := hSw; go_simp; try with_reducible rfl)
  try simp only [List.getElem_toArray, List.getElem_cons_succ, List.getElem_cons_zero, Act.put, List.setIfInBounds_toArray, List.set_cons_zero, List.set_cons_succ]
  refine wpAnyH_take (i := 9) (v := ?_) rfl (by kernel_rfl) (by kernel_rfl) (by kernel_rfl) (fun _ _ _ h => h) (Or.inl ⟨by rfl, ?_⟩) (by assumption) ?_
  rotate_left
  · (intro W hSw; (try dsimp only at hSw); obtain ⟨s1, s2⟩ := hSw; go_simp; try with_reducible rfl)
  try simp only [List.getElem_toArray, List.getElem_cons_succ, List.getElem_cons_zero, Act.put, List.setIfInBounds_toArray, List.set_cons_zero, List.set_cons_succ]
  refine wpAnyH_take (i := 11) (v := ?_) rfl (by kernel_rfl) (by kernel_rfl) (by kernel_rfl) (fun _ _ _ h => h) (Or.inl ⟨by rfl, ?_⟩) (by assumption) ?_
  rotate_left
  · (intro W hSw; (try dsimp only at hSw); obtain ⟨s1, s2⟩ := hSw; go_simp; try with_reducible rfl)
  try simp only [List.getElem_toArray, List.getElem_cons_succ, List.getElem_cons_zero, Act.put, List.setIfInBounds_toArray, List.set_cons_zero, List.set_cons_succ]
  refine wpAnyH_take (i := 12) (v := ?_) rfl (by kernel_rfl) (by kernel_rfl) (by kernel_rfl) (fun _ _ _ h => h) (Or.inl ⟨by rfl, ?_⟩) (by assumption) ?_
  rotate_left
  · (intro W hSw; (try dsimp only at hSw); obtain ⟨s1, s2⟩ := hSw; go_simp; try with_reducible rfl)
  try simp only [List.getElem_toArray, List.getElem_cons_succ, List.getElem_cons_zero, Act.put, List.setIfInBounds_toArray, List.set_cons_zero, List.set_cons_succ]
  refine wpAnyH_take (i := 13) (v := ?_) rfl (by kernel_rfl) (by kernel_rfl) (by kernel_rfl) (fun _ _ _ h => h) (Or.inl ⟨by rfl, ?_⟩) (by assumption) ?_
  rotate_left
  · (intro W hSw; (try dsimp only at hSw); obtain ⟨s1, s2⟩ := hSw; go_simp; try with_reducible rfl)
  try simp only [List.getElem_toArray, List.getElem_cons_succ, List.getElem_cons_zero, Act.put, List.setIfInBounds_toArray, List.set_cons_zero, List.set_cons_succ]
  refine wpAnyH_ready (rs := [10]) (by kernel_rfl) (by simp) (AllReadyH.cons rfl (fun K hK => ?_) AllReadyH.nil)
  rw [if_pos (by rfl)]
  go_simp
  refine (HNt.out w.drew (Below.refl _ _).drew).mono ?_
  clear HNt
  rintro e w9 ⟨rfl, h9⟩
  subst h9
  go_wp2_with fail
  refine hK.out _ _ ⟨c0, c1⟩ (fun hHeld => ?_)
  clear hK K
  try simp only [List.getElem_toArray, List.getElem_cons_succ, List.getElem_cons_zero, Act.put, List.setIfInBounds_toArray, List.set_cons_zero, List.set_cons_succ]
  refine wpAnyH_ready (rs := [14]) (by kernel_rfl) (by simp) (AllReadyH.cons rfl (fun K hK => ?_) AllReadyH.nil)
  rw [if_pos (by rfl)]
  go_simp
  refine (HCp.out w.drew (Below.refl _ _).drew).mono ?_
  clear HCp
  rintro e w1 ⟨L', rfl, hP1, hft1, hB1⟩
  have hB1' := below_undrew hB1
  have hdp := World.block_lt_of_cell? w _ c0
  have d0 := (hB1'.cell (p := ⟨d.p, 0, none⟩) hdp).trans c0
  have d1 := (hB1'.cell (p := ⟨d.p, 1, none⟩) hdp).trans c1
  have HP1 := hid hP1
  have HF1 := hid hft1
  have HB1 := hid hB1'
  clear hP1 hft1 hB1 hB1'
  go_wp2_with fail
  refine hK.out _ _ ⟨d0, d1⟩ (fun hHeld => ?_)
  clear hK K
  try simp only [List.getElem_toArray, List.getElem_cons_succ, List.getElem_cons_zero, Act.put, List.setIfInBounds_toArray, List.set_cons_zero, List.set_cons_succ]
  refine wpAnyH_take (i := 15) (v := ?_) rfl (by kernel_rfl) (by kernel_rfl) (by kernel_rfl) (fun _ _ _ h => h) (Or.inl ⟨by rfl, ?_⟩) (by assumption) ?_
  rotate_left
  · (intro W hSw; (try dsimp only at hSw); obtain ⟨s1, s2⟩ := hSw; go_simp; try with_reducible rfl)
  try simp only [List.getElem_toArray, List.getElem_cons_succ, List.getElem_cons_zero, Act.put, List.setIfInBounds_toArray, List.set_cons_zero, List.set_cons_succ]
  refine wpAnyH_ready (rs := [16]) (by kernel_rfl) (by simp) (AllReadyH.cons rfl (fun K hK => ?_) AllReadyH.nil)
  rw [if_pos (by rfl)]
  unfold Oper.wp
  go_simp
  have hdp1 : d.p < w1.heap.size := Nat.lt_of_lt_of_le hdp HB1.out.size
  refine hK.out _ _ ⟨by rw [World.cell?_alloc_lt _ _ _ hdp1]; exact d0, by rw [World.cell?_alloc_lt _ _ _ hdp1]; exact d1⟩ (fun hHeld => ?_)
  clear hK K
  try simp only [List.getElem_toArray, List.getElem_cons_succ, List.getElem_cons_zero, Act.put, List.setIfInBounds_toArray, List.set_cons_zero, List.set_cons_succ]
  refine wpAnyH_take (i := 17) (v := ?_) rfl (by kernel_rfl) (by kernel_rfl) (by kernel_rfl) (fun _ _ _ h => h) (Or.inl ⟨by rfl, ?_⟩) (by assumption) ?_
  rotate_left
  · (intro W hSw; (try dsimp only at hSw); obtain ⟨s1, s2⟩ := hSw; go_simp; try with_reducible rfl)
  try simp only [List.getElem_toArray, List.getElem_cons_succ, List.getElem_cons_zero, Act.put, List.setIfInBounds_toArray, List.set_cons_zero, List.set_cons_succ]
  refine wpAnyH_done (by kernel_rfl) ?_ _
  refine NoPanic.normal ?_
  clear hHeld d0 d1 c0 c1
  have HBn : Hid (Below w.heap.size w (w1.alloc (.cells #[.slice (some ad) S.first.length fc, .slice oa S.ops.length S.ops.length, .slice (some ⟨L'.g, 0, none⟩) S.safe.length L'.cap, .map (some L'.m)] 98))) := HB1.out.alloc HB1.out.size _
  have HNb := hid (block_new w1 (.cells #[.slice (some ad) S.first.length fc, .slice oa S.ops.length S.ops.length, .slice (some ⟨L'.g, 0, none⟩) S.safe.length L'.cap, .map (some L'.m)] 98))
  have HPn := hid (HP1.out.keep (G := fun _ => False) (Keeps.of_below ((Below.refl w1.heap.size w1).alloc (Nat.le_refl _) (.cells #[.slice (some ad) S.first.length fc, .slice oa S.ops.length S.ops.length, .slice (some ⟨L'.g, 0, none⟩) S.safe.length L'.cap, .map (some L'.m)] 98))) (fun _ _ e => e))
  have hs1 := HB1.out.size
  go_wp2
  go_ret
  generalize hWn : w1.alloc (.cells #[.slice (some ad) S.first.length fc, .slice oa S.ops.length S.ops.length, .slice (some ⟨L'.g, 0, none⟩) S.safe.length L'.cap, .map (some L'.m)] 98) = wn at *
  have hpl := HPn.out
  have hadl : ad.block < w.heap.size := by
    have hpos := H.out.plates.pos
    have h00 := HFC.out.1 0 (S.first[0]'(by rw [HFl.out]; exact hpos)) (by simp)
    have := World.block_lt_of_cell? w _ h00
    rwa [add_block] at this
  refine ⟨HBn.out, ⟨w1.heap.size, .slice (some ad) S.first.length fc, .slice oa S.ops.length S.ops.length, L'⟩, rfl, ⟨⟨HNb.out, hpl, ⟨oa, S.ops.length, rfl⟩⟩, ⟨oa, rfl, fun e => ?_, fun b e => ⟨fun j u hu => ?_, ?_⟩⟩, ⟨ad, fc, rfl, fun j s hj => ?_, fun e => ?_⟩, HFl.out⟩, fun i hi => ?_⟩
  · rcases HOa.out with ⟨-, -, e2⟩ | ⟨g, e2, -⟩
    · exact List.eq_nil_of_length_eq_zero e2
    · rw [e] at e2; cases e2
  · have hc := HOc.out b e j u hu
    exact (HBn.out.cell (World.block_lt_of_cell? w _ hc)).trans hc
  · rcases HOa.out with ⟨e2, -, -⟩ | ⟨g, e2, -, hg⟩
    · rw [e] at e2; cases e2
    · rw [e] at e2
      rw [Option.some.inj e2]
      exact Nat.lt_of_lt_of_le hg HBn.out.size
  · have hc := HFC.out.1 j s hj
    exact (HBn.out.cell (World.block_lt_of_cell? w _ hc)).trans hc
  · rcases e with e | e
    · have e2 : ad.block = w1.heap.size := e
      omega
    · have := HF1.out _ e
      have h3 : w.drew.heap.size = w.heap.size := rfl
      omega
  · rcases hi with e | e
    · have e2 : i = w1.heap.size := e
      omega
    · exact HF1.out i e
end Go.Proofs.YtoeiodiadanhkaaGreat
