/- The cache's calls: of nil; Room, Dirty, Log, New. -/
import Derived.Test.YtjgclmlclkfgpaaGreatBMem
import Derived.Test.YtjgclmlclkfgpaaGreatBaseD
namespace Go.Proofs.YtjgclmlclkfgpaaGreat
open Go.RowKit Go.Maps Go.Sort Go.Shelf
set_option maxRecDepth 100000 in
theorem bnew_nil (n : Int) (w : World) : Calls Tryz.prog 38 #[.pointer none, .int .i64 n] w fun e w' => e = .returned (.tuple #[.pointer none, .int .i64 1]) ∧ w' = w := by
  go_enter Tryz.func38, Tryz.ntmps38
  go_wp2
  go_returns
  exact ⟨rfl, rfl⟩
set_option maxRecDepth 100000 in
theorem bread_nil (n : Int) (w : World) : Calls Tryz.prog 25 #[.pointer none, .int .i64 n] w fun e w' => e = .returned (.tuple #[.slice none 0 0, .int .i64 1]) ∧ w' = w := by
  go_enter Tryz.func25, Tryz.ntmps25
  go_wp2
  go_returns
  exact ⟨rfl, rfl⟩
set_option maxRecDepth 100000 in
theorem bwrite_nil (n : Int) (v : Value) (w : World) : Calls Tryz.prog 27 #[.pointer none, .int .i64 n, v] w fun e w' => e = .returned (.int .i64 1) ∧ w' = w := by
  go_enter Tryz.func27, Tryz.ntmps27
  go_wp2
  go_ret
  exact ⟨rfl, rfl⟩
set_option maxRecDepth 100000 in
theorem bcommit_nil (w : World) : Calls Tryz.prog 29 #[.pointer none] w fun e w' => e = .returned (.int .i64 1) ∧ w' = w := by
  go_enter Tryz.func29, Tryz.ntmps29
  go_wp2
  go_ret
  exact ⟨rfl, rfl⟩
set_option maxRecDepth 100000 in
theorem babort_nil (w : World) : Calls Tryz.prog 30 #[.pointer none] w fun e w' => e = .returned (.int .i64 0) ∧ w' = w := by
  go_enter Tryz.func30, Tryz.ntmps30
  go_wp2
  go_ret
  exact ⟨rfl, rfl⟩
set_option maxRecDepth 100000 in
theorem bdirty_nil (w : World) : Calls Tryz.prog 13 #[.pointer none] w fun e w' => e = .returned (.slice none 0 0) ∧ w' = w := by
  go_enter Tryz.func13, Tryz.ntmps13
  go_wp2
  go_ret
  exact ⟨rfl, rfl⟩
set_option maxRecDepth 100000 in
theorem bcached_nil (w : World) : Calls Tryz.prog 11 #[.pointer none] w fun e w' => e = .returned (.slice none 0 0) ∧ w' = w := by
  go_enter Tryz.func11, Tryz.ntmps11
  go_wp2
  go_ret
  exact ⟨rfl, rfl⟩
set_option maxRecDepth 100000 in
theorem broom_nil (w : World) : Calls Tryz.prog 15 #[.pointer none] w fun e w' => e = .returned (.int .i64 0) ∧ w' = w := by
  go_enter Tryz.func15, Tryz.ntmps15
  go_wp2
  go_ret
  exact ⟨rfl, rfl⟩
set_option maxRecDepth 100000 in
theorem blog_nil (w : World) : Calls Tryz.prog 18 #[.pointer none] w fun e w' => e = .returned (.pointer none) ∧ w' = w := by
  go_enter Tryz.func18, Tryz.ntmps18
  go_wp2
  go_ret
  exact ⟨rfl, rfl⟩
section
variable {c : Nat} {L : CLay} {C : CS}
set_option maxRecDepth 100000 in
theorem blog_any (w : World) (h : CacheAt w c L C) : Calls Tryz.prog 18 #[.pointer (some ⟨c, 0, none⟩)] w fun e w' => e = .returned (.pointer (some ⟨L.p, 0, none⟩)) ∧ w' = w := by
  obtain ⟨c0, -⟩ := h.cells
  clear h
  go_enter Tryz.func18, Tryz.ntmps18
  go_wp2
  go_ret
  exact ⟨rfl, rfl⟩
set_option maxRecDepth 100000 in
set_option maxHeartbeats 1000000 in
theorem broom_any (w : World) (h : CacheAt w c L C) : Calls Tryz.prog 15 #[.pointer (some ⟨c, 0, none⟩)] w fun e w' => e = .returned (.int .i64 (((min C.size 100 : Nat) : Int) - (C.dirtyKeys.length : Int))) ∧ Below w.heap.size w w' := by
  obtain ⟨c0, c1, -⟩ := h.cells
  have h4 := h.four
  have hf := h.fits
  have hcl := lt_of_heap h.heap
  have HCp := hid (log_capacity w.drew (h.log.below (Below.refl _ w).drew) (by omega))
  have HLe : Hid (∀ W, Below w.heap.size w W → ∀ ty, (Builtin.len_ #[80] ty #[.map (some L.dm)]).run Tryz.prog W = .ok (.int .i64 (C.dirtyKeys.length : Int)) W) := fun W hW ty => by
    have := (h.dirty.below hW).mapOwn.len Tryz.underlying80 ty
    rw [h.dirty.size, h.keys] at this
    exact this
  have hlen := HLe.out w.drew (Below.refl _ w).drew
  have hdk : C.dirtyKeys.length ≤ 4096 := by rw [← h.keys]; exact Nat.le_trans (length_grpKeys_le _ _) h.pagesLe
  clear h
  have hcp : min C.size 100 ≤ 100 := by omega
  generalize min C.size 100 = cp at *
  generalize C.dirtyKeys.length = dk at *
  have e1 : IntKind.i64.wrap ((cp : Int) - (dk : Int)) = (cp : Int) - (dk : Int) := IntWalk.i64_in _ (by omega)
  go_enter Tryz.func15, Tryz.ntmps15
  go_wp2
  refine wp_region_noPanic ?_
  refine wp_region_held_drew (S := fun W => W.cell? ⟨c, 0, none⟩ = some (.pointer (some ⟨L.p, 0, none⟩)) ∧ W.cell? ⟨c, 1, none⟩ = some (.map (some L.dm)) ∧ ∀ ty, (Builtin.len_ #[80] ty #[.map (some L.dm)]).run Tryz.prog W = .ok (.int .i64 (dk : Int)) W) (by kernel_rfl) ⟨c0, c1, hlen⟩ (fun hHeld => ?_)
  refine wpAnyH_take (i := 0) (v := ?_) rfl (by kernel_rfl) (by kernel_rfl) (by kernel_rfl) (fun _ _ _ h => h) (Or.inl ⟨by rfl, ?_⟩) (by assumption) ?_
  rotate_left
  · (intro W hSw; (try dsimp only at hSw); obtain ⟨s1, s2, s3⟩ := hSw; go_simp; try with_reducible rfl)
  try simp only [List.getElem_toArray, List.getElem_cons_zero, Act.put, List.setIfInBounds_toArray, List.set_cons_zero, List.set_cons_succ]
  refine wpAnyH_take (i := 1) (v := ?_) rfl (by kernel_rfl) (by kernel_rfl) (by kernel_rfl) (fun _ _ _ h => h) (Or.inl ⟨by rfl, ?_⟩) (by assumption) ?_
  rotate_left
  · (intro W hSw; (try dsimp only at hSw); obtain ⟨s1, s2, s3⟩ := hSw; go_simp; try with_reducible rfl)
  try simp only [List.getElem_toArray, List.getElem_cons_succ, List.getElem_cons_zero, Act.put, List.setIfInBounds_toArray, List.set_cons_zero, List.set_cons_succ]
  refine wpAnyH_take (i := 2) (v := ?_) rfl (by kernel_rfl) (by kernel_rfl) (by kernel_rfl) (fun _ _ _ h => h) (Or.inl ⟨by rfl, ?_⟩) (by assumption) ?_
  rotate_left
  · (intro W hSw; (try dsimp only at hSw); obtain ⟨s1, s2, s3⟩ := hSw; go_simp; try with_reducible rfl)
  try simp only [List.getElem_toArray, List.getElem_cons_succ, List.getElem_cons_zero, Act.put, List.setIfInBounds_toArray, List.set_cons_zero, List.set_cons_succ]
  refine wpAnyH_take (i := 3) (v := ?_) rfl (by kernel_rfl) (by kernel_rfl) (by kernel_rfl) (fun _ _ _ h => h) (Or.inl ⟨by rfl, ?_⟩) (by assumption) ?_
  rotate_left
  · (intro W hSw; (try dsimp only at hSw); obtain ⟨s1, s2, s3⟩ := hSw; go_simp; try with_reducible rfl)
  try simp only [List.getElem_toArray, List.getElem_cons_succ, List.getElem_cons_zero, Act.put, List.setIfInBounds_toArray, List.set_cons_zero, List.set_cons_succ]
  refine wpAnyH_take (i := 5) (v := ?_) rfl (by kernel_rfl) (by kernel_rfl) (by kernel_rfl) (fun _ _ _ h => h) (Or.inl ⟨by rfl, ?_⟩) (by assumption) ?_
  rotate_left
  · (intro W hSw; (try dsimp only at hSw); obtain ⟨s1, s2, s3⟩ := hSw; go_simp; try with_reducible rfl)
  try simp only [List.getElem_toArray, List.getElem_cons_succ, List.getElem_cons_zero, Act.put, List.setIfInBounds_toArray, List.set_cons_zero, List.set_cons_succ]
  refine wpAnyH_take (i := 6) (v := ?_) rfl (by kernel_rfl) (by kernel_rfl) (by kernel_rfl) (fun _ _ _ h => h) (Or.inl ⟨by rfl, ?_⟩) (by assumption) ?_
  rotate_left
  · (intro W hSw; (try dsimp only at hSw); obtain ⟨s1, s2, s3⟩ := hSw; go_simp; try with_reducible rfl)
  try simp only [List.getElem_toArray, List.getElem_cons_succ, List.getElem_cons_zero, Act.put, List.setIfInBounds_toArray, List.set_cons_zero, List.set_cons_succ]
  refine wpAnyH_take (i := 7) (v := ?_) rfl (by kernel_rfl) (by kernel_rfl) (by kernel_rfl) (fun _ _ _ h => h) (Or.inl ⟨by rfl, ?_⟩) (by assumption) ?_
  rotate_left
  · (intro W hSw; (try dsimp only at hSw); obtain ⟨s1, s2, s3⟩ := hSw; go_simp; try with_reducible rfl)
  try simp only [List.getElem_toArray, List.getElem_cons_succ, List.getElem_cons_zero, Act.put, List.setIfInBounds_toArray, List.set_cons_zero, List.set_cons_succ]
  refine wpAnyH_take (i := 8) (v := ?_) rfl (by kernel_rfl) (by kernel_rfl) (by kernel_rfl) (fun _ _ _ h => h) (Or.inl ⟨by rfl, ?_⟩) (by assumption) ?_
  rotate_left
  · (intro W hSw; (try dsimp only at hSw); obtain ⟨s1, s2, s3⟩ := hSw; go_simp; try with_reducible rfl)
  try simp only [List.getElem_toArray, List.getElem_cons_succ, List.getElem_cons_zero, Act.put, List.setIfInBounds_toArray, List.set_cons_zero, List.set_cons_succ]
  refine wpAnyH_ready (rs := [4]) (by kernel_rfl) (by simp) (AllReadyH.cons rfl (fun K hK => ?_) AllReadyH.nil)
  rw [if_pos (by rfl)]
  go_simp
  refine HCp.out.mono ?_
  clear HCp
  rintro e w2 ⟨rfl, hb2⟩
  have hb : Below w.heap.size w w2 := (Below.refl _ w).drew.trans (hb2.mono (Nat.le_refl _))
  have HB := hid hb
  have d0 : w2.cell? ⟨c, 0, none⟩ = some (.pointer (some ⟨L.p, 0, none⟩)) := (hb.cell (p := ⟨c, 0, none⟩) hcl).trans c0
  have d1 : w2.cell? ⟨c, 1, none⟩ = some (.map (some L.dm)) := (hb.cell (p := ⟨c, 1, none⟩) hcl).trans c1
  have d2 := HLe.out w2 hb
  clear hb hb2 hlen
  go_wp2_with fail
  refine hK.out _ _ ⟨d0, d1, d2⟩ (fun hHeld => ?_)
  clear hK K
  try simp only [List.getElem_toArray, List.getElem_cons_succ, List.getElem_cons_zero, Act.put, List.setIfInBounds_toArray, List.set_cons_zero, List.set_cons_succ]
  refine wpAnyH_take (i := 9) (v := .int .i64 (dk : Int)) rfl (by kernel_rfl) (by kernel_rfl) (by kernel_rfl) (fun _ _ _ h => h) (Or.inl ⟨by rfl, ?_⟩) (by assumption) ?_
  · (intro W hSw; (try dsimp only at hSw); obtain ⟨s1, s2, s3⟩ := hSw; go_simp; try first | with_reducible rfl | go_num | (rw [if_pos (by assumption)]; simp only [*]) | simp only [*])
  try simp only [List.getElem_toArray, List.getElem_cons_succ, List.getElem_cons_zero, Act.put, List.setIfInBounds_toArray, List.set_cons_zero, List.set_cons_succ]
  refine wpAnyH_take (i := 10) (v := .int .i64 ((cp : Int) - (dk : Int))) rfl (by kernel_rfl) (by kernel_rfl) (by kernel_rfl) (fun _ _ _ h => h) (Or.inl ⟨by rfl, ?_⟩) (by assumption) ?_
  · (intro W hSw; (try dsimp only at hSw); obtain ⟨s1, s2, s3⟩ := hSw; go_simp; try first | with_reducible rfl | go_num | (rw [if_pos (by assumption)]; simp only [*]) | simp only [*])
  try simp only [List.getElem_toArray, List.getElem_cons_succ, List.getElem_cons_zero, Act.put, List.setIfInBounds_toArray, List.set_cons_zero, List.set_cons_succ]
  refine wpAnyH_take (i := 11) (v := ?_) rfl (by kernel_rfl) (by kernel_rfl) (by kernel_rfl) (fun _ _ _ h => h) (Or.inl ⟨by rfl, ?_⟩) (by assumption) ?_
  rotate_left
  · (intro W hSw; (try dsimp only at hSw); obtain ⟨s1, s2, s3⟩ := hSw; go_simp; try with_reducible rfl)
  try simp only [List.getElem_toArray, List.getElem_cons_succ, List.getElem_cons_zero, Act.put, List.setIfInBounds_toArray, List.set_cons_zero, List.set_cons_succ]
  refine wpAnyH_done (by kernel_rfl) ?_ _
  refine NoPanic.normal ?_
  clear hHeld d0 d1 d2
  go_wp2
  go_ret
  exact ⟨rfl, HB.out⟩
set_option maxHeartbeats 1000000 in
theorem bdirty_any (w : World) (h : CacheAt w c L C) :
    Calls Tryz.prog 13 #[.pointer (some ⟨c, 0, none⟩)] w fun e w' => ∃ v, e = .returned v ∧ w'.ownsRow w.heap.size 3 1 v C.dirtyKeys.length (C.dirtyKeys.map encZ) ∧ (v = .slice none 0 0 ↔ C.dirtyKeys = []) ∧ Below w.heap.size w w' := by
  obtain ⟨c0, c1, -⟩ := h.cells
  have hke := h.keys
  refine (callsIn_wide (n := 6)).1 ?_
  have hown := h.dirty.mapOwn
  have hbl := hown.lt
  have hsz := hown.size_le
  have hmax : Maps.size L.Dd ≤ maxLen := by unfold maxLen; omega
  have hbytes : Maps.size L.Dd * 8 ≤ 140737488355328 := by omega
  have hseq : SeqGives Fence.wide 2 Tryz.prog 89 #[.pointer (some ⟨w.heap.size, 0, none⟩)] encZ (fun ss => ss.Perm (intKeys L.Dd)) (Maps.size L.Dd) (w.alloc (.cells #[.map (some L.dm)] 80)) :=
    AnyZI.keys_gives (ρ := Tryz.keysB_ren) { Tryz.keysB with } Fence.wide _ trivial rfl (by omega) w.heap.size L.dm 4096 L.Dd _ (by simp) (by simp) (by
      obtain ⟨es, clock, hb, Ft, hs, hD⟩ := hown
      exact ⟨es, clock, (Below.heap_alloc _ _ L.dm hbl).trans hb, Ft, hs, hD⟩)
  have cK : ∀ mb W, CallsIn Fence.wide 5 Tryz.prog 49 #[.map mb] W fun e w' => e = .returned (.func (.func 89) #[] #[.pointer (some ⟨W.heap.size, 0, none⟩)]) ∧ w' = W.alloc (.cells #[.map mb] 80) := fun mb W => AnyZI.keys_in Tryz.keysB Fence.wide 5 trivial rfl mb W
  have cS := AnyZI.sorted_in Tryz.sortedA Fence.wide 5 trivial trivial trivial trivial rfl (by omega) (sortsA _) (enters_of Tryz.func88 (by kernel_rfl) rfl) 89 #[.pointer (some ⟨w.heap.size, 0, none⟩)] trivial (enters_of Tryz.func89 (by kernel_rfl) rfl) _ _ hmax hbytes _ hseq
  change CallsIn _ _ Tryz.prog 48 _ _ _ at cS
  have hfK : Fence.wide.fn 49 := trivial
  have hfS : Fence.wide.fn 48 := trivial
  have H := hid h.dirty
  have HKe := hid hke
  clear h hown hseq hsz hke
  refine callsIn_of_wp Tryz.func13 rfl trivial ?_ rfl
  simp only [Tryz.ntmps13, List.size_toArray, List.length_cons, List.length_nil, Nat.reduceAdd, Nat.reduceSub, Array.replicate_succ, Array.replicate_zero, List.push_toArray, List.append_toArray, List.nil_append, List.cons_append]
  gi_wp2_with (first
    | (gi_at_call 49; refine (cK _ _).mono ?_; rintro e w' ⟨rfl, rfl⟩)
    | (gi_at_call 48; refine cS.mono ?_; rintro e w' ⟨v, ss, rfl, hS, hrow, hnil, hb⟩))
  go_ret
  have hk := H.out.keys hS
  rw [hk] at hrow
  have hlen : ss.length = (grpKeys L.dv C.N).length := by rw [← hk, List.length_mergeSort]
  rw [HKe.out] at hrow hlen
  refine ⟨v, rfl, ?_, ?_, ((Below.refl _ w).alloc (Nat.le_refl _) _).trans (hb.mono (by simp))⟩
  · rw [← hlen]; exact ownsRow_base_a hrow (by simp)
  · rw [hnil, ← List.length_eq_zero_iff, hlen, List.length_eq_zero_iff]
end
set_option maxRecDepth 100000 in
set_option maxHeartbeats 1000000 in
/-- New. -/
theorem bnew_ok (p : Nat) (d : DL) (S : DiskS) (size : Nat) (F : Nat → Prop) (most : Nat) (hm1 : 1 ≤ most) (hm2 : most ≤ 64) (w : World) (h : LogIn w p d S size 0 F) (hF : ∀ i, F i → i < w.heap.size) (hs : size + 1 ≤ S.safe.length) :
    Calls Tryz.prog 38 #[.pointer (some ⟨p, 0, none⟩), .int .i64 most] w fun e w' => Below w.heap.size w w' ∧ ∃ c L, e = .returned (.tuple #[.pointer (some ⟨c, 0, none⟩), .int .i64 0]) ∧ w.heap.size ≤ c ∧ L.dv = (fun _ => none) ∧ L.F = F ∧ (∀ i, L.foot c i → F i ∨ w.heap.size ≤ i) ∧ CacheAt w' c L ⟨S, size, pagesS S size, fun _ => none, most, 0, fun _ => none⟩ := by
  have H := hid h
  have HF := hid hF
  clear h hF
  have k1 : (1 : Int) ≤ (most : Int) := by omega
  have k2 : (most : Int) ≤ 64 := by omega
  have hmk : ∀ W : World, (Instr.makeMap 80 none).run Tryz.prog W = .ok (.map (some W.heap.size)) (W.alloc (.map #[] 0)) := fun W => by kernel_rfl
  have hmk2 : ∀ W : World, (Instr.makeMap 81 none).run Tryz.prog W = .ok (.map (some W.heap.size)) (W.alloc (.map #[] 0)) := fun W => by kernel_rfl
  go_enter Tryz.func38, Tryz.ntmps38
  go_wp2
  go_returns
  obtain ⟨-, -, m3, -⟩ := new2 w (.map #[] 0) (.map #[] 0)
  have hB2 : Below w.heap.size w ((w.alloc (.map #[] 0)).alloc (.map #[] 0)) := m3
  have hB3 : Below w.heap.size w (((w.alloc (.map #[] 0)).alloc (.map #[] 0)).alloc (.cells #[.pointer (some ⟨p, 0, none⟩), .map (some w.heap.size), .int .i64 most, .int .i64 0, .map (some (w.heap.size + 1))] 85)) := hB2.alloc hB2.size _
  refine ⟨hB3, w.heap.size + 2, ⟨p, w.heap.size, w.heap.size + 1, d, .map [], .map [], fun _ => none, F⟩, ?_, by omega, rfl, rfl, ?_, ?_⟩
  · simp
  · rintro i (hi | hi | hi | hi)
    · exact .inl hi
    · exact .inr (by omega)
    · exact .inr (by simp only at hi; omega)
    · exact .inr (by simp only at hi; omega)
  · obtain ⟨n1, n2, n3, -⟩ := new3 w (.map #[] 0) (.map #[] 0) (.cells #[.pointer (some ⟨p, 0, none⟩), .map (some w.heap.size), .int .i64 most, .int .i64 0, .map (some (w.heap.size + 1))] 85)
    exact {
      heap := n3
      log := H.out.below hB3
      lt := fun i hi => Nat.lt_of_lt_of_le (HF.out i hi) hB3.size
      dirty := grpIn_empty (ownsMap_tight (map_empty n1) (Nat.zero_le _)) _
      bytes := fun n v hv => (by cases hv)
      clean := fun _ _ => rfl
      used := grpIn_empty (ownsMap_tight (map_empty n2) (Nat.zero_le _)) _
      offc := fun hi => (by have := HF.out _ hi; omega)
      offd := fun hi => Nat.lt_irrefl _ (HF.out _ hi)
      offu := fun hi => absurd (HF.out _ hi) (show ¬ (w.heap.size + 1 < w.heap.size) by omega)
      ne := Nat.ne_of_lt (Nat.lt_succ_self _)
      pages := rfl
      fits := hs
      few := Nat.zero_le _
      ub := fun n u hu => (by cases hu) }
end Go.Proofs.YtjgclmlclkfgpaaGreat
