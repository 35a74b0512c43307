/- The parts of a cache: slices.Clone of bytes; what was used, and the oldest of it. -/
import Derived.Test.YtjgclmlclkfgpaaGreatBKit
import Derived.Test.YtjgclmlclkfgpaaGreatBaseA
import Derived.Test.YtjgclmlclkfgpaaGreatBaseC
namespace Go.Proofs.YtjgclmlclkfgpaaGreat
open Go.RowKit Go.Maps
set_option maxRecDepth 100000 in
set_option maxHeartbeats 1000000 in
theorem bclone_any (l : List UInt8) (ad : Addr) (c : Nat) (w : World) (hpos : 0 < l.length) (hn : l.length ≤ 4096) (hb : bytesAt w ad l) :
    Calls Tryz.prog 58 #[.slice (some ad) l.length c] w fun e w' => ∃ g cap, e = .returned (.slice (some ⟨g, 0, none⟩) l.length cap) ∧ w'.ownsRow w.heap.size 5 1 (.slice (some ⟨g, 0, none⟩) l.length cap) l.length (l.map U8) ∧ Below w.heap.size w w' := by
  obtain ⟨i0, hi, hz0, hz1, hz2⟩ := info_parts infoU8
  have HI := hid hi
  have HX : Hid (∀ j u, (l.map U8)[j]? = some u → w.cell? (ad.add j) = some u) := fun j u hu => by
    have hj : j < l.length := by simpa using (List.getElem?_eq_some_iff.1 hu).1
    rw [hb j hj]
    rw [List.getElem?_map, List.getElem?_eq_getElem hj] at hu
    exact hu
  clear hi hb
  go_enter Tryz.func58, Tryz.ntmps58
  have hq := fun W => run_slice_nil 49 _ ad l.length c Tryz.underlying49 W
  go_wp2_with (refine wpList_append_lies _ rfl (.tmp 5) (.tmp 6) 49 rfl w.heap.size 5 i0 (.int .u8 0) 1 1 Tryz.underlying49 HI.out hz0 hz1 hz2 rfl (by omega) (.slice (some ⟨w.heap.size, 0, none⟩) 0 0) 0 [] rfl (World.ownsRow_lit w #[] 0 (Nat.le_refl _) (by simp) rfl) ad l.length c (l.map U8) rfl (by simp) (fun j u hu => by rw [World.cell?_alloc_lt _ _ _ (World.block_lt_of_cell? w _ (HX.out j u hu))]; exact HX.out j u hu) (by intro u hu; obtain ⟨x, _, rfl⟩ := List.mem_map.1 hu; rfl) hpos (by unfold maxLen; omega) (by omega) (by simp) (w.heap.size + 1) (by simp) ?_; intro g cap w1 hown hgr hat hlt)
  go_ret
  rw [List.nil_append, Nat.zero_add] at hown
  refine ⟨g, cap, by simp, hown, ?_⟩
  exact ((Below.refl _ _).alloc (Nat.le_refl _) _).trans ⟨hgr.os, hgr.tape, hgr.output, hgr.size, fun k hk => hgr.block k (by simp; omega) (by simp [Value.ownBlock]; omega)⟩
theorem row_bytesAt {w : World} {lo g n cap : Nat} {l : List UInt8} (h : w.ownsRow lo 5 1 (.slice (some ⟨g, 0, none⟩) n cap) n (l.map U8)) (hl : l.length = n) : bytesAt w ⟨g, 0, none⟩ l := fun j hj => by
  rw [Addr.add_mid, Nat.zero_add, h.cellAt j (by omega), List.getElem?_map, List.getElem?_eq_getElem hj]; rfl
section
variable {c um : Nat} {D : DataW Value} {N : Nat}
set_option maxRecDepth 100000 in
theorem bdrop_any (val : Int → Option Value) (n : Int) (hn0 : -9223372036854775808 ≤ n) (hn1 : n < 9223372036854775808) (w : World) (c4 : w.cell? ⟨c, 4, none⟩ = some (.map (some um))) (h : GrpIn w um 4096 D N val) :
    Calls Tryz.prog 62 #[.pointer (some ⟨c, 2, none⟩), .int .i64 n] w fun e w' => e = .returned (.tuple #[]) ∧ ∃ D', GrpIn w' um 4096 D' N (delV val n) ∧ w.grownBy w' (some um) := by
  have H := hid h
  clear h
  go_enter Tryz.func62, Tryz.ntmps62
  go_wp2_with (refine wpList_delete_grp rfl (.tmp 7) (.tmp 8) 81 rfl 3 Tryz.underlying81 rfl H.out n rfl hn0 hn1 ?_; intro w1 D1 hG1 hg1; have HG1 := hid hG1; have Hg1 := hid hg1; clear hG1 hg1)
  go_end0
  first | exact ⟨rfl, D1, HG1.out, Hg1.out⟩ | exact ⟨rfl, ⟨D1, HG1.out⟩, Hg1.out⟩
/-- The one that was used longest ago. -/
def OldestAt (u : Int → Option Nat) (x : Int) : Prop := ∃ k, u x = some k ∧ ∀ y j, u y = some j → k ≤ j
theorem usedV_some {u : Int → Option Nat} {n : Int} {v : Value} (h : usedV u n = some v) : ∃ k : Nat, u n = some k ∧ v = .int .i64 (k : Int) := by
  unfold usedV at h
  cases hu : u n with
  | none => rw [hu] at h; cases h
  | some k => rw [hu] at h; exact ⟨k, rfl, (Option.some.inj h).symm⟩
/-- The oldest of those that have come. -/
def OldTo (u : Int → Option Nat) (uses : Nat) (left : Lit → Bool) (pg : Int) (fi : Nat) : Prop :=
  (∀ y j, u y = some j → left (.int .i64 y) = false → fi ≤ j) ∧ (fi = uses + 1 ∨ u pg = some fi)
set_option maxRecDepth 100000 in
set_option maxHeartbeats 2000000 in
theorem boldest_any (u : Int → Option Nat) (uses : Nat) (hu : uses ≤ 1000000) (hub : ∀ n k, u n = some k → k ≤ uses) (n0 : Int) (hn0 : (u n0).isSome) (w : World) (c3 : w.cell? ⟨c, 3, none⟩ = some (.int .i64 uses)) (c4 : w.cell? ⟨c, 4, none⟩ = some (.map (some um))) (h : GrpIn w um 4096 D N (usedV u)) :
    Calls Tryz.prog 96 #[.pointer (some ⟨c, 2, none⟩)] w fun e w' => ∃ x, e = .returned (.int .i64 x) ∧ OldestAt u x ∧ Below w.heap.size w w' := by
  have H := hid h
  have HUb := hid hub
  have Hn0 := hid hn0
  clear h hub hn0
  have e1 : IntKind.i64.wrap ((uses : Int) + 1) = (uses : Int) + 1 := IntWalk.i64_in _ (by omega)
  go_enter Tryz.func96, Tryz.ntmps96
  go_wp2
  refine wp_region_noPanic ?_
  refine wp_region_held_drew (S := fun W => W.cell? ⟨c, 3, none⟩ = some (.int .i64 uses)) (by kernel_rfl) c3 (fun hHeld => ?_)
  refine wpAnyH_take (i := 0) (v := ?_) rfl (by kernel_rfl) (by kernel_rfl) (by kernel_rfl) (fun _ _ _ h => h) (Or.inl ⟨by rfl, ?_⟩) (by assumption) ?_
  rotate_left
  · (intro W hSw; (try dsimp only at hSw); obtain s1 := hSw; go_simp; try with_reducible rfl)
  try simp only [List.getElem_toArray, List.getElem_cons_zero, Act.put, List.setIfInBounds_toArray, List.set_cons_zero, List.set_cons_succ]
  refine wpAnyH_take (i := 1) (v := ?_) rfl (by kernel_rfl) (by kernel_rfl) (by kernel_rfl) (fun _ _ _ h => h) (Or.inl ⟨by rfl, ?_⟩) (by assumption) ?_
  rotate_left
  · (intro W hSw; (try dsimp only at hSw); obtain s1 := hSw; go_simp; try with_reducible rfl)
  try simp only [List.getElem_toArray, List.getElem_cons_succ, List.getElem_cons_zero, Act.put, List.setIfInBounds_toArray, List.set_cons_zero, List.set_cons_succ]
  refine wpAnyH_take (i := 2) (v := ?_) rfl (by kernel_rfl) (by kernel_rfl) (by kernel_rfl) (fun _ _ _ h => h) (Or.inl ⟨by rfl, ?_⟩) (by assumption) ?_
  rotate_left
  · (intro W hSw; (try dsimp only at hSw); obtain s1 := hSw; go_simp; try with_reducible rfl)
  try simp only [List.getElem_toArray, List.getElem_cons_succ, List.getElem_cons_zero, Act.put, List.setIfInBounds_toArray, List.set_cons_zero, List.set_cons_succ]
  refine wpAnyH_take (i := 3) (v := ?_) rfl (by kernel_rfl) (by kernel_rfl) (by kernel_rfl) (fun _ _ _ h => h) (Or.inl ⟨by rfl, ?_⟩) (by assumption) ?_
  rotate_left
  · (intro W hSw; (try dsimp only at hSw); obtain s1 := hSw; go_simp; try with_reducible rfl)
  try simp only [List.getElem_toArray, List.getElem_cons_succ, List.getElem_cons_zero, Act.put, List.setIfInBounds_toArray, List.set_cons_zero, List.set_cons_succ]
  refine wpAnyH_take (i := 4) (v := .int .i64 ((uses : Int) + 1)) rfl (by kernel_rfl) (by kernel_rfl) (by kernel_rfl) (fun _ _ _ h => h) (Or.inl ⟨by rfl, ?_⟩) (by assumption) ?_
  · (intro W hSw; (try dsimp only at hSw); obtain s1 := hSw; go_simp; try first | with_reducible rfl | go_num | (rw [if_pos (by assumption)]; simp only [*]) | simp only [*])
  try simp only [List.getElem_toArray, List.getElem_cons_succ, List.getElem_cons_zero, Act.put, List.setIfInBounds_toArray, List.set_cons_zero, List.set_cons_succ]
  refine wpAnyH_take (i := 5) (v := ?_) rfl (by kernel_rfl) (by kernel_rfl) (by kernel_rfl) (fun _ _ _ h => h) (Or.inl ⟨by rfl, ?_⟩) (by assumption) ?_
  rotate_left
  · (intro W hSw; (try dsimp only at hSw); obtain s1 := hSw; go_simp; try with_reducible rfl)
  try simp only [List.getElem_toArray, List.getElem_cons_succ, List.getElem_cons_zero, Act.put, List.setIfInBounds_toArray, List.set_cons_zero, List.set_cons_succ]
  refine wpAnyH_take (i := 6) (v := ?_) rfl (by kernel_rfl) (by kernel_rfl) (by kernel_rfl) (fun _ _ _ h => h) (Or.inl ⟨by rfl, ?_⟩) (by assumption) ?_
  rotate_left
  · (intro W hSw; (try dsimp only at hSw); obtain s1 := hSw; go_simp; try with_reducible rfl)
  try simp only [List.getElem_toArray, List.getElem_cons_succ, List.getElem_cons_zero, Act.put, List.setIfInBounds_toArray, List.set_cons_zero, List.set_cons_succ]
  refine wpAnyH_done (by kernel_rfl) ?_ _
  refine NoPanic.normal ?_
  clear hHeld c3
  have c4d : w.drew.cell? ⟨c, 4, none⟩ = some (.map (some um)) := c4
  have HD := hid (H.out.below (Below.refl _ w).drew)
  have HBd : Hid (Below w.heap.size w w.drew) := (Below.refl _ w).drew
  clear c4
  generalize w.drew = wd at *
  go_wp2_with (first
    | (at_range; refine wpList_range_own _ rfl (.tmp 15) 81 rfl 3 3 (int_keyed Tryz.underlying3) Tryz.underlying81 selfElem um 4096 D rfl HD.out.mapOwn ?_; intro w0 hrg0 hg0 hs0)
    | go_in)
  go_frame
  have hBg : Below wd.heap.size wd w0 := ⟨hg0.os, hg0.tape, hg0.output, hg0.size, fun k hk => hg0.block k hk (by simp)⟩
  have HB0 : Hid (Below w.heap.size w w0) := HBd.out.trans (hBg.mono HBd.out.size)
  have HRg0 := hid hrg0
  have HOl0 : Hid (OldTo u uses (Maps.has D) 0 (uses + 1)) := ⟨fun y j hy hl => (by
    have := H.out.there y (.int .i64 (j : Int)) (by simp [usedV, hy])
    rw [this] at hl
    cases hl), .inl rfl⟩
  have hri0 : w.heap.size ≤ wd.heap.size := HBd.out.size
  clear hrg0 hg0 hs0 hBg HD
  generalize hri : wd.heap.size = ri at *
  clear hri c4d
  go_loopw [3, 4] (fun a b wr => ∃ (left : Lit → Bool) (cnt : Nat) (pg : Int) (fi : Nat), a = .int .i64 pg ∧ b = .int .i64 (fi : Int) ∧ fi ≤ 1000001 ∧ Hid (wr.ranges Tryz.prog 3 selfElem um ri 4096 D left cnt) ∧ Hid (OldTo u uses left pg fi) ∧ Hid (Below w.heap.size w wr)) (fun _ _ wr => wr.rangeLeft um ri)
  case atStart => exact ⟨_, _, 0, uses + 1, rfl, by simp, by omega, HRg0, HOl0, HB0⟩
  case round =>
    obtain ⟨left, cnt, pg, fi, rfl, rfl, hfi, hrg, hOl, hBr⟩ := hrel
    clear HRg0 HOl0 HB0
    go_wp2_with (first
      | (at_next; refine wpList_next_ranges _ rfl (.tmp 16) rfl 3 (int_keyed Tryz.underlying3) selfElem encZ id (fun key kl hk => by obtain ⟨x, hx, _⟩ := Maps.keyOf_i64 Tryz.underlying3 hk; exact ⟨x, hx⟩) (fun v _ _ => ⟨v, rfl⟩) um ri 4096 _ _ _ rfl hrg.out ?_ ?_)
      | go_in)
    · -- nothing is left
      intro hc0 hl0
      have HOa : Hid (OldestAt u pg) := by
        obtain ⟨k0, hk0⟩ := Option.isSome_iff_exists.1 Hn0.out
        have h1 := hOl.out.1 n0 k0 hk0 (hl0 _)
        have h2 := HUb.out n0 k0 hk0
        rcases hOl.out.2 with e | e
        · omega
        · exact ⟨fi, e, fun y j hy => hOl.out.1 y j hy (hl0 _)⟩
      clear hc0 hl0 hrg
      go_wp2
      go_ret
      exact ⟨pg, rfl, HOa.out, hBr.out⟩
    · -- one has come
      intro x cv kl yd yp w2 cnt2 hkey hlk hv hat hrg2 hlt hg2 hs2 hen
      obtain ⟨x', ex, rfl, _⟩ := Maps.keyOf_i64 Tryz.underlying3 hkey
      obtain rfl : x = x' := encZ_inj ex
      have hsome : ∃ v, usedV u x = some v := by
        cases hv0 : usedV u x with
        | some v => exact ⟨v, rfl⟩
        | none =>
          have h1 := H.out.absent x hv0
          rw [has_true_of_atKey hat] at h1
          cases h1
      obtain ⟨v, hvx⟩ := hsome
      obtain ⟨k, hk, rfl⟩ := usedV_some hvx
      have hcv : cv = .int .i64 (k : Int) := by
        have e1 := selfElem_inv hv
        have e2 := hat (.held cv)
        rw [H.out.held x _ hvx] at e2
        rw [e1] at e2
        exact (DataW.held.inj e2).symm
      subst hcv
      have hku := HUb.out x k hk
      have HRg2 := hid hrg2
      have hKn : Keeps (fun i => i = ri) wr w2 := Keeps.of_grown hg2 (fun i e => (Option.some.inj e).symm)
      have HBr2 : Hid (Below w.heap.size w w2) := hBr.out.trans (hKn.below hBr.out.size (fun i e => by omega))
      have HLt := hid hlt
      have hsk : ∀ y, y ≠ x → (Lit.int .i64 y).sameKey (.int .i64 x) = false := fun y e => by simp [Lit.sameKey, e]
      by_cases hkf : k < fi
      · have HO2 : Hid (OldTo u uses (fun z => left z && !z.sameKey (.int .i64 x)) x k) := ⟨fun y j hy hl => (by
          by_cases e : y = x
          · subst e; rw [hk] at hy; have := Option.some.inj hy; omega
          · have := hOl.out.1 y j hy (by simpa [hsk y e] using hl); omega), .inr hk⟩
        have hkf' : (k : Int) < (fi : Int) := by omega
        clear hv hat hrg2 hg2 hs2 hKn hsk hvx hkf
        go_wp2
        refine ⟨⟨_, cnt2, x, k, rfl, rfl, by omega, HRg2, HO2, HBr2⟩, ?_⟩
        have h1 : w2.rangeLeft um ri = cnt2 := HRg2.out.left_eq
        rw [h1, hrg.out.left_eq]
        exact HLt.out
      · have HO2 : Hid (OldTo u uses (fun z => left z && !z.sameKey (.int .i64 x)) pg fi) := ⟨fun y j hy hl => (by
          by_cases e : y = x
          · subst e; rw [hk] at hy; have := Option.some.inj hy; omega
          · exact hOl.out.1 y j hy (by simpa [hsk y e] using hl)), hOl.out.2⟩
        have hkf' : ¬ ((k : Int) < (fi : Int)) := by omega
        clear hv hat hrg2 hg2 hs2 hKn hsk hvx hkf
        go_wp2
        refine ⟨⟨_, cnt2, pg, fi, rfl, rfl, hfi, HRg2, HO2, HBr2⟩, ?_⟩
        have h1 : w2.rangeLeft um ri = cnt2 := HRg2.out.left_eq
        rw [h1, hrg.out.left_eq]
        exact HLt.out
/-- One more is used. -/
def updN (u : Int → Option Nat) (n : Int) (k : Nat) : Int → Option Nat := fun y => if y = n then some k else u y
def delN (u : Int → Option Nat) (n : Int) : Int → Option Nat := fun y => if y = n then none else u y
theorem usedV_upd (u : Int → Option Nat) (n : Int) (k : Nat) : updV (usedV u) n (.int .i64 (k : Int)) = usedV (updN u n k) := by
  funext y; unfold updV usedV updN; by_cases e : y = n <;> simp [e]
theorem usedV_del (u : Int → Option Nat) (n : Int) : delV (usedV u) n = usedV (delN u n) := by
  funext y; unfold delV usedV delN; by_cases e : y = n <;> simp [e]
def usedCount (u : Int → Option Nat) (N : Nat) : Nat := (grpKeys (usedV u) N).length
/-- What is in use behind a use. -/
def UseTo (u : Int → Option Nat) (most N k : Nat) (n : Int) (u' : Int → Option Nat) : Prop :=
  (usedCount (updN u n k) N ≤ most ∧ u' = updN u n k) ∨ (most < usedCount (updN u n k) N ∧ ∃ x, OldestAt (updN u n k) x ∧ u' = delN (updN u n k) x)
theorem UseTo.ub {u u' : Int → Option Nat} {most N k : Nat} {n : Int} (h : UseTo u most N k n u') (hu : ∀ y j, u y = some j → j ≤ k) : ∀ y j, u' y = some j → j ≤ k := by
  have h1 : ∀ y j, updN u n k y = some j → j ≤ k := fun y j hy => by
    unfold updN at hy
    split at hy
    · have := Option.some.inj hy; omega
    · exact hu y j hy
  rcases h with ⟨_, rfl⟩ | ⟨_, x, _, rfl⟩
  · exact h1
  · intro y j hy
    unfold delN at hy
    split at hy
    · cases hy
    · exact h1 y j hy
set_option maxRecDepth 100000 in
set_option maxHeartbeats 2000000 in
theorem buse_any (u : Int → Option Nat) (a0 a1 : Value) (t : TypeId) (most uses : Nat) (hu : uses < 1000000) (hub : ∀ n k, u n = some k → k ≤ uses) (n : Int) (hn0 : 0 ≤ n) (hn1 : n < N) (hN : N ≤ 4096) (w : World)
    (hc : w.heap[c]? = some (.cells #[a0, a1, .int .i64 most, .int .i64 uses, .map (some um)] t (0, 0))) (h : GrpIn w um 4096 D N (usedV u)) :
    Calls Tryz.prog 60 #[.pointer (some ⟨c, 2, none⟩), .int .i64 n] w fun e w' => e = .returned (.tuple #[]) ∧ ∃ u' D', w'.heap[c]? = some (.cells #[a0, a1, .int .i64 most, .int .i64 (uses + 1 : Nat), .map (some um)] t (0, 0)) ∧ GrpIn w' um 4096 D' N (usedV u') ∧ UseTo u most N (uses + 1) n u' ∧ Keeps (fun i => i = c ∨ i = um) w w' := by
  have c2 : w.cell? ⟨c, 2, none⟩ = some (.int .i64 most) := cell_of_block hc 2
  have c3 : w.cell? ⟨c, 3, none⟩ = some (.int .i64 uses) := cell_of_block hc 3
  have c4 : w.cell? ⟨c, 4, none⟩ = some (.map (some um)) := cell_of_block hc 4
  have f3 := frozen_of_block hc 3
  have e1 : IntKind.i64.wrap ((uses : Int) + 1) = (uses : Int) + 1 := IntWalk.i64_in _ (by omega)
  have hcu : c ≠ um := fun e => by
    obtain ⟨es, k, hm⟩ := map_block h.mapOwn
    rw [e, hm] at hc
    cases hc
  have hc1 := block_setCell hc 3 (.int .i64 ((uses : Int) + 1))
  have hK1 : Keeps (fun i => i = c) w (w.setCell ⟨c, 3, none⟩ (.int .i64 ((uses : Int) + 1))) := (Keeps.refl _ _).grown (grown_setCell (grown_refl _ _) _ _) (fun i e => .inl (Option.some.inj e).symm)
  have HG1 := hid (h.keep hK1 (fun e => hcu e.symm))
  have HK1 := hid hK1
  have HC1 := hid hc1
  have HUb := hid hub
  have hcl := lt_of_heap hc
  clear hc h hK1 hub
  go_enter Tryz.func60, Tryz.ntmps60
  go_wp2
  have d2 : (w.setCell ⟨c, 3, none⟩ (.int .i64 ((uses : Int) + 1))).cell? ⟨c, 2, none⟩ = some (.int .i64 most) := cell_of_block hc1 2
  have d3 : (w.setCell ⟨c, 3, none⟩ (.int .i64 ((uses : Int) + 1))).cell? ⟨c, 3, none⟩ = some (.int .i64 ((uses : Int) + 1)) := cell_of_block hc1 3
  have d4 : (w.setCell ⟨c, 3, none⟩ (.int .i64 ((uses : Int) + 1))).cell? ⟨c, 4, none⟩ = some (.map (some um)) := cell_of_block hc1 4
  clear c2 c3 c4 f3 hc1
  generalize w.setCell ⟨c, 3, none⟩ (.int .i64 ((uses : Int) + 1)) = w1 at *
  refine wp_region_noPanic ?_
  refine wp_region_held_drew (S := fun W => W.cell? ⟨c, 3, none⟩ = some (.int .i64 ((uses : Int) + 1)) ∧ W.cell? ⟨c, 4, none⟩ = some (.map (some um))) (by kernel_rfl) ⟨d3, d4⟩ (fun hHeld => ?_)
  refine wpAnyH_take (i := 0) (v := ?_) rfl (by kernel_rfl) (by kernel_rfl) (by kernel_rfl) (fun _ _ _ h => h) (Or.inl ⟨by rfl, ?_⟩) (by assumption) ?_
  rotate_left
  · (intro W hSw; (try dsimp only at hSw); obtain ⟨s1, s2⟩ := hSw; go_simp; try with_reducible rfl)
  try simp only [List.getElem_toArray, List.getElem_cons_zero, Act.put, List.setIfInBounds_toArray, List.set_cons_zero, List.set_cons_succ]
  refine wpAnyH_take (i := 1) (v := ?_) rfl (by kernel_rfl) (by kernel_rfl) (by kernel_rfl) (fun _ _ _ h => h) (Or.inl ⟨by rfl, ?_⟩) (by assumption) ?_
  rotate_left
  · (intro W hSw; (try dsimp only at hSw); obtain ⟨s1, s2⟩ := hSw; go_simp; try with_reducible rfl)
  try simp only [List.getElem_toArray, List.getElem_cons_succ, List.getElem_cons_zero, Act.put, List.setIfInBounds_toArray, List.set_cons_zero, List.set_cons_succ]
  refine wpAnyH_take (i := 2) (v := ?_) rfl (by kernel_rfl) (by kernel_rfl) (by kernel_rfl) (fun _ _ _ h => h) (Or.inl ⟨by rfl, ?_⟩) (by assumption) ?_
  rotate_left
  · (intro W hSw; (try dsimp only at hSw); obtain ⟨s1, s2⟩ := hSw; go_simp; try with_reducible rfl)
  try simp only [List.getElem_toArray, List.getElem_cons_succ, List.getElem_cons_zero, Act.put, List.setIfInBounds_toArray, List.set_cons_zero, List.set_cons_succ]
  refine wpAnyH_take (i := 3) (v := ?_) rfl (by kernel_rfl) (by kernel_rfl) (by kernel_rfl) (fun _ _ _ h => h) (Or.inl ⟨by rfl, ?_⟩) (by assumption) ?_
  rotate_left
  · (intro W hSw; (try dsimp only at hSw); obtain ⟨s1, s2⟩ := hSw; go_simp; try with_reducible rfl)
  try simp only [List.getElem_toArray, List.getElem_cons_succ, List.getElem_cons_zero, Act.put, List.setIfInBounds_toArray, List.set_cons_zero, List.set_cons_succ]
  refine wpAnyH_take (i := 4) (v := ?_) rfl (by kernel_rfl) (by kernel_rfl) (by kernel_rfl) (fun _ _ _ h => h) (Or.inl ⟨by rfl, ?_⟩) (by assumption) ?_
  rotate_left
  · (intro W hSw; (try dsimp only at hSw); obtain ⟨s1, s2⟩ := hSw; go_simp; try with_reducible rfl)
  try simp only [List.getElem_toArray, List.getElem_cons_succ, List.getElem_cons_zero, Act.put, List.setIfInBounds_toArray, List.set_cons_zero, List.set_cons_succ]
  refine wpAnyH_take (i := 5) (v := ?_) rfl (by kernel_rfl) (by kernel_rfl) (by kernel_rfl) (fun _ _ _ h => h) (Or.inl ⟨by rfl, ?_⟩) (by assumption) ?_
  rotate_left
  · (intro W hSw; (try dsimp only at hSw); obtain ⟨s1, s2⟩ := hSw; go_simp; try with_reducible rfl)
  try simp only [List.getElem_toArray, List.getElem_cons_succ, List.getElem_cons_zero, Act.put, List.setIfInBounds_toArray, List.set_cons_zero, List.set_cons_succ]
  refine wpAnyH_take (i := 6) (v := ?_) rfl (by kernel_rfl) (by kernel_rfl) (by kernel_rfl) (fun _ _ _ h => h) (Or.inl ⟨by rfl, ?_⟩) (by assumption) ?_
  rotate_left
  · (intro W hSw; (try dsimp only at hSw); obtain ⟨s1, s2⟩ := hSw; go_simp; try with_reducible rfl)
  try simp only [List.getElem_toArray, List.getElem_cons_succ, List.getElem_cons_zero, Act.put, List.setIfInBounds_toArray, List.set_cons_zero, List.set_cons_succ]
  refine wpAnyH_take (i := 7) (v := ?_) rfl (by kernel_rfl) (by kernel_rfl) (by kernel_rfl) (fun _ _ _ h => h) (Or.inl ⟨by rfl, ?_⟩) (by assumption) ?_
  rotate_left
  · (intro W hSw; (try dsimp only at hSw); obtain ⟨s1, s2⟩ := hSw; go_simp; try with_reducible rfl)
  try simp only [List.getElem_toArray, List.getElem_cons_succ, List.getElem_cons_zero, Act.put, List.setIfInBounds_toArray, List.set_cons_zero, List.set_cons_succ]
  refine wpAnyH_take (i := 8) (v := ?_) rfl (by kernel_rfl) (by kernel_rfl) (by kernel_rfl) (fun _ _ _ h => h) (Or.inl ⟨by rfl, ?_⟩) (by assumption) ?_
  rotate_left
  · (intro W hSw; (try dsimp only at hSw); obtain ⟨s1, s2⟩ := hSw; go_simp; try with_reducible rfl)
  try simp only [List.getElem_toArray, List.getElem_cons_succ, List.getElem_cons_zero, Act.put, List.setIfInBounds_toArray, List.set_cons_zero, List.set_cons_succ]
  refine wpAnyH_ready (rs := [9]) (by kernel_rfl) (by simp) (AllReadyH.cons rfl (fun K hK => ?_) AllReadyH.nil)
  rw [if_pos (by rfl)]
  refine wp_mapUpdate_self (.tmp 14) (.tmp 15) (.tmp 19) 81 rfl 3 3 (int_keyed Tryz.underlying3) Tryz.underlying81 um 4096 D rfl (HG1.out.below (Below.refl _ _).drew).mapOwn (by unfold maxLen; omega) (.int .i64 n) (.int .i64 ((uses : Int) + 1)) (.int .i64 n) rfl rfl (keyI (by omega) (by omega)) ?_
  intro w2 hown2 hgr2
  have hG2 := ((HG1.out.below (Below.refl _ w1).drew).put hn0 hn1 hown2).norm hN
  rw [show ((uses : Int) + 1) = ((uses + 1 : Nat) : Int) by omega, usedV_upd] at hG2
  have HG2 := hid hG2
  have hK2 : Keeps (fun i => i = um) w1 w2 := (Keeps.of_below (Below.refl _ w1).drew).grown hgr2 (fun i e => .inl (Option.some.inj e).symm)
  have hc2 := hK2.heap HC1.out (fun e => hcu e)
  have HC2 := hid hc2
  have HK2 := hid ((HK1.out.mono (G := fun i => i = c ∨ i = um) (fun i e => .inl e)).trans hK2 (fun i e => .inl (.inr e)))
  have t2 : w2.cell? ⟨c, 2, none⟩ = some (.int .i64 most) := cell_of_block hc2 2
  have t3 : w2.cell? ⟨c, 3, none⟩ = some (.int .i64 ((uses : Int) + 1)) := cell_of_block hc2 3
  have t4 : w2.cell? ⟨c, 4, none⟩ = some (.map (some um)) := cell_of_block hc2 4
  obtain ⟨M, hM⟩ : ∃ M, M = usedCount (updN u n (uses + 1)) N := ⟨_, rfl⟩
  have hlen : ∀ ty, (Builtin.len_ #[81] ty #[.map (some um)]).run Tryz.prog w2.drew = .ok (.int .i64 (M : Int)) w2.drew := fun ty => by
    have := (hG2.below (Below.refl _ w2).drew).mapOwn.len Tryz.underlying81 ty
    rw [hG2.size] at this
    rw [hM]
    exact this
  have HM := hid hM
  generalize hD2 : D.put (Lit.int .i64 n) (.held (.int .i64 ((uses : Int) + 1))) = D2 at *
  clear hG2 hK2 hc2 hown2 hgr2 hD2 d2 d3 d4 HG1 HC1 hM HK1
  refine hK.out _ _ ⟨t3, t4⟩ (fun hHeld => ?_)
  clear hK K
  refine wpAnyH_done (by kernel_rfl) ?_ _
  refine NoPanic.normal ?_
  clear hHeld
  have hMu : Hid (M ≤ 4096) := by
    unfold Hid
    rw [HM.out]
    exact Nat.le_trans (length_grpKeys_le _ _) hN
  have hM4 := hMu.out
  by_cases hmm : most < M
  · have hd : decide ((M : Int) > (most : Int)) = true := decide_eq_true (by omega)
    have hub2 : ∀ y k, updN u n (uses + 1) y = some k → k ≤ uses + 1 := fun y k hy => by
      unfold updN at hy
      split at hy
      · have := Option.some.inj hy; omega
      · have := HUb.out y k hy; omega
    have t3' : w2.drew.cell? ⟨c, 3, none⟩ = some (.int .i64 (uses + 1 : Nat)) := t3
    have HOl := hid (boldest_any (c := c) (updN u n (uses + 1)) (uses + 1) (by omega) hub2 n (by simp [updN]) w2.drew t3' t4 (HG2.out.below (Below.refl _ _).drew))
    go_wp2
    refine wp_region_noPanic ?_
    refine wp_region_held_drew (S := fun W => W.cell? ⟨c, 2, none⟩ = some (.int .i64 most) ∧ W.cell? ⟨c, 4, none⟩ = some (.map (some um)) ∧ ∀ ty, (Builtin.len_ #[81] ty #[.map (some um)]).run Tryz.prog W = .ok (.int .i64 (M : Int)) W) (by kernel_rfl) ⟨t2, t4, hlen⟩ (fun hHeld => ?_)
    refine wpAnyH_take (i := 0) (v := ?_) rfl (by kernel_rfl) (by kernel_rfl) (by kernel_rfl) (fun _ _ _ h => h) (Or.inl ⟨by rfl, ?_⟩) (by assumption) ?_
    rotate_left
    · (intro W hSw; (try dsimp only at hSw); obtain ⟨s1, s2, s3⟩ := hSw; go_simp; try with_reducible rfl)
    try simp only [List.getElem_toArray, List.getElem_cons_zero, Act.put, List.setIfInBounds_toArray]
    refine wpAnyH_take (i := 1) (v := ?_) rfl (by kernel_rfl) (by kernel_rfl) (by kernel_rfl) (fun _ _ _ h => h) (Or.inl ⟨by rfl, ?_⟩) (by assumption) ?_
    rotate_left
    · (intro W hSw; (try dsimp only at hSw); obtain ⟨s1, s2, s3⟩ := hSw; go_simp; try with_reducible rfl)
    try simp only [List.getElem_toArray, List.getElem_cons_succ, List.getElem_cons_zero, Act.put, List.setIfInBounds_toArray, List.set_cons_zero, List.set_cons_succ]
    refine wpAnyH_take (i := 2) (v := ?_) rfl (by kernel_rfl) (by kernel_rfl) (by kernel_rfl) (fun _ _ _ h => h) (Or.inl ⟨by rfl, ?_⟩) (by assumption) ?_
    rotate_left
    · (intro W hSw; (try dsimp only at hSw); obtain ⟨s1, s2, s3⟩ := hSw; go_simp; try with_reducible rfl)
    try simp only [List.getElem_toArray, List.getElem_cons_succ, List.getElem_cons_zero, Act.put, List.setIfInBounds_toArray, List.set_cons_zero, List.set_cons_succ]
    refine wpAnyH_take (i := 3) (v := ?_) rfl (by kernel_rfl) (by kernel_rfl) (by kernel_rfl) (fun _ _ _ h => h) (Or.inl ⟨by rfl, ?_⟩) (by assumption) ?_
    rotate_left
    · (intro W hSw; (try dsimp only at hSw); obtain ⟨s1, s2, s3⟩ := hSw; go_simp; try with_reducible rfl)
    try simp only [List.getElem_toArray, List.getElem_cons_succ, List.getElem_cons_zero, Act.put, List.setIfInBounds_toArray, List.set_cons_zero, List.set_cons_succ]
    refine wpAnyH_take (i := 4) (v := .int .i64 (M : Int)) rfl (by kernel_rfl) (by kernel_rfl) (by kernel_rfl) (fun _ _ _ h => h) (Or.inl ⟨by rfl, ?_⟩) (by assumption) ?_
    · (intro W hSw; (try dsimp only at hSw); obtain ⟨s1, s2, s3⟩ := hSw; go_simp; try first | with_reducible rfl | go_num | (rw [if_pos (by assumption)]; simp only [*]) | simp only [*])
    try simp only [List.getElem_toArray, List.getElem_cons_succ, List.getElem_cons_zero, Act.put, List.setIfInBounds_toArray, List.set_cons_zero, List.set_cons_succ]
    refine wpAnyH_take (i := 5) (v := ?_) rfl (by kernel_rfl) (by kernel_rfl) (by kernel_rfl) (fun _ _ _ h => h) (Or.inl ⟨by rfl, ?_⟩) (by assumption) ?_
    rotate_left
    · (intro W hSw; (try dsimp only at hSw); obtain ⟨s1, s2, s3⟩ := hSw; go_simp; try with_reducible rfl)
    try simp only [List.getElem_toArray, List.getElem_cons_succ, List.getElem_cons_zero, Act.put, List.setIfInBounds_toArray, List.set_cons_zero, List.set_cons_succ]
    refine wpAnyH_take (i := 6) (v := ?_) rfl (by kernel_rfl) (by kernel_rfl) (by kernel_rfl) (fun _ _ _ h => h) (Or.inl ⟨by rfl, ?_⟩) (by assumption) ?_
    rotate_left
    · (intro W hSw; (try dsimp only at hSw); obtain ⟨s1, s2, s3⟩ := hSw; go_simp; try with_reducible rfl)
    try simp only [List.getElem_toArray, List.getElem_cons_succ, List.getElem_cons_zero, Act.put, List.setIfInBounds_toArray, List.set_cons_zero, List.set_cons_succ]
    refine wpAnyH_take (i := 7) (v := ?_) rfl (by kernel_rfl) (by kernel_rfl) (by kernel_rfl) (fun _ _ _ h => h) (Or.inl ⟨by rfl, ?_⟩) (by assumption) ?_
    rotate_left
    · (intro W hSw; (try dsimp only at hSw); obtain ⟨s1, s2, s3⟩ := hSw; go_simp; try with_reducible rfl)
    try simp only [List.getElem_toArray, List.getElem_cons_succ, List.getElem_cons_zero, Act.put, List.setIfInBounds_toArray, List.set_cons_zero, List.set_cons_succ]
    refine wpAnyH_take (i := 8) (v := ?_) rfl (by kernel_rfl) (by kernel_rfl) (by kernel_rfl) (fun _ _ _ h => h) (Or.inl ⟨by rfl, ?_⟩) (by assumption) ?_
    rotate_left
    · (intro W hSw; (try dsimp only at hSw); obtain ⟨s1, s2, s3⟩ := hSw; go_simp; try with_reducible rfl)
    try simp only [List.getElem_toArray, List.getElem_cons_succ, List.getElem_cons_zero, Act.put, List.setIfInBounds_toArray, List.set_cons_zero, List.set_cons_succ]
    refine wpAnyH_take (i := 9) (v := .bool true) rfl (by kernel_rfl) (by kernel_rfl) (by kernel_rfl) (fun _ _ _ h => h) (Or.inl ⟨by rfl, ?_⟩) (by assumption) ?_
    · (intro W hSw; (try dsimp only at hSw); obtain ⟨s1, s2, s3⟩ := hSw; go_simp; try first | with_reducible rfl | go_num | (rw [if_pos (by assumption)]; simp only [*]) | simp only [*])
    try simp only [List.getElem_toArray, List.getElem_cons_succ, List.getElem_cons_zero, Act.put, List.setIfInBounds_toArray, List.set_cons_zero, List.set_cons_succ]
    refine wpAnyH_done (by kernel_rfl) ?_ _
    refine NoPanic.normal ?_
    clear hHeld
    go_wp2_with fail
    refine HOl.out.mono ?_
    clear HOl
    rintro e w3 ⟨x, rfl, hO3, hb3⟩
    have hb23 : Below w2.heap.size w2 w3 := (Below.refl _ w2).drew.trans (hb3.mono (Nat.le_refl _))
    have hG3 := HG2.out.below hb23
    have HC3 := hid (below_block hb23 HC2.out (lt_of_heap HC2.out))
    have x4 : w3.cell? ⟨c, 4, none⟩ = some (.map (some um)) := (hb23.cell (p := ⟨c, 4, none⟩) (World.block_lt_of_cell? w2 _ t4)).trans t4
    have HO3 := hid hO3
    obtain ⟨xk, hxk, -⟩ := hO3
    have hxd := hG3.dom x (.int .i64 (xk : Int)) (by simp [usedV, hxk])
    have HDr := hid (bdrop_any (c := c) (usedV (updN u n (uses + 1))) x (by omega) (by omega) w3 x4 hG3)
    have HK3 := hid (HK2.out.andBelow hb23)
    clear hb3 hb23 hG3
    go_wp2_with fail
    refine HDr.out.mono ?_
    clear HDr
    rintro e w4 ⟨rfl, D4, hG4, hg4⟩
    rw [usedV_del] at hG4
    have HG4 := hid hG4
    have hK34 : Keeps (fun i => i = um) w3 w4 := (Keeps.refl _ w3).grown hg4 (fun i e => .inl (Option.some.inj e).symm)
    have HC4 := hid (hK34.heap HC3.out (fun e => hcu e))
    have HK4 := hid (HK3.out.trans hK34 (fun i e => .inl (.inr e)))
    clear hG4 hg4 hK34
    go_wp2
    go_end0
    exact ⟨rfl, delN (updN u n (uses + 1)) x, D4, (by have h := HC4.out; rw [show ((uses : Int) + 1) = ((uses + 1 : Nat) : Int) by omega] at h; exact h), HG4.out, .inr ⟨by rw [← HM.out]; exact hmm, x, HO3.out, rfl⟩, HK4.out⟩
  · have hd : decide ((M : Int) > (most : Int)) = false := decide_eq_false (by omega)
    go_wp2
    refine wp_region_noPanic ?_
    refine wp_region_held_drew (S := fun W => W.cell? ⟨c, 2, none⟩ = some (.int .i64 most) ∧ W.cell? ⟨c, 4, none⟩ = some (.map (some um)) ∧ ∀ ty, (Builtin.len_ #[81] ty #[.map (some um)]).run Tryz.prog W = .ok (.int .i64 (M : Int)) W) (by kernel_rfl) ⟨t2, t4, hlen⟩ (fun hHeld => ?_)
    refine wpAnyH_take (i := 0) (v := ?_) rfl (by kernel_rfl) (by kernel_rfl) (by kernel_rfl) (fun _ _ _ h => h) (Or.inl ⟨by rfl, ?_⟩) (by assumption) ?_
    rotate_left
    · (intro W hSw; (try dsimp only at hSw); obtain ⟨s1, s2, s3⟩ := hSw; go_simp; try with_reducible rfl)
    try simp only [List.getElem_toArray, List.getElem_cons_zero, Act.put, List.setIfInBounds_toArray]
    refine wpAnyH_take (i := 1) (v := ?_) rfl (by kernel_rfl) (by kernel_rfl) (by kernel_rfl) (fun _ _ _ h => h) (Or.inl ⟨by rfl, ?_⟩) (by assumption) ?_
    rotate_left
    · (intro W hSw; (try dsimp only at hSw); obtain ⟨s1, s2, s3⟩ := hSw; go_simp; try with_reducible rfl)
    try simp only [List.getElem_toArray, List.getElem_cons_succ, List.getElem_cons_zero, Act.put, List.setIfInBounds_toArray, List.set_cons_zero, List.set_cons_succ]
    refine wpAnyH_take (i := 2) (v := ?_) rfl (by kernel_rfl) (by kernel_rfl) (by kernel_rfl) (fun _ _ _ h => h) (Or.inl ⟨by rfl, ?_⟩) (by assumption) ?_
    rotate_left
    · (intro W hSw; (try dsimp only at hSw); obtain ⟨s1, s2, s3⟩ := hSw; go_simp; try with_reducible rfl)
    try simp only [List.getElem_toArray, List.getElem_cons_succ, List.getElem_cons_zero, Act.put, List.setIfInBounds_toArray, List.set_cons_zero, List.set_cons_succ]
    refine wpAnyH_take (i := 3) (v := ?_) rfl (by kernel_rfl) (by kernel_rfl) (by kernel_rfl) (fun _ _ _ h => h) (Or.inl ⟨by rfl, ?_⟩) (by assumption) ?_
    rotate_left
    · (intro W hSw; (try dsimp only at hSw); obtain ⟨s1, s2, s3⟩ := hSw; go_simp; try with_reducible rfl)
    try simp only [List.getElem_toArray, List.getElem_cons_succ, List.getElem_cons_zero, Act.put, List.setIfInBounds_toArray, List.set_cons_zero, List.set_cons_succ]
    refine wpAnyH_take (i := 4) (v := .int .i64 (M : Int)) rfl (by kernel_rfl) (by kernel_rfl) (by kernel_rfl) (fun _ _ _ h => h) (Or.inl ⟨by rfl, ?_⟩) (by assumption) ?_
    · (intro W hSw; (try dsimp only at hSw); obtain ⟨s1, s2, s3⟩ := hSw; go_simp; try first | with_reducible rfl | go_num | (rw [if_pos (by assumption)]; simp only [*]) | simp only [*])
    try simp only [List.getElem_toArray, List.getElem_cons_succ, List.getElem_cons_zero, Act.put, List.setIfInBounds_toArray, List.set_cons_zero, List.set_cons_succ]
    refine wpAnyH_take (i := 5) (v := ?_) rfl (by kernel_rfl) (by kernel_rfl) (by kernel_rfl) (fun _ _ _ h => h) (Or.inl ⟨by rfl, ?_⟩) (by assumption) ?_
    rotate_left
    · (intro W hSw; (try dsimp only at hSw); obtain ⟨s1, s2, s3⟩ := hSw; go_simp; try with_reducible rfl)
    try simp only [List.getElem_toArray, List.getElem_cons_succ, List.getElem_cons_zero, Act.put, List.setIfInBounds_toArray, List.set_cons_zero, List.set_cons_succ]
    refine wpAnyH_take (i := 6) (v := ?_) rfl (by kernel_rfl) (by kernel_rfl) (by kernel_rfl) (fun _ _ _ h => h) (Or.inl ⟨by rfl, ?_⟩) (by assumption) ?_
    rotate_left
    · (intro W hSw; (try dsimp only at hSw); obtain ⟨s1, s2, s3⟩ := hSw; go_simp; try with_reducible rfl)
    try simp only [List.getElem_toArray, List.getElem_cons_succ, List.getElem_cons_zero, Act.put, List.setIfInBounds_toArray, List.set_cons_zero, List.set_cons_succ]
    refine wpAnyH_take (i := 7) (v := ?_) rfl (by kernel_rfl) (by kernel_rfl) (by kernel_rfl) (fun _ _ _ h => h) (Or.inl ⟨by rfl, ?_⟩) (by assumption) ?_
    rotate_left
    · (intro W hSw; (try dsimp only at hSw); obtain ⟨s1, s2, s3⟩ := hSw; go_simp; try with_reducible rfl)
    try simp only [List.getElem_toArray, List.getElem_cons_succ, List.getElem_cons_zero, Act.put, List.setIfInBounds_toArray, List.set_cons_zero, List.set_cons_succ]
    refine wpAnyH_take (i := 8) (v := ?_) rfl (by kernel_rfl) (by kernel_rfl) (by kernel_rfl) (fun _ _ _ h => h) (Or.inl ⟨by rfl, ?_⟩) (by assumption) ?_
    rotate_left
    · (intro W hSw; (try dsimp only at hSw); obtain ⟨s1, s2, s3⟩ := hSw; go_simp; try with_reducible rfl)
    try simp only [List.getElem_toArray, List.getElem_cons_succ, List.getElem_cons_zero, Act.put, List.setIfInBounds_toArray, List.set_cons_zero, List.set_cons_succ]
    refine wpAnyH_take (i := 9) (v := .bool false) rfl (by kernel_rfl) (by kernel_rfl) (by kernel_rfl) (fun _ _ _ h => h) (Or.inl ⟨by rfl, ?_⟩) (by assumption) ?_
    · (intro W hSw; (try dsimp only at hSw); obtain ⟨s1, s2, s3⟩ := hSw; go_simp; try first | with_reducible rfl | go_num | (rw [if_pos (by assumption)]; simp only [*]) | simp only [*])
    try simp only [List.getElem_toArray, List.getElem_cons_succ, List.getElem_cons_zero, Act.put, List.setIfInBounds_toArray, List.set_cons_zero, List.set_cons_succ]
    refine wpAnyH_done (by kernel_rfl) ?_ _
    refine NoPanic.normal ?_
    clear hHeld
    go_wp2
    go_end0
    exact ⟨rfl, updN u n (uses + 1), _, (by have h := HC2.out; rw [show ((uses : Int) + 1) = ((uses + 1 : Nat) : Int) by omega] at h; exact h), HG2.out.below (Below.refl _ _).drew, .inl ⟨by rw [← HM.out]; omega, rfl⟩, HK2.out.drew⟩
end
end Go.Proofs.YtjgclmlclkfgpaaGreat
