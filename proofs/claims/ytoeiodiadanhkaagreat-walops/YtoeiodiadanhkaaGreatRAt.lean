/- The reference's at, Image, Safe. -/
import Derived.Test.YtoeiodiadanhkaaGreatJoined2
import Derived.Test.YtoeiodiadanhkaaGreatRef4
namespace Go.Proofs.YtoeiodiadanhkaaGreat
open Go.RowKit
/-- The sectors behind the first k ops. -/
def atL (R : RefS) : Nat → List (List UInt8)
  | 0 => R.first
  | k + 1 => if h : k < R.l.length then (if R.l[k].flush then atL R k else (atL R k).set R.l[k].n.toNat R.l[k].b) else atL R k
/-- Sectors of 512 bytes, ops within them. -/
def okR (R : RefS) : Prop := R.first.length ≤ 4096 ∧ (∀ l ∈ R.first, l.length = 512) ∧ ∀ o ∈ R.l, o.flush = false → 0 ≤ o.n ∧ o.n < R.first.length ∧ o.b.length = 512
theorem length_atL (R : RefS) : ∀ k, (atL R k).length = R.first.length
  | 0 => rfl
  | k + 1 => by
    have := length_atL R k
    unfold atL
    split
    · split <;> simp [this]
    · exact this
/-- One row is another now. -/
theorem copiedTo_set {w w1 : World} {lo go N c i g cap : Nat} {vs : List Value} {L : List (List UInt8)} {b : List UInt8} (h : copiedTo w lo (.slice (some ⟨go, 0, none⟩) N c) vs L N) (hlo : lo ≤ w.heap.size) (hB : Below w.heap.size w w1)
    (hg1 : w.heap.size ≤ g) (hg2 : g < w1.heap.size) (hb : bytesIn w1 (some ⟨g, 0, none⟩) b) (hi : i < N) (hL : L.length = N) :
    copiedTo (w1.setCell ⟨go, i, none⟩ (.slice (some ⟨g, 0, none⟩) b.length cap)) lo (.slice (some ⟨go, 0, none⟩) N c) (vs.set i (.slice (some ⟨g, 0, none⟩) b.length cap)) (L.set i b) N := by
  have hrow := (Keeps.of_below (F := fun _ => False) hB).row h.1 (fun _ _ e => e)
  have hgo := (h.1.lt go rfl).2
  have hl : vs.length = N := by have := h.1.1; omega
  have hK : Keeps (fun i => i = go) w1 (w1.setCell ⟨go, i, none⟩ (.slice (some ⟨g, 0, none⟩) b.length cap)) := Keeps.of_grown (r := some go) (grown_setCell (grown_refl _ _) _ _) (fun i e => (Option.some.inj e).symm)
  have hs1 := hB.size
  have hs2 := hK.size
  refine ⟨(hrow.stored i _).1, fun j hj hjN => ?_⟩
  by_cases e : j = i
  · subst e
    refine ⟨g, cap, ?_, by omega, by omega, fun e => ?_, ?_⟩
    · rw [List.getElem?_set_self (by omega), List.getElem_set_self]
    · have e2 : go = g := Option.some.inj e
      omega
    · rw [List.getElem_set_self]
      exact hb.keep (Rd := fun i => i = g) hK (fun ad e => by rw [← Option.some.inj e]) (fun i e hn => by omega)
  · have hj' : j < L.length := by simpa using hj
    obtain ⟨gi, ci, h1, h2, h3, h4, h5⟩ := h.2 j hj' hjN
    have e3 : (L.set i b)[j] = L[j] := List.getElem_set_ne (by omega) _
    refine ⟨gi, ci, by rw [List.getElem?_set_ne (by omega), e3]; exact h1, h2, by omega, h4, ?_⟩
    rw [e3]
    exact (h5.below hB).keep (Rd := fun i => i = gi) hK (fun ad e => by rw [← Option.some.inj e]) (fun i e hn => by subst e hn; exact h4 rfl)
set_option maxRecDepth 100000 in
set_option maxHeartbeats 2000000 in
theorem rat_own (r : Nat) (fv lv : Value) (vs : List Value) (Rd : Nat → Prop) (R : RefS) (n : Nat) (w : World) (h : RefIn w r fv lv vs Rd R) (hR : okR R) (hn : n ≤ R.l.length) (hm : R.l.length ≤ 1000000) :
    Calls Tryz.prog 67 #[.pointer (some ⟨r, 0, none⟩), .int .i64 n] w fun e w' => Below w.heap.size w w' ∧ ∃ a' c' vk, e = .returned (.slice a' R.first.length c') ∧ copiedTo w' w.heap.size (.slice a' R.first.length c') vk (atL R n) R.first.length := by
  obtain ⟨a, c, hfv, hrows, -⟩ := h.first
  have c0 : w.cell? ⟨r, 0, none⟩ = some (.slice a R.first.length c) := by rw [cell_of_block h.heap, ← hfv]; rfl
  have HC := hid (copyAll_rows R.first a c w hrows hR.1 hR.2.1)
  have H := hid h
  have HR := hid hR
  clear h hR hrows hfv
  go_enter Tryz.func67, Tryz.ntmps67
  go_wp2_with fail
  refine HC.out.mono ?_
  clear HC
  rintro e w1 ⟨v, vs1, rfl, hM, hB⟩
  have HM := hid hM
  have HB := hid hB
  clear hM hB
  go_wp2
  obtain ⟨a', c', rfl⟩ : ∃ a' c', v = .slice a' R.first.length c' := by
    obtain ⟨sa, cp, e, _⟩ := row_slice HM.out.1
    exact ⟨sa, cp, e⟩
  go_loopw [6] (fun i wr => ∃ (k : Nat) (vk : List Value), k ≤ n ∧ i = .int .i64 k ∧ Hid (copiedTo wr w.heap.size (.slice a' R.first.length c') vk (atL R k) R.first.length) ∧ Hid (Below w.heap.size w wr)) (fun i _ => n - (intOf i).toNat)
  case atStart => exact ⟨0, vs1, by omega, rfl, HM.out, HB.out⟩
  case round =>
    obtain ⟨k, vk, hk, rfl, hM, hBr⟩ := hrel
    by_cases hlt : k < n
    · have hk0 : (0 : Int) ≤ (k : Int) := by omega
      have hk1 : (k : Int) < (n : Int) := by omega
      have hkl : k < R.l.length := by omega
      have hk2 : (k : Int) < (R.l.length : Int) := by omega
      have hH := H.out.below hBr.out
      obtain ⟨sa, cap, hlv, hs⟩ := H.out.slice
      have hkv : k < vs.length := by rw [← hH.len]; exact hkl
      obtain ⟨g, rfl, q0w, q1w, q2w⟩ := hs k hkl hkv
      have hgw := World.block_lt_of_cell? w _ q0w
      have hrw := lt_of_heap H.out.heap
      have q0 := (hBr.out.cell (p := ⟨g, k * 3, none⟩) hgw).trans q0w
      have q1 := (hBr.out.cell (p := ⟨g, k * 3 + 1, none⟩) hgw).trans q1w
      have q2 := (hBr.out.cell (p := ⟨g, k * 3 + 2, none⟩) hgw).trans q2w
      clear q0w q1w q2w
      obtain ⟨ab, cb, ev, hby, -⟩ := hH.bytes k hkl hkv
      have t1 : wr.cell? ⟨r, 1, none⟩ = some (.slice (some ⟨g, 0, none⟩) R.l.length cap) := by rw [cell_of_block hH.heap, ← hlv]; rfl
      have HA : Hid (atL R (k + 1) = if R.l[k].flush then atL R k else (atL R k).set R.l[k].n.toNat R.l[k].b) := by simp [Hid, atL, hkl]
      have HLA := hid (length_atL R k)
      cases hf : R.l[k].flush
      · obtain ⟨n0, n1, n5⟩ := HR.out.2.2 R.l[k] (List.getElem_mem hkl) hf
        rw [hf] at q0
        simp only [hf, Bool.false_eq_true, if_false] at HA
        rw [ev] at q2
        obtain ⟨sa2, cp2, e2, hr2⟩ := row_slice hM.out.1
        simp only [Value.slice.injEq, true_and] at e2
        obtain ⟨rfl, rfl⟩ := e2
        obtain ⟨go, rfl, hgo, hglo, hcv⟩ := hr2 R.l[k].n.toNat (by omega)
        obtain ⟨gi, ci, y1, -⟩ := hM.out.2 R.l[k].n.toNat (by rw [HLA.out]; omega) (by omega)
        obtain ⟨vo, cg⟩ : ∃ vo, wr.cell? ⟨go, R.l[k].n.toNat, none⟩ = some vo := ⟨_, (hcv R.l[k].n.toNat (by omega)).trans y1⟩
        clear y1
        have fg : wr.frozen? ⟨go, R.l[k].n.toNat, none⟩ = false := hM.out.1.frozenAt _
        have HCp := hid (fun W (hW : Below wr.heap.size wr W) => copy_any R.l[k].b ab cb W (hby.below hW) (by omega) (by omega))
        rw [n5] at q2 HCp
        generalize R.l[k].n = nn at *
        generalize R.l[k].b = bb at *
        have HSet := hid (fun w1 g cap (x1 : Below wr.heap.size wr w1) (x2 : wr.heap.size ≤ g) (x3 : g < w1.heap.size) (x4 : bytesIn w1 (some ⟨g, 0, none⟩) bb) => copiedTo_set (i := nn.toNat) (cap := cap) hM.out hBr.out.size x1 x2 x3 x4 (by omega) HLA.out)
        rw [n5] at HSet
        clear hs hby ev hlv hH hcv hr2 hM
        go_wp2
        refine wp_region_noPanic ?_
        refine wp_region_held_drew (S := fun W => W.cell? ⟨r, 1, none⟩ = some (.slice (some ⟨g, 0, none⟩) R.l.length cap) ∧ W.cell? ⟨g, k * 3 + 1, none⟩ = some (.int .i64 nn) ∧ W.cell? ⟨g, k * 3 + 2, none⟩ = some (.slice ab 512 cb)) (by kernel_rfl) ⟨t1, q1, q2⟩ (fun hHeld => ?_)
        refine wpAnyH_take (i := 0) (v := ?_) rfl (by kernel_rfl) (by kernel_rfl) (by kernel_rfl) (fun _ _ _ h => h) (Or.inl ⟨by rfl, ?_⟩) (by assumption) ?_
        rotate_left
        · (intro W hSw; (try dsimp only at hSw); obtain ⟨s1, s2, s3⟩ := hSw; go_simp; try with_reducible rfl)
        try simp only [List.getElem_toArray, List.getElem_cons_zero, Act.put, List.setIfInBounds_toArray, List.set_cons_zero, List.set_cons_succ]
        refine wpAnyH_take (i := 1) (v := ?_) rfl (by kernel_rfl) (by kernel_rfl) (by kernel_rfl) (fun _ _ _ h => h) (Or.inl ⟨by rfl, ?_⟩) (by assumption) ?_
        rotate_left
        · (intro W hSw; (try dsimp only at hSw); obtain ⟨s1, s2, s3⟩ := hSw; go_simp; try with_reducible rfl)
        try simp only [List.getElem_toArray, List.getElem_cons_succ, List.getElem_cons_zero, Act.put, List.setIfInBounds_toArray, List.set_cons_zero, List.set_cons_succ]
        refine wpAnyH_take (i := 2) (v := ?_) rfl (by kernel_rfl) (by kernel_rfl) (by kernel_rfl) (fun _ _ _ h => h) (Or.inl ⟨by rfl, ?_⟩) (by assumption) ?_
        rotate_left
        · (intro W hSw; (try dsimp only at hSw); obtain ⟨s1, s2, s3⟩ := hSw; go_simp; try with_reducible rfl)
        try simp only [List.getElem_toArray, List.getElem_cons_succ, List.getElem_cons_zero, Act.put, List.setIfInBounds_toArray, List.set_cons_zero, List.set_cons_succ]
        refine wpAnyH_take (i := 3) (v := ?_) rfl (by kernel_rfl) (by kernel_rfl) (by kernel_rfl) (fun _ _ _ h => h) (Or.inl ⟨by rfl, ?_⟩) (by assumption) ?_
        rotate_left
        · (intro W hSw; (try dsimp only at hSw); obtain ⟨s1, s2, s3⟩ := hSw; go_simp; try with_reducible rfl)
        try simp only [List.getElem_toArray, List.getElem_cons_succ, List.getElem_cons_zero, Act.put, List.setIfInBounds_toArray, List.set_cons_zero, List.set_cons_succ]
        refine wpAnyH_take (i := 4) (v := ?_) rfl (by kernel_rfl) (by kernel_rfl) (by kernel_rfl) (fun _ _ _ h => h) (Or.inl ⟨by rfl, ?_⟩) (by assumption) ?_
        rotate_left
        · (intro W hSw; (try dsimp only at hSw); obtain ⟨s1, s2, s3⟩ := hSw; go_simp; try with_reducible rfl)
        try simp only [List.getElem_toArray, List.getElem_cons_succ, List.getElem_cons_zero, Act.put, List.setIfInBounds_toArray, List.set_cons_zero, List.set_cons_succ]
        refine wpAnyH_take (i := 5) (v := ?_) rfl (by kernel_rfl) (by kernel_rfl) (by kernel_rfl) (fun _ _ _ h => h) (Or.inl ⟨by rfl, ?_⟩) (by assumption) ?_
        rotate_left
        · (intro W hSw; (try dsimp only at hSw); obtain ⟨s1, s2, s3⟩ := hSw; go_simp; try with_reducible rfl)
        try simp only [List.getElem_toArray, List.getElem_cons_succ, List.getElem_cons_zero, Act.put, List.setIfInBounds_toArray, List.set_cons_zero, List.set_cons_succ]
        refine wpAnyH_take (i := 6) (v := ?_) rfl (by kernel_rfl) (by kernel_rfl) (by kernel_rfl) (fun _ _ _ h => h) (Or.inl ⟨by rfl, ?_⟩) (by assumption) ?_
        rotate_left
        · (intro W hSw; (try dsimp only at hSw); obtain ⟨s1, s2, s3⟩ := hSw; go_simp; try with_reducible rfl)
        try simp only [List.getElem_toArray, List.getElem_cons_succ, List.getElem_cons_zero, Act.put, List.setIfInBounds_toArray, List.set_cons_zero, List.set_cons_succ]
        refine wpAnyH_take (i := 7) (v := ?_) rfl (by kernel_rfl) (by kernel_rfl) (by kernel_rfl) (fun _ _ _ h => h) (Or.inl ⟨by rfl, ?_⟩) (by assumption) ?_
        rotate_left
        · (intro W hSw; (try dsimp only at hSw); obtain ⟨s1, s2, s3⟩ := hSw; go_simp; try with_reducible rfl)
        try simp only [List.getElem_toArray, List.getElem_cons_succ, List.getElem_cons_zero, Act.put, List.setIfInBounds_toArray, List.set_cons_zero, List.set_cons_succ]
        refine wpAnyH_take (i := 8) (v := ?_) rfl (by kernel_rfl) (by kernel_rfl) (by kernel_rfl) (fun _ _ _ h => h) (Or.inl ⟨by rfl, ?_⟩) (by assumption) ?_
        rotate_left
        · (intro W hSw; (try dsimp only at hSw); obtain ⟨s1, s2, s3⟩ := hSw; go_simp; try with_reducible rfl)
        try simp only [List.getElem_toArray, List.getElem_cons_succ, List.getElem_cons_zero, Act.put, List.setIfInBounds_toArray, List.set_cons_zero, List.set_cons_succ]
        refine wpAnyH_take (i := 9) (v := ?_) rfl (by kernel_rfl) (by kernel_rfl) (by kernel_rfl) (fun _ _ _ h => h) (Or.inl ⟨by rfl, ?_⟩) (by assumption) ?_
        rotate_left
        · (intro W hSw; (try dsimp only at hSw); obtain ⟨s1, s2, s3⟩ := hSw; go_simp; try with_reducible rfl)
        try simp only [List.getElem_toArray, List.getElem_cons_succ, List.getElem_cons_zero, Act.put, List.setIfInBounds_toArray, List.set_cons_zero, List.set_cons_succ]
        refine wpAnyH_take (i := 10) (v := ?_) rfl (by kernel_rfl) (by kernel_rfl) (by kernel_rfl) (fun _ _ _ h => h) (Or.inl ⟨by rfl, ?_⟩) (by assumption) ?_
        rotate_left
        · (intro W hSw; (try dsimp only at hSw); obtain ⟨s1, s2, s3⟩ := hSw; go_simp; try with_reducible rfl)
        try simp only [List.getElem_toArray, List.getElem_cons_succ, List.getElem_cons_zero, Act.put, List.setIfInBounds_toArray, List.set_cons_zero, List.set_cons_succ]
        refine wpAnyH_take (i := 11) (v := ?_) rfl (by kernel_rfl) (by kernel_rfl) (by kernel_rfl) (fun _ _ _ h => h) (Or.inl ⟨by rfl, ?_⟩) (by assumption) ?_
        rotate_left
        · (intro W hSw; (try dsimp only at hSw); obtain ⟨s1, s2, s3⟩ := hSw; go_simp; try with_reducible rfl)
        try simp only [List.getElem_toArray, List.getElem_cons_succ, List.getElem_cons_zero, Act.put, List.setIfInBounds_toArray, List.set_cons_zero, List.set_cons_succ]
        refine wpAnyH_take (i := 12) (v := ?_) rfl (by kernel_rfl) (by kernel_rfl) (by kernel_rfl) (fun _ _ _ h => h) (Or.inl ⟨by rfl, ?_⟩) (by assumption) ?_
        rotate_left
        · (intro W hSw; (try dsimp only at hSw); obtain ⟨s1, s2, s3⟩ := hSw; go_simp; try with_reducible rfl)
        try simp only [List.getElem_toArray, List.getElem_cons_succ, List.getElem_cons_zero, Act.put, List.setIfInBounds_toArray, List.set_cons_zero, List.set_cons_succ]
        refine wpAnyH_take (i := 13) (v := ?_) rfl (by kernel_rfl) (by kernel_rfl) (by kernel_rfl) (fun _ _ _ h => h) (Or.inl ⟨by rfl, ?_⟩) (by assumption) ?_
        rotate_left
        · (intro W hSw; (try dsimp only at hSw); obtain ⟨s1, s2, s3⟩ := hSw; go_simp; try with_reducible rfl)
        try simp only [List.getElem_toArray, List.getElem_cons_succ, List.getElem_cons_zero, Act.put, List.setIfInBounds_toArray, List.set_cons_zero, List.set_cons_succ]
        refine wpAnyH_take (i := 14) (v := ?_) rfl (by kernel_rfl) (by kernel_rfl) (by kernel_rfl) (fun _ _ _ h => h) (Or.inl ⟨by rfl, ?_⟩) (by assumption) ?_
        rotate_left
        · (intro W hSw; (try dsimp only at hSw); obtain ⟨s1, s2, s3⟩ := hSw; go_simp; try with_reducible rfl)
        try simp only [List.getElem_toArray, List.getElem_cons_succ, List.getElem_cons_zero, Act.put, List.setIfInBounds_toArray, List.set_cons_zero, List.set_cons_succ]
        refine wpAnyH_take (i := 15) (v := ?_) rfl (by kernel_rfl) (by kernel_rfl) (by kernel_rfl) (fun _ _ _ h => h) (Or.inl ⟨by rfl, ?_⟩) (by assumption) ?_
        rotate_left
        · (intro W hSw; (try dsimp only at hSw); obtain ⟨s1, s2, s3⟩ := hSw; go_simp; try with_reducible rfl)
        try simp only [List.getElem_toArray, List.getElem_cons_succ, List.getElem_cons_zero, Act.put, List.setIfInBounds_toArray, List.set_cons_zero, List.set_cons_succ]
        refine wpAnyH_take (i := 16) (v := ?_) rfl (by kernel_rfl) (by kernel_rfl) (by kernel_rfl) (fun _ _ _ h => h) (Or.inl ⟨by rfl, ?_⟩) (by assumption) ?_
        rotate_left
        · (intro W hSw; (try dsimp only at hSw); obtain ⟨s1, s2, s3⟩ := hSw; go_simp; try with_reducible rfl)
        try simp only [List.getElem_toArray, List.getElem_cons_succ, List.getElem_cons_zero, Act.put, List.setIfInBounds_toArray, List.set_cons_zero, List.set_cons_succ]
        refine wpAnyH_ready (rs := [17]) (by kernel_rfl) (by simp) (AllReadyH.cons rfl (fun K hK => ?_) AllReadyH.nil)
        rw [if_pos (by rfl)]
        go_simp
        refine (HCp.out wr.drew (Below.refl _ _).drew).mono ?_
        clear HCp
        rintro e w15 ⟨g5, cap5, rfl, hb5, hg5, hg6, hb15⟩
        have hb15' := below_undrew hb15
        have v0 := (hb15'.cell (p := ⟨r, 1, none⟩) (World.block_lt_of_cell? wr _ t1)).trans t1
        have v1 := (hb15'.cell (p := ⟨g, k * 3 + 1, none⟩) (World.block_lt_of_cell? wr _ q1)).trans q1
        have v2 := (hb15'.cell (p := ⟨g, k * 3 + 2, none⟩) (World.block_lt_of_cell? wr _ q2)).trans q2
        have z0 : w15.cell? ⟨go, nn.toNat, none⟩ = some vo := (hb15'.cell (p := ⟨go, nn.toNat, none⟩) hgo).trans cg
        have z1 : w15.frozen? ⟨go, nn.toNat, none⟩ = false := ((bcell hb15').2 go nn.toNat hgo).trans fg
        have HSt := hid (HSet.out w15 g5 cap5 hb15' hg5 hg6 hb5)
        have HB15 := hid (hBr.out.trans (hb15'.mono hBr.out.size))
        have hnr : go ≠ r := by omega
        have hng : go ≠ g := by omega
        go_wp2_with fail
        refine hK.out _ _ ⟨v0, v1, v2⟩ (fun hHeld => ?_)
        clear hK K hb15 hb15' HSet hb5 t1 q1 q2
        try simp only [List.getElem_toArray, List.getElem_cons_succ, List.getElem_cons_zero, Act.put, List.setIfInBounds_toArray, List.set_cons_zero, List.set_cons_succ]
        refine wpAnyH_take (i := 18) (v := ?_) rfl (by kernel_rfl) (by kernel_rfl) (by kernel_rfl) (fun _ _ _ h => h) (Or.inl ⟨by rfl, ?_⟩) (by assumption) ?_
        rotate_left
        · (intro W hSw; (try dsimp only at hSw); obtain ⟨s1, s2, s3⟩ := hSw; go_simp; try with_reducible rfl)
        try simp only [List.getElem_toArray, List.getElem_cons_succ, List.getElem_cons_zero, Act.put, List.setIfInBounds_toArray, List.set_cons_zero, List.set_cons_succ]
        refine wpAnyH_ready (rs := [19]) (by kernel_rfl) (by simp) (AllReadyH.cons rfl (fun K hK => ?_) AllReadyH.nil)
        rw [if_pos (by rfl)]
        unfold Oper.wp
        go_simp
        refine hK.out _ _ ⟨by rw [World.cell?_setCell_far _ _ _ _ hnr]; exact v0, by rw [World.cell?_setCell_far _ _ _ _ hng]; exact v1, by rw [World.cell?_setCell_far _ _ _ _ hng]; exact v2⟩ (fun hHeld => ?_)
        clear hK K
        try simp only [List.getElem_toArray, List.getElem_cons_succ, List.getElem_cons_zero, Act.put, List.setIfInBounds_toArray, List.set_cons_zero, List.set_cons_succ]
        refine wpAnyH_done (by kernel_rfl) ?_ _
        refine NoPanic.normal ?_
        clear v0 v1 v2 z0 z1
        go_wp2
        exact ⟨⟨k + 1, _, by omega, by go_num, by rw [HA.out]; exact HSt.out, HB15.out.setCell hglo _⟩, by simp [intOf]; omega⟩
      · rw [hf] at q0
        simp only [hf, if_true] at HA
        clear hs hby ev hlv hH q2
        go_wp2
        exact ⟨⟨k + 1, vk, by omega, by go_num, by rw [HA.out]; exact hM.out, hBr.out⟩, by simp [intOf]; omega⟩
    · obtain rfl : k = n := by omega
      have hge : ¬ ((k : Int) < (k : Int)) := by omega
      go_wp2
      go_ret
      first | exact ⟨hBr.out, a', c', vk, rfl, hM.out⟩ | exact ⟨hBr.out, a', c', rfl, vk, hM.out⟩
theorem rat_any (r : Nat) (fv lv : Value) (vs : List Value) (Rd : Nat → Prop) (R : RefS) (n : Nat) (w : World) (h : RefIn w r fv lv vs Rd R) (hR : okR R) (hn : n ≤ R.l.length) (hm : R.l.length ≤ 1000000) :
    Calls Tryz.prog 67 #[.pointer (some ⟨r, 0, none⟩), .int .i64 n] w fun e w' => ∃ a' c', e = .returned (.slice a' R.first.length c') ∧ rowsFrom w' w.heap.size a' (atL R n) ∧ Below w.heap.size w w' := by
  refine (rat_own r fv lv vs Rd R n w h hR hn hm).mono ?_
  rintro e w' ⟨hB, a', c', vk, rfl, hM⟩
  rw [← length_atL R n] at hM
  obtain ⟨a2, c2, e2, hrows⟩ := copiedTo_end hM
  rw [length_atL] at e2
  simp only [Value.slice.injEq, true_and] at e2
  obtain ⟨rfl, rfl⟩ := e2
  exact ⟨a', c', rfl, hrows, hB⟩
end Go.Proofs.YtoeiodiadanhkaaGreat
