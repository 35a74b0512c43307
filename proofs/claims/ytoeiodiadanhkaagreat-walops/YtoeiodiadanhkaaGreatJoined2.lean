/- Several of my texts in one: RefNew, CopyAll. -/
import Derived.Test.YtoeiodiadanhkaaGreatJoined1
/- The reference's New. -/
namespace Go.Proofs.YtoeiodiadanhkaaGreat
open Go.RowKit
/-- A sector of noughts. -/
def zeros : List UInt8 := List.replicate 512 0
def rfresh (n : Nat) : RefS := ⟨List.replicate n zeros, []⟩
theorem length_zeros : zeros.length = 512 := List.length_replicate
theorem zeros_at (z : Nat) (h : z < zeros.length) : zeros[z] = 0 := List.getElem_replicate h
theorem rfresh_length (n : Nat) : (rfresh n).first.length = n := List.length_replicate
theorem rfresh_at (n i : Nat) (h : i < (rfresh n).first.length) : (rfresh n).first[i] = zeros := List.getElem_replicate h
theorem wp_make_u8 {w : World} {o : Oper} {a : Act} {K : Act → World → Prop} {Q : Exit → Act → World → Prop} (l c : Operand) (hop : o.op = Op.makeSlice 37 l c) (n : Nat) (hl : a.eval l = .int .i64 n) (hc : a.eval c = .int .i64 n) (hm : n ≤ 4096) (B : Nat) (hB : w.heap.size = B)
    (h : K (a.put o.dst (.slice (some ⟨B, 0, none⟩) n n)) (w.alloc (.cells (List.replicate n (Value.int .u8 0)).toArray 5))) : o.wp Tryz.prog a w K Q := by
  subst hB
  obtain ⟨i, hi, hz, hs, hb⟩ := info_parts infoU8
  have hrun := run_make (P := Tryz.prog) w 37 5 i (.int .u8 0) Tryz.underlying37 hi hz .i64 .i64 n n (by omega) (by omega) (by rw [hb]; omega) (by omega)
  unfold Oper.wp
  simp only [Int.toNat_natCast, hs, madeU8] at hrun
  generalize (List.replicate n (Value.int .u8 0)).toArray = Z at *
  simp [execOp, hop, hl, hc, hrun, Result.andThen]
  exact h
/-- The cells of a sector of noughts. -/
def zrow : Array Value := (List.replicate 512 (Value.int .u8 0)).toArray
theorem zrow_at (z : Nat) (h : z < 512) : zrow[z]? = some (.int .u8 0) := by
  unfold zrow; rw [List.getElem?_toArray, List.getElem?_replicate, if_pos h]
theorem wp_make_sector {w : World} {o : Oper} {a : Act} {K : Act → World → Prop} {Q : Exit → Act → World → Prop} (l c : Operand) (hop : o.op = Op.makeSlice 37 l c) (hl : a.eval l = .int .i64 512) (hc : a.eval c = .int .i64 512) (B : Nat) (hB : w.heap.size = B)
    (h : K (a.put o.dst (.slice (some ⟨B, 0, none⟩) 512 512)) (w.alloc (.cells zrow 5))) : o.wp Tryz.prog a w K Q := wp_make_u8 l c hop 512 hl hc (by omega) B hB h
/-- k sectors have been made. -/
def madeTo (w : World) (r : Nat) (fv : Value) (vs : List Value) (k : Nat) : Prop :=
  w.heap[r]? = some (.cells #[fv, .slice none 0 0] 107 (0, 0)) ∧ w.ownsRow (r + 1) 37 1 fv k vs ∧
  ∀ i, i < k → ∃ bi, vs[i]? = some (.slice (some ⟨bi, 0, none⟩) 512 512) ∧ r < bi ∧ w.heap[bi]? = some (.cells zrow 5 (0, 0))
theorem madeTo_ref {w : World} {r : Nat} {fv : Value} {vs : List Value} {n : Nat} (h : madeTo w r fv vs n) : RefIn w r fv (.slice none 0 0) [] (fun i => r < i ∧ i < w.heap.size) (rfresh n) := by
  obtain ⟨h1, h2, h3⟩ := h
  obtain ⟨sa, cap, rfl, hs⟩ := row_slice h2
  have hcells : ∀ b o, sa = some ⟨b, o, none⟩ → ∀ i, i < n → ∃ bi, w.cell? ⟨b, o + i, none⟩ = some (.slice (some ⟨bi, 0, none⟩) 512 512) ∧ r < bi ∧ w.heap[bi]? = some (.cells zrow 5 (0, 0)) := by
    intro b o e i hi
    obtain ⟨g, e2, _, _, hc⟩ := hs i hi
    rw [e] at e2
    simp only [Option.some.injEq, Addr.mk.injEq, and_true] at e2
    obtain ⟨rfl, rfl⟩ := e2
    obtain ⟨bi, h4, h5, h6⟩ := h3 i hi
    exact ⟨bi, by rw [Nat.zero_add, hc i hi]; exact h4, h5, h6⟩
  refine ⟨h1, fun e => absurd e.1 (Nat.lt_irrefl _), ⟨sa, cap, by rw [rfresh_length], fun j hj => ?_, fun ad e => ?_⟩, ?_, World.ownsRow_nil _ _ _ _, (fun i e => by cases e), rfl, (fun _ => rfl), (fun j hj => by simp [rfresh] at hj)⟩
  · have hj' : j < n := by rwa [rfresh_length] at hj
    obtain ⟨g, e, _, _, _⟩ := hs j hj'
    refine ⟨g, 0, e, fun i hi => ?_⟩
    have hi' : i < n := by rwa [rfresh_length] at hi
    obtain ⟨bi, h4, h5, h6⟩ := hcells g 0 e i hi'
    refine ⟨some ⟨bi, 0, none⟩, 512, ?_, ?_⟩
    · rw [h4, rfresh_at, length_zeros]
    · intro q hq
      refine ⟨bi, 0, rfl, fun z hz => ?_⟩
      have hz' : z < 512 := by rwa [rfresh_at, length_zeros] at hz
      rw [Nat.zero_add, cell_of_block h6, zrow_at z hz']
      have e0 : (rfresh n).first[i][z] = 0 := by
        have := rfresh_at n i hi
        simp only [this]
        exact zeros_at z _
      rw [e0]; rfl
  · rcases h2.2 with ⟨e2, _⟩ | ⟨g, cap', cur, e2, hb, _⟩
    · simp only [Value.slice.injEq] at e2; rw [e] at e2; cases e2.1
    · simp only [Value.slice.injEq] at e2
      rw [e] at e2
      have := Option.some.inj e2.1
      rw [this]; show r < g ∧ g < w.heap.size; exact ⟨by omega, (h2.lt g (by rw [e, this]; rfl)).2⟩
  · intro a' c' e b o e2 i hi a2 n2 c2 hcell ad had
    simp only [Value.slice.injEq] at e
    obtain ⟨rfl, _, rfl⟩ := e
    obtain ⟨bi, h4, h5, h6⟩ := hcells b o e2 i (by rwa [rfresh_length] at hi)
    rw [hcell] at h4
    simp only [Option.some.injEq, Value.slice.injEq] at h4
    rw [had] at h4
    have := Option.some.inj h4.1
    rw [this]; exact ⟨h5, lt_of_heap h6⟩
theorem madeTo_step {w w1 : World} {r : Nat} {fv : Value} {vs : List Value} {k g cap : Nat} (h : madeTo w r fv vs k)
    (hown : w1.ownsRow (r + 1) 37 1 (.slice (some ⟨g, 0, none⟩) (k + 1) cap) (k + 1) (vs ++ [.slice (some ⟨w.heap.size, 0, none⟩) 512 512]))
    (hgr : ((w.alloc (.cells zrow 5)).alloc (.cells #[.slice (some ⟨w.heap.size, 0, none⟩) 512 512] 37)).grownBy w1 fv.ownBlock) :
    madeTo (w1.setCell ⟨r, 0, none⟩ (.slice (some ⟨g, 0, none⟩) (k + 1) cap)) r (.slice (some ⟨g, 0, none⟩) (k + 1) cap) (vs ++ [.slice (some ⟨w.heap.size, 0, none⟩) 512 512]) (k + 1) ∧ w1.heap[r]? = some (.cells #[fv, .slice none 0 0] 107 (0, 0)) := by
  obtain ⟨h1, h2, h3⟩ := h
  obtain ⟨n1, n2, n3, n4⟩ := new2 w (.cells zrow 5) (.cells #[.slice (some ⟨w.heap.size, 0, none⟩) 512 512] 37)
  have hr := lt_of_heap h1
  have hrow : ∀ i, fv.ownBlock = some i → r + 1 ≤ i ∧ ∃ cur, w.heap[i]? = some (.cells cur 37 (0, 0)) := fun i hi => ⟨(h2.lt i hi).1, row_type h2 hi⟩
  have hP1 : w1.heap[r]? = some (.cells #[fv, .slice none 0 0] 107 (0, 0)) := by
    refine grown_block hgr (block_alloc (block_alloc h1 _) _) (fun e => ?_)
    have := (hrow r e).1; omega
  have hg := (hown.lt g rfl).1
  have hl : vs.length = k := by have := h2.1; omega
  refine ⟨⟨block_setCell hP1 0 _, ?_, fun i hi => ?_⟩, hP1⟩
  · have hgr2 : g ≠ r := by omega
    exact hown.kept (grown_setCell (grown_refl w1 (some r)) 0 _) (.inr (fun e => hgr2 (by simpa [Value.ownBlock] using e)))
  · have hne : ∀ bi, w.heap[bi]? = some (.cells zrow 5 (0, 0)) → fv.ownBlock ≠ some bi := fun bi hb e => by
      obtain ⟨_, cur, hc⟩ := hrow bi e
      rw [hb] at hc
      simp only [Option.some.injEq, Obj.cells.injEq] at hc
      exact absurd hc.2.1 (by decide)
    by_cases e : i = k
    · subst e
      refine ⟨w.heap.size, by simp [hl], hr, ?_⟩
      rw [block_setCell_other _ _ (by omega)]
      refine grown_block hgr n1 (fun e => ?_)
      have := (h2.lt _ e).2; omega
    · obtain ⟨bi, h4, h5, h6⟩ := h3 i (by omega)
      refine ⟨bi, by rw [List.getElem?_append_left (by omega)]; exact h4, h5, ?_⟩
      rw [block_setCell_other _ _ (by omega)]
      exact grown_block hgr (block_alloc (block_alloc h6 _) _) (hne bi h6)
set_option maxRecDepth 100000 in
set_option maxHeartbeats 2000000 in
theorem rnew_ok (n : Nat) (h1 : 1 ≤ n) (hn : n ≤ 4096) (w : World) :
    Calls Tryz.prog 38 #[.int .i64 n] w fun e w' => e = .returned (.tuple #[.pointer (some ⟨w.heap.size, 0, none⟩), .int .i64 0]) ∧ Below w.heap.size w w' ∧ ∃ fv, RefIn w' w.heap.size fv (.slice none 0 0) [] (fun i => w.heap.size < i ∧ i < w'.heap.size) (rfresh n) := by
  obtain ⟨i0, hi, hz0, hz1, hz2⟩ := info_parts infoRow
  have HI := hid hi
  clear hi
  have g1 : ¬ ((n : Int) < 1) := by omega
  have g2 : ¬ ((4096 : Int) < (n : Int)) := by omega
  go_enter Tryz.func38, Tryz.ntmps38
  go_wp2
  have HM0 : Hid (madeTo (w.alloc (.cells #[.slice none 0 0, .slice none 0 0] 107)) w.heap.size (.slice none 0 0) [] 0) := ⟨block_new w _, World.ownsRow_nil _ _ _ _, fun i hi => by omega⟩
  have HB0 := hid ((Below.refl w.heap.size w).alloc (Nat.le_refl _) (.cells #[.slice none 0 0, .slice none 0 0] 107))
  go_loopw [5] (fun i wr => ∃ (k : Nat) (fv : Value) (vs : List Value), k ≤ n ∧ i = .int .i64 k ∧ Hid (madeTo wr w.heap.size fv vs k) ∧ Hid (Below w.heap.size w wr)) (fun i _ => n - (intOf i).toNat)
  case atStart => exact ⟨0, _, _, by omega, rfl, HM0, HB0⟩
  case round =>
    obtain ⟨k, fv, vs, hk, rfl, hM, hB⟩ := hrel
    clear HM0 HB0
    by_cases hlt : k < n
    · have hk0 : (0 : Int) ≤ (k : Int) := by omega
      have hk1 : (k : Int) < (n : Int) := by omega
      have HC := hid (cell_of_block hM.out.1 0)
      have hr := lt_of_heap hM.out.1
      obtain ⟨n1, n2, n3, n4⟩ := new2 wr (.cells zrow 5) (.cells #[.slice (some ⟨wr.heap.size, 0, none⟩) 512 512] 37)
      have HN2 := hid n2
      have HN3 := hid n3
      have HN4 := hid n4
      clear n1 n2 n3 n4
      go_wp2
      refine wp_region_noPanic ?_
      refine wp_region_held_drew (S := fun W => True) (by kernel_rfl) trivial (fun hHeld => ?_)
      refine wpAnyH_take (i := 0) (v := ?_) rfl (by kernel_rfl) (by kernel_rfl) (by kernel_rfl) (fun _ _ _ h => h) (Or.inl ⟨by rfl, ?_⟩) (by assumption) ?_
      rotate_left
      · (intro W hSw; (try dsimp only at hSw); go_simp; try with_reducible rfl)
      try simp only [List.getElem_toArray, List.getElem_cons_zero, Act.put, List.setIfInBounds_toArray, List.set_cons_zero, List.set_cons_succ]
      refine wpAnyH_take (i := 1) (v := ?_) rfl (by kernel_rfl) (by kernel_rfl) (by kernel_rfl) (fun _ _ _ h => h) (Or.inl ⟨by rfl, ?_⟩) (by assumption) ?_
      rotate_left
      · (intro W hSw; (try dsimp only at hSw); go_simp; try with_reducible rfl)
      try simp only [List.getElem_toArray, List.getElem_cons_succ, List.getElem_cons_zero, Act.put, List.setIfInBounds_toArray, List.set_cons_zero, List.set_cons_succ]
      refine wpAnyH_take (i := 2) (v := ?_) rfl (by kernel_rfl) (by kernel_rfl) (by kernel_rfl) (fun _ _ _ h => h) (Or.inl ⟨by rfl, ?_⟩) (by assumption) ?_
      rotate_left
      · (intro W hSw; (try dsimp only at hSw); go_simp; try with_reducible rfl)
      try simp only [List.getElem_toArray, List.getElem_cons_succ, List.getElem_cons_zero, Act.put, List.setIfInBounds_toArray, List.set_cons_zero, List.set_cons_succ]
      refine wpAnyH_take (i := 3) (v := ?_) rfl (by kernel_rfl) (by kernel_rfl) (by kernel_rfl) (fun _ _ _ h => h) (Or.inl ⟨by rfl, ?_⟩) (by assumption) ?_
      rotate_left
      · (intro W hSw; (try dsimp only at hSw); go_simp; try with_reducible rfl)
      try simp only [List.getElem_toArray, List.getElem_cons_succ, List.getElem_cons_zero, Act.put, List.setIfInBounds_toArray, List.set_cons_zero, List.set_cons_succ]
      have cq : wr.cell? ⟨w.heap.size, 0, none⟩ = some fv := HC.out
      refine wpAnyH_ready (rs := [4, 5]) (by kernel_rfl) (by simp) (AllReadyH.cons rfl (fun K hK => ?_) (AllReadyH.cons rfl (fun K hK => ?_) AllReadyH.nil))
      · -- the load first
        rw [if_pos (by rfl)]
        unfold Oper.wp
        go_simp
        refine hK.out _ _ trivial (fun hHeld => ?_)
        clear hK K
        try simp only [List.getElem_toArray, List.getElem_cons_succ, List.getElem_cons_zero, Act.put, List.setIfInBounds_toArray, List.set_cons_zero, List.set_cons_succ]
        refine wpAnyH_ready (rs := [5]) (by kernel_rfl) (by simp) (AllReadyH.cons rfl (fun K hK => ?_) AllReadyH.nil)
        rw [if_pos (by rfl)]
        refine wp_make_sector (.const (.int .i64 512)) (.const (.int .i64 512)) rfl rfl rfl wr.heap.size rfl ?_
        refine hK.out _ _ trivial (fun hHeld => ?_)
        clear hK K
        try simp only [List.getElem_toArray, List.getElem_cons_succ, List.getElem_cons_zero, Act.put, List.setIfInBounds_toArray, List.set_cons_zero, List.set_cons_succ]
        refine wpAnyH_ready (rs := [6]) (by kernel_rfl) (by simp) (AllReadyH.cons rfl (fun K hK => ?_) AllReadyH.nil)
        rw [if_pos (by rfl)]
        unfold Oper.wp
        go_simp
        refine hK.out _ _ trivial (fun hHeld => ?_)
        clear hK K
        try simp only [List.getElem_toArray, List.getElem_cons_succ, List.getElem_cons_zero, Act.put, List.setIfInBounds_toArray, List.set_cons_zero, List.set_cons_succ]
        refine wpAnyH_ready (rs := [7]) (by kernel_rfl) (by simp) (AllReadyH.cons rfl (fun K hK => ?_) AllReadyH.nil)
        rw [if_pos (by rfl)]
        refine wp_append_lies _ (.tmp 23) (.tmp 25) 51 rfl (w.heap.size + 1) 37 i0 (.slice none 0 0) 1 24 Tryz.underlying51 HI.out hz0 hz1 hz2 rfl (by omega) fv k vs rfl ((hM.out.2.1.alloc _).alloc _) ⟨wr.heap.size + 1, 0, none⟩ 1 1 [.slice (some ⟨wr.heap.size, 0, none⟩) 512 512] rfl rfl (World.news_of_block (cs := #[.slice (some ⟨wr.heap.size, 0, none⟩) 512 512]) HN2.out) (by intro u hu; rw [List.mem_singleton.1 hu]; rfl) (by omega) (by unfold maxLen; omega) (by omega) (by show w.heap.size + 1 ≤ ((wr.alloc (.cells zrow 5)).alloc (.cells #[.slice (some ⟨wr.heap.size, 0, none⟩) 512 512] 37)).heap.size; have := HN4.out; omega) (wr.heap.size + 1 + 1) HN4.out ?_
        intro g cap w1 hown hgr hat hlt1
        have hst := madeTo_step hM.out hown (by exact ⟨hgr.os, hgr.tape, hgr.output, hgr.size, hgr.block⟩)
        have HSt := hid hst
        have f1 : w1.cell? ⟨w.heap.size, 0, none⟩ = some fv := cell_of_block hst.2 0
        have f2 : w1.frozen? ⟨w.heap.size, 0, none⟩ = false := frozen_of_block hst.2 0
        have HB1 := hid (hB.out.trans ((HN3.out.mono hB.out.size).trans (below_of_row (w := ((wr.alloc (.cells zrow 5)).alloc (.cells #[.slice (some ⟨wr.heap.size, 0, none⟩) 512 512] 37))) ⟨hgr.os, hgr.tape, hgr.output, hgr.size, hgr.block⟩ (by have := HN4.out; have := hB.out.size; omega) (fun i e => by have := (hM.out.2.1.lt i e).1; omega))))
        clear hst hown hgr hat hlt1
        refine hK.out _ _ trivial (fun hHeld => ?_)
        clear hK K
        try simp only [List.getElem_toArray, List.getElem_cons_succ, List.getElem_cons_zero, Act.put, List.setIfInBounds_toArray, List.set_cons_zero, List.set_cons_succ]
        refine wpAnyH_take (i := 8) (v := ?_) rfl (by kernel_rfl) (by kernel_rfl) (by kernel_rfl) (fun _ _ _ h => h) (Or.inl ⟨by rfl, ?_⟩) (by assumption) ?_
        rotate_left
        · (intro W hSw; (try dsimp only at hSw); go_simp; try with_reducible rfl)
        try simp only [List.getElem_toArray, List.getElem_cons_succ, List.getElem_cons_zero, Act.put, List.setIfInBounds_toArray, List.set_cons_zero, List.set_cons_succ]
        refine wpAnyH_take (i := 9) (v := ?_) rfl (by kernel_rfl) (by kernel_rfl) (by kernel_rfl) (fun _ _ _ h => h) (Or.inl ⟨by rfl, ?_⟩) (by assumption) ?_
        rotate_left
        · (intro W hSw; (try dsimp only at hSw); go_simp; try with_reducible rfl)
        try simp only [List.getElem_toArray, List.getElem_cons_succ, List.getElem_cons_zero, Act.put, List.setIfInBounds_toArray, List.set_cons_zero, List.set_cons_succ]
        refine wpAnyH_ready (rs := [10]) (by kernel_rfl) (by simp) (AllReadyH.cons rfl (fun K hK => ?_) AllReadyH.nil)
        rw [if_pos (by rfl)]
        unfold Oper.wp
        go_simp
        have HB2 : Hid (Below w.heap.size w (w1.setCell ⟨w.heap.size, 0, none⟩ (.slice (some ⟨g, 0, none⟩) (k + 1) cap))) := HB1.out.setCell (Nat.le_refl _) _
        clear HB1 f1 f2
        generalize w1.setCell ⟨w.heap.size, 0, none⟩ (.slice (some ⟨g, 0, none⟩) (k + 1) cap) = w2 at *
        refine hK.out _ _ trivial (fun hHeld => ?_)
        clear hK K hHeld
        refine wpAnyH_done (by kernel_rfl) ?_ _
        refine NoPanic.normal ?_
        go_wp2
        exact ⟨⟨k + 1, _, _, by omega, by go_num, HSt.out.1, HB2.out⟩, by simp [intOf]; omega⟩
      · -- the new sector first
        rw [if_pos (by rfl)]
        refine wp_make_sector (.const (.int .i64 512)) (.const (.int .i64 512)) rfl rfl rfl wr.heap.size rfl ?_
        refine hK.out _ _ trivial (fun hHeld => ?_)
        clear hK K
        try simp only [List.getElem_toArray, List.getElem_cons_succ, List.getElem_cons_zero, Act.put, List.setIfInBounds_toArray, List.set_cons_zero, List.set_cons_succ]
        refine wpAnyH_ready (rs := [4, 6]) (by kernel_rfl) (by simp) (AllReadyH.cons rfl (fun K hK => ?_) (AllReadyH.cons rfl (fun K hK => ?_) AllReadyH.nil))
        · have cq2 : (wr.alloc (.cells zrow 5)).drew.cell? ⟨w.heap.size, 0, none⟩ = some fv := cell_of_block (block_alloc hM.out.1 _) 0
          rw [if_pos (by rfl)]
          unfold Oper.wp
          go_simp
          refine hK.out _ _ trivial (fun hHeld => ?_)
          clear hK K
          try simp only [List.getElem_toArray, List.getElem_cons_succ, List.getElem_cons_zero, Act.put, List.setIfInBounds_toArray, List.set_cons_zero, List.set_cons_succ]
          refine wpAnyH_ready (rs := [6]) (by kernel_rfl) (by simp) (AllReadyH.cons rfl (fun K hK => ?_) AllReadyH.nil)
          rw [if_pos (by rfl)]
          unfold Oper.wp
          go_simp
          refine hK.out _ _ trivial (fun hHeld => ?_)
          clear hK K
          try simp only [List.getElem_toArray, List.getElem_cons_succ, List.getElem_cons_zero, Act.put, List.setIfInBounds_toArray, List.set_cons_zero, List.set_cons_succ]
          refine wpAnyH_ready (rs := [7]) (by kernel_rfl) (by simp) (AllReadyH.cons rfl (fun K hK => ?_) AllReadyH.nil)
          rw [if_pos (by rfl)]
          refine wp_append_lies _ (.tmp 23) (.tmp 25) 51 rfl (w.heap.size + 1) 37 i0 (.slice none 0 0) 1 24 Tryz.underlying51 HI.out hz0 hz1 hz2 rfl (by omega) fv k vs rfl ((hM.out.2.1.alloc _).alloc _) ⟨wr.heap.size + 1, 0, none⟩ 1 1 [.slice (some ⟨wr.heap.size, 0, none⟩) 512 512] rfl rfl (World.news_of_block (cs := #[.slice (some ⟨wr.heap.size, 0, none⟩) 512 512]) HN2.out) (by intro u hu; rw [List.mem_singleton.1 hu]; rfl) (by omega) (by unfold maxLen; omega) (by omega) (by show w.heap.size + 1 ≤ ((wr.alloc (.cells zrow 5)).alloc (.cells #[.slice (some ⟨wr.heap.size, 0, none⟩) 512 512] 37)).heap.size; have := HN4.out; omega) (wr.heap.size + 1 + 1) HN4.out ?_
          intro g cap w1 hown hgr hat hlt1
          have hst := madeTo_step hM.out hown (by exact ⟨hgr.os, hgr.tape, hgr.output, hgr.size, hgr.block⟩)
          have HSt := hid hst
          have f1 : w1.cell? ⟨w.heap.size, 0, none⟩ = some fv := cell_of_block hst.2 0
          have f2 : w1.frozen? ⟨w.heap.size, 0, none⟩ = false := frozen_of_block hst.2 0
          have HB1 := hid (hB.out.trans ((HN3.out.mono hB.out.size).trans (below_of_row (w := ((wr.alloc (.cells zrow 5)).alloc (.cells #[.slice (some ⟨wr.heap.size, 0, none⟩) 512 512] 37))) ⟨hgr.os, hgr.tape, hgr.output, hgr.size, hgr.block⟩ (by have := HN4.out; have := hB.out.size; omega) (fun i e => by have := (hM.out.2.1.lt i e).1; omega))))
          clear hst hown hgr hat hlt1
          refine hK.out _ _ trivial (fun hHeld => ?_)
          clear hK K
          try simp only [List.getElem_toArray, List.getElem_cons_succ, List.getElem_cons_zero, Act.put, List.setIfInBounds_toArray, List.set_cons_zero, List.set_cons_succ]
          refine wpAnyH_take (i := 8) (v := ?_) rfl (by kernel_rfl) (by kernel_rfl) (by kernel_rfl) (fun _ _ _ h => h) (Or.inl ⟨by rfl, ?_⟩) (by assumption) ?_
          rotate_left
          · (intro W hSw; (try dsimp only at hSw); go_simp; try with_reducible rfl)
          try simp only [List.getElem_toArray, List.getElem_cons_succ, List.getElem_cons_zero, Act.put, List.setIfInBounds_toArray, List.set_cons_zero, List.set_cons_succ]
          refine wpAnyH_take (i := 9) (v := ?_) rfl (by kernel_rfl) (by kernel_rfl) (by kernel_rfl) (fun _ _ _ h => h) (Or.inl ⟨by rfl, ?_⟩) (by assumption) ?_
          rotate_left
          · (intro W hSw; (try dsimp only at hSw); go_simp; try with_reducible rfl)
          try simp only [List.getElem_toArray, List.getElem_cons_succ, List.getElem_cons_zero, Act.put, List.setIfInBounds_toArray, List.set_cons_zero, List.set_cons_succ]
          refine wpAnyH_ready (rs := [10]) (by kernel_rfl) (by simp) (AllReadyH.cons rfl (fun K hK => ?_) AllReadyH.nil)
          rw [if_pos (by rfl)]
          unfold Oper.wp
          go_simp
          have HB2 : Hid (Below w.heap.size w (w1.setCell ⟨w.heap.size, 0, none⟩ (.slice (some ⟨g, 0, none⟩) (k + 1) cap))) := HB1.out.setCell (Nat.le_refl _) _
          clear HB1 f1 f2
          generalize w1.setCell ⟨w.heap.size, 0, none⟩ (.slice (some ⟨g, 0, none⟩) (k + 1) cap) = w2 at *
          refine hK.out _ _ trivial (fun hHeld => ?_)
          clear hK K hHeld
          refine wpAnyH_done (by kernel_rfl) ?_ _
          refine NoPanic.normal ?_
          go_wp2
          exact ⟨⟨k + 1, _, _, by omega, by go_num, HSt.out.1, HB2.out⟩, by simp [intOf]; omega⟩
        · -- its slice first
          rw [if_pos (by rfl)]
          unfold Oper.wp
          go_simp
          refine hK.out _ _ trivial (fun hHeld => ?_)
          clear hK K
          try simp only [List.getElem_toArray, List.getElem_cons_succ, List.getElem_cons_zero, Act.put, List.setIfInBounds_toArray, List.set_cons_zero, List.set_cons_succ]
          refine wpAnyH_ready (rs := [4]) (by kernel_rfl) (by simp) (AllReadyH.cons rfl (fun K hK => ?_) AllReadyH.nil)
          have cq3 : ((wr.alloc (.cells zrow 5)).alloc (.cells #[.slice (some ⟨wr.heap.size, 0, none⟩) 512 512] 37)).drew.cell? ⟨w.heap.size, 0, none⟩ = some fv := cell_of_block (block_alloc (block_alloc hM.out.1 _) _) 0
          rw [if_pos (by rfl)]
          unfold Oper.wp
          go_simp
          refine hK.out _ _ trivial (fun hHeld => ?_)
          clear hK K
          try simp only [List.getElem_toArray, List.getElem_cons_succ, List.getElem_cons_zero, Act.put, List.setIfInBounds_toArray, List.set_cons_zero, List.set_cons_succ]
          refine wpAnyH_ready (rs := [7]) (by kernel_rfl) (by simp) (AllReadyH.cons rfl (fun K hK => ?_) AllReadyH.nil)
          rw [if_pos (by rfl)]
          refine wp_append_lies _ (.tmp 23) (.tmp 25) 51 rfl (w.heap.size + 1) 37 i0 (.slice none 0 0) 1 24 Tryz.underlying51 HI.out hz0 hz1 hz2 rfl (by omega) fv k vs rfl ((hM.out.2.1.alloc _).alloc _) ⟨wr.heap.size + 1, 0, none⟩ 1 1 [.slice (some ⟨wr.heap.size, 0, none⟩) 512 512] rfl rfl (World.news_of_block (cs := #[.slice (some ⟨wr.heap.size, 0, none⟩) 512 512]) HN2.out) (by intro u hu; rw [List.mem_singleton.1 hu]; rfl) (by omega) (by unfold maxLen; omega) (by omega) (by show w.heap.size + 1 ≤ ((wr.alloc (.cells zrow 5)).alloc (.cells #[.slice (some ⟨wr.heap.size, 0, none⟩) 512 512] 37)).heap.size; have := HN4.out; omega) (wr.heap.size + 1 + 1) HN4.out ?_
          intro g cap w1 hown hgr hat hlt1
          have hst := madeTo_step hM.out hown (by exact ⟨hgr.os, hgr.tape, hgr.output, hgr.size, hgr.block⟩)
          have HSt := hid hst
          have f1 : w1.cell? ⟨w.heap.size, 0, none⟩ = some fv := cell_of_block hst.2 0
          have f2 : w1.frozen? ⟨w.heap.size, 0, none⟩ = false := frozen_of_block hst.2 0
          have HB1 := hid (hB.out.trans ((HN3.out.mono hB.out.size).trans (below_of_row (w := ((wr.alloc (.cells zrow 5)).alloc (.cells #[.slice (some ⟨wr.heap.size, 0, none⟩) 512 512] 37))) ⟨hgr.os, hgr.tape, hgr.output, hgr.size, hgr.block⟩ (by have := HN4.out; have := hB.out.size; omega) (fun i e => by have := (hM.out.2.1.lt i e).1; omega))))
          clear hst hown hgr hat hlt1
          refine hK.out _ _ trivial (fun hHeld => ?_)
          clear hK K
          try simp only [List.getElem_toArray, List.getElem_cons_succ, List.getElem_cons_zero, Act.put, List.setIfInBounds_toArray, List.set_cons_zero, List.set_cons_succ]
          refine wpAnyH_take (i := 8) (v := ?_) rfl (by kernel_rfl) (by kernel_rfl) (by kernel_rfl) (fun _ _ _ h => h) (Or.inl ⟨by rfl, ?_⟩) (by assumption) ?_
          rotate_left
          · (intro W hSw; (try dsimp only at hSw); go_simp; try with_reducible rfl)
          try simp only [List.getElem_toArray, List.getElem_cons_succ, List.getElem_cons_zero, Act.put, List.setIfInBounds_toArray, List.set_cons_zero, List.set_cons_succ]
          refine wpAnyH_take (i := 9) (v := ?_) rfl (by kernel_rfl) (by kernel_rfl) (by kernel_rfl) (fun _ _ _ h => h) (Or.inl ⟨by rfl, ?_⟩) (by assumption) ?_
          rotate_left
          · (intro W hSw; (try dsimp only at hSw); go_simp; try with_reducible rfl)
          try simp only [List.getElem_toArray, List.getElem_cons_succ, List.getElem_cons_zero, Act.put, List.setIfInBounds_toArray, List.set_cons_zero, List.set_cons_succ]
          refine wpAnyH_ready (rs := [10]) (by kernel_rfl) (by simp) (AllReadyH.cons rfl (fun K hK => ?_) AllReadyH.nil)
          rw [if_pos (by rfl)]
          unfold Oper.wp
          go_simp
          have HB2 : Hid (Below w.heap.size w (w1.setCell ⟨w.heap.size, 0, none⟩ (.slice (some ⟨g, 0, none⟩) (k + 1) cap))) := HB1.out.setCell (Nat.le_refl _) _
          clear HB1 f1 f2
          generalize w1.setCell ⟨w.heap.size, 0, none⟩ (.slice (some ⟨g, 0, none⟩) (k + 1) cap) = w2 at *
          refine hK.out _ _ trivial (fun hHeld => ?_)
          clear hK K hHeld
          refine wpAnyH_done (by kernel_rfl) ?_ _
          refine NoPanic.normal ?_
          go_wp2
          exact ⟨⟨k + 1, _, _, by omega, by go_num, HSt.out.1, HB2.out⟩, by simp [intOf]; omega⟩
    · obtain rfl : k = n := by omega
      have hge : ¬ ((k : Int) < (k : Int)) := by omega
      go_wp2
      go_returns
      exact ⟨rfl, hB.out, fv, madeTo_ref hM.out⟩
end Go.Proofs.YtoeiodiadanhkaaGreat
/- dunnageref01.CopyAll. -/
namespace Go.Proofs.YtoeiodiadanhkaaGreat
open Go.RowKit
/-- The first k rows have been copied. -/
def copiedTo (w : World) (lo : Nat) (v : Value) (vs : List Value) (L : List (List UInt8)) (k : Nat) : Prop :=
  w.ownsRow lo 37 1 v k vs ∧ ∀ i (_ : i < L.length), i < k → ∃ g cap, vs[i]? = some (.slice (some ⟨g, 0, none⟩) (L[i]).length cap) ∧ lo ≤ g ∧ g < w.heap.size ∧ v.ownBlock ≠ some g ∧ bytesIn w (some ⟨g, 0, none⟩) L[i]
theorem copiedTo_step {w w1 w3 : World} {lo : Nat} {v : Value} {vs : List Value} {L : List (List UInt8)} {k g cap g3 cap3 : Nat} {o : Obj} (h : copiedTo w lo v vs L k) (hk : k < L.length) (hlo : lo ≤ w.heap.size) (hB : Below w.heap.size w w1)
    (hg1 : w.heap.size ≤ g) (hg2 : g < w1.heap.size) (hb : bytesIn w1 (some ⟨g, 0, none⟩) L[k])
    (hown : w3.ownsRow lo 37 1 (.slice (some ⟨g3, 0, none⟩) (k + 1) cap3) (k + 1) (vs ++ [.slice (some ⟨g, 0, none⟩) (L[k]).length cap]))
    (hgr : (w1.alloc o).grownBy w3 v.ownBlock) (hat : v.ownBlock = some g3 ∨ g3 = w1.heap.size + 1) : copiedTo w3 lo (.slice (some ⟨g3, 0, none⟩) (k + 1) cap3) (vs ++ [.slice (some ⟨g, 0, none⟩) (L[k]).length cap]) L (k + 1) := by
  have hl : vs.length = k := by have := h.1.1; omega
  have hv : ∀ i, v.ownBlock = some i → i < w.heap.size := fun i e => (h.1.lt i e).2
  have hs1 := hB.size
  have hs3 := hgr.size
  have hsa : (w1.alloc o).heap.size = w1.heap.size + 1 := by simp
  have hK : Keeps (fun i => v.ownBlock = some i) w1 w3 := (Keeps.alloc (Keeps.refl _ w1) o).grown hgr (fun i e => .inl e)
  have hown3 : ∀ x, (Value.slice (some ⟨g3, 0, none⟩) (k + 1) cap3).ownBlock = some x → x = g3 := fun x e => (Option.some.inj e).symm
  refine ⟨hown, fun i hi hik => ?_⟩
  by_cases e : i = k
  · subst e
    refine ⟨g, cap, by simp [hl], by omega, by omega, fun e => ?_, hb.keep (Rd := fun i => i = g) hK (fun ad e => by rw [← Option.some.inj e]) (fun i e hn => by have := hv i hn; omega)⟩
    have e2 := hown3 _ e
    rcases hat with h1 | h1
    · have := hv _ h1; omega
    · omega
  · obtain ⟨gi, ci, h1, h2, h3, h4, h5⟩ := h.2 i hi (by omega)
    refine ⟨gi, ci, by rw [List.getElem?_append_left (by omega)]; exact h1, h2, by omega, fun e => ?_, (h5.below hB).keep (Rd := fun i => i = gi) hK (fun ad e => by rw [← Option.some.inj e]) (fun i e hn => by subst e; exact h4 hn)⟩
    have e2 := hown3 _ e
    rcases hat with h6 | h6
    · subst e2; exact h4 h6
    · omega
theorem copiedTo_end {w : World} {lo : Nat} {v : Value} {vs : List Value} {L : List (List UInt8)} (h : copiedTo w lo v vs L L.length) : ∃ a c, v = .slice a L.length c ∧ rowsFrom w lo a L := by
  obtain ⟨sa, c, rfl, hr⟩ := row_slice h.1
  refine ⟨sa, c, rfl, fun j hj => ?_⟩
  obtain ⟨g, rfl, _, hg, hc⟩ := hr j hj
  refine ⟨g, 0, rfl, hg, fun i hi => ?_⟩
  obtain ⟨gi, ci, h1, h2, _, _, h5⟩ := h.2 i hi hi
  exact ⟨some ⟨gi, 0, none⟩, ci, by rw [Nat.zero_add, hc i hi]; exact h1, h5, fun ad e => by rw [← Option.some.inj e]; exact h2⟩
set_option maxRecDepth 100000 in
set_option maxHeartbeats 2000000 in
theorem copyAll_rows (L : List (List UInt8)) (a : Option Addr) (c : Nat) (w : World) (h : rowsAt w a L) (hn : L.length ≤ 4096) (hr : ∀ l ∈ L, l.length = 512) :
    Calls Tryz.prog 70 #[.slice a L.length c] w fun e w' => ∃ v vs, e = .returned v ∧ copiedTo w' w.heap.size v vs L L.length ∧ Below w.heap.size w w' := by
  obtain ⟨i0, hi, hz0, hz1, hz2⟩ := info_parts infoRow
  have HI := hid hi
  have H := hid h
  clear hi h
  go_enter Tryz.func70, Tryz.ntmps70
  go_wp2
  go_loopw [3, 4] (fun v i wr => ∃ (k : Nat) (vs : List Value), k ≤ L.length ∧ i = .int .i64 k ∧ Hid (copiedTo wr w.heap.size v vs L k) ∧ Hid (Below w.heap.size w wr)) (fun _ i _ => L.length - (intOf i).toNat)
  case atStart => exact ⟨0, [], by omega, rfl, ⟨World.ownsRow_nil _ _ _ _, fun i hi h => by omega⟩, Below.refl _ _⟩
  case round =>
    obtain ⟨k, vs, hk, rfl, hM, hB⟩ := hrel
    by_cases hlt : k < L.length
    · have hk0 : (0 : Int) ≤ (k : Int) := by omega
      have hk1 : (k : Int) < (L.length : Int) := by omega
      obtain ⟨b, o, rfl, hc⟩ := H.out k hlt
      obtain ⟨a', c', hcell, hby⟩ := hc k hlt
      have hl5 := hr _ (List.getElem_mem hlt)
      have ck : wr.cell? ⟨b, o + k, none⟩ = some (.slice a' (L[k]).length c') := (hB.out.cell (p := ⟨b, o + k, none⟩) (World.block_lt_of_cell? w _ hcell)).trans hcell
      have hcp := copy_any L[k] a' c' wr (hby.below hB.out) (by omega) (by omega)
      have HSt := hid (fun w1 w3 g cap g3 cap3 o x1 x2 x3 x4 x5 x6 x7 => copiedTo_step (w1 := w1) (w3 := w3) (g := g) (cap := cap) (g3 := g3) (cap3 := cap3) (o := o) hM.out hlt hB.out.size x1 x2 x3 x4 x5 x6 x7)
      rw [hl5] at ck hcp HSt
      have HCp := hid hcp
      have HMr := hid hM.out.1
      have HMlt := hid (fun i e => (hM.out.1.lt i e).1)
      generalize L[k] = lk at *
      clear hcp hM hc hcell hby hl5
      go_wp2_with fail
      refine HCp.out.mono ?_
      clear HCp
      rintro e w1 ⟨g, cap, rfl, hb1, hg1, hg2, hB1⟩
      have HB1 := hid hB1
      have HR1 := hid ((Keeps.of_below (F := fun _ => False) hB1).row HMr.out (fun _ _ e => e))
      have Hb1 := hid hb1
      clear hB1 hb1
      go_wp2_with (refine wpList_append_lies _ rfl (.tmp 11) (.tmp 17) 51 rfl w.heap.size 37 i0 (.slice none 0 0) 1 24 Tryz.underlying51 HI.out hz0 hz1 hz2 rfl (by omega) u3 k vs rfl (HR1.out.alloc _) ⟨w1.heap.size, 0, none⟩ 1 1 [.slice (some ⟨g, 0, none⟩) 512 cap] rfl rfl (World.news_of_block (cs := #[.slice (some ⟨g, 0, none⟩) 512 cap]) (block_new w1 _)) (by intro u hu; rw [List.mem_singleton.1 hu]; rfl) (by omega) (by unfold maxLen; omega) (by omega) (by have := hB.out.size; have := HB1.out.size; simp; omega) (w1.heap.size + 1) (by simp) ?_; intro g3 cap3 w3 hown hgr hat hlt2; have HO := hid hown; have HG := hid hgr; have HAt := hid hat; clear hown hgr hat hlt2)
      have hbw := hB.out.trans (HB1.out.mono hB.out.size)
      have hba := hbw.alloc hbw.size (.cells #[.slice (some ⟨g, 0, none⟩) 512 cap] 37)
      exact ⟨⟨k + 1, _, by omega, by go_num, HSt.out w1 w3 g cap g3 cap3 _ HB1.out hg1 hg2 Hb1.out HO.out HG.out HAt.out, hba.trans (below_of_row HG.out hba.size HMlt.out)⟩, by simp [intOf]; omega⟩
    · obtain rfl : k = L.length := by omega
      have hge : ¬ ((L.length : Int) < (L.length : Int)) := by omega
      go_wp2
      go_ret
      exact ⟨_, rfl, ⟨vs, hM.out⟩, hB.out⟩
theorem copyAll_any (L : List (List UInt8)) (a : Option Addr) (c : Nat) (w : World) (h : rowsAt w a L) (hn : L.length ≤ 4096) (hr : ∀ l ∈ L, l.length = 512) :
    Calls Tryz.prog 70 #[.slice a L.length c] w fun e w' => ∃ a' c', e = .returned (.slice a' L.length c') ∧ rowsFrom w' w.heap.size a' L ∧ Below w.heap.size w w' := by
  refine (copyAll_rows L a c w h hn hr).mono ?_
  rintro e w' ⟨v, vs, rfl, hM, hB⟩
  obtain ⟨a', c', rfl, hrows⟩ := copiedTo_end hM
  exact ⟨a', c', rfl, hrows, hB⟩
end Go.Proofs.YtoeiodiadanhkaaGreat
