/- The reference's Cut. -/
import Derived.Test.YtpkjpkjcdpgaaaaCutPlain
namespace Go.Proofs.Ytpkjpkjcdpgaaaa
open Go.RowKit
theorem opCells_take (l : List ROp) (vs : List Value) (k : Nat) : ∃ rest, opCells l vs = opCells (l.take k) (vs.take k) ++ rest := by
  refine ⟨opCells (l.drop k) (vs.drop k), ?_⟩
  unfold opCells
  rw [← List.flatMap_append]
  congr 1
  rw [List.zip, ← List.take_zipWith, ← List.drop_zipWith, List.take_append_drop]
theorem run_append_none {P : Program} {w : World} (t ty e : TypeId) (i : TypeInfo) (ht : P.underlying t = some (.slice e)) (hi : P.info? e = some i) (a : Option Addr) (c : Nat) :
    (Builtin.append_ #[t, t] ty #[.slice none 0 0, .slice a 0 c]).run P w = .ok (.slice none 0 0) w := by
  cases a <;> simp [Builtin.append_, run_underlying ht, sizeOf, typeInfo, Builtin.lenOf, Builtin.firstCells, loadCells, loadCellsFrom, hi]
theorem wp_append_ops {w : World} {o : Oper} {a : Act} {K : Act → World → Prop} {Q : Exit → Act → World → Prop} (s x : Operand)
    (ho : o.op = .call { callee := .builtin .append, args := #[s, x], argTypes := #[74, 74] }) (sa : Option Addr) (m c : Nat) (cs : List Value)
    (hs : a.eval s = .slice none 0 0) (hx : a.eval x = .slice sa m c) (hl : cs.length = m * 3) (hc : 0 < m → ∃ b, sa = some b ∧ ∀ j u, cs[j]? = some u → w.cell? (b.add j) = some u) (h1 : ∀ u ∈ cs, u.oneCell' = true) (hm : m ≤ 1000000)
    (h : ∀ v' w', w'.ownsRow w.heap.size 78 3 v' m cs → Below w.heap.size w w' → (m = 0 → v' = .slice none 0 0) → K (a.put o.dst v') w') : Oper.wp Try.prog o a w K Q := by
  obtain ⟨i0, hi, hz0, hz1, hz2⟩ := info_parts infoROp
  rcases Nat.eq_zero_or_pos m with rfl | hpos
  · obtain rfl : cs = [] := List.eq_nil_of_length_eq_zero (by simpa using hl)
    have hrun := run_append_none (P := Try.prog) (w := w) 74 o.type 78 i0 Try.underlying74 hi sa c
    unfold Oper.wp
    simp [execOp, ho, resolve, invoke, builtin, hs, hx, hrun, Result.andThen]
    exact h _ w (World.ownsRow_nil _ _ _ _) (Below.refl _ _) (fun _ => rfl)
  · obtain ⟨b, rfl, hcell⟩ := hc hpos
    refine wp_append_lies _ s x 74 ho w.heap.size 78 i0 (.agg #[.bool false, .int .i64 0, .slice none 0 0]) 3 40 Try.underlying74 hi hz0 hz1 hz2 rfl (by omega) (.slice none 0 0) 0 [] hs (World.ownsRow_nil _ _ _ _) b m c cs hx hl hcell h1 hpos (by unfold maxLen; omega) (by omega) (Nat.le_refl _) w.heap.size rfl ?_
    intro g cap w1 hown hgr _ _
    rw [Nat.zero_add, List.nil_append] at hown
    rw [Nat.zero_add]
    exact h _ w1 hown (below_of_row hgr (Nat.le_refl _) (fun i e => by cases e)) (fun e => by omega)
/-- What may be read of a cut: what could be read, and what is new, but not the struct itself. -/
def cutRd (Rd : Nat → Prop) (N r : Nat) (i : Nat) : Prop := (Rd i ∨ N ≤ i) ∧ i ≠ r
theorem RefIn.cut {w w2 : World} {r r' : Nat} {fv lv lv' : Value} {vs : List Value} {Rd : Nat → Prop} {R : RefS} (h : RefIn w r fv lv vs Rd R) (hrd : ∀ i, Rd i → i < w.heap.size) (k : Nat) (hB : Below w.heap.size w w2) (hr : w.heap.size ≤ r')
    (hb : w2.heap[r']? = some (.cells #[fv, lv'] 76 (0, 0))) (hown : w2.ownsRow w.heap.size 78 3 lv' (R.l.take k).length (opCells (R.l.take k) (vs.take k))) (hnil : R.l.take k = [] → lv' = .slice none 0 0) :
    RefIn w2 r' fv lv' (vs.take k) (cutRd Rd w.heap.size r') (cutR R k) := by
  have h2 := h.below hB
  have hup : ∀ i, Rd i → cutRd Rd w.heap.size r' i := fun i hi => ⟨.inl hi, by have := hrd i hi; omega⟩
  refine ⟨hb, fun e => e.2 rfl, ?_, ?_, hown.mono (Nat.zero_le _), fun i hi => ?_, ?_, hnil, ?_⟩
  · obtain ⟨a, c, e, hr, hi⟩ := h2.first
    exact ⟨a, c, e, hr, fun ad ha => hup _ (hi ad ha)⟩
  · exact fun a c e b o e2 i hi a' n' c' hc ad ha => hup _ (h2.firstRd a c e b o e2 i hi a' n' c' hc ad ha)
  · refine ⟨.inr (hown.lt i hi).1, ?_⟩
    obtain ⟨cur, hc⟩ := row_type hown hi
    refine ne_of_heap hc hb (fun e => ?_)
    simp only [Obj.cells.injEq] at e
    exact absurd e.2.1 (by decide)
  · simp [cutR, h.len]
  · intro j hj hj'
    have hjl : j < R.l.length := by simp [cutR] at hj; omega
    have hjv : j < vs.length := by rw [← h.len]; exact hjl
    obtain ⟨a, c, e, hb, hi⟩ := h2.bytes j hjl hjv
    have e1 : (cutR R k).l[j] = R.l[j] := by simp [cutR]
    rw [e1]
    exact ⟨a, c, by rw [List.getElem_take]; exact e, hb, fun ad ha => hup _ (hi ad ha)⟩
set_option maxRecDepth 100000 in
set_option maxHeartbeats 2000000 in
theorem rcut_ok (r : Nat) (fv lv : Value) (vs : List Value) (Rd : Nat → Prop) (R : RefS) (k : Nat) (w : World) (h : RefIn w r fv lv vs Rd R) (hrd : ∀ i, Rd i → i < w.heap.size) (hm : R.l.length ≤ 1000000) (hk : k ≤ R.l.length) :
    Calls Try.prog 16 #[.pointer (some ⟨r, 0, none⟩), .int .i64 k] w fun e w' => Below w.heap.size w w' ∧ ∃ r' lv' vs' Rd', e = .returned (.tuple #[.pointer (some ⟨r', 0, none⟩), .int .i64 0]) ∧ RefIn w' r' fv lv' vs' Rd' (cutR R k) := by
  obtain ⟨fa, fc, hfv, -, -⟩ := h.first
  obtain ⟨sa, cap, hlv, -⟩ := h.slice
  have c0 : w.cell? ⟨r, 0, none⟩ = some (.slice fa R.first.length fc) := by rw [cell_of_block h.heap, ← hfv]; rfl
  have c1 : w.cell? ⟨r, 1, none⟩ = some (.slice sa R.l.length cap) := by rw [cell_of_block h.heap, ← hlv]; rfl
  have hk0 : (0 : Int) ≤ (k : Int) := by omega
  have hk1 : (k : Int) ≤ (R.l.length : Int) := by omega
  have HCut := hid (fun w2 r' lv' => h.cut (w2 := w2) (r' := r') (lv' := lv') hrd k)
  obtain ⟨rest, hrest⟩ := opCells_take R.l vs k
  have hlk : (R.l.take k).length = k := by simp; omega
  have hlc : (opCells (R.l.take k) (vs.take k)).length = k * 3 := by rw [length_opCells _ _ (by simp [h.len]), hlk]
  have hone : ∀ u ∈ opCells (R.l.take k) (vs.take k), u.oneCell' = true := fun u hu => opCells_one h u (by rw [hrest]; exact List.mem_append_left _ hu)
  have hcs : 0 < k → ∃ b, sa = some b ∧ b.block < w.heap.size ∧ ∀ j u, (opCells (R.l.take k) (vs.take k))[j]? = some u → w.cell? (b.add j) = some u := fun hp => by
    obtain ⟨g, cp, e, -, hg⟩ := h.ops.form (by omega)
    rw [hlv] at e
    simp only [Value.slice.injEq] at e
    refine ⟨⟨g, 0, none⟩, e.1, hg, fun j u hu => ?_⟩
    have hj : j < k * 3 := by rw [← hlc]; exact (List.getElem?_eq_some_iff.1 hu).1
    have hcl := h.ops
    rw [hlv, e.1] at hcl
    rw [Addr.add_mid, Nat.zero_add, hcl.cellAt j (by omega), hrest, List.getElem?_append_left (by omega)]
    exact hu
  have HCs := hid hcs
  have HOne := hid hone
  have HLc := hid hlc
  have HLk := hid hlk
  have H := hid h
  have HSc : Hid ((∃ b, sa = some b ∧ (k : Int) ≤ (cap : Int)) ∨ (sa = none ∧ cap = 0 ∧ k = 0 ∧ R.l.length = 0)) := by
    rcases h.ops.2 with ⟨e1, e2⟩ | ⟨g, cp, cur, e1, e2, e3, e4, e5⟩
    · rw [hlv] at e1; simp only [Value.slice.injEq] at e1; exact .inr ⟨e1.1, e1.2.2, by omega, e2⟩
    · rw [hlv] at e1; simp only [Value.slice.injEq] at e1; exact .inl ⟨_, e1.1, by rw [e1.2.2]; omega⟩
  rw [hfv] at HCut
  clear h hcs hone hlc hlk hrest
  generalize opCells (R.l.take k) (vs.take k) = cs at *
  go_enter Try.func16, Try.ntmps16
  go_wp2
  have hrl := lt_of_heap H.out.heap
  have hN := block_new w (.cells #[.slice fa R.first.length fc, .slice none 0 0] 76)
  have cN1 := cell_of_block hN 1
  have fN1 := frozen_of_block hN 1
  have cr : (w.alloc (.cells #[.slice fa R.first.length fc, .slice none 0 0] 76)).cell? ⟨r, 1, none⟩ = some (.slice sa R.l.length cap) := by
    rw [World.cell?_alloc_lt _ _ _ hrl]; exact c1
  have HBN := hid ((Below.refl w.heap.size w).alloc (Nat.le_refl _) (.cells #[.slice fa R.first.length fc, .slice none 0 0] 76))
  have HN := hid hN
  have hzN : (w.alloc (.cells #[.slice fa R.first.length fc, .slice none 0 0] 76)).heap.size = w.heap.size + 1 := by simp
  have HZN := hid hzN
  clear hN hzN
  generalize w.alloc (.cells #[.slice fa R.first.length fc, .slice none 0 0] 76) = wn at *
  refine wp_region_noPanic ?_
  refine wp_region_held_drew (S := fun W => W.cell? ⟨r, 1, none⟩ = some (.slice sa R.l.length cap)) (by kernel_rfl) cr (fun hHeld => ?_)
  refine wpAnyH_take (i := 0) (v := ?_) rfl (by kernel_rfl) (by kernel_rfl) (by kernel_rfl) (fun _ _ _ h => h) (Or.inl ⟨by rfl, ?_⟩) (by assumption) ?_
  rotate_left
  · (intro W hSw; (try dsimp only at hSw); go_simp; try with_reducible rfl)
  try simp only [List.getElem_toArray, List.getElem_cons_zero, Act.put, List.setIfInBounds_toArray, List.set_cons_zero, List.set_cons_succ]
  refine wpAnyH_take (i := 1) (v := ?_) rfl (by kernel_rfl) (by kernel_rfl) (by kernel_rfl) (fun _ _ _ h => h) (Or.inl ⟨by rfl, ?_⟩) (by assumption) ?_
  rotate_left
  · (intro W hSw; (try dsimp only at hSw); go_simp; try with_reducible rfl)
  try simp only [List.getElem_toArray, List.getElem_cons_succ, List.getElem_cons_zero, Act.put, List.setIfInBounds_toArray, List.set_cons_zero, List.set_cons_succ]
  refine wpAnyH_take (i := 2) (v := ?_) rfl (by kernel_rfl) (by kernel_rfl) (by kernel_rfl) (fun _ _ _ h => h) (Or.inl ⟨by rfl, ?_⟩) (by assumption) ?_
  rotate_left
  · (intro W hSw; (try dsimp only at hSw); go_simp; try with_reducible rfl)
  try simp only [List.getElem_toArray, List.getElem_cons_succ, List.getElem_cons_zero, Act.put, List.setIfInBounds_toArray, List.set_cons_zero, List.set_cons_succ]
  refine wpAnyH_take (i := 3) (v := ?_) rfl (by kernel_rfl) (by kernel_rfl) (by kernel_rfl) (fun _ _ _ h => h) (Or.inl ⟨by rfl, ?_⟩) (by assumption) ?_
  rotate_left
  · (intro W hSw; (try dsimp only at hSw); go_simp; try with_reducible rfl)
  try simp only [List.getElem_toArray, List.getElem_cons_succ, List.getElem_cons_zero, Act.put, List.setIfInBounds_toArray, List.set_cons_zero, List.set_cons_succ]
  refine wpAnyH_take (i := 5) (v := ?_) rfl (by kernel_rfl) (by kernel_rfl) (by kernel_rfl) (fun _ _ _ h => h) (Or.inl ⟨by rfl, ?_⟩) (by assumption) ?_
  rotate_left
  · (intro W hSw; (try dsimp only at hSw); go_simp; try with_reducible rfl)
  try simp only [List.getElem_toArray, List.getElem_cons_succ, List.getElem_cons_zero, Act.put, List.setIfInBounds_toArray, List.set_cons_zero, List.set_cons_succ]
  refine wpAnyH_take (i := 6) (v := ?_) rfl (by kernel_rfl) (by kernel_rfl) (by kernel_rfl) (fun _ _ _ h => h) (Or.inl ⟨by rfl, ?_⟩) (by assumption) ?_
  rotate_left
  · (intro W hSw; (try dsimp only at hSw); go_simp; try with_reducible rfl)
  try simp only [List.getElem_toArray, List.getElem_cons_succ, List.getElem_cons_zero, Act.put, List.setIfInBounds_toArray, List.set_cons_zero, List.set_cons_succ]
  refine wpAnyH_take (i := 7) (v := ?_) rfl (by kernel_rfl) (by kernel_rfl) (by kernel_rfl) (fun _ _ _ h => h) (Or.inl ⟨by rfl, ?_⟩) (by assumption) ?_
  rotate_left
  · (intro W hSw; (try dsimp only at hSw); go_simp; try with_reducible rfl)
  try simp only [List.getElem_toArray, List.getElem_cons_succ, List.getElem_cons_zero, Act.put, List.setIfInBounds_toArray, List.set_cons_zero, List.set_cons_succ]
  refine wpAnyH_take (i := 8) (v := ?_) rfl (by kernel_rfl) (by kernel_rfl) (by kernel_rfl) (fun _ _ _ h => h) (Or.inl ⟨by rfl, ?_⟩) (by assumption) ?_
  rotate_left
  · (intro W hSw; (try dsimp only at hSw); go_simp; try with_reducible rfl)
  try simp only [List.getElem_toArray, List.getElem_cons_succ, List.getElem_cons_zero, Act.put, List.setIfInBounds_toArray, List.set_cons_zero, List.set_cons_succ]
  refine wpAnyH_take (i := 9) (v := ?_) rfl (by kernel_rfl) (by kernel_rfl) (by kernel_rfl) (fun _ _ _ h => h) (Or.inl ⟨by rfl, ?_⟩) (by assumption) ?_
  rotate_left
  · (intro W hSw; (try dsimp only at hSw); go_simp; try with_reducible rfl)
  try simp only [List.getElem_toArray, List.getElem_cons_succ, List.getElem_cons_zero, Act.put, List.setIfInBounds_toArray, List.set_cons_zero, List.set_cons_succ]
  refine wpAnyH_take (i := 10) (v := .slice sa k cap) rfl (by kernel_rfl) (by kernel_rfl) (by kernel_rfl) (fun _ _ _ h => h) (Or.inl ⟨by rfl, ?_⟩) (by assumption) ?_
  · intro W hSw
    rcases HSc.out with ⟨b, e1, e2⟩ | ⟨e1, e2, e3, e4⟩
    · subst e1
      go_simp
    · subst e1 e2 e3
      rw [e4]
      go_simp
  try simp only [List.getElem_toArray, List.getElem_cons_succ, List.getElem_cons_zero, Act.put, List.setIfInBounds_toArray, List.set_cons_zero, List.set_cons_succ]
  refine wpAnyH_ready (rs := [4]) (by kernel_rfl) (by simp) (AllReadyH.cons rfl (fun K hK => ?_) AllReadyH.nil)
  rw [if_pos (by rfl)]
  unfold Oper.wp
  go_simp
  refine hK.out _ _ cr (fun hHeld => ?_)
  clear hK K
  try simp only [List.getElem_toArray, List.getElem_cons_succ, List.getElem_cons_zero, Act.put, List.setIfInBounds_toArray, List.set_cons_zero, List.set_cons_succ]
  refine wpAnyH_ready (rs := [11]) (by kernel_rfl) (by simp) (AllReadyH.cons rfl (fun K hK => ?_) AllReadyH.nil)
  rw [if_pos (by rfl)]
  refine wp_append_ops (.tmp 32) (.tmp 38) rfl sa k cap cs rfl rfl HLc.out (fun hp => by
    obtain ⟨b, e1, e2, e3⟩ := HCs.out hp
    exact ⟨b, e1, fun j u hu => (HBN.out.cell (p := b.add j) (by rw [add_block]; exact e2)).trans (e3 j u hu)⟩) HOne.out (by omega) ?_
  intro v' w1 hown hB1 hnil
  have hB1' := below_undrew hB1
  have hb1 := below_block hB1' HN.out (by show _ < wn.heap.size; rw [HZN.out]; omega)
  have cr1 := (hB1'.cell (p := ⟨r, 1, none⟩) (by show r < wn.heap.size; rw [HZN.out]; omega)).trans cr
  have cN := cell_of_block hb1 1
  have fN := frozen_of_block hb1 1
  have HB1 := hid (HBN.out.trans (hB1'.mono (by show _ ≤ wn.heap.size; rw [HZN.out]; omega)))
  obtain ⟨va, vc, hv'⟩ := row_slice' hown
  subst hv'
  have HOw := hid hown
  have HNil := hid hnil
  have Hb1 := hid hb1
  clear hB1 hB1' hown hnil hb1 HN HBN cN1 fN1
  refine hK.out _ _ cr1 (fun hHeld => ?_)
  clear hK K
  try simp only [List.getElem_toArray, List.getElem_cons_succ, List.getElem_cons_zero, Act.put, List.setIfInBounds_toArray, List.set_cons_zero, List.set_cons_succ]
  refine wpAnyH_take (i := 12) (v := ?_) rfl (by kernel_rfl) (by kernel_rfl) (by kernel_rfl) (fun _ _ _ h => h) (Or.inl ⟨by rfl, ?_⟩) (by assumption) ?_
  rotate_left
  · (intro W hSw; (try dsimp only at hSw); go_simp; try with_reducible rfl)
  try simp only [List.getElem_toArray, List.getElem_cons_succ, List.getElem_cons_zero, Act.put, List.setIfInBounds_toArray, List.set_cons_zero, List.set_cons_succ]
  refine wpAnyH_take (i := 13) (v := ?_) rfl (by kernel_rfl) (by kernel_rfl) (by kernel_rfl) (fun _ _ _ h => h) (Or.inl ⟨by rfl, ?_⟩) (by assumption) ?_
  rotate_left
  · (intro W hSw; (try dsimp only at hSw); go_simp; try with_reducible rfl)
  try simp only [List.getElem_toArray, List.getElem_cons_succ, List.getElem_cons_zero, Act.put, List.setIfInBounds_toArray, List.set_cons_zero, List.set_cons_succ]
  refine wpAnyH_ready (rs := [14]) (by kernel_rfl) (by simp) (AllReadyH.cons rfl (fun K hK => ?_) AllReadyH.nil)
  rw [if_pos (by rfl)]
  unfold Oper.wp
  go_simp
  have hne : r ≠ w.heap.size := by omega
  have cr2 : (w1.setCell ⟨w.heap.size, 1, none⟩ (.slice va k vc)).cell? ⟨r, 1, none⟩ = some (.slice sa R.l.length cap) := by
    rw [← cr1]
    exact World.cell?_of_block (block_setCell_other _ _ hne)
  have HB2 := hid (HB1.out.setCell (p := ⟨w.heap.size, 1, none⟩) (Nat.le_refl _) (.slice va k vc))
  have Hb2 := hid (block_setCell Hb1.out 1 (.slice va k vc))
  have HOw2 := hid (HOw.out.kept (grown_setCell (grown_refl w1 (some w.heap.size)) 1 (.slice va k vc)) (.inr (fun e => by
    have h3 := (HOw.out.lt _ e).1
    have h4 : wn.drew.heap.size = w.heap.size + 1 := HZN.out
    omega)))
  clear HOw Hb1 HB1
  refine hK.out _ _ cr2 (fun hHeld => ?_)
  clear hK K cr1 cr2 cN fN hHeld
  generalize w1.setCell ⟨w.heap.size, 1, none⟩ (.slice va k vc) = w2 at *
  refine wpAnyH_done (by kernel_rfl) ?_ _
  refine NoPanic.normal ?_
  go_wp2
  go_returns
  refine ⟨HB2.out, w.heap.size, (.slice va k vc), vs.take k, cutRd Rd w.heap.size w.heap.size, rfl, ?_⟩
  have hz4 : wn.drew.heap.size = w.heap.size + 1 := HZN.out
  rw [hfv]
  refine HCut.out w2 w.heap.size (.slice va k vc) HB2.out (Nat.le_refl _) Hb2.out ?_ (fun e => HNil.out ?_)
  · rw [HLk.out]; exact HOw2.out.mono (by omega)
  · rw [← HLk.out, e]; rfl
theorem rcut_no (r : Nat) (fv lv : Value) (vs : List Value) (Rd : Nat → Prop) (R : RefS) (k : Int) (w : World) (h : RefIn w r fv lv vs Rd R) (hk : ¬ (0 ≤ k ∧ k ≤ R.l.length)) :
    Calls Try.prog 16 #[.pointer (some ⟨r, 0, none⟩), .int .i64 k] w fun e w' => e = .returned (.tuple #[.pointer none, .int .i64 2]) ∧ w' = w := by
  obtain ⟨sa, cap, hlv, -⟩ := h.slice
  have c1 : w.cell? ⟨r, 1, none⟩ = some (.slice sa R.l.length cap) := by rw [cell_of_block h.heap, ← hlv]; rfl
  clear h
  by_cases h0 : k < 0
  · go_enter Try.func16, Try.ntmps16
    go_wp2
    go_returns
    exact ⟨rfl, rfl⟩
  · have h1 : (R.l.length : Int) < k := by omega
    go_enter Try.func16, Try.ntmps16
    go_wp2
    go_returns
    exact ⟨rfl, rfl⟩
theorem cut_no (d : DL) (S : DiskS) (k : Int) (w : World) (h : DiskIn w d S) (hk : ¬ (0 ≤ k ∧ k ≤ S.ops.length)) :
    Calls Try.prog 15 #[.pointer (some ⟨d.p, 0, none⟩), .int .i64 k] w fun e w' => e = .returned (.tuple #[.pointer none, .int .i64 2]) ∧ w' = w := by
  obtain ⟨sa, cap, hov⟩ := row_slice' h.ops
  have c1 : w.cell? ⟨d.p, 1, none⟩ = some (.slice sa S.ops.length cap) := by rw [cell_of_block h.heap, ← hov]; rfl
  clear h
  by_cases h0 : k < 0
  · go_enter Try.func15, Try.ntmps15
    go_wp2
    go_returns
    exact ⟨rfl, rfl⟩
  · have h1 : (S.ops.length : Int) < k := by omega
    go_enter Try.func15, Try.ntmps15
    go_wp2
    go_returns
    exact ⟨rfl, rfl⟩
end Go.Proofs.Ytpkjpkjcdpgaaaa
