/- The reference disk: do, Write, Flush. -/
import Derived.Test.YtpkjpkjcdpgaaaaRef
namespace Go.Proofs.Ytpkjpkjcdpgaaaa
open Go.RowKit
theorem infoROp : (Try.prog.info? 78).map (fun i => (i.zero, i.size, i.bytes)) = some (some (.agg #[.bool false, .int .i64 0, .slice none 0 0]), 3, 40) := by kernel_rfl
theorem opCells_one {w : World} {r : Nat} {fv lv : Value} {vs : List Value} {Rd : Nat → Prop} {R : RefS} (h : RefIn w r fv lv vs Rd R) : ∀ u ∈ opCells R.l vs, u.oneCell' = true := by
  intro u hu
  unfold opCells at hu
  obtain ⟨p, hp, hu⟩ := List.mem_flatMap.1 hu
  obtain ⟨j, hj, e⟩ := List.mem_iff_getElem.1 hp
  have hj1 : j < R.l.length := by simp at hj; omega
  have hj2 : j < vs.length := by simp at hj; omega
  obtain ⟨a, c, hv, _⟩ := h.bytes j hj1 hj2
  have e2 : p.2 = vs[j] := by rw [← e]; simp
  simp only [List.mem_cons, List.mem_nil_iff, or_false] at hu
  rcases hu with rfl | rfl | rfl
  · rfl
  · rfl
  · rw [e2, hv]; rfl
/-- What the reference may look at, with the blocks that were made meanwhile. -/
abbrev moreOf (Rd : Nat → Prop) (w w' : World) : Nat → Prop := fun i => Rd i ∨ (w.heap.size ≤ i ∧ i < w'.heap.size)
/-- The reference behind one op more. -/
def RefS.did (R : RefS) (o : ROp) : RefS := { R with l := R.l ++ [o] }
/-- The last step: the new list has been laid, and stored. -/
theorem RefIn.did {w w1 w2 : World} {r : Nat} {fv lv : Value} {vs : List Value} {Rd : Nat → Prop} {R : RefS} (h : RefIn w r fv lv vs Rd R) (o : ROp) {a : Option Addr} {c g cap : Nat} (hb : bytesIn w a o.b) (ha : inRd Rd a)
    (hB : Below w.heap.size w w1) (hown : w1.ownsRow w.heap.size 78 3 (.slice (some ⟨g, 0, none⟩) (R.l.length + 1) cap) (R.l.length + 1) (opCells R.l vs ++ [.bool o.flush, .int .i64 o.n, .slice a o.b.length c]))
    (hw : w2 = w1.setCell ⟨r, 1, none⟩ (.slice (some ⟨g, 0, none⟩) (R.l.length + 1) cap)) :
    RefIn w2 r fv (.slice (some ⟨g, 0, none⟩) (R.l.length + 1) cap) (vs ++ [.slice a o.b.length c]) (moreOf Rd w w2) (R.did o) ∧ Keeps (fun i => i = r) w w2 := by
  have hr := lt_of_heap h.heap
  have hgl := (hown.lt g rfl).1
  have hgl2 := (hown.lt g rfl).2
  have hsz2 : w2.heap.size = w1.heap.size := by rw [hw]; simp [World.setCell]
  have hgr : w1.grownBy w2 (some r) := by rw [hw]; exact grown_setCell (grown_refl w1 (some r)) 1 _
  have K1 : Keeps (fun i => i = r) w w2 := (Keeps.of_below hB).grown hgr (fun i e => .inl (Option.some.inj e).symm)
  have hP1 := below_block hB h.heap hr
  have hP2 : w2.heap[r]? = some (.cells #[fv, .slice (some ⟨g, 0, none⟩) (R.l.length + 1) cap] 76 (0, 0)) := by rw [hw]; exact block_setCell hP1 1 _
  have hG : ∀ i, Rd i → ¬ (i = r) := fun i hi e => h.rd (e ▸ hi)
  -- all that was there, but for the struct itself
  have hfirst : ∃ a c, fv = .slice a R.first.length c ∧ rowsAt w2 a R.first ∧ inRd (moreOf Rd w w2) a := by
    obtain ⟨a, c, e, hr, hi⟩ := h.first
    refine ⟨a, c, e, fun j hj => ?_, fun ad ha => .inl (hi ad ha)⟩
    obtain ⟨b, o, e2, hc⟩ := hr j hj
    refine ⟨b, o, e2, fun i hi' => ?_⟩
    obtain ⟨a', c', h1, h2⟩ := hc i hi'
    exact ⟨a', c', K1.cell h1 (hG b (hi _ e2)), h2.keep K1 (h.firstRd a c e b o e2 i hi' a' _ c' h1) hG⟩
  refine ⟨⟨hP2, fun hn => ?_, hfirst, ?_, ?_, ?_, ?_, ?_, ?_⟩, K1⟩
  · rcases hn with e | e
    · exact h.rd e
    · omega
  · intro a0 c0 e b o e2 i hi a' n' c' hcell ad had
    obtain ⟨a1, c1, e1, hr1, hi1⟩ := h.first
    rw [e1] at e
    simp only [Value.slice.injEq] at e
    obtain ⟨rfl, _, rfl⟩ := e
    obtain ⟨b1, o1, e3, hc⟩ := hr1 i hi
    rw [e2] at e3
    simp only [Option.some.injEq, Addr.mk.injEq, and_true] at e3
    obtain ⟨rfl, rfl⟩ := e3
    obtain ⟨a2, c2, h1, _⟩ := hc i hi
    have h2 := K1.cell h1 (hG b (hi1 _ e2))
    rw [hcell] at h2
    simp only [Option.some.injEq, Value.slice.injEq] at h2
    obtain ⟨rfl, _, rfl⟩ := h2
    exact .inl (h.firstRd a1 c1 e1 b o e2 i hi _ _ _ h1 ad had)
  · have hgr' : g ≠ r := by omega
    have hk := (hown.mono (Nat.zero_le _)).kept hgr (.inr (fun e => hgr' (by simpa [Value.ownBlock] using e)))
    rw [RefS.did, opCells_snoc _ _ h.len]
    simpa using hk
  · intro i hi
    exact .inr (by have := Option.some.inj hi; simp at this; omega)
  · simp [RefS.did, h.len]
  · intro e; simp [RefS.did] at e
  · intro j hj hj'
    by_cases hjl : j < R.l.length
    · have hjv : j < vs.length := by rw [← h.len]; exact hjl
      obtain ⟨a1, c1, e1, hb1, hi1⟩ := h.bytes j hjl hjv
      refine ⟨a1, c1, ?_, ?_, fun ad had => .inl (hi1 ad had)⟩
      · simp only [RefS.did]
        rw [List.getElem_append_left hjv, List.getElem_append_left hjl, e1]
      · simp only [RefS.did]
        rw [List.getElem_append_left hjl]
        exact hb1.keep K1 hi1 hG
    · have hj2 : j = R.l.length := by simp [RefS.did] at hj; omega
      subst hj2
      refine ⟨a, c, ?_, ?_, fun ad had => .inl (ha ad had)⟩
      · simp only [RefS.did]
        rw [List.getElem_append_right (by rw [h.len]; exact Nat.le_refl _), List.getElem_append_right (Nat.le_refl _)]
        simp [h.len]
      · simp only [RefS.did]
        rw [List.getElem_append_right (Nat.le_refl _)]
        simpa using hb.keep K1 ha hG
set_option maxRecDepth 100000 in
set_option maxHeartbeats 2000000 in
theorem rdo_any (r : Nat) (fv lv : Value) (vs : List Value) (Rd : Nat → Prop) (R : RefS) (o : ROp) (a : Option Addr) (c : Nat) (w : World) (h : RefIn w r fv lv vs Rd R) (hm : R.l.length ≤ 1000000) (hb : bytesIn w a o.b) (ha : inRd Rd a) :
    Calls Try.prog 59 #[.pointer (some ⟨r, 0, none⟩), .agg #[.bool o.flush, .int .i64 o.n, .slice a o.b.length c]] w fun e w' => e = .returned (.tuple #[]) ∧
      ∃ lv' vs', RefIn w' r fv lv' vs' (moreOf Rd w w') (R.did o) ∧ Keeps (fun i => i = r) w w' := by
  obtain ⟨i0, hi, hz0, hz1, hz2⟩ := info_parts infoROp
  have HI := hid hi
  have H := hid h
  have HDid := hid (fun w1 w2 g cap h1 h2 h3 => h.did (w1 := w1) (w2 := w2) o (c := c) (g := g) (cap := cap) hb ha h1 h2 h3)
  have hrl := lt_of_heap h.heap
  have hX := block_new w (.cells #[.bool o.flush, .int .i64 o.n, .slice a o.b.length c] 78)
  have hBA := (Below.refl w.heap.size w).alloc (Nat.le_refl _) (.cells #[.bool o.flush, .int .i64 o.n, .slice a o.b.length c] 78)
  have hPA := block_alloc h.heap (.cells #[.bool o.flush, .int .i64 o.n, .slice a o.b.length c] 78)
  have hone := opCells_one h
  have hlc := length_opCells R.l vs h.len
  have hops := h.ops
  have hnil := h.nilv
  generalize hnb : o.b.length = nb at *
  generalize hfl : o.flush = fl at *
  generalize hnn : o.n = nn at *
  clear hnb hfl hnn h hi hb
  by_cases hR : R.l = []
  · -- the first op
    obtain rfl := hnil hR
    have c1 : w.cell? ⟨r, 1, none⟩ = some (.slice none 0 0) := by rw [cell_of_block H.out.heap]; rfl
    have HR0 : Hid (R.l.length = 0) := by simp [hR, Hid]
    have HC0 : Hid (opCells R.l vs = []) := by simp [hR, Hid, opCells]
    have HX := hid hX
    have HBA := hid hBA
    have HPA := hid hPA
    have N2 := hid (new2 w (.cells #[.bool fl, .int .i64 nn, .slice a nb c] 78) (.cells #[.bool fl, .int .i64 nn, .slice a nb c] 78))
    have H0 := hid H.out.heap
    clear hX hBA hPA hnil hops hone hlc hR H
    go_enter Try.func59, Try.ntmps59
    go_wp2_with (refine wpList_append_lies _ rfl (.tmp 12) (.tmp 14) 74 rfl w.heap.size 78 i0 (.agg #[.bool false, .int .i64 0, .slice none 0 0]) 3 40 Try.underlying74 HI.out hz0 hz1 hz2 rfl (by omega) (.slice none 0 0) 0 [] rfl (World.ownsRow_nil _ _ _ _) ⟨w.heap.size + 1, 0, none⟩ 1 1 [.bool fl, .int .i64 nn, .slice a nb c] rfl rfl (World.news_of_block (cs := #[.bool fl, .int .i64 nn, .slice a nb c]) (new2 w (.cells #[.bool fl, .int .i64 nn, .slice a nb c] 78) (.cells #[.bool fl, .int .i64 nn, .slice a nb c] 78)).2.1) (by intro u hu; simp only [List.mem_cons, List.mem_nil_iff, or_false] at hu; rcases hu with rfl | rfl | rfl <;> rfl) (by omega) (by decide) (by omega) (by simp; omega) (w.heap.size + 2) (by simp) ?_; intro g cap w1 hown hgr hat hlt1; have HO := hid hown; have HB1 := hid (N2.out.2.2.1.trans (below_of_row hgr (by have := N2.out.2.2.1.size; exact this) (fun i e => by cases e))); have HP1 := hid (below_block HB1.out H0.out hrl); have f1 : w1.cell? ⟨r, 1, none⟩ = some (.slice none 0 0) := cell_of_block HP1.out 1; have f2 : w1.frozen? ⟨r, 1, none⟩ = false := frozen_of_block HP1.out 1; clear hown hgr hat hlt1)
    have HRes := hid (HDid.out w1 _ g cap HB1.out (by rw [HR0.out, HC0.out]; exact HO.out) rfl)
    rw [HR0.out] at HRes
    clear HDid HO HB1 HP1 f1 f2 HX HBA HPA
    go_wp2
    go_end0
    exact ⟨rfl, _, _, HRes.out.1, HRes.out.2⟩
  · -- more ops
    have hpos : 0 < R.l.length := List.length_pos_iff.2 hR
    obtain ⟨g0, cap0, rfl, hg0, hg1⟩ := hops.form hpos
    have c1 : w.cell? ⟨r, 1, none⟩ = some (.slice (some ⟨g0, 0, none⟩) R.l.length cap0) := by rw [cell_of_block H.out.heap]; rfl
    have HCl := hid (hops.cells (g := g0) rfl)
    have HLc := hid hlc
    have HOne := hid hone
    have HX := hid hX
    have HBA := hid hBA
    have H0 := hid H.out.heap
    clear hX hBA hPA hnil hops hone hlc hR H
    generalize hcs : opCells R.l vs = cs at *
    generalize hml : R.l.length = m at *
    clear hcs hml
    go_enter Try.func59, Try.ntmps59
    go_wp2_with (first
      | (have _t := HCl; refine wpList_append_lies _ rfl (.tmp 5) (.tmp 9) 74 rfl w.heap.size 78 i0 (.agg #[.bool false, .int .i64 0, .slice none 0 0]) 3 40 Try.underlying74 HI.out hz0 hz1 hz2 rfl (by omega) (.slice none 0 0) 0 [] rfl (World.ownsRow_nil _ _ _ _) ⟨g0, 0, none⟩ m cap0 cs rfl HLc.out (fun j u hu => by rw [World.cell?_alloc_lt _ _ _ (World.block_lt_of_cell? w _ (HCl.out j u hu))]; exact HCl.out j u hu) HOne.out hpos (by unfold maxLen; omega) (by omega) (by simp) (w.heap.size + 1) (by simp) ?_; intro g1 cap1 w1 hown hgr hat hlt1; have HO1 := hid hown; have HB1 := hid (HBA.out.trans (below_of_row hgr HBA.out.size (fun i e => by cases e))); have HX1 := hid (grown_block hgr HX.out (fun e => by cases e)); clear hown hgr hat hlt1 HCl; rw [Nat.zero_add, List.nil_append] at HO1; rw [Nat.zero_add]; have x0 : w1.cell? ⟨w.heap.size, 0, none⟩ = some (.bool fl) := cell_of_block HX1.out 0; have x1 : w1.cell? ⟨w.heap.size, 1, none⟩ = some (.int .i64 nn) := cell_of_block HX1.out 1; have x2 : w1.cell? ⟨w.heap.size, 2, none⟩ = some (.slice a nb c) := cell_of_block HX1.out 2)
      | (refine wpList_append_lies _ rfl (.tmp 12) (.tmp 14) 74 rfl w.heap.size 78 i0 (.agg #[.bool false, .int .i64 0, .slice none 0 0]) 3 40 Try.underlying74 HI.out hz0 hz1 hz2 rfl (by omega) (.slice (some ⟨g1, 0, none⟩) m cap1) m cs rfl (HO1.out.alloc _) ⟨w1.heap.size, 0, none⟩ 1 1 [.bool fl, .int .i64 nn, .slice a nb c] rfl rfl (World.news_of_block (cs := #[.bool fl, .int .i64 nn, .slice a nb c]) (block_new w1 _)) (by intro u hu; simp only [List.mem_cons, List.mem_nil_iff, or_false] at hu; rcases hu with rfl | rfl | rfl <;> rfl) (by omega) (by unfold maxLen; omega) (by omega) (by have := HB1.out.size; simp; omega) (w1.heap.size + 1) (by simp) ?_; intro g cap w2 hown hgr hat hlt1; have HO := hid hown; have HBa := HB1.out.alloc HB1.out.size (.cells #[.bool fl, .int .i64 nn, .slice a nb c] 78); have HB2 := hid (HBa.trans (below_of_row hgr HBa.size (fun i e => (HO1.out.lt i e).1))); have HP2 := hid (below_block HB2.out H0.out hrl); have f1 : w2.cell? ⟨r, 1, none⟩ = some (.slice (some ⟨g0, 0, none⟩) m cap0) := cell_of_block HP2.out 1; have f2 : w2.frozen? ⟨r, 1, none⟩ = false := frozen_of_block HP2.out 1; clear hown hgr hat hlt1 HBa))
    have HRes := hid (HDid.out w2 _ g cap HB2.out HO.out rfl)
    clear HDid HO HB2 HP2 f1 f2 HX HBA HO1 HB1 HX1 x0 x1 x2
    go_wp2
    go_end0
    exact ⟨rfl, _, _, HRes.out.1, HRes.out.2⟩
end Go.Proofs.Ytpkjpkjcdpgaaaa
