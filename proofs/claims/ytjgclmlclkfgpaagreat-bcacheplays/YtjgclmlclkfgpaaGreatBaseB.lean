/- Several of my texts in one: Ref, Ref2, Ref3, RefNew, CopyAll, SameAll, Ref4, RAt, RImage, RWaits, RWaiting, Pair, Play, AlonePlain, CrashesPlain, PlaysPlain, RRead, CutPlain. -/
import Derived.Test.YtjgclmlclkfgpaaGreatBaseA
/- The reference disk: how it lies in memory; look, Copy, do, Write, Flush. -/
namespace Go.Proofs.YtjgclmlclkfgpaaGreat
open Go.RowKit
/-- An op of the reference. -/
structure ROp where
  flush : Bool
  n : Int
  b : List UInt8
/-- The reference disk. -/
structure RefS where
  first : List (List UInt8)
  l : List ROp
/-- Where a slice points lies in Rd. -/
def inRd (Rd : Nat → Prop) (a : Option Addr) : Prop := ∀ ad, a = some ad → Rd ad.block
/-- The cells of ops, whose bytes are the slices vs. -/
def opCells (l : List ROp) (vs : List Value) : List Value := (l.zip vs).flatMap (fun p => [.bool p.1.flush, .int .i64 p.1.n, p.2])
theorem opCells_snoc (l : List ROp) (vs : List Value) (h : l.length = vs.length) (o : ROp) (v : Value) : opCells (l ++ [o]) (vs ++ [v]) = opCells l vs ++ [.bool o.flush, .int .i64 o.n, v] := by
  unfold opCells
  rw [List.zip_append h]
  simp
theorem length_opCells (l : List ROp) (vs : List Value) (h : l.length = vs.length) : (opCells l vs).length = l.length * 3 := by
  unfold opCells
  rw [List.length_flatMap]
  simp [h, List.map_const', List.sum_replicate_nat]
structure RefIn (w : World) (r : Nat) (fv lv : Value) (vs : List Value) (Rd : Nat → Prop) (R : RefS) : Prop where
  heap : w.heap[r]? = some (.cells #[fv, lv] 109 (0, 0))
  rd : ¬ Rd r
  first : ∃ a c, fv = .slice a R.first.length c ∧ rowsAt w a R.first ∧ inRd Rd a
  firstRd : ∀ a c, fv = .slice a R.first.length c → ∀ b o, a = some ⟨b, o, none⟩ → ∀ i, i < R.first.length → ∀ a' n' c', w.cell? ⟨b, o + i, none⟩ = some (.slice a' n' c') → inRd Rd a'
  ops : w.ownsRow 0 141 3 lv R.l.length (opCells R.l vs)
  opsRd : ∀ i, lv.ownBlock = some i → Rd i
  len : R.l.length = vs.length
  nilv : R.l = [] → lv = .slice none 0 0
  bytes : ∀ j (hj : j < R.l.length) (hj' : j < vs.length), ∃ a c, vs[j] = .slice a (R.l[j]).b.length c ∧ bytesIn w a (R.l[j]).b ∧ inRd Rd a
theorem bytesIn.keep {w w' : World} {a : Option Addr} {l : List UInt8} {G Rd : Nat → Prop} (h : bytesIn w a l) (k : Keeps G w w') (hr : inRd Rd a) (hG : ∀ i, Rd i → ¬ G i) : bytesIn w' a l := fun j hj => by
  obtain ⟨b, o, e, hc⟩ := h j hj
  exact ⟨b, o, e, fun i hi => k.cell (hc i hi) (hG b (hr _ e))⟩
theorem RefIn.keep {w w' : World} {r : Nat} {fv lv : Value} {vs : List Value} {Rd G : Nat → Prop} {R : RefS} (h : RefIn w r fv lv vs Rd R) (k : Keeps G w w') (hG : ∀ i, Rd i → ¬ G i) (hGr : ¬ G r) : RefIn w' r fv lv vs Rd R where
  heap := k.heap h.heap hGr
  rd := h.rd
  first := by
    obtain ⟨a, c, e, hr, hi⟩ := h.first
    refine ⟨a, c, e, fun j hj => ?_, hi⟩
    obtain ⟨b, o, e2, hc⟩ := hr j hj
    refine ⟨b, o, e2, fun i hi' => ?_⟩
    obtain ⟨a', c', h1, h2⟩ := hc i hi'
    exact ⟨a', c', k.cell h1 (hG b (hi _ e2)), h2.keep k (h.firstRd a c e b o e2 i hi' a' _ c' h1) hG⟩
  firstRd := by
    intro a c e b o e2 i hi a' n' c' hcell
    obtain ⟨a0, c0, e0, hr, hi0⟩ := h.first
    rw [e0] at e
    simp only [Value.slice.injEq] at e
    obtain ⟨rfl, _, rfl⟩ := e
    obtain ⟨b1, o1, e3, hc⟩ := hr i hi
    rw [e2] at e3
    simp only [Option.some.injEq, Addr.mk.injEq, and_true] at e3
    obtain ⟨rfl, rfl⟩ := e3
    obtain ⟨a1, c1, h1, _⟩ := hc i hi
    have h2 := k.cell h1 (hG b (hi0 _ e2))
    rw [hcell] at h2
    simp only [Option.some.injEq, Value.slice.injEq] at h2
    obtain ⟨rfl, _, rfl⟩ := h2
    exact h.firstRd a0 c0 e0 b o e2 i hi _ _ _ h1
  ops := k.row h.ops (fun i hi => hG i (h.opsRd i hi))
  opsRd := h.opsRd
  len := h.len
  nilv := h.nilv
  bytes := fun j hj hj' => by
    obtain ⟨a, c, e, hb, hi⟩ := h.bytes j hj hj'
    exact ⟨a, c, e, hb.keep k hi hG, hi⟩
theorem RefIn.moreRd {w : World} {r : Nat} {fv lv : Value} {vs : List Value} {Rd Rd' : Nat → Prop} {R : RefS} (h : RefIn w r fv lv vs Rd R) (hR : ∀ i, Rd i → Rd' i) (hr : ¬ Rd' r) : RefIn w r fv lv vs Rd' R where
  heap := h.heap
  rd := hr
  first := by obtain ⟨a, c, e, hr, hi⟩ := h.first; exact ⟨a, c, e, hr, fun ad ha => hR _ (hi ad ha)⟩
  firstRd := fun a c e b o e2 i hi a' n' c' hc ad ha => hR _ (h.firstRd a c e b o e2 i hi a' n' c' hc ad ha)
  ops := h.ops
  opsRd := fun i hi => hR _ (h.opsRd i hi)
  len := h.len
  nilv := h.nilv
  bytes := fun j hj hj' => by
    obtain ⟨a, c, e, hb, hi⟩ := h.bytes j hj hj'
    exact ⟨a, c, e, hb, fun ad ha => hR _ (hi ad ha)⟩
/-- What look answers. -/
def lookR (R : RefS) (n : Int) : Int := if 0 ≤ n ∧ n < R.first.length then 0 else 2
set_option maxRecDepth 10000 in
theorem look_any (r : Nat) (fv lv : Value) (vs : List Value) (Rd : Nat → Prop) (R : RefS) (n : Int) (w : World) (h : RefIn w r fv lv vs Rd R) :
    Calls Tryz.prog 136 #[.pointer (some ⟨r, 0, none⟩), .int .i64 n] w fun e w' => e = .returned (.int .i64 (lookR R n)) ∧ w' = w := by
  obtain ⟨a, c, rfl, _, _⟩ := h.first
  have c0 : w.cell? ⟨r, 0, none⟩ = some (.slice a R.first.length c) := by rw [cell_of_block h.heap]; rfl
  clear h
  by_cases h0 : 0 ≤ n
  · by_cases h1 : n < R.first.length
    · have e : lookR R n = 0 := by rw [lookR, if_pos ⟨h0, h1⟩]
      rw [e]
      clear e
      go_enter Tryz.func136, Tryz.ntmps136
      go_wp2
      go_ret
      exact ⟨rfl, rfl⟩
    · have e : lookR R n = 2 := by rw [lookR, if_neg (fun h => h1 h.2)]
      rw [e]
      clear e
      go_enter Tryz.func136, Tryz.ntmps136
      go_wp2
      go_ret
      exact ⟨rfl, rfl⟩
  · have e : lookR R n = 2 := by rw [lookR, if_neg (fun h => h0 h.1)]
    rw [e]
    clear e
    go_enter Tryz.func136, Tryz.ntmps136
    go_wp2
    go_ret
    exact ⟨rfl, rfl⟩
theorem cells_of_bytes {w : World} {b o : Nat} {l : List UInt8} (h : ∀ i (hi : i < l.length), w.cell? ⟨b, o + i, none⟩ = some (.int .u8 (l[i].toNat : Int))) : ∀ j u, (l.map (fun x : UInt8 => Value.int .u8 (x.toNat : Int)))[j]? = some u → w.cell? ((⟨b, o, none⟩ : Addr).add j) = some u := fun j u hu => by
  have hj : j < l.length := by have := (List.getElem?_eq_some_iff.1 hu).1; simpa using this
  rw [Addr.add_mid, h j hj]
  simpa [hj] using hu
set_option maxRecDepth 100000 in
set_option maxHeartbeats 1000000 in
theorem copy_any (l : List UInt8) (a : Option Addr) (c : Nat) (w : World) (h : bytesIn w a l) (hp : 0 < l.length) (hm : l.length ≤ 1048576) :
    Calls Tryz.prog 79 #[.slice a l.length c] w fun e w' => ∃ g cap, e = .returned (.slice (some ⟨g, 0, none⟩) l.length cap) ∧ bytesIn w' (some ⟨g, 0, none⟩) l ∧ w.heap.size ≤ g ∧ g < w'.heap.size ∧ Below w.heap.size w w' := by
  obtain ⟨b, o, rfl, hc⟩ := h 0 hp
  obtain ⟨i0, hi, hz0, hz1, hz2⟩ := info_parts infoU8
  have HI := hid hi
  have HC := hid (cells_of_bytes hc)
  clear hi h hc
  go_enter Tryz.func79, Tryz.ntmps79
  go_wp2_with (refine wpList_append_lies _ rfl (.tmp 4) (.tmp 5) 49 rfl w.heap.size 5 i0 (.int .u8 0) 1 1 Tryz.underlying49 HI.out hz0 hz1 hz2 rfl (by omega) (.slice none 0 0) 0 [] rfl (World.ownsRow_nil _ _ _ _) ⟨b, o, none⟩ l.length c (l.map (fun x : UInt8 => Value.int .u8 (x.toNat : Int))) rfl (by simp) HC.out (by intro u hu; obtain ⟨x, _, rfl⟩ := List.mem_map.1 hu; rfl) hp (by unfold maxLen; omega) (by omega) (Nat.le_refl _) w.heap.size rfl ?_; intro g cap w1 hown hgr hat hlt; have HO := hid hown; have HG := hid hgr; clear hown hgr hat hlt)
  go_ret
  have hl := HO.out.lt g rfl
  rw [Nat.zero_add, List.nil_append] at HO
  refine ⟨g, cap, by simp, fun j hj => ⟨g, 0, rfl, fun i hi => ?_⟩, hl.1, hl.2, below_of_row HG.out (Nat.le_refl _) (fun i e => by cases e)⟩
  rw [Nat.zero_add, HO.out.cellAt i (by omega)]
  simp [hi]
end Go.Proofs.YtjgclmlclkfgpaaGreat
/- The reference disk: do, Write, Flush. -/
namespace Go.Proofs.YtjgclmlclkfgpaaGreat
open Go.RowKit
theorem infoROp : (Tryz.prog.info? 141).map (fun i => (i.zero, i.size, i.bytes)) = some (some (.agg #[.bool false, .int .i64 0, .slice none 0 0]), 3, 40) := by kernel_rfl
theorem opCells_one {w : World} {r : Nat} {fv lv : Value} {vs : List Value} {Rd : Nat → Prop} {R : RefS} (h : RefIn w r fv lv vs Rd R) : ∀ u ∈ opCells R.l vs, u.oneCell' = true := by
  intro u hu
  unfold opCells at hu
  obtain ⟨p, hp, hu⟩ := List.mem_flatMap.1 hu
  obtain ⟨j, hj, e⟩ := List.mem_iff_getElem.1 hp
  have hj1 : j < R.l.length := by simp at hj; omega
  have hj2 : j < vs.length := by simp at hj; omega
  obtain ⟨a, c, hv, _⟩ := h.bytes j hj1 hj2
  have e2 : p.2 = vs[j] := by rw [← e]; simp
  simp only [List.mem_cons, List.mem_nil_iff, or_false] at hu
  rcases hu with rfl | rfl | rfl
  · rfl
  · rfl
  · rw [e2, hv]; rfl
/-- What the reference may look at, with the blocks that were made meanwhile. -/
abbrev moreOf (Rd : Nat → Prop) (w w' : World) : Nat → Prop := fun i => Rd i ∨ (w.heap.size ≤ i ∧ i < w'.heap.size)
/-- The reference behind one op more. -/
def RefS.did (R : RefS) (o : ROp) : RefS := { R with l := R.l ++ [o] }
/-- The last step: the new list has been laid, and stored. -/
theorem RefIn.did {w w1 w2 : World} {r : Nat} {fv lv : Value} {vs : List Value} {Rd : Nat → Prop} {R : RefS} (h : RefIn w r fv lv vs Rd R) (o : ROp) {a : Option Addr} {c g cap : Nat} (hb : bytesIn w a o.b) (ha : inRd Rd a)
    (hB : Below w.heap.size w w1) (hown : w1.ownsRow w.heap.size 141 3 (.slice (some ⟨g, 0, none⟩) (R.l.length + 1) cap) (R.l.length + 1) (opCells R.l vs ++ [.bool o.flush, .int .i64 o.n, .slice a o.b.length c]))
    (hw : w2 = w1.setCell ⟨r, 1, none⟩ (.slice (some ⟨g, 0, none⟩) (R.l.length + 1) cap)) :
    RefIn w2 r fv (.slice (some ⟨g, 0, none⟩) (R.l.length + 1) cap) (vs ++ [.slice a o.b.length c]) (moreOf Rd w w2) (R.did o) ∧ Keeps (fun i => i = r) w w2 := by
  have hr := lt_of_heap h.heap
  have hgl := (hown.lt g rfl).1
  have hgl2 := (hown.lt g rfl).2
  have hsz2 : w2.heap.size = w1.heap.size := by rw [hw]; simp [World.setCell]
  have hgr : w1.grownBy w2 (some r) := by rw [hw]; exact grown_setCell (grown_refl w1 (some r)) 1 _
  have K1 : Keeps (fun i => i = r) w w2 := (Keeps.of_below hB).grown hgr (fun i e => .inl (Option.some.inj e).symm)
  have hP1 := below_block hB h.heap hr
  have hP2 : w2.heap[r]? = some (.cells #[fv, .slice (some ⟨g, 0, none⟩) (R.l.length + 1) cap] 109 (0, 0)) := by rw [hw]; exact block_setCell hP1 1 _
  have hG : ∀ i, Rd i → ¬ (i = r) := fun i hi e => h.rd (e ▸ hi)
  -- all that was there, but for the struct itself
  have hfirst : ∃ a c, fv = .slice a R.first.length c ∧ rowsAt w2 a R.first ∧ inRd (moreOf Rd w w2) a := by
    obtain ⟨a, c, e, hr, hi⟩ := h.first
    refine ⟨a, c, e, fun j hj => ?_, fun ad ha => .inl (hi ad ha)⟩
    obtain ⟨b, o, e2, hc⟩ := hr j hj
    refine ⟨b, o, e2, fun i hi' => ?_⟩
    obtain ⟨a', c', h1, h2⟩ := hc i hi'
    exact ⟨a', c', K1.cell h1 (hG b (hi _ e2)), h2.keep K1 (h.firstRd a c e b o e2 i hi' a' _ c' h1) hG⟩
  refine ⟨⟨hP2, fun hn => ?_, hfirst, ?_, ?_, ?_, ?_, ?_, ?_⟩, K1⟩
  · rcases hn with e | e
    · exact h.rd e
    · omega
  · intro a0 c0 e b o e2 i hi a' n' c' hcell ad had
    obtain ⟨a1, c1, e1, hr1, hi1⟩ := h.first
    rw [e1] at e
    simp only [Value.slice.injEq] at e
    obtain ⟨rfl, _, rfl⟩ := e
    obtain ⟨b1, o1, e3, hc⟩ := hr1 i hi
    rw [e2] at e3
    simp only [Option.some.injEq, Addr.mk.injEq, and_true] at e3
    obtain ⟨rfl, rfl⟩ := e3
    obtain ⟨a2, c2, h1, _⟩ := hc i hi
    have h2 := K1.cell h1 (hG b (hi1 _ e2))
    rw [hcell] at h2
    simp only [Option.some.injEq, Value.slice.injEq] at h2
    obtain ⟨rfl, _, rfl⟩ := h2
    exact .inl (h.firstRd a1 c1 e1 b o e2 i hi _ _ _ h1 ad had)
  · have hgr' : g ≠ r := by omega
    have hk := (hown.mono (Nat.zero_le _)).kept hgr (.inr (fun e => hgr' (by simpa [Value.ownBlock] using e)))
    rw [RefS.did, opCells_snoc _ _ h.len]
    simpa using hk
  · intro i hi
    exact .inr (by have := Option.some.inj hi; simp at this; omega)
  · simp [RefS.did, h.len]
  · intro e; simp [RefS.did] at e
  · intro j hj hj'
    by_cases hjl : j < R.l.length
    · have hjv : j < vs.length := by rw [← h.len]; exact hjl
      obtain ⟨a1, c1, e1, hb1, hi1⟩ := h.bytes j hjl hjv
      refine ⟨a1, c1, ?_, ?_, fun ad had => .inl (hi1 ad had)⟩
      · simp only [RefS.did]
        rw [List.getElem_append_left hjv, List.getElem_append_left hjl, e1]
      · simp only [RefS.did]
        rw [List.getElem_append_left hjl]
        exact hb1.keep K1 hi1 hG
    · have hj2 : j = R.l.length := by simp [RefS.did] at hj; omega
      subst hj2
      refine ⟨a, c, ?_, ?_, fun ad had => .inl (ha ad had)⟩
      · simp only [RefS.did]
        rw [List.getElem_append_right (by rw [h.len]; exact Nat.le_refl _), List.getElem_append_right (Nat.le_refl _)]
        simp [h.len]
      · simp only [RefS.did]
        rw [List.getElem_append_right (Nat.le_refl _)]
        simpa using hb.keep K1 ha hG
set_option maxRecDepth 100000 in
set_option maxHeartbeats 2000000 in
theorem rdo_any (r : Nat) (fv lv : Value) (vs : List Value) (Rd : Nat → Prop) (R : RefS) (o : ROp) (a : Option Addr) (c : Nat) (w : World) (h : RefIn w r fv lv vs Rd R) (hm : R.l.length ≤ 1000000) (hb : bytesIn w a o.b) (ha : inRd Rd a) :
    Calls Tryz.prog 137 #[.pointer (some ⟨r, 0, none⟩), .agg #[.bool o.flush, .int .i64 o.n, .slice a o.b.length c]] w fun e w' => e = .returned (.tuple #[]) ∧
      ∃ lv' vs', RefIn w' r fv lv' vs' (moreOf Rd w w') (R.did o) ∧ Keeps (fun i => i = r) w w' := by
  obtain ⟨i0, hi, hz0, hz1, hz2⟩ := info_parts infoROp
  have HI := hid hi
  have H := hid h
  have HDid := hid (fun w1 w2 g cap h1 h2 h3 => h.did (w1 := w1) (w2 := w2) o (c := c) (g := g) (cap := cap) hb ha h1 h2 h3)
  have hrl := lt_of_heap h.heap
  have hX := block_new w (.cells #[.bool o.flush, .int .i64 o.n, .slice a o.b.length c] 141)
  have hBA := (Below.refl w.heap.size w).alloc (Nat.le_refl _) (.cells #[.bool o.flush, .int .i64 o.n, .slice a o.b.length c] 141)
  have hPA := block_alloc h.heap (.cells #[.bool o.flush, .int .i64 o.n, .slice a o.b.length c] 141)
  have hone := opCells_one h
  have hlc := length_opCells R.l vs h.len
  have hops := h.ops
  have hnil := h.nilv
  generalize hnb : o.b.length = nb at *
  generalize hfl : o.flush = fl at *
  generalize hnn : o.n = nn at *
  clear hnb hfl hnn h hi hb
  by_cases hR : R.l = []
  · -- the first op
    obtain rfl := hnil hR
    have c1 : w.cell? ⟨r, 1, none⟩ = some (.slice none 0 0) := by rw [cell_of_block H.out.heap]; rfl
    have HR0 : Hid (R.l.length = 0) := by simp [hR, Hid]
    have HC0 : Hid (opCells R.l vs = []) := by simp [hR, Hid, opCells]
    have HX := hid hX
    have HBA := hid hBA
    have HPA := hid hPA
    have N2 := hid (new2 w (.cells #[.bool fl, .int .i64 nn, .slice a nb c] 141) (.cells #[.bool fl, .int .i64 nn, .slice a nb c] 141))
    have H0 := hid H.out.heap
    clear hX hBA hPA hnil hops hone hlc hR H
    go_enter Tryz.func137, Tryz.ntmps137
    go_wp2_with (refine wpList_append_lies _ rfl (.tmp 12) (.tmp 14) 107 rfl w.heap.size 141 i0 (.agg #[.bool false, .int .i64 0, .slice none 0 0]) 3 40 Tryz.underlying107 HI.out hz0 hz1 hz2 rfl (by omega) (.slice none 0 0) 0 [] rfl (World.ownsRow_nil _ _ _ _) ⟨w.heap.size + 1, 0, none⟩ 1 1 [.bool fl, .int .i64 nn, .slice a nb c] rfl rfl (World.news_of_block (cs := #[.bool fl, .int .i64 nn, .slice a nb c]) (new2 w (.cells #[.bool fl, .int .i64 nn, .slice a nb c] 141) (.cells #[.bool fl, .int .i64 nn, .slice a nb c] 141)).2.1) (by intro u hu; simp only [List.mem_cons, List.mem_nil_iff, or_false] at hu; rcases hu with rfl | rfl | rfl <;> rfl) (by omega) (by decide) (by omega) (by simp; omega) (w.heap.size + 2) (by simp) ?_; intro g cap w1 hown hgr hat hlt1; have HO := hid hown; have HB1 := hid (N2.out.2.2.1.trans (below_of_row hgr (by have := N2.out.2.2.1.size; exact this) (fun i e => by cases e))); have HP1 := hid (below_block HB1.out H0.out hrl); have f1 : w1.cell? ⟨r, 1, none⟩ = some (.slice none 0 0) := cell_of_block HP1.out 1; have f2 : w1.frozen? ⟨r, 1, none⟩ = false := frozen_of_block HP1.out 1; clear hown hgr hat hlt1)
    have HRes := hid (HDid.out w1 _ g cap HB1.out (by rw [HR0.out, HC0.out]; exact HO.out) rfl)
    rw [HR0.out] at HRes
    clear HDid HO HB1 HP1 f1 f2 HX HBA HPA
    go_wp2
    go_end0
    exact ⟨rfl, _, _, HRes.out.1, HRes.out.2⟩
  · -- more ops
    have hpos : 0 < R.l.length := List.length_pos_iff.2 hR
    obtain ⟨g0, cap0, rfl, hg0, hg1⟩ := hops.form hpos
    have c1 : w.cell? ⟨r, 1, none⟩ = some (.slice (some ⟨g0, 0, none⟩) R.l.length cap0) := by rw [cell_of_block H.out.heap]; rfl
    have HCl := hid (hops.cells (g := g0) rfl)
    have HLc := hid hlc
    have HOne := hid hone
    have HX := hid hX
    have HBA := hid hBA
    have H0 := hid H.out.heap
    clear hX hBA hPA hnil hops hone hlc hR H
    generalize hcs : opCells R.l vs = cs at *
    generalize hml : R.l.length = m at *
    clear hcs hml
    go_enter Tryz.func137, Tryz.ntmps137
    go_wp2_with (first
      | (have _t := HCl; refine wpList_append_lies _ rfl (.tmp 5) (.tmp 9) 107 rfl w.heap.size 141 i0 (.agg #[.bool false, .int .i64 0, .slice none 0 0]) 3 40 Tryz.underlying107 HI.out hz0 hz1 hz2 rfl (by omega) (.slice none 0 0) 0 [] rfl (World.ownsRow_nil _ _ _ _) ⟨g0, 0, none⟩ m cap0 cs rfl HLc.out (fun j u hu => by rw [World.cell?_alloc_lt _ _ _ (World.block_lt_of_cell? w _ (HCl.out j u hu))]; exact HCl.out j u hu) HOne.out hpos (by unfold maxLen; omega) (by omega) (by simp) (w.heap.size + 1) (by simp) ?_; intro g1 cap1 w1 hown hgr hat hlt1; have HO1 := hid hown; have HB1 := hid (HBA.out.trans (below_of_row hgr HBA.out.size (fun i e => by cases e))); have HX1 := hid (grown_block hgr HX.out (fun e => by cases e)); clear hown hgr hat hlt1 HCl; rw [Nat.zero_add, List.nil_append] at HO1; rw [Nat.zero_add]; have x0 : w1.cell? ⟨w.heap.size, 0, none⟩ = some (.bool fl) := cell_of_block HX1.out 0; have x1 : w1.cell? ⟨w.heap.size, 1, none⟩ = some (.int .i64 nn) := cell_of_block HX1.out 1; have x2 : w1.cell? ⟨w.heap.size, 2, none⟩ = some (.slice a nb c) := cell_of_block HX1.out 2)
      | (refine wpList_append_lies _ rfl (.tmp 12) (.tmp 14) 107 rfl w.heap.size 141 i0 (.agg #[.bool false, .int .i64 0, .slice none 0 0]) 3 40 Tryz.underlying107 HI.out hz0 hz1 hz2 rfl (by omega) (.slice (some ⟨g1, 0, none⟩) m cap1) m cs rfl (HO1.out.alloc _) ⟨w1.heap.size, 0, none⟩ 1 1 [.bool fl, .int .i64 nn, .slice a nb c] rfl rfl (World.news_of_block (cs := #[.bool fl, .int .i64 nn, .slice a nb c]) (block_new w1 _)) (by intro u hu; simp only [List.mem_cons, List.mem_nil_iff, or_false] at hu; rcases hu with rfl | rfl | rfl <;> rfl) (by omega) (by unfold maxLen; omega) (by omega) (by have := HB1.out.size; simp; omega) (w1.heap.size + 1) (by simp) ?_; intro g cap w2 hown hgr hat hlt1; have HO := hid hown; have HBa := HB1.out.alloc HB1.out.size (.cells #[.bool fl, .int .i64 nn, .slice a nb c] 141); have HB2 := hid (HBa.trans (below_of_row hgr HBa.size (fun i e => (HO1.out.lt i e).1))); have HP2 := hid (below_block HB2.out H0.out hrl); have f1 : w2.cell? ⟨r, 1, none⟩ = some (.slice (some ⟨g0, 0, none⟩) m cap0) := cell_of_block HP2.out 1; have f2 : w2.frozen? ⟨r, 1, none⟩ = false := frozen_of_block HP2.out 1; clear hown hgr hat hlt1 HBa))
    have HRes := hid (HDid.out w2 _ g cap HB2.out HO.out rfl)
    clear HDid HO HB2 HP2 f1 f2 HX HBA HO1 HB1 HX1 x0 x1 x2
    go_wp2
    go_end0
    exact ⟨rfl, _, _, HRes.out.1, HRes.out.2⟩
end Go.Proofs.YtjgclmlclkfgpaaGreat
/- The reference disk: Write, Flush. -/
namespace Go.Proofs.YtjgclmlclkfgpaaGreat
open Go.RowKit
/-- What the reference's Write answers. -/
def errR (R : RefS) (n : Int) (l : List UInt8) : Int := if ¬ (0 ≤ n ∧ n < R.first.length) then 2 else if l.length ≠ 512 then 3 else 0
def RefS.put (R : RefS) (n : Int) (l : List UInt8) : RefS := if errR R n l = 0 then R.did ⟨false, n, l⟩ else R
theorem RefIn.later {w : World} {r : Nat} {fv lv : Value} {vs : List Value} {Rd : Nat → Prop} {R : RefS} (h : RefIn w r fv lv vs Rd R) (w' : World) : RefIn w r fv lv vs (moreOf Rd w w') R :=
  h.moreRd (fun _ => .inl) (fun e => by
    rcases e with e | e
    · exact h.rd e
    · have := lt_of_heap h.heap; omega)
theorem RefIn.below {w w' : World} {r : Nat} {fv lv : Value} {vs : List Value} {Rd : Nat → Prop} {R : RefS} (h : RefIn w r fv lv vs Rd R) (k : Below w.heap.size w w') : RefIn w' r fv lv vs Rd R := h.keep (G := fun _ => False) (Keeps.of_below k) (fun _ _ e => e) (fun e => e)
set_option maxRecDepth 100000 in
set_option maxHeartbeats 1000000 in
theorem rwrite_any (r : Nat) (fv lv : Value) (vs : List Value) (Rd : Nat → Prop) (R : RefS) (n : Int) (l : List UInt8) (a : Option Addr) (k c : Nat) (w : World) (h : RefIn w r fv lv vs Rd R) (hm : R.l.length ≤ 1000000) (hk : l.length = k) (hb : bytesIn w a l) :
    Calls Tryz.prog 117 #[.pointer (some ⟨r, 0, none⟩), .int .i64 n, .slice a k c] w fun e w' => e = .returned (.int .i64 (errR R n l)) ∧
      ∃ lv' vs', RefIn w' r fv lv' vs' (moreOf Rd w w') (R.put n l) ∧ Keeps (fun i => i = r) w w' := by
  have HLook := hid (look_any r fv lv vs Rd R n w h)
  by_cases hn : 0 ≤ n ∧ n < R.first.length
  · have e0 : lookR R n = 0 := by rw [lookR, if_pos hn]
    rw [e0] at HLook
    by_cases hl : l.length = 512
    · have e1 : errR R n l = 0 := by rw [errR, if_neg (not_not_intro hn), if_neg (not_not_intro hl)]
      have e2 : R.put n l = R.did ⟨false, n, l⟩ := by rw [RefS.put, if_pos e1]
      rw [e1, e2]
      have hcp := copy_any l a c w hb (by omega) (by omega)
      obtain rfl : k = 512 := by omega
      rw [hl] at hcp
      have HCp := hid hcp
      have H := hid h
      have HL := hid hl
      clear hcp hl hb hk h e0 e1 e2
      go_enter Tryz.func117, Tryz.ntmps117
      go_wp2_with fail
      refine HLook.out.mono ?_
      rintro e w9 ⟨rfl, h9⟩
      obtain rfl := h9.symm
      go_wp2_with fail
      refine HCp.out.mono ?_
      clear HCp HLook
      rintro e w1 ⟨g, cap, rfl, hb1, hg1, hg2, hB1⟩
      have hD := rdo_any r fv lv vs (moreOf Rd w w1) R ⟨false, n, l⟩ (some ⟨g, 0, none⟩) cap w1 ((H.out.later w1).below hB1) hm hb1 (fun ad e => .inr (by have := Option.some.inj e; rw [← this]; exact ⟨hg1, hg2⟩))
      have hD' : Calls Tryz.prog 137 #[.pointer (some ⟨r, 0, none⟩), .agg #[.bool false, .int .i64 n, .slice (some ⟨g, 0, none⟩) l.length cap]] w1 fun e w' => e = .returned (.tuple #[]) ∧
        ∃ lv' vs', RefIn w' r fv lv' vs' (moreOf (moreOf Rd w w1) w1 w') (R.did ⟨false, n, l⟩) ∧ Keeps (fun i => i = r) w1 w' := hD
      rw [HL.out] at hD'
      have HD := hid hD'
      have HB1 := hid hB1
      clear hD hD' hB1 hb1
      go_wp2_with fail
      refine HD.out.mono ?_
      clear HD
      rintro e w2 ⟨rfl, lv', vs', hR2, hK2⟩
      have HR2 := hid hR2
      have HK2 := hid hK2
      clear hR2 hK2
      go_wp2
      go_ret
      refine ⟨rfl, lv', vs', HR2.out.moreRd (fun i hi => ?_) (fun hi => ?_), (Keeps.of_below HB1.out).trans HK2.out (fun i e => .inl e)⟩
      · have hs2 := HK2.out.size
        have hs1 := HB1.out.size
        rcases hi with (hi | hi) | hi
        · exact .inl hi
        · exact .inr (by omega)
        · exact .inr (by omega)
      · rcases hi with hi | hi
        · exact H.out.rd hi
        · have := lt_of_heap H.out.heap; omega
    · have e1 : errR R n l = 3 := by rw [errR, if_neg (not_not_intro hn), if_pos hl]
      have e2 : R.put n l = R := by rw [RefS.put, if_neg (by rw [e1]; decide)]
      rw [e1, e2]
      have hk' : ¬ ((k : Int) = 512) := by omega
      have H := hid h
      clear hl hb hk h e0 e1 e2
      go_enter Tryz.func117, Tryz.ntmps117
      go_wp2_with fail
      refine HLook.out.mono ?_
      rintro e w9 ⟨rfl, h9⟩
      obtain rfl := h9.symm
      go_wp2
      go_ret
      exact ⟨rfl, lv, vs, H.out.later _, Keeps.refl _ _⟩
  · have e0 : lookR R n = 2 := by rw [lookR, if_neg hn]
    have e1 : errR R n l = 2 := by rw [errR, if_pos hn]
    have e2 : R.put n l = R := by rw [RefS.put, if_neg (by rw [e1]; decide)]
    rw [e0] at HLook
    rw [e1, e2]
    have H := hid h
    clear hb hk h e0 e1 e2 hn
    go_enter Tryz.func117, Tryz.ntmps117
    go_wp2_with fail
    refine HLook.out.mono ?_
    rintro e w9 ⟨rfl, h9⟩
    obtain rfl := h9.symm
    go_wp2
    go_ret
    exact ⟨rfl, lv, vs, H.out.later _, Keeps.refl _ _⟩
set_option maxRecDepth 100000 in
theorem rflush_any (r : Nat) (fv lv : Value) (vs : List Value) (Rd : Nat → Prop) (R : RefS) (w : World) (h : RefIn w r fv lv vs Rd R) (hm : R.l.length ≤ 1000000) :
    Calls Tryz.prog 118 #[.pointer (some ⟨r, 0, none⟩)] w fun e w' => e = .returned (.int .i64 0) ∧ ∃ lv' vs', RefIn w' r fv lv' vs' (moreOf Rd w w') (R.did ⟨true, 0, []⟩) ∧ Keeps (fun i => i = r) w w' := by
  have hD' : Calls Tryz.prog 137 #[.pointer (some ⟨r, 0, none⟩), .agg #[.bool true, .int .i64 0, .slice none 0 0]] w fun e w' => e = .returned (.tuple #[]) ∧
    ∃ lv' vs', RefIn w' r fv lv' vs' (moreOf Rd w w') (R.did ⟨true, 0, []⟩) ∧ Keeps (fun i => i = r) w w' := rdo_any r fv lv vs Rd R ⟨true, 0, []⟩ none 0 w h hm (fun j hj => by simp at hj) (fun ad e => by cases e)
  have HD := hid hD'
  clear hD' h
  go_enter Tryz.func118, Tryz.ntmps118
  go_wp2_with fail
  refine HD.out.mono ?_
  clear HD
  rintro e w1 ⟨rfl, hq⟩
  have HQ := hid hq
  clear hq
  go_wp2
  go_ret
  exact ⟨rfl, HQ.out⟩
end Go.Proofs.YtjgclmlclkfgpaaGreat
/- The reference's New. -/
namespace Go.Proofs.YtjgclmlclkfgpaaGreat
open Go.RowKit
/-- A sector of noughts. -/
def zeros : List UInt8 := List.replicate 512 0
def rfresh (n : Nat) : RefS := ⟨List.replicate n zeros, []⟩
theorem length_zeros : zeros.length = 512 := List.length_replicate
theorem zeros_at (z : Nat) (h : z < zeros.length) : zeros[z] = 0 := List.getElem_replicate h
theorem rfresh_length (n : Nat) : (rfresh n).first.length = n := List.length_replicate
theorem rfresh_at (n i : Nat) (h : i < (rfresh n).first.length) : (rfresh n).first[i] = zeros := List.getElem_replicate h
theorem wp_make_u8 {w : World} {o : Oper} {a : Act} {K : Act → World → Prop} {Q : Exit → Act → World → Prop} (l c : Operand) (hop : o.op = Op.makeSlice 49 l c) (n : Nat) (hl : a.eval l = .int .i64 n) (hc : a.eval c = .int .i64 n) (hm : n ≤ 4096) (B : Nat) (hB : w.heap.size = B)
    (h : K (a.put o.dst (.slice (some ⟨B, 0, none⟩) n n)) (w.alloc (.cells (List.replicate n (Value.int .u8 0)).toArray 5))) : o.wp Tryz.prog a w K Q := by
  subst hB
  obtain ⟨i, hi, hz, hs, hb⟩ := info_parts infoU8
  have hrun := run_make (P := Tryz.prog) w 49 5 i (.int .u8 0) Tryz.underlying49 hi hz .i64 .i64 n n (by omega) (by omega) (by rw [hb]; omega) (by omega)
  unfold Oper.wp
  simp only [Int.toNat_natCast, hs, madeU8] at hrun
  generalize (List.replicate n (Value.int .u8 0)).toArray = Z at *
  simp [execOp, hop, hl, hc, hrun, Result.andThen]
  exact h
/-- The cells of a sector of noughts. -/
def zrow : Array Value := (List.replicate 512 (Value.int .u8 0)).toArray
theorem zrow_at (z : Nat) (h : z < 512) : zrow[z]? = some (.int .u8 0) := by
  unfold zrow; rw [List.getElem?_toArray, List.getElem?_replicate, if_pos h]
theorem wp_make_sector {w : World} {o : Oper} {a : Act} {K : Act → World → Prop} {Q : Exit → Act → World → Prop} (l c : Operand) (hop : o.op = Op.makeSlice 49 l c) (hl : a.eval l = .int .i64 512) (hc : a.eval c = .int .i64 512) (B : Nat) (hB : w.heap.size = B)
    (h : K (a.put o.dst (.slice (some ⟨B, 0, none⟩) 512 512)) (w.alloc (.cells zrow 5))) : o.wp Tryz.prog a w K Q := wp_make_u8 l c hop 512 hl hc (by omega) B hB h
/-- k sectors have been made. -/
def madeTo (w : World) (r : Nat) (fv : Value) (vs : List Value) (k : Nat) : Prop :=
  w.heap[r]? = some (.cells #[fv, .slice none 0 0] 109 (0, 0)) ∧ w.ownsRow (r + 1) 49 1 fv k vs ∧
  ∀ i, i < k → ∃ bi, vs[i]? = some (.slice (some ⟨bi, 0, none⟩) 512 512) ∧ r < bi ∧ w.heap[bi]? = some (.cells zrow 5 (0, 0))
theorem madeTo_ref {w : World} {r : Nat} {fv : Value} {vs : List Value} {n : Nat} (h : madeTo w r fv vs n) : RefIn w r fv (.slice none 0 0) [] (fun i => r < i ∧ i < w.heap.size) (rfresh n) := by
  obtain ⟨h1, h2, h3⟩ := h
  obtain ⟨sa, cap, rfl, hs⟩ := row_slice h2
  have hcells : ∀ b o, sa = some ⟨b, o, none⟩ → ∀ i, i < n → ∃ bi, w.cell? ⟨b, o + i, none⟩ = some (.slice (some ⟨bi, 0, none⟩) 512 512) ∧ r < bi ∧ w.heap[bi]? = some (.cells zrow 5 (0, 0)) := by
    intro b o e i hi
    obtain ⟨g, e2, _, _, hc⟩ := hs i hi
    rw [e] at e2
    simp only [Option.some.injEq, Addr.mk.injEq, and_true] at e2
    obtain ⟨rfl, rfl⟩ := e2
    obtain ⟨bi, h4, h5, h6⟩ := h3 i hi
    exact ⟨bi, by rw [Nat.zero_add, hc i hi]; exact h4, h5, h6⟩
  refine ⟨h1, fun e => absurd e.1 (Nat.lt_irrefl _), ⟨sa, cap, by rw [rfresh_length], fun j hj => ?_, fun ad e => ?_⟩, ?_, World.ownsRow_nil _ _ _ _, (fun i e => by cases e), rfl, (fun _ => rfl), (fun j hj => by simp [rfresh] at hj)⟩
  · have hj' : j < n := by rwa [rfresh_length] at hj
    obtain ⟨g, e, _, _, _⟩ := hs j hj'
    refine ⟨g, 0, e, fun i hi => ?_⟩
    have hi' : i < n := by rwa [rfresh_length] at hi
    obtain ⟨bi, h4, h5, h6⟩ := hcells g 0 e i hi'
    refine ⟨some ⟨bi, 0, none⟩, 512, ?_, ?_⟩
    · rw [h4, rfresh_at, length_zeros]
    · intro q hq
      refine ⟨bi, 0, rfl, fun z hz => ?_⟩
      have hz' : z < 512 := by rwa [rfresh_at, length_zeros] at hz
      rw [Nat.zero_add, cell_of_block h6, zrow_at z hz']
      have e0 : (rfresh n).first[i][z] = 0 := by
        have := rfresh_at n i hi
        simp only [this]
        exact zeros_at z _
      rw [e0]; rfl
  · rcases h2.2 with ⟨e2, _⟩ | ⟨g, cap', cur, e2, hb, _⟩
    · simp only [Value.slice.injEq] at e2; rw [e] at e2; cases e2.1
    · simp only [Value.slice.injEq] at e2
      rw [e] at e2
      have := Option.some.inj e2.1
      rw [this]; show r < g ∧ g < w.heap.size; exact ⟨by omega, (h2.lt g (by rw [e, this]; rfl)).2⟩
  · intro a' c' e b o e2 i hi a2 n2 c2 hcell ad had
    simp only [Value.slice.injEq] at e
    obtain ⟨rfl, _, rfl⟩ := e
    obtain ⟨bi, h4, h5, h6⟩ := hcells b o e2 i (by rwa [rfresh_length] at hi)
    rw [hcell] at h4
    simp only [Option.some.injEq, Value.slice.injEq] at h4
    rw [had] at h4
    have := Option.some.inj h4.1
    rw [this]; exact ⟨h5, lt_of_heap h6⟩
theorem madeTo_step {w w1 : World} {r : Nat} {fv : Value} {vs : List Value} {k g cap : Nat} (h : madeTo w r fv vs k)
    (hown : w1.ownsRow (r + 1) 49 1 (.slice (some ⟨g, 0, none⟩) (k + 1) cap) (k + 1) (vs ++ [.slice (some ⟨w.heap.size, 0, none⟩) 512 512]))
    (hgr : ((w.alloc (.cells zrow 5)).alloc (.cells #[.slice (some ⟨w.heap.size, 0, none⟩) 512 512] 49)).grownBy w1 fv.ownBlock) :
    madeTo (w1.setCell ⟨r, 0, none⟩ (.slice (some ⟨g, 0, none⟩) (k + 1) cap)) r (.slice (some ⟨g, 0, none⟩) (k + 1) cap) (vs ++ [.slice (some ⟨w.heap.size, 0, none⟩) 512 512]) (k + 1) ∧ w1.heap[r]? = some (.cells #[fv, .slice none 0 0] 109 (0, 0)) := by
  obtain ⟨h1, h2, h3⟩ := h
  obtain ⟨n1, n2, n3, n4⟩ := new2 w (.cells zrow 5) (.cells #[.slice (some ⟨w.heap.size, 0, none⟩) 512 512] 49)
  have hr := lt_of_heap h1
  have hrow : ∀ i, fv.ownBlock = some i → r + 1 ≤ i ∧ ∃ cur, w.heap[i]? = some (.cells cur 49 (0, 0)) := fun i hi => ⟨(h2.lt i hi).1, row_type h2 hi⟩
  have hP1 : w1.heap[r]? = some (.cells #[fv, .slice none 0 0] 109 (0, 0)) := by
    refine grown_block hgr (block_alloc (block_alloc h1 _) _) (fun e => ?_)
    have := (hrow r e).1; omega
  have hg := (hown.lt g rfl).1
  have hl : vs.length = k := by have := h2.1; omega
  refine ⟨⟨block_setCell hP1 0 _, ?_, fun i hi => ?_⟩, hP1⟩
  · have hgr2 : g ≠ r := by omega
    exact hown.kept (grown_setCell (grown_refl w1 (some r)) 0 _) (.inr (fun e => hgr2 (by simpa [Value.ownBlock] using e)))
  · have hne : ∀ bi, w.heap[bi]? = some (.cells zrow 5 (0, 0)) → fv.ownBlock ≠ some bi := fun bi hb e => by
      obtain ⟨_, cur, hc⟩ := hrow bi e
      rw [hb] at hc
      simp only [Option.some.injEq, Obj.cells.injEq] at hc
      exact absurd hc.2.1 (by decide)
    by_cases e : i = k
    · subst e
      refine ⟨w.heap.size, by simp [hl], hr, ?_⟩
      rw [block_setCell_other _ _ (by omega)]
      refine grown_block hgr n1 (fun e => ?_)
      have := (h2.lt _ e).2; omega
    · obtain ⟨bi, h4, h5, h6⟩ := h3 i (by omega)
      refine ⟨bi, by rw [List.getElem?_append_left (by omega)]; exact h4, h5, ?_⟩
      rw [block_setCell_other _ _ (by omega)]
      exact grown_block hgr (block_alloc (block_alloc h6 _) _) (hne bi h6)
set_option maxRecDepth 100000 in
set_option maxHeartbeats 2000000 in
theorem rnew_ok (n : Nat) (h1 : 1 ≤ n) (hn : n ≤ 4096) (w : World) :
    Calls Tryz.prog 40 #[.int .i64 n] w fun e w' => e = .returned (.tuple #[.pointer (some ⟨w.heap.size, 0, none⟩), .int .i64 0]) ∧ Below w.heap.size w w' ∧ ∃ fv, RefIn w' w.heap.size fv (.slice none 0 0) [] (fun i => w.heap.size < i ∧ i < w'.heap.size) (rfresh n) := by
  obtain ⟨i0, hi, hz0, hz1, hz2⟩ := info_parts infoRow
  have HI := hid hi
  clear hi
  have g1 : ¬ ((n : Int) < 1) := by omega
  have g2 : ¬ ((4096 : Int) < (n : Int)) := by omega
  go_enter Tryz.func40, Tryz.ntmps40
  go_wp2
  have HM0 : Hid (madeTo (w.alloc (.cells #[.slice none 0 0, .slice none 0 0] 109)) w.heap.size (.slice none 0 0) [] 0) := ⟨block_new w _, World.ownsRow_nil _ _ _ _, fun i hi => by omega⟩
  have HB0 := hid ((Below.refl w.heap.size w).alloc (Nat.le_refl _) (.cells #[.slice none 0 0, .slice none 0 0] 109))
  go_loopw [5] (fun i wr => ∃ (k : Nat) (fv : Value) (vs : List Value), k ≤ n ∧ i = .int .i64 k ∧ Hid (madeTo wr w.heap.size fv vs k) ∧ Hid (Below w.heap.size w wr)) (fun i _ => n - (intOf i).toNat)
  case atStart => exact ⟨0, _, _, by omega, rfl, HM0, HB0⟩
  case round =>
    obtain ⟨k, fv, vs, hk, rfl, hM, hB⟩ := hrel
    clear HM0 HB0
    by_cases hlt : k < n
    · have hk0 : (0 : Int) ≤ (k : Int) := by omega
      have hk1 : (k : Int) < (n : Int) := by omega
      have HC := hid (cell_of_block hM.out.1 0)
      have hr := lt_of_heap hM.out.1
      obtain ⟨n1, n2, n3, n4⟩ := new2 wr (.cells zrow 5) (.cells #[.slice (some ⟨wr.heap.size, 0, none⟩) 512 512] 49)
      have HN2 := hid n2
      have HN3 := hid n3
      have HN4 := hid n4
      clear n1 n2 n3 n4
      go_wp2
      refine wp_region_noPanic ?_
      refine wp_region_held_drew (S := fun W => True) (by kernel_rfl) trivial (fun hHeld => ?_)
      refine wpAnyH_take (i := 0) (v := ?_) rfl (by kernel_rfl) (by kernel_rfl) (by kernel_rfl) (fun _ _ _ h => h) (Or.inl ⟨by rfl, ?_⟩) (by assumption) ?_
      rotate_left
      · (intro W hSw; (try dsimp only at hSw); go_simp; try with_reducible rfl)
      try simp only [List.getElem_toArray, List.getElem_cons_zero, Act.put, List.setIfInBounds_toArray, List.set_cons_zero, List.set_cons_succ]
      refine wpAnyH_take (i := 1) (v := ?_) rfl (by kernel_rfl) (by kernel_rfl) (by kernel_rfl) (fun _ _ _ h => h) (Or.inl ⟨by rfl, ?_⟩) (by assumption) ?_
      rotate_left
      · (intro W hSw; (try dsimp only at hSw); go_simp; try with_reducible rfl)
      try simp only [List.getElem_toArray, List.getElem_cons_succ, List.getElem_cons_zero, Act.put, List.setIfInBounds_toArray, List.set_cons_zero, List.set_cons_succ]
      refine wpAnyH_take (i := 2) (v := ?_) rfl (by kernel_rfl) (by kernel_rfl) (by kernel_rfl) (fun _ _ _ h => h) (Or.inl ⟨by rfl, ?_⟩) (by assumption) ?_
      rotate_left
      · (intro W hSw; (try dsimp only at hSw); go_simp; try with_reducible rfl)
      try simp only [List.getElem_toArray, List.getElem_cons_succ, List.getElem_cons_zero, Act.put, List.setIfInBounds_toArray, List.set_cons_zero, List.set_cons_succ]
      refine wpAnyH_take (i := 3) (v := ?_) rfl (by kernel_rfl) (by kernel_rfl) (by kernel_rfl) (fun _ _ _ h => h) (Or.inl ⟨by rfl, ?_⟩) (by assumption) ?_
      rotate_left
      · (intro W hSw; (try dsimp only at hSw); go_simp; try with_reducible rfl)
      try simp only [List.getElem_toArray, List.getElem_cons_succ, List.getElem_cons_zero, Act.put, List.setIfInBounds_toArray, List.set_cons_zero, List.set_cons_succ]
      have cq : wr.cell? ⟨w.heap.size, 0, none⟩ = some fv := HC.out
      refine wpAnyH_ready (rs := [4, 5]) (by kernel_rfl) (by simp) (AllReadyH.cons rfl (fun K hK => ?_) (AllReadyH.cons rfl (fun K hK => ?_) AllReadyH.nil))
      · -- the load first
        rw [if_pos (by rfl)]
        unfold Oper.wp
        go_simp
        refine hK.out _ _ trivial (fun hHeld => ?_)
        clear hK K
        try simp only [List.getElem_toArray, List.getElem_cons_succ, List.getElem_cons_zero, Act.put, List.setIfInBounds_toArray, List.set_cons_zero, List.set_cons_succ]
        refine wpAnyH_ready (rs := [5]) (by kernel_rfl) (by simp) (AllReadyH.cons rfl (fun K hK => ?_) AllReadyH.nil)
        rw [if_pos (by rfl)]
        refine wp_make_sector (.const (.int .i64 512)) (.const (.int .i64 512)) rfl rfl rfl wr.heap.size rfl ?_
        refine hK.out _ _ trivial (fun hHeld => ?_)
        clear hK K
        try simp only [List.getElem_toArray, List.getElem_cons_succ, List.getElem_cons_zero, Act.put, List.setIfInBounds_toArray, List.set_cons_zero, List.set_cons_succ]
        refine wpAnyH_ready (rs := [6]) (by kernel_rfl) (by simp) (AllReadyH.cons rfl (fun K hK => ?_) AllReadyH.nil)
        rw [if_pos (by rfl)]
        unfold Oper.wp
        go_simp
        refine hK.out _ _ trivial (fun hHeld => ?_)
        clear hK K
        try simp only [List.getElem_toArray, List.getElem_cons_succ, List.getElem_cons_zero, Act.put, List.setIfInBounds_toArray, List.set_cons_zero, List.set_cons_succ]
        refine wpAnyH_ready (rs := [7]) (by kernel_rfl) (by simp) (AllReadyH.cons rfl (fun K hK => ?_) AllReadyH.nil)
        rw [if_pos (by rfl)]
        refine wp_append_lies _ (.tmp 23) (.tmp 25) 36 rfl (w.heap.size + 1) 49 i0 (.slice none 0 0) 1 24 Tryz.underlying36 HI.out hz0 hz1 hz2 rfl (by omega) fv k vs rfl ((hM.out.2.1.alloc _).alloc _) ⟨wr.heap.size + 1, 0, none⟩ 1 1 [.slice (some ⟨wr.heap.size, 0, none⟩) 512 512] rfl rfl (World.news_of_block (cs := #[.slice (some ⟨wr.heap.size, 0, none⟩) 512 512]) HN2.out) (by intro u hu; rw [List.mem_singleton.1 hu]; rfl) (by omega) (by unfold maxLen; omega) (by omega) (by show w.heap.size + 1 ≤ ((wr.alloc (.cells zrow 5)).alloc (.cells #[.slice (some ⟨wr.heap.size, 0, none⟩) 512 512] 49)).heap.size; have := HN4.out; omega) (wr.heap.size + 1 + 1) HN4.out ?_
        intro g cap w1 hown hgr hat hlt1
        have hst := madeTo_step hM.out hown (by exact ⟨hgr.os, hgr.tape, hgr.output, hgr.size, hgr.block⟩)
        have HSt := hid hst
        have f1 : w1.cell? ⟨w.heap.size, 0, none⟩ = some fv := cell_of_block hst.2 0
        have f2 : w1.frozen? ⟨w.heap.size, 0, none⟩ = false := frozen_of_block hst.2 0
        have HB1 := hid (hB.out.trans ((HN3.out.mono hB.out.size).trans (below_of_row (w := ((wr.alloc (.cells zrow 5)).alloc (.cells #[.slice (some ⟨wr.heap.size, 0, none⟩) 512 512] 49))) ⟨hgr.os, hgr.tape, hgr.output, hgr.size, hgr.block⟩ (by have := HN4.out; have := hB.out.size; omega) (fun i e => by have := (hM.out.2.1.lt i e).1; omega))))
        clear hst hown hgr hat hlt1
        refine hK.out _ _ trivial (fun hHeld => ?_)
        clear hK K
        try simp only [List.getElem_toArray, List.getElem_cons_succ, List.getElem_cons_zero, Act.put, List.setIfInBounds_toArray, List.set_cons_zero, List.set_cons_succ]
        refine wpAnyH_take (i := 8) (v := ?_) rfl (by kernel_rfl) (by kernel_rfl) (by kernel_rfl) (fun _ _ _ h => h) (Or.inl ⟨by rfl, ?_⟩) (by assumption) ?_
        rotate_left
        · (intro W hSw; (try dsimp only at hSw); go_simp; try with_reducible rfl)
        try simp only [List.getElem_toArray, List.getElem_cons_succ, List.getElem_cons_zero, Act.put, List.setIfInBounds_toArray, List.set_cons_zero, List.set_cons_succ]
        refine wpAnyH_take (i := 9) (v := ?_) rfl (by kernel_rfl) (by kernel_rfl) (by kernel_rfl) (fun _ _ _ h => h) (Or.inl ⟨by rfl, ?_⟩) (by assumption) ?_
        rotate_left
        · (intro W hSw; (try dsimp only at hSw); go_simp; try with_reducible rfl)
        try simp only [List.getElem_toArray, List.getElem_cons_succ, List.getElem_cons_zero, Act.put, List.setIfInBounds_toArray, List.set_cons_zero, List.set_cons_succ]
        refine wpAnyH_ready (rs := [10]) (by kernel_rfl) (by simp) (AllReadyH.cons rfl (fun K hK => ?_) AllReadyH.nil)
        rw [if_pos (by rfl)]
        unfold Oper.wp
        go_simp
        have HB2 : Hid (Below w.heap.size w (w1.setCell ⟨w.heap.size, 0, none⟩ (.slice (some ⟨g, 0, none⟩) (k + 1) cap))) := HB1.out.setCell (Nat.le_refl _) _
        clear HB1 f1 f2
        generalize w1.setCell ⟨w.heap.size, 0, none⟩ (.slice (some ⟨g, 0, none⟩) (k + 1) cap) = w2 at *
        refine hK.out _ _ trivial (fun hHeld => ?_)
        clear hK K hHeld
        refine wpAnyH_done (by kernel_rfl) ?_ _
        refine NoPanic.normal ?_
        go_wp2
        exact ⟨⟨k + 1, _, _, by omega, by go_num, HSt.out.1, HB2.out⟩, by simp [intOf]; omega⟩
      · -- the new sector first
        rw [if_pos (by rfl)]
        refine wp_make_sector (.const (.int .i64 512)) (.const (.int .i64 512)) rfl rfl rfl wr.heap.size rfl ?_
        refine hK.out _ _ trivial (fun hHeld => ?_)
        clear hK K
        try simp only [List.getElem_toArray, List.getElem_cons_succ, List.getElem_cons_zero, Act.put, List.setIfInBounds_toArray, List.set_cons_zero, List.set_cons_succ]
        refine wpAnyH_ready (rs := [4, 6]) (by kernel_rfl) (by simp) (AllReadyH.cons rfl (fun K hK => ?_) (AllReadyH.cons rfl (fun K hK => ?_) AllReadyH.nil))
        · have cq2 : (wr.alloc (.cells zrow 5)).drew.cell? ⟨w.heap.size, 0, none⟩ = some fv := cell_of_block (block_alloc hM.out.1 _) 0
          rw [if_pos (by rfl)]
          unfold Oper.wp
          go_simp
          refine hK.out _ _ trivial (fun hHeld => ?_)
          clear hK K
          try simp only [List.getElem_toArray, List.getElem_cons_succ, List.getElem_cons_zero, Act.put, List.setIfInBounds_toArray, List.set_cons_zero, List.set_cons_succ]
          refine wpAnyH_ready (rs := [6]) (by kernel_rfl) (by simp) (AllReadyH.cons rfl (fun K hK => ?_) AllReadyH.nil)
          rw [if_pos (by rfl)]
          unfold Oper.wp
          go_simp
          refine hK.out _ _ trivial (fun hHeld => ?_)
          clear hK K
          try simp only [List.getElem_toArray, List.getElem_cons_succ, List.getElem_cons_zero, Act.put, List.setIfInBounds_toArray, List.set_cons_zero, List.set_cons_succ]
          refine wpAnyH_ready (rs := [7]) (by kernel_rfl) (by simp) (AllReadyH.cons rfl (fun K hK => ?_) AllReadyH.nil)
          rw [if_pos (by rfl)]
          refine wp_append_lies _ (.tmp 23) (.tmp 25) 36 rfl (w.heap.size + 1) 49 i0 (.slice none 0 0) 1 24 Tryz.underlying36 HI.out hz0 hz1 hz2 rfl (by omega) fv k vs rfl ((hM.out.2.1.alloc _).alloc _) ⟨wr.heap.size + 1, 0, none⟩ 1 1 [.slice (some ⟨wr.heap.size, 0, none⟩) 512 512] rfl rfl (World.news_of_block (cs := #[.slice (some ⟨wr.heap.size, 0, none⟩) 512 512]) HN2.out) (by intro u hu; rw [List.mem_singleton.1 hu]; rfl) (by omega) (by unfold maxLen; omega) (by omega) (by show w.heap.size + 1 ≤ ((wr.alloc (.cells zrow 5)).alloc (.cells #[.slice (some ⟨wr.heap.size, 0, none⟩) 512 512] 49)).heap.size; have := HN4.out; omega) (wr.heap.size + 1 + 1) HN4.out ?_
          intro g cap w1 hown hgr hat hlt1
          have hst := madeTo_step hM.out hown (by exact ⟨hgr.os, hgr.tape, hgr.output, hgr.size, hgr.block⟩)
          have HSt := hid hst
          have f1 : w1.cell? ⟨w.heap.size, 0, none⟩ = some fv := cell_of_block hst.2 0
          have f2 : w1.frozen? ⟨w.heap.size, 0, none⟩ = false := frozen_of_block hst.2 0
          have HB1 := hid (hB.out.trans ((HN3.out.mono hB.out.size).trans (below_of_row (w := ((wr.alloc (.cells zrow 5)).alloc (.cells #[.slice (some ⟨wr.heap.size, 0, none⟩) 512 512] 49))) ⟨hgr.os, hgr.tape, hgr.output, hgr.size, hgr.block⟩ (by have := HN4.out; have := hB.out.size; omega) (fun i e => by have := (hM.out.2.1.lt i e).1; omega))))
          clear hst hown hgr hat hlt1
          refine hK.out _ _ trivial (fun hHeld => ?_)
          clear hK K
          try simp only [List.getElem_toArray, List.getElem_cons_succ, List.getElem_cons_zero, Act.put, List.setIfInBounds_toArray, List.set_cons_zero, List.set_cons_succ]
          refine wpAnyH_take (i := 8) (v := ?_) rfl (by kernel_rfl) (by kernel_rfl) (by kernel_rfl) (fun _ _ _ h => h) (Or.inl ⟨by rfl, ?_⟩) (by assumption) ?_
          rotate_left
          · (intro W hSw; (try dsimp only at hSw); go_simp; try with_reducible rfl)
          try simp only [List.getElem_toArray, List.getElem_cons_succ, List.getElem_cons_zero, Act.put, List.setIfInBounds_toArray, List.set_cons_zero, List.set_cons_succ]
          refine wpAnyH_take (i := 9) (v := ?_) rfl (by kernel_rfl) (by kernel_rfl) (by kernel_rfl) (fun _ _ _ h => h) (Or.inl ⟨by rfl, ?_⟩) (by assumption) ?_
          rotate_left
          · (intro W hSw; (try dsimp only at hSw); go_simp; try with_reducible rfl)
          try simp only [List.getElem_toArray, List.getElem_cons_succ, List.getElem_cons_zero, Act.put, List.setIfInBounds_toArray, List.set_cons_zero, List.set_cons_succ]
          refine wpAnyH_ready (rs := [10]) (by kernel_rfl) (by simp) (AllReadyH.cons rfl (fun K hK => ?_) AllReadyH.nil)
          rw [if_pos (by rfl)]
          unfold Oper.wp
          go_simp
          have HB2 : Hid (Below w.heap.size w (w1.setCell ⟨w.heap.size, 0, none⟩ (.slice (some ⟨g, 0, none⟩) (k + 1) cap))) := HB1.out.setCell (Nat.le_refl _) _
          clear HB1 f1 f2
          generalize w1.setCell ⟨w.heap.size, 0, none⟩ (.slice (some ⟨g, 0, none⟩) (k + 1) cap) = w2 at *
          refine hK.out _ _ trivial (fun hHeld => ?_)
          clear hK K hHeld
          refine wpAnyH_done (by kernel_rfl) ?_ _
          refine NoPanic.normal ?_
          go_wp2
          exact ⟨⟨k + 1, _, _, by omega, by go_num, HSt.out.1, HB2.out⟩, by simp [intOf]; omega⟩
        · -- its slice first
          rw [if_pos (by rfl)]
          unfold Oper.wp
          go_simp
          refine hK.out _ _ trivial (fun hHeld => ?_)
          clear hK K
          try simp only [List.getElem_toArray, List.getElem_cons_succ, List.getElem_cons_zero, Act.put, List.setIfInBounds_toArray, List.set_cons_zero, List.set_cons_succ]
          refine wpAnyH_ready (rs := [4]) (by kernel_rfl) (by simp) (AllReadyH.cons rfl (fun K hK => ?_) AllReadyH.nil)
          have cq3 : ((wr.alloc (.cells zrow 5)).alloc (.cells #[.slice (some ⟨wr.heap.size, 0, none⟩) 512 512] 49)).drew.cell? ⟨w.heap.size, 0, none⟩ = some fv := cell_of_block (block_alloc (block_alloc hM.out.1 _) _) 0
          rw [if_pos (by rfl)]
          unfold Oper.wp
          go_simp
          refine hK.out _ _ trivial (fun hHeld => ?_)
          clear hK K
          try simp only [List.getElem_toArray, List.getElem_cons_succ, List.getElem_cons_zero, Act.put, List.setIfInBounds_toArray, List.set_cons_zero, List.set_cons_succ]
          refine wpAnyH_ready (rs := [7]) (by kernel_rfl) (by simp) (AllReadyH.cons rfl (fun K hK => ?_) AllReadyH.nil)
          rw [if_pos (by rfl)]
          refine wp_append_lies _ (.tmp 23) (.tmp 25) 36 rfl (w.heap.size + 1) 49 i0 (.slice none 0 0) 1 24 Tryz.underlying36 HI.out hz0 hz1 hz2 rfl (by omega) fv k vs rfl ((hM.out.2.1.alloc _).alloc _) ⟨wr.heap.size + 1, 0, none⟩ 1 1 [.slice (some ⟨wr.heap.size, 0, none⟩) 512 512] rfl rfl (World.news_of_block (cs := #[.slice (some ⟨wr.heap.size, 0, none⟩) 512 512]) HN2.out) (by intro u hu; rw [List.mem_singleton.1 hu]; rfl) (by omega) (by unfold maxLen; omega) (by omega) (by show w.heap.size + 1 ≤ ((wr.alloc (.cells zrow 5)).alloc (.cells #[.slice (some ⟨wr.heap.size, 0, none⟩) 512 512] 49)).heap.size; have := HN4.out; omega) (wr.heap.size + 1 + 1) HN4.out ?_
          intro g cap w1 hown hgr hat hlt1
          have hst := madeTo_step hM.out hown (by exact ⟨hgr.os, hgr.tape, hgr.output, hgr.size, hgr.block⟩)
          have HSt := hid hst
          have f1 : w1.cell? ⟨w.heap.size, 0, none⟩ = some fv := cell_of_block hst.2 0
          have f2 : w1.frozen? ⟨w.heap.size, 0, none⟩ = false := frozen_of_block hst.2 0
          have HB1 := hid (hB.out.trans ((HN3.out.mono hB.out.size).trans (below_of_row (w := ((wr.alloc (.cells zrow 5)).alloc (.cells #[.slice (some ⟨wr.heap.size, 0, none⟩) 512 512] 49))) ⟨hgr.os, hgr.tape, hgr.output, hgr.size, hgr.block⟩ (by have := HN4.out; have := hB.out.size; omega) (fun i e => by have := (hM.out.2.1.lt i e).1; omega))))
          clear hst hown hgr hat hlt1
          refine hK.out _ _ trivial (fun hHeld => ?_)
          clear hK K
          try simp only [List.getElem_toArray, List.getElem_cons_succ, List.getElem_cons_zero, Act.put, List.setIfInBounds_toArray, List.set_cons_zero, List.set_cons_succ]
          refine wpAnyH_take (i := 8) (v := ?_) rfl (by kernel_rfl) (by kernel_rfl) (by kernel_rfl) (fun _ _ _ h => h) (Or.inl ⟨by rfl, ?_⟩) (by assumption) ?_
          rotate_left
          · (intro W hSw; (try dsimp only at hSw); go_simp; try with_reducible rfl)
          try simp only [List.getElem_toArray, List.getElem_cons_succ, List.getElem_cons_zero, Act.put, List.setIfInBounds_toArray, List.set_cons_zero, List.set_cons_succ]
          refine wpAnyH_take (i := 9) (v := ?_) rfl (by kernel_rfl) (by kernel_rfl) (by kernel_rfl) (fun _ _ _ h => h) (Or.inl ⟨by rfl, ?_⟩) (by assumption) ?_
          rotate_left
          · (intro W hSw; (try dsimp only at hSw); go_simp; try with_reducible rfl)
          try simp only [List.getElem_toArray, List.getElem_cons_succ, List.getElem_cons_zero, Act.put, List.setIfInBounds_toArray, List.set_cons_zero, List.set_cons_succ]
          refine wpAnyH_ready (rs := [10]) (by kernel_rfl) (by simp) (AllReadyH.cons rfl (fun K hK => ?_) AllReadyH.nil)
          rw [if_pos (by rfl)]
          unfold Oper.wp
          go_simp
          have HB2 : Hid (Below w.heap.size w (w1.setCell ⟨w.heap.size, 0, none⟩ (.slice (some ⟨g, 0, none⟩) (k + 1) cap))) := HB1.out.setCell (Nat.le_refl _) _
          clear HB1 f1 f2
          generalize w1.setCell ⟨w.heap.size, 0, none⟩ (.slice (some ⟨g, 0, none⟩) (k + 1) cap) = w2 at *
          refine hK.out _ _ trivial (fun hHeld => ?_)
          clear hK K hHeld
          refine wpAnyH_done (by kernel_rfl) ?_ _
          refine NoPanic.normal ?_
          go_wp2
          exact ⟨⟨k + 1, _, _, by omega, by go_num, HSt.out.1, HB2.out⟩, by simp [intOf]; omega⟩
    · obtain rfl : k = n := by omega
      have hge : ¬ ((k : Int) < (k : Int)) := by omega
      go_wp2
      go_returns
      exact ⟨rfl, hB.out, fv, madeTo_ref hM.out⟩
end Go.Proofs.YtjgclmlclkfgpaaGreat
/- dunnageref01.CopyAll. -/
namespace Go.Proofs.YtjgclmlclkfgpaaGreat
open Go.RowKit
/-- The first k rows have been copied. -/
def copiedTo (w : World) (lo : Nat) (v : Value) (vs : List Value) (L : List (List UInt8)) (k : Nat) : Prop :=
  w.ownsRow lo 49 1 v k vs ∧ ∀ i (_ : i < L.length), i < k → ∃ g cap, vs[i]? = some (.slice (some ⟨g, 0, none⟩) (L[i]).length cap) ∧ lo ≤ g ∧ g < w.heap.size ∧ v.ownBlock ≠ some g ∧ bytesIn w (some ⟨g, 0, none⟩) L[i]
theorem copiedTo_step {w w1 w3 : World} {lo : Nat} {v : Value} {vs : List Value} {L : List (List UInt8)} {k g cap g3 cap3 : Nat} {o : Obj} (h : copiedTo w lo v vs L k) (hk : k < L.length) (hlo : lo ≤ w.heap.size) (hB : Below w.heap.size w w1)
    (hg1 : w.heap.size ≤ g) (hg2 : g < w1.heap.size) (hb : bytesIn w1 (some ⟨g, 0, none⟩) L[k])
    (hown : w3.ownsRow lo 49 1 (.slice (some ⟨g3, 0, none⟩) (k + 1) cap3) (k + 1) (vs ++ [.slice (some ⟨g, 0, none⟩) (L[k]).length cap]))
    (hgr : (w1.alloc o).grownBy w3 v.ownBlock) (hat : v.ownBlock = some g3 ∨ g3 = w1.heap.size + 1) : copiedTo w3 lo (.slice (some ⟨g3, 0, none⟩) (k + 1) cap3) (vs ++ [.slice (some ⟨g, 0, none⟩) (L[k]).length cap]) L (k + 1) := by
  have hl : vs.length = k := by have := h.1.1; omega
  have hv : ∀ i, v.ownBlock = some i → i < w.heap.size := fun i e => (h.1.lt i e).2
  have hs1 := hB.size
  have hs3 := hgr.size
  have hsa : (w1.alloc o).heap.size = w1.heap.size + 1 := by simp
  have hK : Keeps (fun i => v.ownBlock = some i) w1 w3 := (Keeps.alloc (Keeps.refl _ w1) o).grown hgr (fun i e => .inl e)
  have hown3 : ∀ x, (Value.slice (some ⟨g3, 0, none⟩) (k + 1) cap3).ownBlock = some x → x = g3 := fun x e => (Option.some.inj e).symm
  refine ⟨hown, fun i hi hik => ?_⟩
  by_cases e : i = k
  · subst e
    refine ⟨g, cap, by simp [hl], by omega, by omega, fun e => ?_, hb.keep (Rd := fun i => i = g) hK (fun ad e => by rw [← Option.some.inj e]) (fun i e hn => by have := hv i hn; omega)⟩
    have e2 := hown3 _ e
    rcases hat with h1 | h1
    · have := hv _ h1; omega
    · omega
  · obtain ⟨gi, ci, h1, h2, h3, h4, h5⟩ := h.2 i hi (by omega)
    refine ⟨gi, ci, by rw [List.getElem?_append_left (by omega)]; exact h1, h2, by omega, fun e => ?_, (h5.below hB).keep (Rd := fun i => i = gi) hK (fun ad e => by rw [← Option.some.inj e]) (fun i e hn => by subst e; exact h4 hn)⟩
    have e2 := hown3 _ e
    rcases hat with h6 | h6
    · subst e2; exact h4 h6
    · omega
theorem copiedTo_end {w : World} {lo : Nat} {v : Value} {vs : List Value} {L : List (List UInt8)} (h : copiedTo w lo v vs L L.length) : ∃ a c, v = .slice a L.length c ∧ rowsFrom w lo a L := by
  obtain ⟨sa, c, rfl, hr⟩ := row_slice h.1
  refine ⟨sa, c, rfl, fun j hj => ?_⟩
  obtain ⟨g, rfl, _, hg, hc⟩ := hr j hj
  refine ⟨g, 0, rfl, hg, fun i hi => ?_⟩
  obtain ⟨gi, ci, h1, h2, _, _, h5⟩ := h.2 i hi hi
  exact ⟨some ⟨gi, 0, none⟩, ci, by rw [Nat.zero_add, hc i hi]; exact h1, h5, fun ad e => by rw [← Option.some.inj e]; exact h2⟩
set_option maxRecDepth 100000 in
set_option maxHeartbeats 2000000 in
theorem copyAll_rows (L : List (List UInt8)) (a : Option Addr) (c : Nat) (w : World) (h : rowsAt w a L) (hn : L.length ≤ 4096) (hr : ∀ l ∈ L, l.length = 512) :
    Calls Tryz.prog 92 #[.slice a L.length c] w fun e w' => ∃ v vs, e = .returned v ∧ copiedTo w' w.heap.size v vs L L.length ∧ Below w.heap.size w w' := by
  obtain ⟨i0, hi, hz0, hz1, hz2⟩ := info_parts infoRow
  have HI := hid hi
  have H := hid h
  clear hi h
  go_enter Tryz.func92, Tryz.ntmps92
  go_wp2
  go_loopw [3, 4] (fun v i wr => ∃ (k : Nat) (vs : List Value), k ≤ L.length ∧ i = .int .i64 k ∧ Hid (copiedTo wr w.heap.size v vs L k) ∧ Hid (Below w.heap.size w wr)) (fun _ i _ => L.length - (intOf i).toNat)
  case atStart => exact ⟨0, [], by omega, rfl, ⟨World.ownsRow_nil _ _ _ _, fun i hi h => by omega⟩, Below.refl _ _⟩
  case round =>
    obtain ⟨k, vs, hk, rfl, hM, hB⟩ := hrel
    by_cases hlt : k < L.length
    · have hk0 : (0 : Int) ≤ (k : Int) := by omega
      have hk1 : (k : Int) < (L.length : Int) := by omega
      obtain ⟨b, o, rfl, hc⟩ := H.out k hlt
      obtain ⟨a', c', hcell, hby⟩ := hc k hlt
      have hl5 := hr _ (List.getElem_mem hlt)
      have ck : wr.cell? ⟨b, o + k, none⟩ = some (.slice a' (L[k]).length c') := (hB.out.cell (p := ⟨b, o + k, none⟩) (World.block_lt_of_cell? w _ hcell)).trans hcell
      have hcp := copy_any L[k] a' c' wr (hby.below hB.out) (by omega) (by omega)
      have HSt := hid (fun w1 w3 g cap g3 cap3 o x1 x2 x3 x4 x5 x6 x7 => copiedTo_step (w1 := w1) (w3 := w3) (g := g) (cap := cap) (g3 := g3) (cap3 := cap3) (o := o) hM.out hlt hB.out.size x1 x2 x3 x4 x5 x6 x7)
      rw [hl5] at ck hcp HSt
      have HCp := hid hcp
      have HMr := hid hM.out.1
      have HMlt := hid (fun i e => (hM.out.1.lt i e).1)
      generalize L[k] = lk at *
      clear hcp hM hc hcell hby hl5
      go_wp2_with fail
      refine HCp.out.mono ?_
      clear HCp
      rintro e w1 ⟨g, cap, rfl, hb1, hg1, hg2, hB1⟩
      have HB1 := hid hB1
      have HR1 := hid ((Keeps.of_below (F := fun _ => False) hB1).row HMr.out (fun _ _ e => e))
      have Hb1 := hid hb1
      clear hB1 hb1
      go_wp2_with (refine wpList_append_lies _ rfl (.tmp 11) (.tmp 17) 36 rfl w.heap.size 49 i0 (.slice none 0 0) 1 24 Tryz.underlying36 HI.out hz0 hz1 hz2 rfl (by omega) u3 k vs rfl (HR1.out.alloc _) ⟨w1.heap.size, 0, none⟩ 1 1 [.slice (some ⟨g, 0, none⟩) 512 cap] rfl rfl (World.news_of_block (cs := #[.slice (some ⟨g, 0, none⟩) 512 cap]) (block_new w1 _)) (by intro u hu; rw [List.mem_singleton.1 hu]; rfl) (by omega) (by unfold maxLen; omega) (by omega) (by have := hB.out.size; have := HB1.out.size; simp; omega) (w1.heap.size + 1) (by simp) ?_; intro g3 cap3 w3 hown hgr hat hlt2; have HO := hid hown; have HG := hid hgr; have HAt := hid hat; clear hown hgr hat hlt2)
      have hbw := hB.out.trans (HB1.out.mono hB.out.size)
      have hba := hbw.alloc hbw.size (.cells #[.slice (some ⟨g, 0, none⟩) 512 cap] 49)
      exact ⟨⟨k + 1, _, by omega, by go_num, HSt.out w1 w3 g cap g3 cap3 _ HB1.out hg1 hg2 Hb1.out HO.out HG.out HAt.out, hba.trans (below_of_row HG.out hba.size HMlt.out)⟩, by simp [intOf]; omega⟩
    · obtain rfl : k = L.length := by omega
      have hge : ¬ ((L.length : Int) < (L.length : Int)) := by omega
      go_wp2
      go_ret
      exact ⟨_, rfl, ⟨vs, hM.out⟩, hB.out⟩
theorem copyAll_any (L : List (List UInt8)) (a : Option Addr) (c : Nat) (w : World) (h : rowsAt w a L) (hn : L.length ≤ 4096) (hr : ∀ l ∈ L, l.length = 512) :
    Calls Tryz.prog 92 #[.slice a L.length c] w fun e w' => ∃ a' c', e = .returned (.slice a' L.length c') ∧ rowsFrom w' w.heap.size a' L ∧ Below w.heap.size w w' := by
  refine (copyAll_rows L a c w h hn hr).mono ?_
  rintro e w' ⟨v, vs, rfl, hM, hB⟩
  obtain ⟨a', c', rfl, hrows⟩ := copiedTo_end hM
  exact ⟨a', c', rfl, hrows, hB⟩
end Go.Proofs.YtjgclmlclkfgpaaGreat
/- dunnageref01.SameAll: do two lists of rows of bytes hold the same? -/
namespace Go.Proofs.YtjgclmlclkfgpaaGreat
open Go.RowKit
set_option maxRecDepth 100000 in
set_option maxHeartbeats 2000000 in
theorem same_all (xs ys : List (List UInt8)) (u v : Option Addr) (c c' : Nat) (w : World) (ha : rowsAt w u xs) (hb : rowsAt w v ys) (hn : xs.length < 4611686018427387904) (hr : ∀ l ∈ xs, l.length < 4611686018427387904) :
    Calls Tryz.prog 17 #[.slice u xs.length c, .slice v ys.length c'] w fun e w' => e = .returned (.bool (decide (xs = ys))) ∧ Below w.heap.size w w' := by
  have HA := hid ha
  have HB := hid hb
  have HR := hid hr
  clear ha hb hr
  by_cases hl : xs.length = ys.length
  · have hne : ((xs.length : Int) != (ys.length : Int)) = false := by rw [bne_eq_false_iff_eq]; omega
    have HL := hid hl
    clear hl
    go_enter Tryz.func17, Tryz.ntmps17
    go_wp2
    go_loopw [5] (fun i wr => ∃ k : Nat, k ≤ xs.length ∧ i = .int .i64 k ∧ Hid (xs.take k = ys.take k) ∧ Hid (Below w.heap.size w wr)) (fun i _ => xs.length - (intOf i).toNat)
    case atStart => exact ⟨0, by omega, rfl, rfl, Below.refl _ _⟩
    case round =>
      obtain ⟨k, hk, rfl, ht, hB⟩ := hrel
      by_cases hlt : k < xs.length
      · have hlt2 : k < ys.length := by rw [← HL.out]; exact hlt
        obtain ⟨b0, o0, rfl, hc0⟩ := HA.out k hlt
        obtain ⟨b1, o1, rfl, hc1⟩ := HB.out k hlt2
        obtain ⟨a0, e0, k0, i0⟩ := hc0 k hlt
        obtain ⟨a1, e1, k1, i1⟩ := hc1 k hlt2
        have d0 : wr.cell? ⟨b0, o0 + k, none⟩ = some (.slice a0 (xs[k]).length e0) := (World.cell?_of_block (w := w) (hB.out.block b0 (World.block_lt_of_cell? w _ k0))).trans k0
        have d1 : wr.cell? ⟨b1, o1 + k, none⟩ = some (.slice a1 (ys[k]).length e1) := (World.cell?_of_block (w := w) (hB.out.block b1 (World.block_lt_of_cell? w _ k1))).trans k1
        have hi0 : (0 : Int) ≤ (k : Int) := by omega
        have hi1 : (k : Int) < (xs.length : Int) := by omega
        have hi2 : (k : Int) < (ys.length : Int) := by rw [← HL.out]; omega
        have hsb := fun W (hw : Below wr.heap.size wr W) => same_bytes (xs[k]) (ys[k]) a0 a1 e0 e1 W (i0.below (hB.out.trans (hw.mono hB.out.size))) (i1.below (hB.out.trans (hw.mono hB.out.size))) (HR.out _ (List.getElem_mem hlt))
        by_cases hx : xs[k] = ys[k]
        · have HT := hid (take_next hlt hlt2 ht.out hx)
          have hdt : decide (xs[k] = ys[k]) = true := decide_eq_true hx
          rw [hdt] at hsb
          have HSb := hid hsb
          clear hsb hdt hx k0 k1 i0 i1 hc0 hc1
          generalize (xs[k]).length = n0 at *
          generalize (ys[k]).length = n1 at *
          go_wp2
          refine wp_region_noPanic ?_
          refine wp_region_held_drew (S := fun W => W.cell? ⟨b0, o0 + k, none⟩ = some (.slice a0 n0 e0) ∧ W.cell? ⟨b1, o1 + k, none⟩ = some (.slice a1 n1 e1)) (by kernel_rfl) ⟨d0, d1⟩ (fun hHeld => ?_)
          refine wpAnyH_take (i := 0) (v := ?_) rfl (by kernel_rfl) (by kernel_rfl) (by kernel_rfl) (fun _ _ _ h => h) (Or.inl ⟨by rfl, ?_⟩) (by assumption) ?_
          rotate_left
          · (intro W hSw; (try dsimp only at hSw); go_simp; try with_reducible rfl)
          try simp only [List.getElem_toArray, List.getElem_cons_zero, Act.put, List.setIfInBounds_toArray, List.set_cons_zero, List.set_cons_succ]
          refine wpAnyH_take (i := 1) (v := ?_) rfl (by kernel_rfl) (by kernel_rfl) (by kernel_rfl) (fun _ _ _ h => h) (Or.inl ⟨by rfl, ?_⟩) (by assumption) ?_
          rotate_left
          · (intro W hSw; (try dsimp only at hSw); go_simp; try with_reducible rfl)
          try simp only [List.getElem_toArray, List.getElem_cons_succ, List.getElem_cons_zero, Act.put, List.setIfInBounds_toArray, List.set_cons_zero, List.set_cons_succ]
          refine wpAnyH_take (i := 2) (v := ?_) rfl (by kernel_rfl) (by kernel_rfl) (by kernel_rfl) (fun _ _ _ h => h) (Or.inl ⟨by rfl, ?_⟩) (by assumption) ?_
          rotate_left
          · (intro W hSw; (try dsimp only at hSw); go_simp; try with_reducible rfl)
          try simp only [List.getElem_toArray, List.getElem_cons_succ, List.getElem_cons_zero, Act.put, List.setIfInBounds_toArray, List.set_cons_zero, List.set_cons_succ]
          refine wpAnyH_take (i := 3) (v := ?_) rfl (by kernel_rfl) (by kernel_rfl) (by kernel_rfl) (fun _ _ _ h => h) (Or.inl ⟨by rfl, ?_⟩) (by assumption) ?_
          rotate_left
          · (intro W hSw; (try dsimp only at hSw); obtain ⟨s1, s2⟩ := hSw; go_simp; try with_reducible rfl)
          try simp only [List.getElem_toArray, List.getElem_cons_succ, List.getElem_cons_zero, Act.put, List.setIfInBounds_toArray, List.set_cons_zero, List.set_cons_succ]
          refine wpAnyH_take (i := 4) (v := ?_) rfl (by kernel_rfl) (by kernel_rfl) (by kernel_rfl) (fun _ _ _ h => h) (Or.inl ⟨by rfl, ?_⟩) (by assumption) ?_
          rotate_left
          · (intro W hSw; (try dsimp only at hSw); go_simp; try with_reducible rfl)
          try simp only [List.getElem_toArray, List.getElem_cons_succ, List.getElem_cons_zero, Act.put, List.setIfInBounds_toArray, List.set_cons_zero, List.set_cons_succ]
          refine wpAnyH_take (i := 5) (v := ?_) rfl (by kernel_rfl) (by kernel_rfl) (by kernel_rfl) (fun _ _ _ h => h) (Or.inl ⟨by rfl, ?_⟩) (by assumption) ?_
          rotate_left
          · (intro W hSw; (try dsimp only at hSw); go_simp; try with_reducible rfl)
          try simp only [List.getElem_toArray, List.getElem_cons_succ, List.getElem_cons_zero, Act.put, List.setIfInBounds_toArray, List.set_cons_zero, List.set_cons_succ]
          refine wpAnyH_take (i := 6) (v := ?_) rfl (by kernel_rfl) (by kernel_rfl) (by kernel_rfl) (fun _ _ _ h => h) (Or.inl ⟨by rfl, ?_⟩) (by assumption) ?_
          rotate_left
          · (intro W hSw; (try dsimp only at hSw); go_simp; try with_reducible rfl)
          try simp only [List.getElem_toArray, List.getElem_cons_succ, List.getElem_cons_zero, Act.put, List.setIfInBounds_toArray, List.set_cons_zero, List.set_cons_succ]
          refine wpAnyH_take (i := 7) (v := ?_) rfl (by kernel_rfl) (by kernel_rfl) (by kernel_rfl) (fun _ _ _ h => h) (Or.inl ⟨by rfl, ?_⟩) (by assumption) ?_
          rotate_left
          · (intro W hSw; (try dsimp only at hSw); obtain ⟨s1, s2⟩ := hSw; go_simp; try with_reducible rfl)
          try simp only [List.getElem_toArray, List.getElem_cons_succ, List.getElem_cons_zero, Act.put, List.setIfInBounds_toArray, List.set_cons_zero, List.set_cons_succ]
          refine wpAnyH_ready (rs := [8]) (by kernel_rfl) (by simp) (AllReadyH.cons rfl (fun K hK => ?_) AllReadyH.nil)
          rw [if_pos (by rfl)]
          go_simp
          refine (HSb.out wr.drew (Below.refl _ _).drew).mono ?_
          clear HSb
          rintro e w11 ⟨rfl, hb11⟩
          have hb11' := below_undrew hb11
          have HB11 := hid (hB.out.trans (hb11'.mono hB.out.size))
          have u1 : w11.cell? ⟨b0, o0 + k, none⟩ = some (.slice a0 n0 e0) := (hb11'.cell (p := ⟨b0, o0 + k, none⟩) (World.block_lt_of_cell? wr _ d0)).trans d0
          have u2 : w11.cell? ⟨b1, o1 + k, none⟩ = some (.slice a1 n1 e1) := (hb11'.cell (p := ⟨b1, o1 + k, none⟩) (World.block_lt_of_cell? wr _ d1)).trans d1
          go_wp2_with fail
          refine hK.out _ _ ⟨u1, u2⟩ (fun hHeld => ?_)
          clear hK K hb11 hb11'
          try simp only [List.getElem_toArray, List.getElem_cons_succ, List.getElem_cons_zero, Act.put, List.setIfInBounds_toArray, List.set_cons_zero, List.set_cons_succ]
          refine wpAnyH_take (i := 9) (v := ?_) rfl (by kernel_rfl) (by kernel_rfl) (by kernel_rfl) (fun _ _ _ h => h) (Or.inl ⟨by rfl, ?_⟩) (by assumption) ?_
          rotate_left
          · (intro W hSw; (try dsimp only at hSw); go_simp; try with_reducible rfl)
          try simp only [List.getElem_toArray, List.getElem_cons_succ, List.getElem_cons_zero, Act.put, List.setIfInBounds_toArray, List.set_cons_zero, List.set_cons_succ]
          refine wpAnyH_done (by kernel_rfl) ?_ _
          refine NoPanic.normal ?_
          clear hHeld d0 d1 u1 u2
          go_wp2
          exact ⟨⟨k + 1, by omega, by go_num, HT, HB11⟩, by simp [intOf]; omega⟩
        · have HF : Hid (decide (xs = ys) = false) := decide_eq_false (fun e => hx (by subst e; rfl))
          have hdt : decide (xs[k] = ys[k]) = false := decide_eq_false hx
          rw [hdt] at hsb
          have HSb := hid hsb
          clear hsb hdt hx k0 k1 i0 i1 hc0 hc1
          generalize (xs[k]).length = n0 at *
          generalize (ys[k]).length = n1 at *
          go_wp2
          refine wp_region_noPanic ?_
          refine wp_region_held_drew (S := fun W => W.cell? ⟨b0, o0 + k, none⟩ = some (.slice a0 n0 e0) ∧ W.cell? ⟨b1, o1 + k, none⟩ = some (.slice a1 n1 e1)) (by kernel_rfl) ⟨d0, d1⟩ (fun hHeld => ?_)
          refine wpAnyH_take (i := 0) (v := ?_) rfl (by kernel_rfl) (by kernel_rfl) (by kernel_rfl) (fun _ _ _ h => h) (Or.inl ⟨by rfl, ?_⟩) (by assumption) ?_
          rotate_left
          · (intro W hSw; (try dsimp only at hSw); go_simp; try with_reducible rfl)
          try simp only [List.getElem_toArray, List.getElem_cons_zero, Act.put, List.setIfInBounds_toArray, List.set_cons_zero, List.set_cons_succ]
          refine wpAnyH_take (i := 1) (v := ?_) rfl (by kernel_rfl) (by kernel_rfl) (by kernel_rfl) (fun _ _ _ h => h) (Or.inl ⟨by rfl, ?_⟩) (by assumption) ?_
          rotate_left
          · (intro W hSw; (try dsimp only at hSw); go_simp; try with_reducible rfl)
          try simp only [List.getElem_toArray, List.getElem_cons_succ, List.getElem_cons_zero, Act.put, List.setIfInBounds_toArray, List.set_cons_zero, List.set_cons_succ]
          refine wpAnyH_take (i := 2) (v := ?_) rfl (by kernel_rfl) (by kernel_rfl) (by kernel_rfl) (fun _ _ _ h => h) (Or.inl ⟨by rfl, ?_⟩) (by assumption) ?_
          rotate_left
          · (intro W hSw; (try dsimp only at hSw); go_simp; try with_reducible rfl)
          try simp only [List.getElem_toArray, List.getElem_cons_succ, List.getElem_cons_zero, Act.put, List.setIfInBounds_toArray, List.set_cons_zero, List.set_cons_succ]
          refine wpAnyH_take (i := 3) (v := ?_) rfl (by kernel_rfl) (by kernel_rfl) (by kernel_rfl) (fun _ _ _ h => h) (Or.inl ⟨by rfl, ?_⟩) (by assumption) ?_
          rotate_left
          · (intro W hSw; (try dsimp only at hSw); obtain ⟨s1, s2⟩ := hSw; go_simp; try with_reducible rfl)
          try simp only [List.getElem_toArray, List.getElem_cons_succ, List.getElem_cons_zero, Act.put, List.setIfInBounds_toArray, List.set_cons_zero, List.set_cons_succ]
          refine wpAnyH_take (i := 4) (v := ?_) rfl (by kernel_rfl) (by kernel_rfl) (by kernel_rfl) (fun _ _ _ h => h) (Or.inl ⟨by rfl, ?_⟩) (by assumption) ?_
          rotate_left
          · (intro W hSw; (try dsimp only at hSw); go_simp; try with_reducible rfl)
          try simp only [List.getElem_toArray, List.getElem_cons_succ, List.getElem_cons_zero, Act.put, List.setIfInBounds_toArray, List.set_cons_zero, List.set_cons_succ]
          refine wpAnyH_take (i := 5) (v := ?_) rfl (by kernel_rfl) (by kernel_rfl) (by kernel_rfl) (fun _ _ _ h => h) (Or.inl ⟨by rfl, ?_⟩) (by assumption) ?_
          rotate_left
          · (intro W hSw; (try dsimp only at hSw); go_simp; try with_reducible rfl)
          try simp only [List.getElem_toArray, List.getElem_cons_succ, List.getElem_cons_zero, Act.put, List.setIfInBounds_toArray, List.set_cons_zero, List.set_cons_succ]
          refine wpAnyH_take (i := 6) (v := ?_) rfl (by kernel_rfl) (by kernel_rfl) (by kernel_rfl) (fun _ _ _ h => h) (Or.inl ⟨by rfl, ?_⟩) (by assumption) ?_
          rotate_left
          · (intro W hSw; (try dsimp only at hSw); go_simp; try with_reducible rfl)
          try simp only [List.getElem_toArray, List.getElem_cons_succ, List.getElem_cons_zero, Act.put, List.setIfInBounds_toArray, List.set_cons_zero, List.set_cons_succ]
          refine wpAnyH_take (i := 7) (v := ?_) rfl (by kernel_rfl) (by kernel_rfl) (by kernel_rfl) (fun _ _ _ h => h) (Or.inl ⟨by rfl, ?_⟩) (by assumption) ?_
          rotate_left
          · (intro W hSw; (try dsimp only at hSw); obtain ⟨s1, s2⟩ := hSw; go_simp; try with_reducible rfl)
          try simp only [List.getElem_toArray, List.getElem_cons_succ, List.getElem_cons_zero, Act.put, List.setIfInBounds_toArray, List.set_cons_zero, List.set_cons_succ]
          refine wpAnyH_ready (rs := [8]) (by kernel_rfl) (by simp) (AllReadyH.cons rfl (fun K hK => ?_) AllReadyH.nil)
          rw [if_pos (by rfl)]
          go_simp
          refine (HSb.out wr.drew (Below.refl _ _).drew).mono ?_
          clear HSb
          rintro e w11 ⟨rfl, hb11⟩
          have hb11' := below_undrew hb11
          have HB11 := hid (hB.out.trans (hb11'.mono hB.out.size))
          have u1 : w11.cell? ⟨b0, o0 + k, none⟩ = some (.slice a0 n0 e0) := (hb11'.cell (p := ⟨b0, o0 + k, none⟩) (World.block_lt_of_cell? wr _ d0)).trans d0
          have u2 : w11.cell? ⟨b1, o1 + k, none⟩ = some (.slice a1 n1 e1) := (hb11'.cell (p := ⟨b1, o1 + k, none⟩) (World.block_lt_of_cell? wr _ d1)).trans d1
          go_wp2_with fail
          refine hK.out _ _ ⟨u1, u2⟩ (fun hHeld => ?_)
          clear hK K hb11 hb11'
          try simp only [List.getElem_toArray, List.getElem_cons_succ, List.getElem_cons_zero, Act.put, List.setIfInBounds_toArray, List.set_cons_zero, List.set_cons_succ]
          refine wpAnyH_take (i := 9) (v := ?_) rfl (by kernel_rfl) (by kernel_rfl) (by kernel_rfl) (fun _ _ _ h => h) (Or.inl ⟨by rfl, ?_⟩) (by assumption) ?_
          rotate_left
          · (intro W hSw; (try dsimp only at hSw); go_simp; try with_reducible rfl)
          try simp only [List.getElem_toArray, List.getElem_cons_succ, List.getElem_cons_zero, Act.put, List.setIfInBounds_toArray, List.set_cons_zero, List.set_cons_succ]
          refine wpAnyH_done (by kernel_rfl) ?_ _
          refine NoPanic.normal ?_
          clear hHeld d0 d1 u1 u2
          go_wp2
          go_ret
          exact ⟨by rw [HF.out]; rfl, HB11.out⟩
      · have hge : ¬ ((k : Int) < (xs.length : Int)) := by omega
        have HF : Hid (decide (xs = ys) = true) := decide_eq_true (by
          have := ht.out
          rwa [List.take_of_length_le (by omega), List.take_of_length_le (by rw [← HL.out]; omega)] at this)
        go_wp2
        go_ret
        exact ⟨by rw [HF.out]; rfl, hB.out⟩
  · have hne : ((xs.length : Int) != (ys.length : Int)) = true := by rw [bne_iff_ne]; omega
    have HF : Hid (decide (xs = ys) = false) := decide_eq_false (fun e => hl (by rw [e]))
    go_enter Tryz.func17, Tryz.ntmps17
    go_wp2
    go_ret
    exact ⟨by rw [HF.out]; rfl, Below.refl _ _⟩
end Go.Proofs.YtjgclmlclkfgpaaGreat
/- The reference's Ops, Sectors, flushed. -/
namespace Go.Proofs.YtjgclmlclkfgpaaGreat
open Go.RowKit
theorem opCells_cons (o : ROp) (l : List ROp) (v : Value) (vs : List Value) : opCells (o :: l) (v :: vs) = .bool o.flush :: .int .i64 o.n :: v :: opCells l vs := by simp [opCells]
theorem opCells_at : ∀ (l : List ROp) (vs : List Value) (_ : l.length = vs.length) (i : Nat) (hi : i < l.length) (hi' : i < vs.length),
    (opCells l vs)[i * 3]? = some (.bool l[i].flush) ∧ (opCells l vs)[i * 3 + 1]? = some (.int .i64 l[i].n) ∧ (opCells l vs)[i * 3 + 2]? = some vs[i]
  | [], _, _, i, hi, _ => by simp at hi
  | o :: l, [], h, _, _, _ => by simp at h
  | o :: l, v :: vs, h, 0, _, _ => by rw [opCells_cons]; simp
  | o :: l, v :: vs, h, i + 1, hi, hi' => by
    obtain ⟨h1, h2, h3⟩ := opCells_at l vs (by simpa using h) i (by simpa using hi) (by simpa using hi')
    rw [opCells_cons, show (i + 1) * 3 = i * 3 + 3 by omega]
    refine ⟨by simpa using h1, ?_, ?_⟩
    · rw [show i * 3 + 3 + 1 = (i * 3 + 1) + 3 by omega]; simpa using h2
    · rw [show i * 3 + 3 + 2 = (i * 3 + 2) + 3 by omega]; simpa using h3
/-- The field of the ops, as a slice. -/
theorem RefIn.slice {w : World} {r : Nat} {fv lv : Value} {vs : List Value} {Rd : Nat → Prop} {R : RefS} (h : RefIn w r fv lv vs Rd R) : ∃ sa cap, lv = .slice sa R.l.length cap ∧ ∀ i (hi : i < R.l.length) (hi' : i < vs.length), ∃ g, sa = some ⟨g, 0, none⟩ ∧
    w.cell? ⟨g, i * 3, none⟩ = some (.bool R.l[i].flush) ∧ w.cell? ⟨g, i * 3 + 1, none⟩ = some (.int .i64 R.l[i].n) ∧ w.cell? ⟨g, i * 3 + 2, none⟩ = some vs[i] := by
  rcases Nat.eq_zero_or_pos R.l.length with h0 | hp
  · exact ⟨none, 0, by rw [h.nilv (List.length_eq_zero_iff.1 h0), h0], fun i hi => by omega⟩
  · obtain ⟨g, cap, rfl, h1, h2⟩ := h.ops.form hp
    refine ⟨some ⟨g, 0, none⟩, cap, rfl, fun i hi hi' => ⟨g, rfl, ?_⟩⟩
    obtain ⟨e1, e2, e3⟩ := opCells_at R.l vs h.len i hi hi'
    exact ⟨by rw [h.ops.cellAt (i * 3) (by omega)]; exact e1, by rw [h.ops.cellAt (i * 3 + 1) (by omega)]; exact e2, by rw [h.ops.cellAt (i * 3 + 2) (by omega)]; exact e3⟩
set_option maxRecDepth 100000 in
theorem rops_any (r : Nat) (fv lv : Value) (vs : List Value) (Rd : Nat → Prop) (R : RefS) (w : World) (h : RefIn w r fv lv vs Rd R) :
    Calls Tryz.prog 24 #[.pointer (some ⟨r, 0, none⟩)] w fun e w' => e = .returned (.int .i64 R.l.length) ∧ w' = w := by
  obtain ⟨sa, cap, rfl, _⟩ := h.slice
  have c1 : w.cell? ⟨r, 1, none⟩ = some (.slice sa R.l.length cap) := by rw [cell_of_block h.heap]; rfl
  clear h
  go_enter Tryz.func24, Tryz.ntmps24
  go_wp2
  go_ret
  exact ⟨rfl, rfl⟩
set_option maxRecDepth 100000 in
theorem rsectors_any (r : Nat) (fv lv : Value) (vs : List Value) (Rd : Nat → Prop) (R : RefS) (w : World) (h : RefIn w r fv lv vs Rd R) :
    Calls Tryz.prog 76 #[.pointer (some ⟨r, 0, none⟩)] w fun e w' => e = .returned (.int .i64 R.first.length) ∧ w' = w := by
  obtain ⟨a, c, rfl, _⟩ := h.first
  have c0 : w.cell? ⟨r, 0, none⟩ = some (.slice a R.first.length c) := by rw [cell_of_block h.heap]; rfl
  clear h
  go_enter Tryz.func76, Tryz.ntmps76
  go_wp2
  go_ret
  exact ⟨rfl, rfl⟩
/-- Behind which op the last flush of the first k is. -/
def flushedTo (l : List ROp) : Nat → Nat
  | 0 => 0
  | k + 1 => if h : k < l.length then (if l[k].flush then k + 1 else flushedTo l k) else flushedTo l k
theorem flushedTo_le (l : List ROp) : ∀ k, flushedTo l k ≤ k
  | 0 => Nat.le_refl _
  | k + 1 => by
    have := flushedTo_le l k
    unfold flushedTo
    split
    · split <;> omega
    · omega
end Go.Proofs.YtjgclmlclkfgpaaGreat
/- The reference's at, Image, Safe. -/
namespace Go.Proofs.YtjgclmlclkfgpaaGreat
open Go.RowKit
/-- The sectors behind the first k ops. -/
def atL (R : RefS) : Nat → List (List UInt8)
  | 0 => R.first
  | k + 1 => if h : k < R.l.length then (if R.l[k].flush then atL R k else (atL R k).set R.l[k].n.toNat R.l[k].b) else atL R k
/-- Sectors of 512 bytes, ops within them. -/
def okR (R : RefS) : Prop := R.first.length ≤ 4096 ∧ (∀ l ∈ R.first, l.length = 512) ∧ ∀ o ∈ R.l, o.flush = false → 0 ≤ o.n ∧ o.n < R.first.length ∧ o.b.length = 512
theorem length_atL (R : RefS) : ∀ k, (atL R k).length = R.first.length
  | 0 => rfl
  | k + 1 => by
    have := length_atL R k
    unfold atL
    split
    · split <;> simp [this]
    · exact this
/-- One row is another now. -/
theorem copiedTo_set {w w1 : World} {lo go N c i g cap : Nat} {vs : List Value} {L : List (List UInt8)} {b : List UInt8} (h : copiedTo w lo (.slice (some ⟨go, 0, none⟩) N c) vs L N) (hlo : lo ≤ w.heap.size) (hB : Below w.heap.size w w1)
    (hg1 : w.heap.size ≤ g) (hg2 : g < w1.heap.size) (hb : bytesIn w1 (some ⟨g, 0, none⟩) b) (hi : i < N) (hL : L.length = N) :
    copiedTo (w1.setCell ⟨go, i, none⟩ (.slice (some ⟨g, 0, none⟩) b.length cap)) lo (.slice (some ⟨go, 0, none⟩) N c) (vs.set i (.slice (some ⟨g, 0, none⟩) b.length cap)) (L.set i b) N := by
  have hrow := (Keeps.of_below (F := fun _ => False) hB).row h.1 (fun _ _ e => e)
  have hgo := (h.1.lt go rfl).2
  have hl : vs.length = N := by have := h.1.1; omega
  have hK : Keeps (fun i => i = go) w1 (w1.setCell ⟨go, i, none⟩ (.slice (some ⟨g, 0, none⟩) b.length cap)) := Keeps.of_grown (r := some go) (grown_setCell (grown_refl _ _) _ _) (fun i e => (Option.some.inj e).symm)
  have hs1 := hB.size
  have hs2 := hK.size
  refine ⟨(hrow.stored i _).1, fun j hj hjN => ?_⟩
  by_cases e : j = i
  · subst e
    refine ⟨g, cap, ?_, by omega, by omega, fun e => ?_, ?_⟩
    · rw [List.getElem?_set_self (by omega), List.getElem_set_self]
    · have e2 : go = g := Option.some.inj e
      omega
    · rw [List.getElem_set_self]
      exact hb.keep (Rd := fun i => i = g) hK (fun ad e => by rw [← Option.some.inj e]) (fun i e hn => by omega)
  · have hj' : j < L.length := by simpa using hj
    obtain ⟨gi, ci, h1, h2, h3, h4, h5⟩ := h.2 j hj' hjN
    have e3 : (L.set i b)[j] = L[j] := List.getElem_set_ne (by omega) _
    refine ⟨gi, ci, by rw [List.getElem?_set_ne (by omega), e3]; exact h1, h2, by omega, h4, ?_⟩
    rw [e3]
    exact (h5.below hB).keep (Rd := fun i => i = gi) hK (fun ad e => by rw [← Option.some.inj e]) (fun i e hn => by subst e hn; exact h4 rfl)
set_option maxRecDepth 100000 in
set_option maxHeartbeats 2000000 in
theorem rat_own (r : Nat) (fv lv : Value) (vs : List Value) (Rd : Nat → Prop) (R : RefS) (n : Nat) (w : World) (h : RefIn w r fv lv vs Rd R) (hR : okR R) (hn : n ≤ R.l.length) (hm : R.l.length ≤ 1000000) :
    Calls Tryz.prog 57 #[.pointer (some ⟨r, 0, none⟩), .int .i64 n] w fun e w' => Below w.heap.size w w' ∧ ∃ a' c' vk, e = .returned (.slice a' R.first.length c') ∧ copiedTo w' w.heap.size (.slice a' R.first.length c') vk (atL R n) R.first.length := by
  obtain ⟨a, c, hfv, hrows, -⟩ := h.first
  have c0 : w.cell? ⟨r, 0, none⟩ = some (.slice a R.first.length c) := by rw [cell_of_block h.heap, ← hfv]; rfl
  have HC := hid (copyAll_rows R.first a c w hrows hR.1 hR.2.1)
  have H := hid h
  have HR := hid hR
  clear h hR hrows hfv
  go_enter Tryz.func57, Tryz.ntmps57
  go_wp2_with fail
  refine HC.out.mono ?_
  clear HC
  rintro e w1 ⟨v, vs1, rfl, hM, hB⟩
  have HM := hid hM
  have HB := hid hB
  clear hM hB
  go_wp2
  obtain ⟨a', c', rfl⟩ : ∃ a' c', v = .slice a' R.first.length c' := by
    obtain ⟨sa, cp, e, _⟩ := row_slice HM.out.1
    exact ⟨sa, cp, e⟩
  go_loopw [6] (fun i wr => ∃ (k : Nat) (vk : List Value), k ≤ n ∧ i = .int .i64 k ∧ Hid (copiedTo wr w.heap.size (.slice a' R.first.length c') vk (atL R k) R.first.length) ∧ Hid (Below w.heap.size w wr)) (fun i _ => n - (intOf i).toNat)
  case atStart => exact ⟨0, vs1, by omega, rfl, HM.out, HB.out⟩
  case round =>
    obtain ⟨k, vk, hk, rfl, hM, hBr⟩ := hrel
    by_cases hlt : k < n
    · have hk0 : (0 : Int) ≤ (k : Int) := by omega
      have hk1 : (k : Int) < (n : Int) := by omega
      have hkl : k < R.l.length := by omega
      have hk2 : (k : Int) < (R.l.length : Int) := by omega
      have hH := H.out.below hBr.out
      obtain ⟨sa, cap, hlv, hs⟩ := H.out.slice
      have hkv : k < vs.length := by rw [← hH.len]; exact hkl
      obtain ⟨g, rfl, q0w, q1w, q2w⟩ := hs k hkl hkv
      have hgw := World.block_lt_of_cell? w _ q0w
      have hrw := lt_of_heap H.out.heap
      have q0 := (hBr.out.cell (p := ⟨g, k * 3, none⟩) hgw).trans q0w
      have q1 := (hBr.out.cell (p := ⟨g, k * 3 + 1, none⟩) hgw).trans q1w
      have q2 := (hBr.out.cell (p := ⟨g, k * 3 + 2, none⟩) hgw).trans q2w
      clear q0w q1w q2w
      obtain ⟨ab, cb, ev, hby, -⟩ := hH.bytes k hkl hkv
      have t1 : wr.cell? ⟨r, 1, none⟩ = some (.slice (some ⟨g, 0, none⟩) R.l.length cap) := by rw [cell_of_block hH.heap, ← hlv]; rfl
      have HA : Hid (atL R (k + 1) = if R.l[k].flush then atL R k else (atL R k).set R.l[k].n.toNat R.l[k].b) := by simp [Hid, atL, hkl]
      have HLA := hid (length_atL R k)
      cases hf : R.l[k].flush
      · obtain ⟨n0, n1, n5⟩ := HR.out.2.2 R.l[k] (List.getElem_mem hkl) hf
        rw [hf] at q0
        simp only [hf, Bool.false_eq_true, if_false] at HA
        rw [ev] at q2
        obtain ⟨sa2, cp2, e2, hr2⟩ := row_slice hM.out.1
        simp only [Value.slice.injEq, true_and] at e2
        obtain ⟨rfl, rfl⟩ := e2
        obtain ⟨go, rfl, hgo, hglo, hcv⟩ := hr2 R.l[k].n.toNat (by omega)
        obtain ⟨gi, ci, y1, -⟩ := hM.out.2 R.l[k].n.toNat (by rw [HLA.out]; omega) (by omega)
        obtain ⟨vo, cg⟩ : ∃ vo, wr.cell? ⟨go, R.l[k].n.toNat, none⟩ = some vo := ⟨_, (hcv R.l[k].n.toNat (by omega)).trans y1⟩
        clear y1
        have fg : wr.frozen? ⟨go, R.l[k].n.toNat, none⟩ = false := hM.out.1.frozenAt _
        have HCp := hid (fun W (hW : Below wr.heap.size wr W) => copy_any R.l[k].b ab cb W (hby.below hW) (by omega) (by omega))
        rw [n5] at q2 HCp
        generalize R.l[k].n = nn at *
        generalize R.l[k].b = bb at *
        have HSet := hid (fun w1 g cap (x1 : Below wr.heap.size wr w1) (x2 : wr.heap.size ≤ g) (x3 : g < w1.heap.size) (x4 : bytesIn w1 (some ⟨g, 0, none⟩) bb) => copiedTo_set (i := nn.toNat) (cap := cap) hM.out hBr.out.size x1 x2 x3 x4 (by omega) HLA.out)
        rw [n5] at HSet
        clear hs hby ev hlv hH hcv hr2 hM
        go_wp2
        refine wp_region_noPanic ?_
        refine wp_region_held_drew (S := fun W => W.cell? ⟨r, 1, none⟩ = some (.slice (some ⟨g, 0, none⟩) R.l.length cap) ∧ W.cell? ⟨g, k * 3 + 1, none⟩ = some (.int .i64 nn) ∧ W.cell? ⟨g, k * 3 + 2, none⟩ = some (.slice ab 512 cb)) (by kernel_rfl) ⟨t1, q1, q2⟩ (fun hHeld => ?_)
        refine wpAnyH_take (i := 0) (v := ?_) rfl (by kernel_rfl) (by kernel_rfl) (by kernel_rfl) (fun _ _ _ h => h) (Or.inl ⟨by rfl, ?_⟩) (by assumption) ?_
        rotate_left
        · (intro W hSw; (try dsimp only at hSw); obtain ⟨s1, s2, s3⟩ := hSw; go_simp; try with_reducible rfl)
        try simp only [List.getElem_toArray, List.getElem_cons_zero, Act.put, List.setIfInBounds_toArray, List.set_cons_zero, List.set_cons_succ]
        refine wpAnyH_take (i := 1) (v := ?_) rfl (by kernel_rfl) (by kernel_rfl) (by kernel_rfl) (fun _ _ _ h => h) (Or.inl ⟨by rfl, ?_⟩) (by assumption) ?_
        rotate_left
        · (intro W hSw; (try dsimp only at hSw); obtain ⟨s1, s2, s3⟩ := hSw; go_simp; try with_reducible rfl)
        try simp only [List.getElem_toArray, List.getElem_cons_succ, List.getElem_cons_zero, Act.put, List.setIfInBounds_toArray, List.set_cons_zero, List.set_cons_succ]
        refine wpAnyH_take (i := 2) (v := ?_) rfl (by kernel_rfl) (by kernel_rfl) (by kernel_rfl) (fun _ _ _ h => h) (Or.inl ⟨by rfl, ?_⟩) (by assumption) ?_
        rotate_left
        · (intro W hSw; (try dsimp only at hSw); obtain ⟨s1, s2, s3⟩ := hSw; go_simp; try with_reducible rfl)
        try simp only [List.getElem_toArray, List.getElem_cons_succ, List.getElem_cons_zero, Act.put, List.setIfInBounds_toArray, List.set_cons_zero, List.set_cons_succ]
        refine wpAnyH_take (i := 3) (v := ?_) rfl (by kernel_rfl) (by kernel_rfl) (by kernel_rfl) (fun _ _ _ h => h) (Or.inl ⟨by rfl, ?_⟩) (by assumption) ?_
        rotate_left
        · (intro W hSw; (try dsimp only at hSw); obtain ⟨s1, s2, s3⟩ := hSw; go_simp; try with_reducible rfl)
        try simp only [List.getElem_toArray, List.getElem_cons_succ, List.getElem_cons_zero, Act.put, List.setIfInBounds_toArray, List.set_cons_zero, List.set_cons_succ]
        refine wpAnyH_take (i := 4) (v := ?_) rfl (by kernel_rfl) (by kernel_rfl) (by kernel_rfl) (fun _ _ _ h => h) (Or.inl ⟨by rfl, ?_⟩) (by assumption) ?_
        rotate_left
        · (intro W hSw; (try dsimp only at hSw); obtain ⟨s1, s2, s3⟩ := hSw; go_simp; try with_reducible rfl)
        try simp only [List.getElem_toArray, List.getElem_cons_succ, List.getElem_cons_zero, Act.put, List.setIfInBounds_toArray, List.set_cons_zero, List.set_cons_succ]
        refine wpAnyH_take (i := 5) (v := ?_) rfl (by kernel_rfl) (by kernel_rfl) (by kernel_rfl) (fun _ _ _ h => h) (Or.inl ⟨by rfl, ?_⟩) (by assumption) ?_
        rotate_left
        · (intro W hSw; (try dsimp only at hSw); obtain ⟨s1, s2, s3⟩ := hSw; go_simp; try with_reducible rfl)
        try simp only [List.getElem_toArray, List.getElem_cons_succ, List.getElem_cons_zero, Act.put, List.setIfInBounds_toArray, List.set_cons_zero, List.set_cons_succ]
        refine wpAnyH_take (i := 6) (v := ?_) rfl (by kernel_rfl) (by kernel_rfl) (by kernel_rfl) (fun _ _ _ h => h) (Or.inl ⟨by rfl, ?_⟩) (by assumption) ?_
        rotate_left
        · (intro W hSw; (try dsimp only at hSw); obtain ⟨s1, s2, s3⟩ := hSw; go_simp; try with_reducible rfl)
        try simp only [List.getElem_toArray, List.getElem_cons_succ, List.getElem_cons_zero, Act.put, List.setIfInBounds_toArray, List.set_cons_zero, List.set_cons_succ]
        refine wpAnyH_take (i := 7) (v := ?_) rfl (by kernel_rfl) (by kernel_rfl) (by kernel_rfl) (fun _ _ _ h => h) (Or.inl ⟨by rfl, ?_⟩) (by assumption) ?_
        rotate_left
        · (intro W hSw; (try dsimp only at hSw); obtain ⟨s1, s2, s3⟩ := hSw; go_simp; try with_reducible rfl)
        try simp only [List.getElem_toArray, List.getElem_cons_succ, List.getElem_cons_zero, Act.put, List.setIfInBounds_toArray, List.set_cons_zero, List.set_cons_succ]
        refine wpAnyH_take (i := 8) (v := ?_) rfl (by kernel_rfl) (by kernel_rfl) (by kernel_rfl) (fun _ _ _ h => h) (Or.inl ⟨by rfl, ?_⟩) (by assumption) ?_
        rotate_left
        · (intro W hSw; (try dsimp only at hSw); obtain ⟨s1, s2, s3⟩ := hSw; go_simp; try with_reducible rfl)
        try simp only [List.getElem_toArray, List.getElem_cons_succ, List.getElem_cons_zero, Act.put, List.setIfInBounds_toArray, List.set_cons_zero, List.set_cons_succ]
        refine wpAnyH_take (i := 9) (v := ?_) rfl (by kernel_rfl) (by kernel_rfl) (by kernel_rfl) (fun _ _ _ h => h) (Or.inl ⟨by rfl, ?_⟩) (by assumption) ?_
        rotate_left
        · (intro W hSw; (try dsimp only at hSw); obtain ⟨s1, s2, s3⟩ := hSw; go_simp; try with_reducible rfl)
        try simp only [List.getElem_toArray, List.getElem_cons_succ, List.getElem_cons_zero, Act.put, List.setIfInBounds_toArray, List.set_cons_zero, List.set_cons_succ]
        refine wpAnyH_take (i := 10) (v := ?_) rfl (by kernel_rfl) (by kernel_rfl) (by kernel_rfl) (fun _ _ _ h => h) (Or.inl ⟨by rfl, ?_⟩) (by assumption) ?_
        rotate_left
        · (intro W hSw; (try dsimp only at hSw); obtain ⟨s1, s2, s3⟩ := hSw; go_simp; try with_reducible rfl)
        try simp only [List.getElem_toArray, List.getElem_cons_succ, List.getElem_cons_zero, Act.put, List.setIfInBounds_toArray, List.set_cons_zero, List.set_cons_succ]
        refine wpAnyH_take (i := 11) (v := ?_) rfl (by kernel_rfl) (by kernel_rfl) (by kernel_rfl) (fun _ _ _ h => h) (Or.inl ⟨by rfl, ?_⟩) (by assumption) ?_
        rotate_left
        · (intro W hSw; (try dsimp only at hSw); obtain ⟨s1, s2, s3⟩ := hSw; go_simp; try with_reducible rfl)
        try simp only [List.getElem_toArray, List.getElem_cons_succ, List.getElem_cons_zero, Act.put, List.setIfInBounds_toArray, List.set_cons_zero, List.set_cons_succ]
        refine wpAnyH_take (i := 12) (v := ?_) rfl (by kernel_rfl) (by kernel_rfl) (by kernel_rfl) (fun _ _ _ h => h) (Or.inl ⟨by rfl, ?_⟩) (by assumption) ?_
        rotate_left
        · (intro W hSw; (try dsimp only at hSw); obtain ⟨s1, s2, s3⟩ := hSw; go_simp; try with_reducible rfl)
        try simp only [List.getElem_toArray, List.getElem_cons_succ, List.getElem_cons_zero, Act.put, List.setIfInBounds_toArray, List.set_cons_zero, List.set_cons_succ]
        refine wpAnyH_take (i := 13) (v := ?_) rfl (by kernel_rfl) (by kernel_rfl) (by kernel_rfl) (fun _ _ _ h => h) (Or.inl ⟨by rfl, ?_⟩) (by assumption) ?_
        rotate_left
        · (intro W hSw; (try dsimp only at hSw); obtain ⟨s1, s2, s3⟩ := hSw; go_simp; try with_reducible rfl)
        try simp only [List.getElem_toArray, List.getElem_cons_succ, List.getElem_cons_zero, Act.put, List.setIfInBounds_toArray, List.set_cons_zero, List.set_cons_succ]
        refine wpAnyH_take (i := 14) (v := ?_) rfl (by kernel_rfl) (by kernel_rfl) (by kernel_rfl) (fun _ _ _ h => h) (Or.inl ⟨by rfl, ?_⟩) (by assumption) ?_
        rotate_left
        · (intro W hSw; (try dsimp only at hSw); obtain ⟨s1, s2, s3⟩ := hSw; go_simp; try with_reducible rfl)
        try simp only [List.getElem_toArray, List.getElem_cons_succ, List.getElem_cons_zero, Act.put, List.setIfInBounds_toArray, List.set_cons_zero, List.set_cons_succ]
        refine wpAnyH_take (i := 15) (v := ?_) rfl (by kernel_rfl) (by kernel_rfl) (by kernel_rfl) (fun _ _ _ h => h) (Or.inl ⟨by rfl, ?_⟩) (by assumption) ?_
        rotate_left
        · (intro W hSw; (try dsimp only at hSw); obtain ⟨s1, s2, s3⟩ := hSw; go_simp; try with_reducible rfl)
        try simp only [List.getElem_toArray, List.getElem_cons_succ, List.getElem_cons_zero, Act.put, List.setIfInBounds_toArray, List.set_cons_zero, List.set_cons_succ]
        refine wpAnyH_take (i := 16) (v := ?_) rfl (by kernel_rfl) (by kernel_rfl) (by kernel_rfl) (fun _ _ _ h => h) (Or.inl ⟨by rfl, ?_⟩) (by assumption) ?_
        rotate_left
        · (intro W hSw; (try dsimp only at hSw); obtain ⟨s1, s2, s3⟩ := hSw; go_simp; try with_reducible rfl)
        try simp only [List.getElem_toArray, List.getElem_cons_succ, List.getElem_cons_zero, Act.put, List.setIfInBounds_toArray, List.set_cons_zero, List.set_cons_succ]
        refine wpAnyH_ready (rs := [17]) (by kernel_rfl) (by simp) (AllReadyH.cons rfl (fun K hK => ?_) AllReadyH.nil)
        rw [if_pos (by rfl)]
        go_simp
        refine (HCp.out wr.drew (Below.refl _ _).drew).mono ?_
        clear HCp
        rintro e w15 ⟨g5, cap5, rfl, hb5, hg5, hg6, hb15⟩
        have hb15' := below_undrew hb15
        have v0 := (hb15'.cell (p := ⟨r, 1, none⟩) (World.block_lt_of_cell? wr _ t1)).trans t1
        have v1 := (hb15'.cell (p := ⟨g, k * 3 + 1, none⟩) (World.block_lt_of_cell? wr _ q1)).trans q1
        have v2 := (hb15'.cell (p := ⟨g, k * 3 + 2, none⟩) (World.block_lt_of_cell? wr _ q2)).trans q2
        have z0 : w15.cell? ⟨go, nn.toNat, none⟩ = some vo := (hb15'.cell (p := ⟨go, nn.toNat, none⟩) hgo).trans cg
        have z1 : w15.frozen? ⟨go, nn.toNat, none⟩ = false := ((bcell hb15').2 go nn.toNat hgo).trans fg
        have HSt := hid (HSet.out w15 g5 cap5 hb15' hg5 hg6 hb5)
        have HB15 := hid (hBr.out.trans (hb15'.mono hBr.out.size))
        have hnr : go ≠ r := by omega
        have hng : go ≠ g := by omega
        go_wp2_with fail
        refine hK.out _ _ ⟨v0, v1, v2⟩ (fun hHeld => ?_)
        clear hK K hb15 hb15' HSet hb5 t1 q1 q2
        try simp only [List.getElem_toArray, List.getElem_cons_succ, List.getElem_cons_zero, Act.put, List.setIfInBounds_toArray, List.set_cons_zero, List.set_cons_succ]
        refine wpAnyH_take (i := 18) (v := ?_) rfl (by kernel_rfl) (by kernel_rfl) (by kernel_rfl) (fun _ _ _ h => h) (Or.inl ⟨by rfl, ?_⟩) (by assumption) ?_
        rotate_left
        · (intro W hSw; (try dsimp only at hSw); obtain ⟨s1, s2, s3⟩ := hSw; go_simp; try with_reducible rfl)
        try simp only [List.getElem_toArray, List.getElem_cons_succ, List.getElem_cons_zero, Act.put, List.setIfInBounds_toArray, List.set_cons_zero, List.set_cons_succ]
        refine wpAnyH_ready (rs := [19]) (by kernel_rfl) (by simp) (AllReadyH.cons rfl (fun K hK => ?_) AllReadyH.nil)
        rw [if_pos (by rfl)]
        unfold Oper.wp
        go_simp
        refine hK.out _ _ ⟨by rw [World.cell?_setCell_far _ _ _ _ hnr]; exact v0, by rw [World.cell?_setCell_far _ _ _ _ hng]; exact v1, by rw [World.cell?_setCell_far _ _ _ _ hng]; exact v2⟩ (fun hHeld => ?_)
        clear hK K
        try simp only [List.getElem_toArray, List.getElem_cons_succ, List.getElem_cons_zero, Act.put, List.setIfInBounds_toArray, List.set_cons_zero, List.set_cons_succ]
        refine wpAnyH_done (by kernel_rfl) ?_ _
        refine NoPanic.normal ?_
        clear v0 v1 v2 z0 z1
        go_wp2
        exact ⟨⟨k + 1, _, by omega, by go_num, by rw [HA.out]; exact HSt.out, HB15.out.setCell hglo _⟩, by simp [intOf]; omega⟩
      · rw [hf] at q0
        simp only [hf, if_true] at HA
        clear hs hby ev hlv hH q2
        go_wp2
        exact ⟨⟨k + 1, vk, by omega, by go_num, by rw [HA.out]; exact hM.out, hBr.out⟩, by simp [intOf]; omega⟩
    · obtain rfl : k = n := by omega
      have hge : ¬ ((k : Int) < (k : Int)) := by omega
      go_wp2
      go_ret
      first | exact ⟨hBr.out, a', c', vk, rfl, hM.out⟩ | exact ⟨hBr.out, a', c', rfl, vk, hM.out⟩
theorem rat_any (r : Nat) (fv lv : Value) (vs : List Value) (Rd : Nat → Prop) (R : RefS) (n : Nat) (w : World) (h : RefIn w r fv lv vs Rd R) (hR : okR R) (hn : n ≤ R.l.length) (hm : R.l.length ≤ 1000000) :
    Calls Tryz.prog 57 #[.pointer (some ⟨r, 0, none⟩), .int .i64 n] w fun e w' => ∃ a' c', e = .returned (.slice a' R.first.length c') ∧ rowsFrom w' w.heap.size a' (atL R n) ∧ Below w.heap.size w w' := by
  refine (rat_own r fv lv vs Rd R n w h hR hn hm).mono ?_
  rintro e w' ⟨hB, a', c', vk, rfl, hM⟩
  rw [← length_atL R n] at hM
  obtain ⟨a2, c2, e2, hrows⟩ := copiedTo_end hM
  rw [length_atL] at e2
  simp only [Value.slice.injEq, true_and] at e2
  obtain ⟨rfl, rfl⟩ := e2
  exact ⟨a', c', rfl, hrows, hB⟩
end Go.Proofs.YtjgclmlclkfgpaaGreat
/- The reference's Image and Safe, whatever was done. -/
namespace Go.Proofs.YtjgclmlclkfgpaaGreat
open Go.RowKit
set_option maxRecDepth 100000 in
set_option maxHeartbeats 2000000 in
theorem rimage_any (r : Nat) (fv lv : Value) (vs : List Value) (Rd : Nat → Prop) (R : RefS) (w : World) (h : RefIn w r fv lv vs Rd R) (hR : okR R) (hm : R.l.length ≤ 1000000) :
    Calls Tryz.prog 22 #[.pointer (some ⟨r, 0, none⟩)] w fun e w' => ∃ a' c', e = .returned (.slice a' R.first.length c') ∧ rowsFrom w' w.heap.size a' (atL R R.l.length) ∧ Below w.heap.size w w' := by
  obtain ⟨sa, cap, hlv, _⟩ := h.slice
  have c1 : w.cell? ⟨r, 1, none⟩ = some (.slice sa R.l.length cap) := by rw [cell_of_block h.heap, ← hlv]; rfl
  have HC := hid (rat_any r fv lv vs Rd R R.l.length w h hR (Nat.le_refl _) hm)
  clear h hlv
  go_enter Tryz.func22, Tryz.ntmps22
  go_wp2_with fail
  refine HC.out.mono ?_
  clear HC
  rintro e w1 ⟨a', c', rfl, hrows, hB⟩
  have HR := hid hrows
  have HB := hid hB
  clear hrows hB
  go_wp2
  go_ret
  first | exact ⟨a', c', rfl, HR.out, HB.out⟩ | exact ⟨a', ⟨c', rfl⟩, HR.out, HB.out⟩
end Go.Proofs.YtjgclmlclkfgpaaGreat
/- The reference's waits. -/
namespace Go.Proofs.YtjgclmlclkfgpaaGreat
open Go.RowKit
/-- How many of the ops from f to k are of sector n. -/
def waitsIn (l : List ROp) (n : Int) (f : Nat) : Nat → Nat
  | 0 => 0
  | k + 1 => if h : k < l.length then (if f ≤ k ∧ l[k].n = n then waitsIn l n f k + 1 else waitsIn l n f k) else waitsIn l n f k
theorem waitsIn_le (l : List ROp) (n : Int) (f : Nat) : ∀ k, waitsIn l n f k ≤ k
  | 0 => Nat.le_refl _
  | k + 1 => by
    have := waitsIn_le l n f k
    unfold waitsIn
    split
    · split <;> omega
    · omega
theorem waitsIn_low (l : List ROp) (n : Int) (f : Nat) : ∀ k, k ≤ f → waitsIn l n f k = 0
  | 0, _ => rfl
  | k + 1, h => by
    have := waitsIn_low l n f k (by omega)
    unfold waitsIn
    split
    · rw [if_neg (by omega)]; exact this
    · exact this
end Go.Proofs.YtjgclmlclkfgpaaGreat
/- The reference's Waiting. -/
namespace Go.Proofs.YtjgclmlclkfgpaaGreat
open Go.RowKit
/-- The first k sectors' that wait. -/
def rKeys (f : Nat → Nat) (k : Nat) : List Int := ((List.range k).filter (fun n : Nat => decide (0 < f n))).map (fun n : Nat => (n : Int))
def rCounts (f : Nat → Nat) (k : Nat) : List Int := ((List.range k).filter (fun n : Nat => decide (0 < f n))).map (fun n : Nat => (f n : Int))
theorem rKeys_step (f : Nat → Nat) (k : Nat) : rKeys f (k + 1) = if 0 < f k then rKeys f k ++ [(k : Int)] else rKeys f k := by
  unfold rKeys
  rw [List.range_succ, List.filter_append]
  by_cases h : 0 < f k <;> simp [h]
theorem rCounts_step (f : Nat → Nat) (k : Nat) : rCounts f (k + 1) = if 0 < f k then rCounts f k ++ [(f k : Int)] else rCounts f k := by
  unfold rCounts
  rw [List.range_succ, List.filter_append]
  by_cases h : 0 < f k <;> simp [h]
theorem length_rKeys (f : Nat → Nat) (k : Nat) : (rKeys f k).length ≤ k := by
  unfold rKeys
  rw [List.length_map]
  exact Nat.le_trans (List.length_filter_le _ _) (by simp)
theorem length_rCounts (f : Nat → Nat) (k : Nat) : (rCounts f k).length = (rKeys f k).length := by simp [rKeys, rCounts]
/-- How many writes of sector n wait. -/
def rWait (R : RefS) (n : Nat) : Nat := waitsIn R.l (n : Int) (flushedTo R.l R.l.length) R.l.length
end Go.Proofs.YtjgclmlclkfgpaaGreat
/- A disk and the reference beside one another; deeds done on both. -/
namespace Go.Proofs.YtjgclmlclkfgpaaGreat
open Go.RowKit
/-- A disk and the reference that lie apart, made since w0. -/
structure Pair (w0 w : World) (d : DL) (S : DiskS) (r : Nat) (fv lv : Value) (vs : List Value) (Rd : Nat → Prop) (R : RefS) : Prop where
  below : Below w0.heap.size w0 w
  D : DiskIn w d S
  Rf : RefIn w r fv lv vs Rd R
  fd : ∀ i, d.foot S.waits i → w0.heap.size ≤ i ∧ ¬ Rd i ∧ i ≠ r
  fr : w0.heap.size ≤ r
  fvr : d.fv.ownBlock ≠ some r
  rdlt : ∀ i, Rd i → i < w.heap.size
variable {w0 wa wb : World} {d d' : DL} {S S' : DiskS} {r : Nat} {fv lv lv' : Value} {vs vs' : List Value} {Rd : Nat → Prop} {R R' : RefS}
theorem Pair.grow (h : Pair w0 wa d S r fv lv vs Rd R) (hb : Below wa.heap.size wa wb) : Pair w0 wb d S r fv lv vs Rd R :=
  ⟨h.below.trans (hb.mono h.below.size), h.D.below hb, h.Rf.below hb, h.fd, h.fr, h.fvr, fun i hi => Nat.lt_of_lt_of_le (h.rdlt i hi) hb.size⟩
theorem Pair.disk (h : Pair w0 wa d S r fv lv vs Rd R) (hD : DiskIn wb d' S') (e2 : d'.fv = d.fv) (hf : ∀ i, d'.foot S'.waits i → d.foot S.waits i ∨ wa.heap.size ≤ i) (hK : Keeps (d.foot S.waits) wa wb) : Pair w0 wb d' S' r fv lv vs Rd R := by
  have hr := lt_of_heap h.Rf.heap
  have hsz := h.below.size
  refine ⟨h.below.trans (hK.below hsz (fun i hi => (h.fd i hi).1)), hD, h.Rf.keep hK (fun i hi hn => (h.fd i hn).2.1 hi) (fun hn => (h.fd r hn).2.2 rfl), fun i hi => ?_, h.fr, by rw [e2]; exact h.fvr, fun i hi => Nat.lt_of_lt_of_le (h.rdlt i hi) hK.size⟩
  rcases hf i hi with e | e
  · exact h.fd i e
  · exact ⟨by omega, fun hn => by have := h.rdlt i hn; omega, by omega⟩
theorem Pair.ref (h : Pair w0 wa d S r fv lv vs Rd R) (hR : RefIn wb r fv lv' vs' (moreOf Rd wa wb) R') (hK : Keeps (fun i => i = r) wa wb) : Pair w0 wb d S r fv lv' vs' (moreOf Rd wa wb) R' := by
  refine ⟨h.below.trans (hK.below h.below.size (fun i e => by rw [e]; exact h.fr)), h.D.keep hK (fun i hi e => (h.fd i hi).2.2 e) (fun i hi e => h.fvr (by rw [← e]; exact hi)), hR, fun i hi => ?_, h.fr, h.fvr, fun i hi => ?_⟩
  · obtain ⟨a1, a2, a3⟩ := h.fd i hi
    refine ⟨a1, fun hn => ?_, a3⟩
    rcases hn with hn | hn
    · exact a2 hn
    · have := h.D.foot_lt hi; omega
  · rcases hi with hi | hi
    · exact Nat.lt_of_lt_of_le (h.rdlt i hi) hK.size
    · exact hi.2
theorem Pair.other (h : Pair w0 wa d S r fv lv vs Rd R) {g : Nat} (hK : Keeps (fun i => i = g) wa wb) (g0 : w0.heap.size ≤ g) (g1 : ¬ d.foot S.waits g) (g2 : d.fv.ownBlock ≠ some g) (g3 : ¬ Rd g) (g4 : g ≠ r) : Pair w0 wb d S r fv lv vs Rd R :=
  ⟨h.below.trans (hK.below h.below.size (fun i e => by rw [e]; exact g0)), h.D.keep hK (fun i hi e => g1 (by rw [← e]; exact hi)) (fun i hi e => g2 (by rw [← e]; exact hi)), h.Rf.keep hK (fun i hi e => g3 (by rw [← e]; exact hi)) (fun e => g4 e.symm), h.fd, h.fr, h.fvr, fun i hi => Nat.lt_of_lt_of_le (h.rdlt i hi) hK.size⟩
/-- A block of bytes is none that a disk writes. -/
theorem DiskIn.foot_u8 {w : World} (h : DiskIn w d S) {i : Nat} {cs : Array Value} {fr : Nat × Nat} (hi : w.heap[i]? = some (.cells cs 5 fr)) : ¬ d.foot S.waits i := by
  rintro (e | e | e)
  · rw [e, h.heap] at hi
    simp only [Option.some.injEq, Obj.cells.injEq] at hi
    exact absurd hi.2.1 (by decide)
  · obtain ⟨cur, hc⟩ := row_type h.ops e
    rw [hc] at hi
    simp only [Option.some.injEq, Obj.cells.injEq] at hi
    exact absurd hi.2.1 (by decide)
  · exact h.plates.foot_other hi (by decide) e
/-- A deed. -/
structure DeedS where
  f : Bool
  n : Int
  l : Int
  x : Int
def DeedS.bytes (D : DeedS) : List UInt8 := fullS (deedLen D.l) D.x
def stepS (S : DiskS) (D : DeedS) : DiskS := if D.f then S.flushed else S.put D.n D.bytes
def stepR (R : RefS) (D : DeedS) : RefS := if D.f then R.did ⟨true, 0, []⟩ else R.put D.n D.bytes
/-- Both behind the first k deeds. -/
def playS (n : Nat) (ds : List DeedS) (k : Nat) : DiskS := (ds.take k).foldl stepS (freshS (List.replicate n blankS))
def playR (n : Nat) (ds : List DeedS) (k : Nat) : RefS := (ds.take k).foldl stepR (rfresh n)
theorem playS_step (n : Nat) (ds : List DeedS) (k : Nat) (h : k < ds.length) : playS n ds (k + 1) = stepS (playS n ds k) ds[k] := by
  unfold playS; rw [List.take_succ_eq_append_getElem h, List.foldl_append]; rfl
theorem playR_step (n : Nat) (ds : List DeedS) (k : Nat) (h : k < ds.length) : playR n ds (k + 1) = stepR (playR n ds k) ds[k] := by
  unfold playR; rw [List.take_succ_eq_append_getElem h, List.foldl_append]; rfl
theorem stepS_length (S : DiskS) (D : DeedS) : (stepS S D).safe.length = S.safe.length := by
  unfold stepS; split
  · simp [DiskS.flushed, length_imgS]
  · rw [put_safe]
theorem stepS_ops (S : DiskS) (D : DeedS) : (stepS S D).ops.length ≤ S.ops.length + 1 := by
  unfold stepS; split
  · simp [DiskS.flushed]
  · exact put_ops _ _ _
theorem rput_first (R : RefS) (n : Int) (l : List UInt8) : (R.put n l).first = R.first := by unfold RefS.put; split <;> rfl
theorem stepR_first (R : RefS) (D : DeedS) : (stepR R D).first = R.first := by
  unfold stepR; split
  · rfl
  · exact rput_first _ _ _
theorem stepR_ops (R : RefS) (D : DeedS) : (stepR R D).l.length ≤ R.l.length + 1 := by
  unfold stepR; split
  · simp [RefS.did]
  · unfold RefS.put; split <;> simp [RefS.did]
theorem play_sizes (n : Nat) (ds : List DeedS) : ∀ k, k ≤ ds.length → (playS n ds k).safe.length = n ∧ (playR n ds k).first.length = n ∧ (playS n ds k).ops.length ≤ k ∧ (playR n ds k).l.length ≤ k
  | 0, _ => ⟨by simp [playS, freshS], by simp [playR, rfresh_length], by simp [playS, freshS], by simp [playR, rfresh]⟩
  | k + 1, h => by
    obtain ⟨h1, h2, h3, h4⟩ := play_sizes n ds k (by omega)
    rw [playS_step n ds k (by omega), playR_step n ds k (by omega), stepS_length, stepR_first]
    have a := stepS_ops (playS n ds k) ds[k]
    have b := stepR_ops (playR n ds k) ds[k]
    exact ⟨h1, h2, by omega, by omega⟩
theorem err_same {S : DiskS} {R : RefS} (h : S.safe.length = R.first.length) (n : Int) (l : List UInt8) : errW S n l = errR R n l := by
  unfold errW errR; rw [h]
/-- Deeds lie where the slice points. -/
def deedsAt (w : World) (a : Option Addr) (ds : List DeedS) : Prop := ∀ j, j < ds.length → ∃ b o, a = some ⟨b, o, none⟩ ∧ ∀ i (hi : i < ds.length),
  w.cell? ⟨b, o + i * 4, none⟩ = some (.bool (ds[i]).f) ∧ w.cell? ⟨b, o + i * 4 + 1, none⟩ = some (.int .i64 (ds[i]).n) ∧ w.cell? ⟨b, o + i * 4 + 2, none⟩ = some (.int .i64 (ds[i]).l) ∧ w.cell? ⟨b, o + i * 4 + 3, none⟩ = some (.int .u8 (ds[i]).x) ∧ 0 ≤ (ds[i]).x ∧ (ds[i]).x ≤ 255
end Go.Proofs.YtjgclmlclkfgpaaGreat
/- play: deeds done on the disk and on the reference; both answer alike. -/
namespace Go.Proofs.YtjgclmlclkfgpaaGreat
open Go.RowKit
end Go.Proofs.YtjgclmlclkfgpaaGreat
/- A crash that keeps more of one sector: plain facts. -/
namespace Go.Proofs.YtjgclmlclkfgpaaGreat
open Go.RowKit
theorem crashL_zeros (waits : Int → List ByteArray) (left : List ByteArray) : ∀ (ks : List Int) (n : Nat), crashL waits left (ks.zip (List.replicate n 0)) = left
  | [], n => by simp [crashL]
  | k :: ks, 0 => by simp [crashL]
  | k :: ks, n + 1 => by
    have := crashL_zeros waits left ks n
    simpa [crashL, List.replicate_succ] using this
/-- Only the one sector changes. -/
theorem crashL_at (waits : Int → List ByteArray) : ∀ (ks keep : List Int) (left : List ByteArray) (n : Nat), (∀ j (h : j < (ks.zip keep).length), (ks.zip keep)[j].1.toNat = n → (ks.zip keep)[j].2 ≤ 0) → (crashL waits left (ks.zip keep))[n]? = left[n]?
  | [], _, left, n, _ => by simp [crashL]
  | k :: ks, [], left, n, _ => by simp [crashL]
  | k :: ks, x :: xs, left, n, h => by
    have ih := crashL_at waits ks xs (if 0 < x then left.set k.toNat ((waits k).getD (x.toNat - 1) ⟨#[]⟩) else left) n (fun j hj => by
      have := h (j + 1) (by simpa using hj)
      simpa using this)
    have e : crashL waits left ((k :: ks).zip (x :: xs)) = crashL waits (if 0 < x then left.set k.toNat ((waits k).getD (x.toNat - 1) ⟨#[]⟩) else left) (ks.zip xs) := rfl
    rw [e, ih]
    have h0 := h 0 (by simp)
    simp only [List.zip_cons_cons, List.getElem_cons_zero] at h0
    by_cases hx : 0 < x
    · rw [if_pos hx]
      have hne : k.toNat ≠ n := fun e => by have := h0 e; omega
      rw [List.getElem?_set_ne hne]
    · rw [if_neg hx]
theorem good_zeros (waits : Int → List ByteArray) (N : Nat) : goodKeep waits N (List.replicate (waitKeys waits N).length 0) := by
  rw [goodKeep_iff]
  refine ⟨by simp, fun j hj hj' => ?_⟩
  simp
theorem good_one (waits : Int → List ByteArray) (N at' : Nat) (x : Int) (h : at' < (waitKeys waits N).length) (h0 : 0 ≤ x) (h1 : x ≤ (waits (waitKeys waits N)[at']).length) : goodKeep waits N ((List.replicate (waitKeys waits N).length 0).set at' x) := by
  rw [goodKeep_iff]
  refine ⟨by simp, fun j hj hj' => ?_⟩
  rw [List.getElem_set]
  split
  · rename_i e; subst e; exact ⟨h0, h1⟩
  · simp
/-- All sectors but the one are as they were. -/
theorem crash_alone (waits : Int → List ByteArray) (safe : List ByteArray) (N at' : Nat) (x : Int) (h : at' < (waitKeys waits N).length) (n : Nat) (hn : (n : Int) ≠ (waitKeys waits N)[at']) :
    (crashL waits safe ((waitKeys waits N).zip ((List.replicate (waitKeys waits N).length 0).set at' x)))[n]? = safe[n]? := by
  refine crashL_at waits _ _ safe n (fun j hj e => ?_)
  rw [List.getElem_zip] at e ⊢
  have hjl : j < (waitKeys waits N).length := by simp at hj; omega
  have hm := (mem_waitKeys.1 (List.getElem_mem hjl)).1
  simp only at e ⊢
  rw [List.getElem_set]
  split
  · rename_i e2; subst e2; exact absurd (by omega) hn
  · simp
/-- All sectors have 512 bytes. -/
def okS (S : DiskS) : Prop := (∀ s ∈ S.safe, s.size = 512) ∧ ∀ n, ∀ s ∈ S.waits n, s.size = 512
theorem blank_size : blankS.size = 512 := by
  show (Lib.repeatL [0] 512).toArray.size = 512
  decide +kernel
theorem ok_seen {S : DiskS} (h : okS S) (k : Nat) (hk : k < S.safe.length) : (seenS S.safe S.waits (k : Int)).size = 512 := by
  unfold seenS
  split
  · rw [Int.toNat_natCast, List.getD_eq_getElem?_getD, List.getElem?_eq_getElem hk]
    exact h.1 _ (List.getElem_mem hk)
  · rename_i hne
    refine h.2 (k : Int) _ ?_
    rw [List.getLastD_eq_getLast?, List.getLast?_eq_some_getLast hne]
    exact List.getLast_mem hne
theorem ok_step {S : DiskS} (h : okS S) (D : DeedS) : okS (stepS S D) := by
  unfold stepS
  split
  · refine ⟨fun s hs => ?_, fun n s hs => by simp [DiskS.flushed] at hs⟩
    obtain ⟨k, hk, rfl⟩ := List.mem_map.1 hs
    exact ok_seen h k (List.mem_range.1 hk)
  · unfold DiskS.put
    split
    · rename_i e
      refine ⟨h.1, fun n s hs => ?_⟩
      have hl : D.bytes.length = 512 := by
        unfold errW at e
        split at e
        · cases e
        · split at e
          · cases e
          · rename_i h2; exact Decidable.of_not_not h2
      simp only [DiskS.wrote] at hs
      by_cases hn : n = D.n
      · subst hn
        rw [upd_same, List.mem_append] at hs
        rcases hs with hs | hs
        · exact h.2 _ _ hs
        · rw [List.mem_singleton.1 hs]; show D.bytes.toArray.size = 512; simpa using hl
      · rw [upd_other _ _ hn] at hs; exact h.2 n s hs
    · exact h
theorem ok_play (n : Nat) (ds : List DeedS) : ∀ k, k ≤ ds.length → okS (playS n ds k)
  | 0, _ => ⟨fun s hs => by
      have : s ∈ List.replicate n blankS := by simpa [playS, freshS] using hs
      rw [List.eq_of_mem_replicate this]; exact blank_size, fun m s hs => by simp [playS, freshS] at hs⟩
  | k + 1, h => by rw [playS_step n ds k (by omega)]; exact ok_step (ok_play n ds k (by omega)) _
theorem imgS_fresh (xs : List ByteArray) : imgS (freshS xs) = xs := by
  apply List.ext_getElem (by simp [imgS, freshS])
  intro n h1 h2
  simp [imgS, freshS, seenS, h2]
theorem infoIntZ (n : Nat) : madeCells (Value.int .i64 0).cells (n * 1) = (List.replicate n (Value.int .i64 0)).toArray := by
  apply Array.ext
  · simp [madeCells]
  · intro i h1 h2
    simp [madeCells, Value.cells, Nat.mod_one]
theorem wpList_make_ints {w : World} {ops : Array Oper} {rest : List Oper} {o : Oper} {a : Act} {Q : Exit → Act → World → Prop} (hg : o.guard = none) (l c : Operand) (hop : o.op = Op.makeSlice 32 l c)
    (n : Nat) (hl : a.eval l = .int .i64 n) (hc : a.eval c = .int .i64 n) (hm : n ≤ 4096)
    (h : ∀ w1 : World, Below w.heap.size w w1 → w1.heap[w.heap.size]? = some (.cells (List.replicate n (Value.int .i64 0)).toArray 3 (0, 0)) → w1.heap.size = w.heap.size + 1 →
      wpList Tryz.prog ops Q rest (a.put o.dst (.slice (some ⟨w.heap.size, 0, none⟩) n n)) w1) : wpList Tryz.prog ops Q (o :: rest) a w := by
  obtain ⟨i, hi, hz, hs, hb⟩ := info_parts infoInt
  refine wpList_plain hg fun K hK' => ?_
  have hrun := run_make (P := Tryz.prog) w 32 3 i (.int .i64 0) Tryz.underlying32 hi hz .i64 .i64 n n (by omega) (by omega) (by rw [hb]; omega) (by omega)
  unfold Oper.wp
  simp only [Int.toNat_natCast, hs, infoIntZ] at hrun
  generalize (List.replicate n (Value.int .i64 0)).toArray = Z at *
  simp [execOp, hop, hl, hc, hrun, Result.andThen]
  exact hK' _ _ (h _ ((Below.refl _ _).alloc (Nat.le_refl _) _) (block_new _ _) (by simp))
/-- Numbers that fill a block. -/
theorem ints_of_block {w : World} {b : Nat} {xs : List Int} {t : TypeId} {fr : Nat × Nat} (h : w.heap[b]? = some (.cells (xs.map encZ).toArray t fr)) : intsAt w (some ⟨b, 0, none⟩) xs := fun j hj => ⟨b, 0, rfl, fun i hi => by
  rw [Nat.zero_add, cell_of_block h]; simp [hi]⟩
end Go.Proofs.YtjgclmlclkfgpaaGreat
/- What DiskCrashes needs: a crash that keeps all, and one that keeps some. Plain facts. -/
namespace Go.Proofs.YtjgclmlclkfgpaaGreat
open Go.RowKit
/-- A crash that keeps all writes of the sectors named, each of them but once. -/
theorem crashL_all (waits : Int → List ByteArray) : ∀ (ks : List Int) (left : List ByteArray) (n : Nat), (∀ k ∈ ks, 0 ≤ k ∧ waits k ≠ []) → ks.Pairwise (fun a b => a < b) → n < left.length →
    (crashL waits left (ks.zip (ks.map (fun k => ((waits k).length : Int)))))[n]? = if (n : Int) ∈ ks then some ((waits n).getLastD ⟨#[]⟩) else left[n]?
  | [], left, n, _, _, _ => by simp [crashL]
  | k :: ks, left, n, h, hp, hn => by
    obtain ⟨hk0, hk1⟩ := h k (by simp)
    have hl : 0 < (waits k).length := List.length_pos_iff.2 hk1
    have ih := crashL_all waits ks (left.set k.toNat ((waits k).getD ((waits k).length - 1) ⟨#[]⟩)) n (fun x hx => h x (by simp [hx])) (List.pairwise_cons.1 hp).2 (by simpa using hn)
    have e : crashL waits left ((k :: ks).zip ((k :: ks).map (fun k => ((waits k).length : Int)))) = crashL waits (left.set k.toNat ((waits k).getD ((waits k).length - 1) ⟨#[]⟩)) (ks.zip (ks.map (fun k => ((waits k).length : Int)))) := by
      simp [crashL, hl]
    rw [e, ih]
    by_cases hm : (n : Int) ∈ ks
    · rw [if_pos hm, if_pos (by simp [hm])]
    · rw [if_neg hm]
      by_cases he : (n : Int) = k
      · rw [if_pos (by simp [he])]
        subst he
        have hnn : ((n : Int)).toNat = n := by omega
        rw [hnn, List.getElem?_set_self hn, List.getLastD_eq_getLast?, List.getLast?_eq_getElem?, List.getD_eq_getElem?_getD]
      · rw [if_neg (by simp [he, hm]), List.getElem?_set_ne (by omega)]
/-- All kept: what was read. -/
theorem crash_all (S : DiskS) : crashL S.waits S.safe ((waitKeys S.waits S.safe.length).zip (waitCounts S.waits S.safe.length)) = imgS S := by
  apply List.ext_getElem?
  intro n
  by_cases hn : n < S.safe.length
  · unfold waitCounts
    rw [crashL_all S.waits _ S.safe n (fun k hk => ⟨(mem_waitKeys.1 hk).1, (mem_waitKeys.1 hk).2.2⟩) (sorted_waitKeys _ _) hn]
    have hi : n < (imgS S).length := by rw [length_imgS]; exact hn
    rw [List.getElem?_eq_getElem hi, imgS_at S n hi]
    by_cases hm : (n : Int) ∈ waitKeys S.waits S.safe.length
    · have hne := (mem_waitKeys.1 hm).2.2
      rw [if_pos hm]
      simp [seenS, hne]
      
    · have hne : S.waits n = [] := by
        refine Classical.byContradiction fun hne => hm (mem_waitKeys.2 ⟨by omega, by omega, hne⟩)
      rw [if_neg hm]
      simp [seenS, hne, hn]
  · rw [List.getElem?_eq_none (by rw [length_crashL]; omega), List.getElem?_eq_none (by rw [length_imgS]; omega)]
/-- A sector that does not wait, or of which none is kept. -/
theorem crash_some (waits : Int → List ByteArray) (safe : List ByteArray) (N : Nat) (keep : List Int) (n : Nat) (h : ∀ j (hj : j < (waitKeys waits N).length) (hj' : j < keep.length), (waitKeys waits N)[j] = (n : Int) → keep[j] = 0) :
    (crashL waits safe ((waitKeys waits N).zip keep))[n]? = safe[n]? := by
  refine crashL_at waits _ _ safe n (fun j hj e => ?_)
  rw [List.getElem_zip] at e ⊢
  simp only [List.length_zip] at hj
  have hm := (mem_waitKeys.1 (List.getElem_mem (show j < (waitKeys waits N).length by omega))).1
  simp only at e ⊢
  rw [h j (by omega) (by omega) (by omega)]
  exact Int.le_refl _
theorem good_counts (waits : Int → List ByteArray) (N : Nat) : goodKeep waits N (waitCounts waits N) := by
  rw [goodKeep_iff]
  refine ⟨by simp [waitCounts], fun j hj hj' => ?_⟩
  simp [waitCounts]
theorem good_nil (waits : Int → List ByteArray) (N : Nat) : goodKeep waits N [] := by
  rw [goodKeep_iff]
  exact ⟨by simp, fun j hj => by simp at hj⟩
/-- What DiskCrashes keeps of the sector at j. -/
def keepAt (choice : List UInt8) (cs : List Int) (j : Nat) : Int := if h : j < choice.length then (choice[j].toNat : Int) % (cs.getD j 0 + 1) else 0
def keepL (choice : List UInt8) (cs : List Int) : List Int := (List.range cs.length).map (keepAt choice cs)
theorem length_keepL (choice : List UInt8) (cs : List Int) : (keepL choice cs).length = cs.length := by simp [keepL]
theorem keepL_at (choice : List UInt8) (cs : List Int) (j : Nat) (h : j < (keepL choice cs).length) : (keepL choice cs)[j] = keepAt choice cs j := by simp [keepL]
theorem keepL_step (choice : List UInt8) (cs : List Int) (k : Nat) (hk : k < cs.length) : ((keepL choice cs).take k).map encZ ++ [.int .i64 (keepAt choice cs k)] = ((keepL choice cs).take (k + 1)).map encZ := by
  have hk' : k < (keepL choice cs).length := by rw [length_keepL]; exact hk
  rw [List.take_succ_eq_append_getElem hk', keepL_at]
  simp
theorem good_keepL (choice : List UInt8) (waits : Int → List ByteArray) (N : Nat) : goodKeep waits N (keepL choice (waitCounts waits N)) := by
  rw [goodKeep_iff]
  have hl : (waitCounts waits N).length = (waitKeys waits N).length := by simp [waitCounts]
  refine ⟨by rw [length_keepL, hl]; exact Nat.le_refl _, fun j hj hj' => ?_⟩
  rw [keepL_at]
  unfold keepAt
  split
  · have e : (waitCounts waits N).getD j 0 = ((waits (waitKeys waits N)[j]).length : Int) := by
      simp [waitCounts, hj']
    rw [e]
    have h0 := Int.emod_nonneg (choice[j].toNat : Int) (show ((waits (waitKeys waits N)[j]).length : Int) + 1 ≠ 0 by omega)
    have h1 := Int.emod_lt_of_pos (choice[j].toNat : Int) (show (0 : Int) < ((waits (waitKeys waits N)[j]).length : Int) + 1 by omega)
    exact ⟨h0, by omega⟩
  · exact ⟨Int.le_refl _, by omega⟩
theorem imgS_flushed (S : DiskS) : imgS S.flushed = imgS S := by
  apply List.ext_getElem (by simp [length_imgS, DiskS.flushed])
  intro n h1 h2
  rw [imgS_at]
  simp [seenS, DiskS.flushed, h2]
theorem keys_none (N : Nat) : waitKeys (fun _ => []) N = [] := by simp [waitKeys]
/-- Where the next sector that waits is. -/
theorem at_hit {ks : List Int} (hs : ks.Pairwise (fun a b => a < b)) {t : Nat} {j : Int} (hi : ∀ m (hm : m < ks.length), m < t ↔ ks[m] < j) (ht : t < ks.length) (he : ks[t] = j) :
    (∀ m (hm : m < ks.length), m < t + 1 ↔ ks[m] < j + 1) ∧ ∀ m (hm : m < ks.length), ks[m] = j → m = t := by
  have lt := List.pairwise_iff_getElem.1 hs
  constructor
  · intro m hm
    have h1 := hi m hm
    rcases Nat.lt_trichotomy m t with h | h | h
    · have := h1.1 h; constructor <;> intro _ <;> omega
    · subst h; constructor <;> intro _ <;> omega
    · have := lt t m ht hm h; constructor <;> intro _ <;> omega
  · intro m hm e
    have h1 := hi m hm
    rcases Nat.lt_trichotomy m t with h | h | h
    · have := h1.1 h; omega
    · exact h
    · have := lt t m ht hm h; omega
theorem at_miss {ks : List Int} (hs : ks.Pairwise (fun a b => a < b)) {t : Nat} {j : Int} (hi : ∀ m (hm : m < ks.length), m < t ↔ ks[m] < j) (hn : ∀ ht : t < ks.length, ks[t] ≠ j) :
    (∀ m (hm : m < ks.length), m < t ↔ ks[m] < j + 1) ∧ ∀ m (hm : m < ks.length), ks[m] ≠ j := by
  have lt := List.pairwise_iff_getElem.1 hs
  have ne : ∀ m (hm : m < ks.length), ks[m] ≠ j := fun m hm e => by
    have h1 := hi m hm
    rcases Nat.lt_trichotomy m t with h | h | h
    · have := h1.1 h; omega
    · subst h; exact hn hm e
    · have h2 := lt t m (by omega) hm h
      have := (hi t (by omega)).2 (by omega)
      omega
  refine ⟨fun m hm => ?_, ne⟩
  have h1 := hi m hm
  have h2 := ne m hm
  constructor
  · intro h; have := h1.1 h; omega
  · intro h; exact h1.2 (by omega)
end Go.Proofs.YtjgclmlclkfgpaaGreat
/- The disk and the reference tell the same, whatever was done on both: plain facts. -/
namespace Go.Proofs.YtjgclmlclkfgpaaGreat
open Go.RowKit
theorem atL_succ (R : RefS) (k : Nat) : atL R (k + 1) = match R.l[k]? with | some o => if o.flush then atL R k else (atL R k).set o.n.toNat o.b | none => atL R k := by
  rw [atL]
  split
  · rename_i h; rw [List.getElem?_eq_getElem h]
  · rename_i h; rw [List.getElem?_eq_none (by omega)]
theorem flushedTo_succ (l : List ROp) (k : Nat) : flushedTo l (k + 1) = match l[k]? with | some o => if o.flush then k + 1 else flushedTo l k | none => flushedTo l k := by
  rw [flushedTo]
  split
  · rename_i h; rw [List.getElem?_eq_getElem h]
  · rename_i h; rw [List.getElem?_eq_none (by omega)]
/-- Those of the ops from f to k that are of sector n: their bytes. -/
def waitsL (l : List ROp) (n : Int) (f : Nat) : Nat → List (List UInt8)
  | 0 => []
  | k + 1 => match l[k]? with | some o => if f ≤ k ∧ o.n = n then waitsL l n f k ++ [o.b] else waitsL l n f k | none => waitsL l n f k
theorem length_waitsL (l : List ROp) (n : Int) (f : Nat) : ∀ k, (waitsL l n f k).length = waitsIn l n f k
  | 0 => rfl
  | k + 1 => by
    have ih := length_waitsL l n f k
    rw [waitsL, waitsIn]
    by_cases h : k < l.length
    · rw [List.getElem?_eq_getElem h, dif_pos h]
      by_cases h2 : f ≤ k ∧ l[k].n = n
      · simp only [if_pos h2, List.length_append, List.length_cons, List.length_nil, ih]
      · simp only [if_neg h2, ih]
    · rw [List.getElem?_eq_none (by omega), dif_neg h]; exact ih
theorem waitsL_low (l : List ROp) (n : Int) (f : Nat) : ∀ k, k ≤ f → waitsL l n f k = []
  | 0, _ => rfl
  | k + 1, h => by
    have ih := waitsL_low l n f k (by omega)
    rw [waitsL]
    split
    · rw [if_neg (by omega)]; exact ih
    · exact ih
/-- Only the ops ahead count. -/
theorem atL_congr (R R' : RefS) (hf : R.first = R'.first) : ∀ k, (∀ i, i < k → R.l[i]? = R'.l[i]?) → atL R k = atL R' k
  | 0, _ => hf
  | k + 1, h => by rw [atL_succ, atL_succ, h k (by omega), atL_congr R R' hf k (fun i hi => h i (by omega))]
theorem flushedTo_congr (l l' : List ROp) : ∀ k, (∀ i, i < k → l[i]? = l'[i]?) → flushedTo l k = flushedTo l' k
  | 0, _ => rfl
  | k + 1, h => by rw [flushedTo_succ, flushedTo_succ, h k (by omega), flushedTo_congr l l' k (fun i hi => h i (by omega))]
theorem waitsL_congr (l l' : List ROp) (n : Int) (f : Nat) : ∀ k, (∀ i, i < k → l[i]? = l'[i]?) → waitsL l n f k = waitsL l' n f k
  | 0, _ => rfl
  | k + 1, h => by rw [waitsL, waitsL, h k (by omega), waitsL_congr l l' n f k (fun i hi => h i (by omega))]
theorem snoc_low (l : List ROp) (o : ROp) (i : Nat) (h : i < l.length) : (l ++ [o])[i]? = l[i]? := List.getElem?_append_left h
/-- The disk and the reference tell the same. -/
structure Alike (S : DiskS) (R : RefS) : Prop where
  len : S.safe.length = R.first.length
  ok : okR R
  img : bytesOf (imgS S) = atL R R.l.length
  safe : bytesOf S.safe = atL R (flushedTo R.l R.l.length)
  waits : ∀ n : Int, bytesOf (S.waits n) = waitsL R.l n (flushedTo R.l R.l.length) R.l.length
  ops : S.ops.length = R.l.length
theorem bytesOf_set (L : List ByteArray) (i : Nat) (s : ByteArray) : bytesOf (L.set i s) = (bytesOf L).set i s.data.toList := by simp [bytesOf, List.map_set]
theorem imgS_wrote (S : DiskS) (n : Int) (s : ByteArray) (h0 : 0 ≤ n) : imgS (S.wrote n s) = (imgS S).set n.toNat s := by
  apply List.ext_getElem (by simp [length_imgS, DiskS.wrote])
  intro k h1 h2
  have h3 : k < (imgS S).length := by simpa using h2
  rw [imgS_at, List.getElem_set]
  by_cases e : n.toNat = k
  · have e2 : (k : Int) = n := by omega
    rw [if_pos e, e2]
    simp [seenS, DiskS.wrote, upd_same]
  · have e2 : (k : Int) ≠ n := by omega
    rw [if_neg e, imgS_at S k h3]
    simp [seenS, DiskS.wrote, upd_other _ _ e2]
theorem Alike.write {S : DiskS} {R : RefS} (h : Alike S R) {n : Int} {b : List UInt8} (h0 : 0 ≤ n) (h1 : n < R.first.length) (hb : b.length = 512) : Alike (S.wrote n ⟨b.toArray⟩) (R.did ⟨false, n, b⟩) := by
  have hlen : (R.did ⟨false, n, b⟩).l.length = R.l.length + 1 := by simp [RefS.did]
  have hat : (R.did ⟨false, n, b⟩).l[R.l.length]? = some ⟨false, n, b⟩ := by simp [RefS.did]
  have hlow : ∀ i, i < R.l.length → (R.did ⟨false, n, b⟩).l[i]? = R.l[i]? := fun i hi => snoc_low _ _ _ hi
  have hfl : flushedTo (R.did ⟨false, n, b⟩).l (R.did ⟨false, n, b⟩).l.length = flushedTo R.l R.l.length := by
    rw [hlen, flushedTo_succ, hat]; exact flushedTo_congr _ _ _ hlow
  have hle := flushedTo_le R.l R.l.length
  refine ⟨h.len, ⟨h.ok.1, h.ok.2.1, fun o ho hf => ?_⟩, ?_, ?_, fun m => ?_, by rw [hlen, ← h.ops]; simp [DiskS.wrote]⟩
  · rcases List.mem_append.1 ho with ho | ho
    · exact h.ok.2.2 o ho hf
    · rw [List.mem_singleton.1 ho]; exact ⟨h0, h1, hb⟩
  · rw [hlen, atL_succ, hat, imgS_wrote S n _ h0, bytesOf_set, h.img, atL_congr (R.did ⟨false, n, b⟩) R rfl R.l.length hlow]
    rfl
  · rw [hfl, atL_congr (R.did ⟨false, n, b⟩) R rfl _ (fun i hi => hlow i (by omega))]
    exact h.safe
  · rw [hfl, hlen, waitsL, hat, waitsL_congr _ _ _ _ _ hlow, ← h.waits m]
    by_cases e : m = n
    · subst e
      simp [DiskS.wrote, upd_same, hle, bytesOf]
    · have e2 : ¬ (flushedTo R.l R.l.length ≤ R.l.length ∧ n = m) := fun h => e h.2.symm
      simp only [if_neg e2]
      simp [DiskS.wrote, upd_other _ _ e]
theorem Alike.flush {S : DiskS} {R : RefS} (h : Alike S R) : Alike S.flushed (R.did ⟨true, 0, []⟩) := by
  have hlen : (R.did ⟨true, 0, []⟩).l.length = R.l.length + 1 := by simp [RefS.did]
  have hat : (R.did ⟨true, 0, []⟩).l[R.l.length]? = some ⟨true, 0, []⟩ := by simp [RefS.did]
  have hlow : ∀ i, i < R.l.length → (R.did ⟨true, 0, []⟩).l[i]? = R.l[i]? := fun i hi => snoc_low _ _ _ hi
  have hfl : flushedTo (R.did ⟨true, 0, []⟩).l (R.did ⟨true, 0, []⟩).l.length = R.l.length + 1 := by
    rw [hlen, flushedTo_succ, hat]; rfl
  have him : atL (R.did ⟨true, 0, []⟩) (R.l.length + 1) = atL R R.l.length := by
    rw [atL_succ, hat]
    exact atL_congr (R.did ⟨true, 0, []⟩) R rfl R.l.length hlow
  refine ⟨by simpa [DiskS.flushed, length_imgS, RefS.did] using h.len, ⟨h.ok.1, h.ok.2.1, fun o ho hf => ?_⟩, ?_, ?_, fun m => ?_, by rw [hlen, ← h.ops]; simp [DiskS.flushed]⟩
  · rcases List.mem_append.1 ho with ho | ho
    · exact h.ok.2.2 o ho hf
    · rw [List.mem_singleton.1 ho] at hf; cases hf
  · rw [hlen, him, imgS_flushed, h.img]
  · rw [hfl, him, ← h.img]; rfl
  · rw [hfl, hlen, waitsL_low _ _ _ _ (Nat.le_refl _)]; rfl
theorem Alike.put {S : DiskS} {R : RefS} (h : Alike S R) (n : Int) (b : List UInt8) : Alike (S.put n b) (R.put n b) := by
  have e := err_same h.len n b
  unfold DiskS.put RefS.put
  rw [e]
  by_cases h0 : errR R n b = 0
  · rw [if_pos h0, if_pos h0]
    unfold errR at h0
    by_cases h1 : 0 ≤ n ∧ n < R.first.length
    · rw [if_neg (fun h => h h1)] at h0
      by_cases h2 : b.length = 512
      · exact h.write h1.1 h1.2 h2
      · rw [if_pos h2] at h0; cases h0
    · rw [if_pos h1] at h0; cases h0
  · rw [if_neg h0, if_neg h0]; exact h
theorem Alike.step {S : DiskS} {R : RefS} (h : Alike S R) (D : DeedS) : Alike (stepS S D) (stepR R D) := by
  unfold stepS stepR
  split
  · exact h.flush
  · exact h.put _ _
theorem blank_zeros : blankS.data.toList = zeros := by
  show (Lib.repeatL [0] 512).toArray.toList = List.replicate 512 0
  decide +kernel
theorem alike_fresh (n : Nat) (hn : n ≤ 4096) : Alike (freshS (List.replicate n blankS)) (rfresh n) := by
  have hb : bytesOf (List.replicate n blankS) = List.replicate n zeros := by rw [bytesOf, List.map_replicate, blank_zeros]
  refine ⟨by simp [freshS, rfresh], ⟨by rw [rfresh_length]; exact hn, fun l hl => by rw [List.eq_of_mem_replicate hl]; exact length_zeros, fun o ho => by simp [rfresh] at ho⟩, ?_, ?_, fun m => rfl, rfl⟩
  · rw [imgS_fresh]; exact hb
  · exact hb
theorem alike_play (n : Nat) (hn : n ≤ 4096) (ds : List DeedS) : ∀ k, k ≤ ds.length → Alike (playS n ds k) (playR n ds k)
  | 0, _ => alike_fresh n hn
  | k + 1, h => by rw [playS_step n ds k (by omega), playR_step n ds k (by omega)]; exact (alike_play n hn ds k (by omega)).step _
/-- What waits is told alike. -/
theorem Alike.count {S : DiskS} {R : RefS} (h : Alike S R) (n : Nat) : (S.waits n).length = rWait R n := by
  have := congrArg List.length (h.waits n)
  rw [length_bytesOf, length_waitsL] at this
  exact this
theorem Alike.keys {S : DiskS} {R : RefS} (h : Alike S R) : waitKeys S.waits S.safe.length = rKeys (rWait R) R.first.length := by
  unfold waitKeys rKeys
  rw [h.len, List.filter_map]
  congr 1
  apply List.filter_congr
  intro n _
  have := h.count n
  simp only [Function.comp]
  cases hw : S.waits n with
  | nil => rw [hw] at this; simp at this; simp [← this]
  | cons a l => rw [hw] at this; simp at this; simp [← this]
theorem Alike.counts {S : DiskS} {R : RefS} (h : Alike S R) : waitCounts S.waits S.safe.length = rCounts (rWait R) R.first.length := by
  unfold waitCounts
  rw [h.keys]
  unfold rKeys rCounts
  rw [List.map_map]
  apply List.map_congr_left
  intro n _
  simp only [Function.comp]
  rw [h.count n]
theorem Alike.read {S : DiskS} {R : RefS} (h : Alike S R) (n : Nat) (hn : n < R.first.length) : (atL R R.l.length)[n]? = some (seenS S.safe S.waits n).data.toList := by
  have h1 : n < (imgS S).length := by rw [length_imgS, h.len]; exact hn
  rw [← h.img, bytesOf, List.getElem?_map, List.getElem?_eq_getElem h1, imgS_at S n h1]
  rfl
end Go.Proofs.YtjgclmlclkfgpaaGreat
/- The reference's Read. -/
namespace Go.Proofs.YtjgclmlclkfgpaaGreat
open Go.RowKit
theorem rread_nil (n : Int) (w : World) : Calls Tryz.prog 115 #[.pointer none, .int .i64 n] w fun e w' => e = .returned (.tuple #[.slice none 0 0, .int .i64 1]) ∧ w' = w := by
  have HL : Hid (Calls Tryz.prog 136 #[.pointer none, .int .i64 n] w fun e w' => e = .returned (.int .i64 1) ∧ w' = w) := by
    show Calls _ _ _ _ _
    go_enter Tryz.func136, Tryz.ntmps136
    go_wp2
    go_ret
    exact ⟨rfl, rfl⟩
  go_enter Tryz.func115, Tryz.ntmps115
  go_wp2_with fail
  refine HL.out.mono ?_
  rintro e w9 ⟨rfl, h9⟩
  obtain rfl := h9.symm
  go_wp2
  go_returns
  exact ⟨rfl, rfl⟩
set_option maxRecDepth 100000 in
theorem rread_no (r : Nat) (fv lv : Value) (vs : List Value) (Rd : Nat → Prop) (R : RefS) (n : Int) (w : World) (h : RefIn w r fv lv vs Rd R) (hn : ¬ (0 ≤ n ∧ n < R.first.length)) :
    Calls Tryz.prog 115 #[.pointer (some ⟨r, 0, none⟩), .int .i64 n] w fun e w' => e = .returned (.tuple #[.slice none 0 0, .int .i64 2]) ∧ w' = w := by
  have hl := look_any r fv lv vs Rd R n w h
  rw [lookR, if_neg hn] at hl
  have HL := hid hl
  clear h hl hn
  go_enter Tryz.func115, Tryz.ntmps115
  go_wp2_with fail
  refine HL.out.mono ?_
  rintro e w9 ⟨rfl, h9⟩
  obtain rfl := h9.symm
  go_wp2
  go_returns
  exact ⟨rfl, rfl⟩
set_option maxRecDepth 100000 in
set_option maxHeartbeats 2000000 in
theorem rread_ok (r : Nat) (fv lv : Value) (vs : List Value) (Rd : Nat → Prop) (R : RefS) (n : Int) (bs : List UInt8) (w : World) (h : RefIn w r fv lv vs Rd R) (hR : okR R) (hm : R.l.length ≤ 1000000) (h0 : 0 ≤ n) (h1 : n < R.first.length) (hbs : (atL R R.l.length)[n.toNat]? = some bs) (h5 : bs.length = 512) :
    Calls Tryz.prog 115 #[.pointer (some ⟨r, 0, none⟩), .int .i64 n] w fun e w' => Below w.heap.size w w' ∧ ∃ g cap, e = .returned (.tuple #[.slice (some ⟨g, 0, none⟩) 512 cap, .int .i64 0]) ∧ bytesIn w' (some ⟨g, 0, none⟩) bs := by
  have hl := look_any r fv lv vs Rd R n w h
  rw [lookR, if_pos ⟨h0, h1⟩] at hl
  have HL := hid hl
  obtain ⟨sa, cap, hlv, hs⟩ := h.slice
  have c1 : w.cell? ⟨r, 1, none⟩ = some (.slice sa R.l.length cap) := by rw [cell_of_block h.heap, ← hlv]; rfl
  have HS := hid hs
  have H := hid h
  have HR := hid hR
  have HBs := hid hbs
  clear h hl hR hs hlv hbs
  go_enter Tryz.func115, Tryz.ntmps115
  go_wp2_with fail
  refine HL.out.mono ?_
  rintro e w9 ⟨rfl, h9⟩
  obtain rfl := h9.symm
  clear HL
  go_wp2
  go_loopw [7] (fun i wr => wr = w ∧ ∃ k : Nat, k ≤ R.l.length ∧ i = .int .i64 ((k : Int) - 1) ∧ Hid ((atL R k)[n.toNat]? = some bs)) (fun i _ => (intOf i + 1).toNat)
  case atStart => exact ⟨rfl, R.l.length, Nat.le_refl _, rfl, HBs⟩
  case round =>
    obtain ⟨rfl, k, hk, rfl, hA⟩ := hrel
    rcases Nat.eq_zero_or_pos k with rfl | hpos
    · have e0 : (((0 : Nat) : Int) - 1) = -1 := by omega
      rw [e0]
      obtain ⟨fa, fc, hfv, hrows, -⟩ := H.out.first
      obtain ⟨fb, fo, rfl, hrow⟩ := hrows n.toNat (by omega)
      obtain ⟨a', c', hcell, hby⟩ := hrow n.toNat (by omega)
      have eb : R.first[n.toNat]'(by omega) = bs := by
        have := hA.out
        rw [show atL R 0 = R.first from rfl, List.getElem?_eq_getElem (by omega)] at this
        exact Option.some.inj this
      rw [eb] at hcell hby
      rw [h5] at hcell
      have HCp := hid (copy_any bs a' c' wr hby (by omega) (by omega))
      rw [h5] at HCp
      have t0 : wr.cell? ⟨r, 0, none⟩ = some (.slice (some ⟨fb, fo, none⟩) R.first.length fc) := by rw [cell_of_block H.out.heap, ← hfv]; rfl
      clear hby hrow hrows hfv eb hA HBs HS
      go_wp2_with fail
      refine HCp.out.mono ?_
      clear HCp
      rintro e w1 ⟨g, cap1, rfl, hb, -, -, hB⟩
      have HB := hid hB
      have Hb := hid hb
      clear hB hb
      go_wp2
      go_returns
      exact ⟨HB.out, _, _, rfl, Hb.out⟩
    · obtain ⟨j, rfl⟩ : ∃ j, k = j + 1 := ⟨k - 1, by omega⟩
      have e0 : (((j + 1 : Nat) : Int) - 1) = (j : Int) := by omega
      rw [e0]
      have hj : j < R.l.length := by omega
      have hj0 : (0 : Int) ≤ (j : Int) := by omega
      have hj1 : (j : Int) < (R.l.length : Int) := by omega
      have hjv : j < vs.length := by rw [← H.out.len]; exact hj
      obtain ⟨g, rfl, q0, q1, q2⟩ := HS.out j hj hjv
      obtain ⟨ab, cb, ev, hby, -⟩ := H.out.bytes j hj hjv
      rw [ev] at q2
      have hAt := hA.out
      rw [atL_succ, List.getElem?_eq_getElem hj] at hAt
      have HAt := hid hAt
      clear hAt hA
      cases hf : R.l[j].flush
      · rw [hf] at q0
        obtain ⟨n0, n1, n5⟩ := HR.out.2.2 R.l[j] (List.getElem_mem hj) hf
        rw [n5] at q2
        have hAt := HAt.out
        simp only [hf, Bool.false_eq_true, if_false] at hAt
        by_cases hn : R.l[j].n = n
        · rw [hn] at q1
          have eb : R.l[j].b = bs := by
            rw [hn, List.getElem?_set_self (by rw [length_atL]; omega)] at hAt
            exact Option.some.inj hAt
          rw [eb] at hby
          have HCp := hid (copy_any bs ab cb wr hby (by omega) (by omega))
          rw [h5] at HCp
          clear hby hAt HAt eb hn n0 n1 n5 ev hf HBs HS
          go_wp2_with fail
          refine HCp.out.mono ?_
          clear HCp
          rintro e w1 ⟨g, cap1, rfl, hb, -, -, hB⟩
          have HB := hid hB
          have Hb := hid hb
          clear hB hb
          go_wp2
          go_returns
          exact ⟨HB.out, _, _, rfl, Hb.out⟩
        · rw [List.getElem?_set_ne (by omega)] at hAt
          have HN := hid hAt
          have hne : (R.l[j].n == n) = false := by rw [beq_eq_false_iff_ne]; exact hn
          generalize R.l[j].n = nn at *
          clear hby hAt HAt n0 n1 n5 ev hf HBs HS q2
          go_wp2
          exact ⟨⟨trivial, j, by omega, by go_num, HN⟩, by simp [intOf]⟩
      · rw [hf] at q0
        have hAt := HAt.out
        simp only [hf, if_true] at hAt
        have HN := hid hAt
        clear hby hAt HAt ev hf HBs HS q2 q1
        go_wp2
        exact ⟨⟨trivial, j, by omega, by go_num, HN⟩, by simp [intOf]⟩
end Go.Proofs.YtjgclmlclkfgpaaGreat
/- A disk is what its ops made of its first sectors; the same of the first k of them. Plain facts. -/
namespace Go.Proofs.YtjgclmlclkfgpaaGreat
open Go.RowKit
/-- One op. -/
def doOp (S : DiskS) : OpS → DiskS
  | .write n s => S.wrote n s
  | .flush => S.flushed
/-- An op as the reference has it. -/
def ropOf : OpS → ROp
  | .write n s => ⟨false, n, s.data.toList⟩
  | .flush => ⟨true, 0, []⟩
/-- A write within N sectors, of 512 bytes. -/
def okOp (N : Nat) : OpS → Prop
  | .write n s => 0 ≤ n ∧ n < N ∧ s.size = 512
  | .flush => True
def doOps (S : DiskS) (l : List OpS) : DiskS := l.foldl doOp S
theorem doOps_snoc (S : DiskS) (l : List OpS) (o : OpS) : doOps S (l ++ [o]) = doOp (doOps S l) o := by simp [doOps]
theorem doOp_first (S : DiskS) (o : OpS) : (doOp S o).first = S.first := by cases o <;> rfl
theorem doOp_len (S : DiskS) (o : OpS) : (doOp S o).safe.length = S.safe.length := by cases o <;> simp [doOp, DiskS.wrote, DiskS.flushed, length_imgS]
theorem doOp_ops (S : DiskS) (o : OpS) : (doOp S o).ops = S.ops ++ [o] := by cases o <;> rfl
theorem doOps_facts (S : DiskS) : ∀ l : List OpS, (doOps S l).first = S.first ∧ (doOps S l).safe.length = S.safe.length ∧ (doOps S l).ops = S.ops ++ l := by
  intro l
  induction l generalizing S with
  | nil => simp [doOps]
  | cons o l ih =>
    obtain ⟨h1, h2, h3⟩ := ih (doOp S o)
    refine ⟨by rw [show doOps S (o :: l) = doOps (doOp S o) l from rfl, h1, doOp_first], by rw [show doOps S (o :: l) = doOps (doOp S o) l from rfl, h2, doOp_len], ?_⟩
    rw [show doOps S (o :: l) = doOps (doOp S o) l from rfl, h3, doOp_ops]; simp
/-- A disk is what its ops made. -/
structure Told (S : DiskS) (R : RefS) : Prop where
  made : S = doOps (freshS S.first) S.ops
  ops : R.l = S.ops.map ropOf
  first : R.first = bytesOf S.first
  ok : ∀ o ∈ S.ops, okOp S.first.length o
  most : S.first.length ≤ 4096
  size : ∀ s ∈ S.first, s.size = 512
/-- The disk behind the first k ops. -/
def cutS (S : DiskS) (k : Nat) : DiskS := doOps (freshS S.first) (S.ops.take k)
def cutR (R : RefS) (k : Nat) : RefS := ⟨R.first, R.l.take k⟩
theorem cutS_facts (S : DiskS) (k : Nat) : (cutS S k).first = S.first ∧ (cutS S k).safe.length = S.first.length ∧ (cutS S k).ops = S.ops.take k := by
  obtain ⟨h1, h2, h3⟩ := doOps_facts (freshS S.first) (S.ops.take k)
  exact ⟨h1, h2, h3.trans (List.nil_append _)⟩
theorem cutS_step (S : DiskS) (k : Nat) (h : k < S.ops.length) : cutS S (k + 1) = doOp (cutS S k) S.ops[k] := by
  unfold cutS; rw [List.take_succ_eq_append_getElem h, doOps_snoc]
theorem doOps_alike (F : List ByteArray) (hF : F.length ≤ 4096) (hs : ∀ s ∈ F, s.size = 512) (l : List OpS) (hl : ∀ o ∈ l, okOp F.length o) : Alike (doOps (freshS F) l) ⟨bytesOf F, l.map ropOf⟩ := by
  have key : ∀ k, k ≤ l.length → Alike (doOps (freshS F) (l.take k)) ⟨bytesOf F, (l.take k).map ropOf⟩ := by
    intro k
    induction k with
    | zero =>
      intro _
      refine ⟨by simp [doOps, freshS, length_bytesOf], ⟨by simpa [length_bytesOf] using hF, fun b hb => ?_, fun o ho => by simp at ho⟩, ?_, ?_, fun m => rfl, rfl⟩
      · obtain ⟨s, h1, rfl⟩ := List.mem_map.1 hb
        simpa using hs s h1
      · show bytesOf (imgS (freshS F)) = bytesOf F
        rw [imgS_fresh]
      · rfl
    | succ k ih =>
      intro hk
      have ih := ih (by omega)
      rw [List.take_succ_eq_append_getElem (by omega), doOps_snoc, List.map_append]
      have ho := hl l[k] (List.getElem_mem (by omega))
      generalize l[k] = o at *
      generalize doOps (freshS F) (l.take k) = S at *
      cases o with
      | write n s =>
        obtain ⟨h0, h1, h2⟩ := ho
        have := ih.write (n := n) (b := s.data.toList) h0 (by simpa [length_bytesOf] using h1) (by simpa using h2)
        exact this
      | flush => exact ih.flush
  have := key l.length (Nat.le_refl _)
  rwa [List.take_length] at this
theorem Told.alike {S : DiskS} {R : RefS} (h : Told S R) : Alike S R := by
  have := doOps_alike S.first h.most h.size S.ops h.ok
  rw [← h.made, ← h.first, ← h.ops] at this
  exact this
theorem Told.cut {S : DiskS} {R : RefS} (h : Told S R) (k : Nat) : Told (cutS S k) (cutR R k) := by
  obtain ⟨h1, h2, h3⟩ := cutS_facts S k
  refine ⟨by rw [h1, h3]; rfl, by rw [h3, List.map_take, ← h.ops]; rfl, by rw [h1]; exact h.first, fun o ho => ?_, by rw [h1]; exact h.most, by rw [h1]; exact h.size⟩
  rw [h3] at ho
  rw [h1]
  exact h.ok o (List.mem_of_mem_take ho)
theorem Told.op {S : DiskS} {R : RefS} (h : Told S R) (o : OpS) (ho : okOp S.first.length o) : Told (doOp S o) (R.did (ropOf o)) := by
  refine ⟨?_, ?_, by rw [doOp_first]; exact h.first, fun o' ho' => ?_, by rw [doOp_first]; exact h.most, by rw [doOp_first]; exact h.size⟩
  · rw [doOp_first, doOp_ops, doOps_snoc, ← h.made]
  · rw [doOp_ops, List.map_append, ← h.ops]; rfl
  · rw [doOp_first]
    rw [doOp_ops, List.mem_append] at ho'
    rcases ho' with h1 | h1
    · exact h.ok o' h1
    · rw [List.mem_singleton.1 h1]; exact ho
theorem Told.step {S : DiskS} {R : RefS} (h : Told S R) (D : DeedS) : Told (stepS S D) (stepR R D) := by
  have hl : S.safe.length = R.first.length := h.alike.len
  have hf : S.first.length = R.first.length := by rw [h.first, length_bytesOf]
  unfold stepS stepR
  split
  · exact h.op .flush trivial
  · have e := err_same hl D.n D.bytes
    unfold DiskS.put RefS.put
    rw [e]
    by_cases h0 : errR R D.n D.bytes = 0
    · rw [if_pos h0, if_pos h0]
      unfold errR at h0
      by_cases h1 : 0 ≤ D.n ∧ D.n < R.first.length
      · rw [if_neg (fun h => h h1)] at h0
        by_cases h2 : D.bytes.length = 512
        · exact h.op (.write D.n ⟨D.bytes.toArray⟩) ⟨h1.1, by rw [hf]; exact h1.2, by show D.bytes.toArray.size = 512; simpa using h2⟩
        · rw [if_pos h2] at h0; cases h0
      · rw [if_pos h1] at h0; cases h0
    · rw [if_neg h0, if_neg h0]; exact h
theorem told_play (n : Nat) (hn : n ≤ 4096) (ds : List DeedS) : ∀ k, k ≤ ds.length → Told (playS n ds k) (playR n ds k)
  | 0, _ => by
    have hb : bytesOf (List.replicate n blankS) = List.replicate n zeros := by rw [bytesOf, List.map_replicate, blank_zeros]
    exact ⟨rfl, rfl, hb.symm, fun o ho => by simp [playS, freshS] at ho, by simp [playS, freshS]; exact hn, fun s hs => by
      have : s ∈ List.replicate n blankS := hs
      rw [List.eq_of_mem_replicate this]; exact blank_size⟩
  | k + 1, h => by rw [playS_step n ds k (by omega), playR_step n ds k (by omega)]; exact (told_play n hn ds k (by omega)).step _
end Go.Proofs.YtjgclmlclkfgpaaGreat
