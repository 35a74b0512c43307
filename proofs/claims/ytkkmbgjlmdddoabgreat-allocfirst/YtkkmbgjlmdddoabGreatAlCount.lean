/- count: what all free ones are worth together. -/
import Derived.Test.YtkkmbgjlmdddoabGreatAlNext
import Derived.Test.YtkkmbgjlmdddoabGreatAlFloat
namespace Go.Proofs.YtkkmbgjlmdddoabGreat
open Go.RowKit Go.Shelf
attribute [local go_sem] Oper.semAt_some
theorem run_store_cpl {P : Program} {w : World} {a : Addr} {m : Mode} (k : FloatKind) (x y : Nat) : (store a (.complex k x y) m).run P w = stored P w a (.complex k x y) m := run_store P w a _ m rfl
attribute [local go_sem] run_store_cpl
/-- A block with one complex number. -/
def cplB (w : World) (b x y : Nat) : Prop := w.heap[b]? = some (.cells #[.complex .f64 x y] 66 (0, 0))
/-- A block that no cache has. -/
def offB (w : World) (b : Nat) : Prop := (∀ ad v, w.cell? ad = some v → ad.block = b → ∃ k x y, v = .complex k x y) ∧ (∀ e k, w.heap[b]? ≠ some (.map e k)) ∧ ∀ cs t fr, w.heap[b]? = some (.cells cs t fr) → t = 66
theorem cplB.off {w : World} {b x y : Nat} (h : cplB w b x y) : offB w b := by
  refine ⟨fun ad v hc e => ?_, fun e k hm => ?_, fun cs t fr hm => ?_⟩
  · have hp := plain_addr hc
    rw [hp, e, cell_of_block h] at hc
    cases ho : ad.off with
    | zero => rw [ho] at hc; exact ⟨_, _, _, (Option.some.inj hc).symm⟩
    | succ n => rw [ho] at hc; cases hc
  · rw [show w.heap[b]? = _ from h] at hm; cases hm
  · rw [show w.heap[b]? = _ from h] at hm
    simp only [Option.some.injEq, Obj.cells.injEq] at hm
    exact hm.2.1.symm
theorem off_deferred {w : World} {b : Nat} {d : Option (List Deferred)} (h : w.heap[b]? = some (.deferred d)) : offB w b := by
  refine ⟨fun ad v hc e => ?_, fun e k hm => ?_, fun cs t fr hm => ?_⟩
  · have hp := plain_addr hc
    rw [hp, e] at hc
    simp [World.cell?, h] at hc
  · rw [h] at hm; cases hm
  · rw [h] at hm; cases hm
theorem offB.not {w : World} {b : Nat} {ad : Addr} {v : Value} (h : offB w b) (hc : w.cell? ad = some v) (hv : ∀ k x y, v ≠ .complex k x y) : ad.block ≠ b := fun e => by
  obtain ⟨k, x, y, rfl⟩ := h.1 ad v hc e
  exact hv k x y rfl
theorem AnyAt.keepX {w w' : World} {d : DL} {S : DiskS} {F : Nat → Prop} {b : Nat} (h : AnyAt w d S F) (hb : offB w b) (hF : ¬ F b) (k : Keeps (fun i => i = b) w w') : AnyAt w' d S F := by
  rcases h with ⟨h, hf⟩ | ⟨h, hf⟩
  · refine .inl ⟨?_, hf⟩
    have hne : ∀ i, d.cutFoot S.waits i → ¬ i = b := fun i hi e => hF (e ▸ hf i hi)
    obtain ⟨h1, ⟨a, e1, e2, e3⟩, ⟨ad, c, e4, e5, e6⟩, h4⟩ := h
    refine ⟨h1.keep k (hne _ (.inl rfl)) (fun i hi => hne i (.inr hi)), ⟨a, e1, e2, fun q hq => ⟨fun j u hu => ?_, Nat.lt_of_lt_of_le (e3 q hq).2 k.size⟩⟩, ⟨ad, c, e4, fun j s hj => ?_, e6⟩, h4⟩
    · refine k.cell ((e3 q hq).1 j u hu) (hb.not ((e3 q hq).1 j u hu) ?_)
      rw [List.getElem?_map] at hu
      cases ho : S.ops[j]? with
      | none => rw [ho] at hu; cases hu
      | some o => rw [ho] at hu; obtain rfl := Option.some.inj hu; intro k x y; cases o <;> simp [encOp]
    · exact k.cell (e5 j s hj) (hb.not (e5 j s hj) (fun k x y => by simp))
  · refine .inr ⟨?_, hf⟩
    have hne : ∀ i, d.foot S.waits i → ¬ i = b := fun i hi e => hF (e ▸ hf i hi)
    refine h.keep k hne (fun i hi e => ?_)
    obtain ⟨ad, c, e4, e5, e6⟩ := h.first
    have hpos : 0 < S.first.length := by rw [h.flen]; exact h.plates.pos
    have hc := e5 0 S.first[0] (List.getElem?_eq_getElem hpos)
    have h1 := hb.not hc (fun k x y => by simp)
    rw [add_block] at h1
    rw [e4] at hi
    exact h1 ((Option.some.inj hi).trans e)
theorem LogIn.keepX {w w' : World} {p : Nat} {d : DL} {S : DiskS} {size rec : Nat} {F : Nat → Prop} {b : Nat} (h : LogIn w p d S size rec F) (hb : offB w b) (hF : ¬ F b) (k : Keeps (fun i => i = b) w w') : LogIn w' p d S size rec F := by
  refine ⟨k.heap h.heap (fun e => ?_), h.disk.keepX hb hF k, h.off⟩
  have e2 : p = b := e
  have h1 := h.heap
  rw [e2] at h1
  exact absurd (hb.2.2 _ _ _ h1) (by decide)
theorem CacheAt.keepX {w w' : World} {c : Nat} {L : CLay} {C : CS} (h : CacheAt w c L C) {b : Nat} (hg : offB w b) (hF : ¬ L.F b) (k : Keeps (fun i => i = b) w w') : CacheAt w' c L C := by
  obtain ⟨es, kk, hm⟩ := h.dmap
  obtain ⟨es', kk', hu⟩ := h.umap
  have hmap : ∀ m e k0, w.heap[m]? = some (.map e k0) → m ≠ b := fun m e k0 hm e1 => by
    subst e1
    exact hg.2.1 _ _ hm
  exact {
    heap := k.heap h.heap (fun e => by
      have e1 : c = b := e
      have h1 := h.heap
      rw [e1] at h1
      exact absurd (hg.2.2 _ _ _ h1) (by decide))
    log := h.log.keepX hg hF k
    lt := fun i hi => Nat.lt_of_lt_of_le (h.lt i hi) k.size
    dirty := h.dirty.keep k (hmap _ _ _ hm)
    bytes := fun n v hv => by
      obtain ⟨g', cap, bs, h1, h2, h3, h4, h5⟩ := h.bytes n v hv
      subst h2
      refine ⟨g', cap, bs, h1, rfl, fun j hj => k.cell (h3 j hj) (hg.not (h3 j hj) (fun k x y => by simp)), h4, h5⟩
    clean := h.clean
    used := h.used.keep k (hmap _ _ _ hu)
    offc := h.offc
    offd := h.offd
    offu := h.offu
    ne := h.ne
    pages := h.pages
    fits := h.fits
    few := h.few
    ub := h.ub }
section
variable {w w' : World} {c : Nat} {F : Nat → Prop} {size N : Nat} {Pg Cm : Nat → List UInt8} {D : Int → Bool} {o u : Nat}
theorem Pc.keepX (h : Pc w c F size N Pg Cm D o u) {b : Nat} (hg : offB w b) (hF : ¬ F b) (k : Keeps (fun i => i = b) w w') : Pc w' c F size N Pg Cm D o u := by
  obtain ⟨L, C, h⟩ := h
  exact ⟨L, C, h.at_.keepX hg (fun hf => hF (h.foot _ (.inl hf))) k, h.sz, h.nn, h.made, h.ops, h.uses, h.pg, h.cm, h.dirty, h.room, h.foot, fun i hi => Nat.lt_of_lt_of_le (h.lt i hi) k.size, Nat.lt_of_lt_of_le h.p0 k.size, h.quiet⟩
end
theorem freeTo_few (L : List UInt8) (a z : Nat) {k : Nat} (hz : z ≤ k) : (freeTo L a z 4096).length ≤ k := by
  by_cases h : z ≤ 4096
  · have h1 := freeTo_end (L := L) (a := a) (Nat.le_refl z) (4096 - z)
    rw [show z + (4096 - z) = 4096 by omega] at h1
    rw [h1]
    exact Nat.le_trans (freeTo_len L a z z) hz
  · exact Nat.le_trans (freeTo_len L a z 4096) (by omega)
theorem run_cadd {P : Program} {a b x y r s : Nat} (w : World) (h1 : FloatKind.f64.format.add a x = some r) (h2 : FloatKind.f64.format.add b y = some s) : (binOp .add 66 (.complex .f64 a b) (.complex .f64 x y)).run P w = .ok (.complex .f64 r s) w := by
  simp [binOp, Op.complexOp, Op.Complex.arith, Op.floatArith, h1, h2]
section
variable {w : World} {m c ino : Nat} {F : Nat → Prop} {size N : Nat} {Pg Cm : Nat → List UInt8} {D : Int → Bool} {o u : Nat}
set_option maxRecDepth 100000 in
set_option maxHeartbeats 8000000 in
theorem acount_any (h : mapB w m c ino) (hmF : ¬ F m) (kb f : Nat) (hkb : w.heap[kb]? = some (.cells #[.int .i64 2, .int .i64 f, .int .i64 N, .complex .f64 4607182418800017408 0, .int .i64 1, .int .i64 1, .int .i64 ino, .complex .f64 0 4607182418800017408] 68 (0, 0))) (hkF : ¬ F kb) (hN : N ≤ 519) (hN2 : 3 ≤ N) (hi : ino ≤ 512) (hu : u < 999999) (hp : Pc w c F size N Pg Cm D o u) :
    Calls Tryz.prog 37 #[.pointer (some ⟨m, 0, none⟩), .slice (some ⟨kb, 0, none⟩) 2 2] w fun e w' => e = .returned (.complex .f64 (fN (freeTo (Pg 2) f N 4096).length) (fN (freeTo (Pg 1) 1 ino 4096).length)) ∧ Keeps F w w' ∧ Pc w' c F size N Pg Cm D o (u + 2) := by
  have hp1 : (freeTo (Pg 2) f N 4096).length ≤ 519 := freeTo_few _ _ _ hN
  have hp2 : (freeTo (Pg 1) 1 ino 4096).length ≤ 519 := freeTo_few _ _ _ (by omega)
  obtain ⟨p1, hq1⟩ : ∃ p1, p1 = freeTo (Pg 2) f N 4096 := ⟨_, rfl⟩
  obtain ⟨p2, hq2⟩ : ∃ p2, p2 = freeTo (Pg 1) 1 ino 4096 := ⟨_, rfl⟩
  rw [← hq1] at hp1 ⊢
  rw [← hq2] at hp2 ⊢
  have HQ1 := hid hq1
  have HQ2 := hid hq2
  have HL1 := hid (hp.len 2 (by omega))
  have HL2 := hid (hp.len 1 (by omega))
  have HFl := hid hp.lt
  obtain ⟨V0, hV0⟩ : ∃ V0, V0 = w.alloc (.cells #[.complex .f64 0 0] 66) := ⟨_, rfl⟩
  have hb0 : Below w.heap.size w V0 := by rw [hV0]; exact (Below.refl _ w).alloc (Nat.le_refl _) _
  have HM0 := hid (h.below hb0)
  have HK0 := hid (below_block hb0 hkb (lt_of_heap hkb))
  obtain ⟨P0, hP0⟩ : ∃ P0 : Nat, P0 = 0 := ⟨_, rfl⟩
  obtain ⟨I0, hI0⟩ : ∃ I0 : Nat, I0 = 0 := ⟨_, rfl⟩
  have HS0 : Hid (cplB V0 w.heap.size (fN P0) (fN I0)) := by unfold Hid cplB; rw [hV0, hP0, hI0, fN_zero]; exact block_new w _
  have HP00 := hid hP0
  have HI00 := hid hI0
  clear hP0 hI0
  have HW0 : Hid (Keeps F w V0) := Keeps.of_below hb0
  have HP0 := hid (hp.below hb0)
  have HSz0 : Hid (V0.heap.size = w.heap.size + 1) := by unfold Hid; rw [hV0]; simp
  have HkF := hid hkF
  have HmF := hid hmF
  clear h hkb hp hq1 hq2 hb0 hkF hmF
  refine (callsIn_wide (n := 8)).1 ?_
  refine callsIn_of_wp_marks Tryz.func37 rfl trivial ?_ rfl
  simp only [Tryz.ntmps37, List.size_toArray, List.length_cons, List.length_nil, Nat.reduceAdd, Nat.reduceSub, Array.replicate_succ, Array.replicate_zero, List.push_toArray, List.append_toArray, List.nil_append, List.cons_append]
  have hf1 : Fence.wide.fn 63 := trivial
  have hf2 : Fence.wide.fn 64 := trivial
  gi_wp2
  rw [← hV0]
  clear hV0
  refine wpIn_loop_rounds 3 ?_
  -- round 0
  rw [roundsIn_succ]
  refine wpIn_wide.2 ?_
  have hzb := block_new V0 (.cells #[.int .i64 0, .int .i64 0, .int .i64 0, .complex .f64 0 0] 68)
  have HZb := hid hzb
  have k0 : V0.cell? ⟨kb, 0, none⟩ = some (.int .i64 2) := cell_of_block HK0.out 0
  have k1 : V0.cell? ⟨kb, 1, none⟩ = some (.int .i64 f) := cell_of_block HK0.out 1
  have k2 : V0.cell? ⟨kb, 2, none⟩ = some (.int .i64 N) := cell_of_block HK0.out 2
  have k3 : V0.cell? ⟨kb, 3, none⟩ = some (.complex .f64 4607182418800017408 0) := cell_of_block HK0.out 3
  have HBF : Hid (¬ F V0.heap.size) := fun hf => by have := HFl.out _ hf; have := HW0.out.size; omega
  clear hzb
  go_wp2_with (refine wpList_store_block rfl 68 (.tmp 7) (.tmp 13) rfl V0.heap.size #[.int .i64 2, .int .i64 f, .int .i64 N, .complex .f64 4607182418800017408 0] rfl rfl _ 68 HZb.out rfl infoNum (by simp [Value.oneCell']) ?_; intro wB hgB hnB hzB; have HGB := hid hgB; have HBn := hid hnB; clear hgB hnB hzB)
  have hbB : Below V0.heap.size V0 wB := by
    have h0 : Below V0.heap.size V0 (V0.alloc (.cells #[.int .i64 0, .int .i64 0, .int .i64 0, .complex .f64 0 0] 68)) := (Below.refl _ V0).alloc (Nat.le_refl _) _
    exact h0.grown HGB.out h0.size (fun i e => by cases e; exact Nat.le_refl _)
  have HbB := hid hbB
  have hdr := (Below.refl wB.heap.size wB).drew
  have HBi := hid (abits_any ((HM0.out.below hbB).below hdr) HmF.out 2 f N 4607182418800017408 0 (by omega) (by omega) HP0.out (hbB.trans (hdr.mono hbB.size)))
  have HCk : Hid (∀ W, Keeps F wB W → W.cell? ⟨V0.heap.size, 0, none⟩ = some (.int .i64 2) ∧ W.cell? ⟨V0.heap.size, 1, none⟩ = some (.int .i64 f) ∧ W.cell? ⟨V0.heap.size, 2, none⟩ = some (.int .i64 N) ∧ W.cell? ⟨V0.heap.size, 3, none⟩ = some (.complex .f64 4607182418800017408 0)) := fun W hW => by
    have hw := hW.heap HBn.out HBF.out
    exact ⟨cell_of_block hw 0, cell_of_block hw 1, cell_of_block hw 2, cell_of_block hw 3⟩
  have hS0 := HCk.out _ (Keeps.refl _ _)
  clear hbB hdr k0 k1 k2 k3 HGB HZb
  refine wp_region_noPanic ?_
  refine wp_region_held_drew (S := fun W => W.cell? ⟨V0.heap.size, 0, none⟩ = some (.int .i64 2) ∧ W.cell? ⟨V0.heap.size, 1, none⟩ = some (.int .i64 f) ∧ W.cell? ⟨V0.heap.size, 2, none⟩ = some (.int .i64 N) ∧ W.cell? ⟨V0.heap.size, 3, none⟩ = some (.complex .f64 4607182418800017408 0)) (by kernel_rfl) hS0 (fun hHeld => ?_)
  refine wpAnyH_take (i := 0) (v := ?_) rfl (by kernel_rfl) (by kernel_rfl) (by kernel_rfl) (fun _ _ _ h => h) (Or.inl ⟨by rfl, ?_⟩) (by assumption) ?_
  rotate_left
  · (intro W hSw; (try dsimp only at hSw); obtain ⟨s0, s1, s2, s3⟩ := hSw; go_simp; try with_reducible rfl)
  try simp only [List.getElem_toArray, List.getElem_cons_zero, Act.put, List.setIfInBounds_toArray, List.set_cons_zero, List.set_cons_succ]
  refine wpAnyH_take (i := 1) (v := ?_) rfl (by kernel_rfl) (by kernel_rfl) (by kernel_rfl) (fun _ _ _ h => h) (Or.inl ⟨by rfl, ?_⟩) (by assumption) ?_
  rotate_left
  · (intro W hSw; (try dsimp only at hSw); obtain ⟨s0, s1, s2, s3⟩ := hSw; go_simp; try with_reducible rfl)
  try simp only [List.getElem_toArray, List.getElem_cons_succ, List.getElem_cons_zero, Act.put, List.setIfInBounds_toArray, List.set_cons_zero, List.set_cons_succ]
  refine wpAnyH_take (i := 2) (v := ?_) rfl (by kernel_rfl) (by kernel_rfl) (by kernel_rfl) (fun _ _ _ h => h) (Or.inl ⟨by rfl, ?_⟩) (by assumption) ?_
  rotate_left
  · (intro W hSw; (try dsimp only at hSw); obtain ⟨s0, s1, s2, s3⟩ := hSw; go_simp; try with_reducible rfl)
  try simp only [List.getElem_toArray, List.getElem_cons_succ, List.getElem_cons_zero, Act.put, List.setIfInBounds_toArray, List.set_cons_zero, List.set_cons_succ]
  refine wpAnyH_ready (rs := [3]) (by kernel_rfl) (by simp) (AllReadyH.cons rfl (fun K hK => ?_) AllReadyH.nil)
  rw [if_pos (by rfl)]
  go_simp
  refine HBi.out.mono ?_
  clear HBi
  rintro e w1 ⟨g, cap, rfl, hcap, hg, hrow, hK1, hW1⟩
  have HRow := hid hrow
  have HW1 := hid hW1
  have HKB : Hid (Keeps F wB w1) := ((Keeps.refl F wB).drew).trans hK1 (fun i e => .inl e)
  have hg' : wB.heap.size ≤ g := hg
  have hz := HCk.out w1 HKB.out
  clear hrow hK1 hW1 hg hS0
  go_wp2_with fail
  refine hK.out _ _ hz (fun hHeld => ?_)
  clear hK K
  try simp only [List.getElem_toArray, List.getElem_cons_succ, List.getElem_cons_zero, Act.put, List.setIfInBounds_toArray, List.set_cons_zero, List.set_cons_succ]
  refine wpAnyH_ready (rs := [4]) (by kernel_rfl) (by simp) (AllReadyH.cons rfl (fun K hK => ?_) AllReadyH.nil)
  rw [if_pos (by rfl)]
  go_simp
  refine (afree_any 2 f N 4607182418800017408 0 g cap w1).mono ?_
  rintro e wD ⟨rfl, hD⟩
  have hbD : Below w1.heap.size w1 wD := by rw [hD]; exact ((Below.refl _ w1).alloc (Nat.le_refl _) _).alloc (by simp) _
  have hsD : wD.heap.size = w1.heap.size + 2 := by rw [hD]; simp
  have x1 : wD.heap[w1.heap.size]? = some (.cells #[.int .i64 2, .int .i64 f, .int .i64 N, .complex .f64 4607182418800017408 0] 68 (0, 0)) := by
    rw [hD]; exact block_alloc (block_new w1 _) _
  have x2 : wD.heap[w1.heap.size + 1]? = some (.cells #[.slice (some ⟨g, 0, none⟩) 512 cap] 57 (0, 0)) := by
    have := block_new (w1.alloc (.cells #[.int .i64 2, .int .i64 f, .int .i64 N, .complex .f64 4607182418800017408 0] 68)) (.cells #[.slice (some ⟨g, 0, none⟩) 512 cap] 57)
    rw [World.size_alloc] at this
    rw [hD]; exact this
  have HX1 := hid x1
  have HX2 := hid x2
  have HsD := hid hsD
  have HKD : Hid (Keeps F wB wD) := HKB.out.trans (Keeps.of_below hbD : Keeps (fun _ => False) w1 wD) (fun i e => e.elim)
  have HRD := hid (HRow.out.below hbD)
  have HVD : Hid (Keeps F V0 wD) := (Keeps.of_below HbB.out).trans HKD.out (fun i e => .inl e)
  have HSS : Hid (cplB wD w.heap.size (fN P0) (fN I0)) := HVD.out.heap HS0.out (fun hf => Nat.lt_irrefl _ (HFl.out _ hf))
  have HBnD : Hid (wD.heap[V0.heap.size]? = some (.cells #[.int .i64 2, .int .i64 f, .int .i64 N, .complex .f64 4607182418800017408 0] 68 (0, 0))) := HKD.out.heap HBn.out HBF.out
  have HPD : Hid (Pc wD c F size N Pg Cm D o (u + 1)) := HW1.out wD ((Keeps.of_below hbD).trans (Keeps.refl (fun i => V0.heap.size ≤ i) _) (fun i e => .inl e))
  have HgD : Hid (g < wD.heap.size ∧ V0.heap.size < wD.heap.size ∧ w.heap.size < V0.heap.size ∧ V0.heap.size < w1.heap.size) := ⟨HRD.out.lt, lt_of_heap HBnD.out, lt_of_heap HS0.out, Nat.lt_of_lt_of_le (lt_of_heap HBn.out) HKB.out.size⟩
  have HkbD := hid (HVD.out.heap HK0.out HkF.out)
  have HmD : Hid (mapB wD m c ino) := HM0.out.keep HVD.out HmF.out
  have hz4 := HCk.out wD HKD.out
  clear hD hbD hsD x1 x2 hz
  go_wp2_with fail
  refine hK.out _ _ hz4 (fun hHeld => ?_)
  clear hK K
  try simp only [List.getElem_toArray, List.getElem_cons_succ, List.getElem_cons_zero, Act.put, List.setIfInBounds_toArray, List.set_cons_zero, List.set_cons_succ]
  refine wpAnyH_done (by kernel_rfl) ?_ _
  refine NoPanic.normal ?_
  clear hHeld hz4 HCk HKB HRow HW1 HBF
  go_wp2
  refine (wpIn_wide (n := 8)).1 ?_
  have HSt0 := hid (afree_stops 7 (by omega) (w1.heap.size + 1) w1.heap.size g cap f N (fun i => i = w.heap.size ∨ wD.heap.size ≤ i) (Pg 2) HL1.out (by omega) wD (by have := HsD.out; have := HgD.out; omega) (by have := HsD.out; have := HgD.out; omega) (by have := HgD.out; have := HbB.out.size; omega) (cell_of_block HX2.out 0) (cell_of_block HX1.out 1) (cell_of_block HX1.out 2) HRD.out.1)
  refine wpIn_rangeFunc_ownG rfl (by omega) (gf := 93) (lb := #[.pointer (some ⟨w1.heap.size + 1, 0, none⟩), .pointer (some ⟨w1.heap.size, 0, none⟩)]) rfl trivial (enters_of Tryz.func93 (by kernel_rfl) rfl)
    HSt0.out keepsK_t (keepsK_b (fun i h => .inr h)) (Below.refl _ _) (fun _ => rfl)
    (fun pre W => Hid (cplB W w.heap.size (fN (P0 + pre.length)) (fN I0)) ∧ Hid (Keeps (fun i => i = w.heap.size) wD W))
    (fun _ _ _ => False)
    (fun s A B row hs hgr hr => ⟨grown_block hgr hs.1.out (fun e => by have := (hr _ e).1; have := HgD.out; omega), hs.2.out.grown hgr (fun i e => .inr (hr i e).1)⟩)
    (fun _ _ _ _ _ hs _ _ => hs)
    ⟨HSS, Keeps.refl _ _⟩
    (fun xx : Fin 4096 => { tmps := #[.pointer (some ⟨m, 0, none⟩), .slice (some ⟨kb, 0, none⟩) 2 2, undef, undef, .complex .f64 0 0, .pointer (some ⟨w.heap.size, 0, none⟩), undef, .pointer (some ⟨V0.heap.size, 0, none⟩), .slice (some ⟨kb, 0, none⟩) 2 2, .int .i64 2, .int .i64 0, .bool true, .pointer (some ⟨kb, 0, none⟩), .agg #[.int .i64 2, .int .i64 f, .int .i64 N, .complex .f64 4607182418800017408 0], .agg #[.int .i64 2, .int .i64 f, .int .i64 N, .complex .f64 4607182418800017408 0], .pointer (some ⟨m, 0, none⟩), .agg #[.int .i64 2, .int .i64 f, .int .i64 N, .complex .f64 4607182418800017408 0], .slice (some ⟨g, 0, none⟩) 512 cap, .func (.func 93) #[] #[.pointer (some ⟨w1.heap.size + 1, 0, none⟩), .pointer (some ⟨w1.heap.size, 0, none⟩)], .int .i64 ((xx.val : Nat) : Int), undef, undef, undef, undef, undef, undef], defers := [] }) ?assign0 ?body0 ?done0 ?stop0
  case assign0 =>
    intro l xx W K hK
    gi_wp2
    simpa using hK
  case stop0 =>
    rintro D cd pre W hD hpre hX hK
    exact hX.elim
  case body0 =>
    rintro l pre xx W ⟨hS, hKW⟩ hlt
    have hgD := HgD.out
    have c5 : W.cell? ⟨w.heap.size, 0, none⟩ = some (.complex .f64 (fN (P0 + pre.length)) (fN I0)) := cell_of_block hS.out 0
    have g5 : W.frozen? ⟨w.heap.size, 0, none⟩ = false := frozen_of_block hS.out 0
    have hb7 := hKW.out.heap HBnD.out (show ¬ V0.heap.size = w.heap.size by omega)
    have c7 : W.cell? ⟨V0.heap.size, 3, none⟩ = some (.complex .f64 4607182418800017408 0) := cell_of_block hb7 3
    have hadd : ∀ W2, (binOp .add 66 (.complex .f64 (fN (P0 + pre.length)) (fN I0)) (.complex .f64 4607182418800017408 0)).run Tryz.prog W2 = .ok (.complex .f64 (fN (P0 + pre.length + 1)) (fN I0)) W2 := fun W2 => run_cadd W2 (fN_add _ (by have := HP00.out; have := HI00.out; omega)) (fN_same _ (by have := HP00.out; have := HI00.out; omega))
    have HE : Hid (cplB (W.setCell ⟨w.heap.size, 0, none⟩ (.complex .f64 (fN (P0 + pre.length + 1)) (fN I0))) w.heap.size (fN (P0 + pre.length + 1)) (fN I0) ∧ Keeps (fun i => i = w.heap.size) W (W.setCell ⟨w.heap.size, 0, none⟩ (.complex .f64 (fN (P0 + pre.length + 1)) (fN I0)))) := ⟨block_setCell hS.out 0 _, (Keeps.refl _ _).grown (grown_setCell (grown_refl _ _) _ _) (fun i e => .inl (Option.some.inj e).symm)⟩
    clear hb7 hgD
    gi_wp2
    have hlen : (pre ++ [xx]).length = pre.length + 1 := by simp
    refine ⟨⟨HE.out.2.size, fun i ob hi ho _ => HE.out.2.heap ho (by have := HgD.out; omega)⟩, HE.out.2.mono (fun i e => .inl e), ?_, hKW.out.trans HE.out.2 (fun i e => .inl e)⟩
    rw [hlen]
    exact HE.out.1
  case done0 =>
    rintro D0 ys V1 hD0 hys ⟨hS, hKW⟩ hKd
    have hyl : ys.length = p1.length := by rw [HQ1.out, ← hys, List.length_map]
    have hS2 : cplB V1 w.heap.size (fN (P0 + p1.length)) (fN (I0)) := by rw [← hyl]; exact hS.out
    obtain ⟨P1, hE0⟩ : ∃ P1, P1 = P0 + p1.length := ⟨_, rfl⟩
    rw [← hE0] at hS2
    have HE0 := hid hE0
    have HS1 := hid hS2
    clear hE0 hS2
    have HW1 : Hid (Keeps F w V1) := (HW0.out.trans HVD.out (fun i e => .inl e)).trans hKW.out (fun i e => .inr (by have e' : i = w.heap.size := e; omega))
    have HP1 : Hid (Pc V1 c F size N Pg Cm D o (u + 1)) := HPD.out.keepX HSS.out.off (fun hf => Nat.lt_irrefl _ (HFl.out _ hf)) hKW.out
    have hkne : ¬ kb = w.heap.size := fun e => by have h1 := HkbD.out; rw [e, HSS.out] at h1; simp at h1
    have hmne : ¬ m = w.heap.size := fun e => by have h1 := HmD.out; unfold mapB at h1; rw [e, HSS.out] at h1; simp at h1
    have HK1 := hid (hKW.out.heap HkbD.out hkne)
    have HM1 : Hid (mapB V1 m c ino) := HmD.out.keep hKW.out hmne
    have HDf0 := hid hKd
    have HDn0 : Hid (w.heap.size < D0) := by have := HgD.out; show w.heap.size < D0; omega
    clear HSt0 HSS HBnD HPD HkbD HmD HgD HVD HRD HX1 HX2 HsD HKD HBn HbB hyl hS hKW hKd hkne hmne
    go_wp2
    -- round 1
    rw [roundsIn_succ]
    refine wpIn_wide.2 ?_
    have hzb := block_new V1 (.cells #[.int .i64 0, .int .i64 0, .int .i64 0, .complex .f64 0 0] 68)
    have HZb := hid hzb
    have k0 : V1.cell? ⟨kb, 4, none⟩ = some (.int .i64 1) := cell_of_block HK1.out 4
    have k1 : V1.cell? ⟨kb, 5, none⟩ = some (.int .i64 1) := cell_of_block HK1.out 5
    have k2 : V1.cell? ⟨kb, 6, none⟩ = some (.int .i64 ino) := cell_of_block HK1.out 6
    have k3 : V1.cell? ⟨kb, 7, none⟩ = some (.complex .f64 0 4607182418800017408) := cell_of_block HK1.out 7
    have HBF : Hid (¬ F V1.heap.size) := fun hf => by have := HFl.out _ hf; have := HW1.out.size; omega
    clear hzb
    go_wp2_with (refine wpList_store_block rfl 68 (.tmp 7) (.tmp 13) rfl V1.heap.size #[.int .i64 1, .int .i64 1, .int .i64 ino, .complex .f64 0 4607182418800017408] rfl rfl _ 68 HZb.out rfl infoNum (by simp [Value.oneCell']) ?_; intro wB hgB hnB hzB; have HGB := hid hgB; have HBn := hid hnB; clear hgB hnB hzB)
    have hbB : Below V1.heap.size V1 wB := by
      have h0 : Below V1.heap.size V1 (V1.alloc (.cells #[.int .i64 0, .int .i64 0, .int .i64 0, .complex .f64 0 0] 68)) := (Below.refl _ V1).alloc (Nat.le_refl _) _
      exact h0.grown HGB.out h0.size (fun i e => by cases e; exact Nat.le_refl _)
    have HbB := hid hbB
    have hdr := (Below.refl wB.heap.size wB).drew
    have HBi := hid (abits_any ((HM1.out.below hbB).below hdr) HmF.out 1 1 ino 0 4607182418800017408 (by omega) (by omega) HP1.out (hbB.trans (hdr.mono hbB.size)))
    have HCk : Hid (∀ W, Keeps F wB W → W.cell? ⟨V1.heap.size, 0, none⟩ = some (.int .i64 1) ∧ W.cell? ⟨V1.heap.size, 1, none⟩ = some (.int .i64 1) ∧ W.cell? ⟨V1.heap.size, 2, none⟩ = some (.int .i64 ino) ∧ W.cell? ⟨V1.heap.size, 3, none⟩ = some (.complex .f64 0 4607182418800017408)) := fun W hW => by
      have hw := hW.heap HBn.out HBF.out
      exact ⟨cell_of_block hw 0, cell_of_block hw 1, cell_of_block hw 2, cell_of_block hw 3⟩
    have hS0 := HCk.out _ (Keeps.refl _ _)
    clear hbB hdr k0 k1 k2 k3 HGB HZb
    refine wp_region_noPanic ?_
    refine wp_region_held_drew (S := fun W => W.cell? ⟨V1.heap.size, 0, none⟩ = some (.int .i64 1) ∧ W.cell? ⟨V1.heap.size, 1, none⟩ = some (.int .i64 1) ∧ W.cell? ⟨V1.heap.size, 2, none⟩ = some (.int .i64 ino) ∧ W.cell? ⟨V1.heap.size, 3, none⟩ = some (.complex .f64 0 4607182418800017408)) (by kernel_rfl) hS0 (fun hHeld => ?_)
    refine wpAnyH_take (i := 0) (v := ?_) rfl (by kernel_rfl) (by kernel_rfl) (by kernel_rfl) (fun _ _ _ h => h) (Or.inl ⟨by rfl, ?_⟩) (by assumption) ?_
    rotate_left
    · (intro W hSw; (try dsimp only at hSw); obtain ⟨s0, s1, s2, s3⟩ := hSw; go_simp; try with_reducible rfl)
    try simp only [List.getElem_toArray, List.getElem_cons_zero, Act.put, List.setIfInBounds_toArray, List.set_cons_zero, List.set_cons_succ]
    refine wpAnyH_take (i := 1) (v := ?_) rfl (by kernel_rfl) (by kernel_rfl) (by kernel_rfl) (fun _ _ _ h => h) (Or.inl ⟨by rfl, ?_⟩) (by assumption) ?_
    rotate_left
    · (intro W hSw; (try dsimp only at hSw); obtain ⟨s0, s1, s2, s3⟩ := hSw; go_simp; try with_reducible rfl)
    try simp only [List.getElem_toArray, List.getElem_cons_succ, List.getElem_cons_zero, Act.put, List.setIfInBounds_toArray, List.set_cons_zero, List.set_cons_succ]
    refine wpAnyH_take (i := 2) (v := ?_) rfl (by kernel_rfl) (by kernel_rfl) (by kernel_rfl) (fun _ _ _ h => h) (Or.inl ⟨by rfl, ?_⟩) (by assumption) ?_
    rotate_left
    · (intro W hSw; (try dsimp only at hSw); obtain ⟨s0, s1, s2, s3⟩ := hSw; go_simp; try with_reducible rfl)
    try simp only [List.getElem_toArray, List.getElem_cons_succ, List.getElem_cons_zero, Act.put, List.setIfInBounds_toArray, List.set_cons_zero, List.set_cons_succ]
    refine wpAnyH_ready (rs := [3]) (by kernel_rfl) (by simp) (AllReadyH.cons rfl (fun K hK => ?_) AllReadyH.nil)
    rw [if_pos (by rfl)]
    go_simp
    refine HBi.out.mono ?_
    clear HBi
    rintro e w1 ⟨g, cap, rfl, hcap, hg, hrow, hK1, hW1⟩
    have HRow := hid hrow
    have HW1 := hid hW1
    have HKB : Hid (Keeps F wB w1) := ((Keeps.refl F wB).drew).trans hK1 (fun i e => .inl e)
    have hg' : wB.heap.size ≤ g := hg
    have hz := HCk.out w1 HKB.out
    clear hrow hK1 hW1 hg hS0
    go_wp2_with fail
    refine hK.out _ _ hz (fun hHeld => ?_)
    clear hK K
    try simp only [List.getElem_toArray, List.getElem_cons_succ, List.getElem_cons_zero, Act.put, List.setIfInBounds_toArray, List.set_cons_zero, List.set_cons_succ]
    refine wpAnyH_ready (rs := [4]) (by kernel_rfl) (by simp) (AllReadyH.cons rfl (fun K hK => ?_) AllReadyH.nil)
    rw [if_pos (by rfl)]
    go_simp
    refine (afree_any 1 1 ino 0 4607182418800017408 g cap w1).mono ?_
    rintro e wD ⟨rfl, hD⟩
    have hbD : Below w1.heap.size w1 wD := by rw [hD]; exact ((Below.refl _ w1).alloc (Nat.le_refl _) _).alloc (by simp) _
    have hsD : wD.heap.size = w1.heap.size + 2 := by rw [hD]; simp
    have x1 : wD.heap[w1.heap.size]? = some (.cells #[.int .i64 1, .int .i64 1, .int .i64 ino, .complex .f64 0 4607182418800017408] 68 (0, 0)) := by
      rw [hD]; exact block_alloc (block_new w1 _) _
    have x2 : wD.heap[w1.heap.size + 1]? = some (.cells #[.slice (some ⟨g, 0, none⟩) 512 cap] 57 (0, 0)) := by
      have := block_new (w1.alloc (.cells #[.int .i64 1, .int .i64 1, .int .i64 ino, .complex .f64 0 4607182418800017408] 68)) (.cells #[.slice (some ⟨g, 0, none⟩) 512 cap] 57)
      rw [World.size_alloc] at this
      rw [hD]; exact this
    have HX1 := hid x1
    have HX2 := hid x2
    have HsD := hid hsD
    have HKD : Hid (Keeps F wB wD) := HKB.out.trans (Keeps.of_below hbD : Keeps (fun _ => False) w1 wD) (fun i e => e.elim)
    have HRD := hid (HRow.out.below hbD)
    have HVD : Hid (Keeps F V1 wD) := (Keeps.of_below HbB.out).trans HKD.out (fun i e => .inl e)
    have HSS : Hid (cplB wD w.heap.size (fN P1) (fN I0)) := HVD.out.heap HS1.out (fun hf => Nat.lt_irrefl _ (HFl.out _ hf))
    have HBnD : Hid (wD.heap[V1.heap.size]? = some (.cells #[.int .i64 1, .int .i64 1, .int .i64 ino, .complex .f64 0 4607182418800017408] 68 (0, 0))) := HKD.out.heap HBn.out HBF.out
    have HPD : Hid (Pc wD c F size N Pg Cm D o (u + 1 + 1)) := HW1.out wD ((Keeps.of_below hbD).trans (Keeps.refl (fun i => V1.heap.size ≤ i) _) (fun i e => .inl e))
    have HgD : Hid (g < wD.heap.size ∧ V1.heap.size < wD.heap.size ∧ w.heap.size < V1.heap.size ∧ V1.heap.size < w1.heap.size) := ⟨HRD.out.lt, lt_of_heap HBnD.out, lt_of_heap HS1.out, Nat.lt_of_lt_of_le (lt_of_heap HBn.out) HKB.out.size⟩
    have HkbD := hid (HVD.out.heap HK1.out HkF.out)
    have HmD : Hid (mapB wD m c ino) := HM1.out.keep HVD.out HmF.out
    have hz4 := HCk.out wD HKD.out
    clear hD hbD hsD x1 x2 hz
    go_wp2_with fail
    refine hK.out _ _ hz4 (fun hHeld => ?_)
    clear hK K
    try simp only [List.getElem_toArray, List.getElem_cons_succ, List.getElem_cons_zero, Act.put, List.setIfInBounds_toArray, List.set_cons_zero, List.set_cons_succ]
    refine wpAnyH_done (by kernel_rfl) ?_ _
    refine NoPanic.normal ?_
    clear hHeld hz4 HCk HKB HRow HW1 HBF
    go_wp2
    refine (wpIn_wide (n := 8)).1 ?_
    have HSt1 := hid (afree_stops 7 (by omega) (w1.heap.size + 1) w1.heap.size g cap 1 ino (fun i => i = w.heap.size ∨ wD.heap.size ≤ i) (Pg 1) HL2.out (by omega) wD (by have := HsD.out; have := HgD.out; omega) (by have := HsD.out; have := HgD.out; omega) (by have := HgD.out; have := HbB.out.size; omega) (cell_of_block HX2.out 0) (cell_of_block HX1.out 1) (cell_of_block HX1.out 2) HRD.out.1)
    refine wpIn_rangeFunc_ownG rfl (by omega) (gf := 93) (lb := #[.pointer (some ⟨w1.heap.size + 1, 0, none⟩), .pointer (some ⟨w1.heap.size, 0, none⟩)]) rfl trivial (enters_of Tryz.func93 (by kernel_rfl) rfl)
      HSt1.out keepsK_t (keepsK_b (fun i h => .inr h)) (Below.refl _ _) (fun _ => rfl)
      (fun pre W => Hid (cplB W w.heap.size (fN P1) (fN (I0 + pre.length))) ∧ Hid (Keeps (fun i => i = w.heap.size) wD W))
      (fun _ _ _ => False)
      (fun s A B row hs hgr hr => ⟨grown_block hgr hs.1.out (fun e => by have := (hr _ e).1; have := HgD.out; omega), hs.2.out.grown hgr (fun i e => .inr (hr i e).1)⟩)
      (fun _ _ _ _ _ hs _ _ => hs)
      ⟨HSS, Keeps.refl _ _⟩
      (fun xx : Fin 4096 => { tmps := #[.pointer (some ⟨m, 0, none⟩), .slice (some ⟨kb, 0, none⟩) 2 2, undef, undef, .complex .f64 0 0, .pointer (some ⟨w.heap.size, 0, none⟩), undef, .pointer (some ⟨V1.heap.size, 0, none⟩), .slice (some ⟨kb, 0, none⟩) 2 2, .int .i64 2, .int .i64 1, .bool true, .pointer (some ⟨kb, 4, none⟩), .agg #[.int .i64 1, .int .i64 1, .int .i64 ino, .complex .f64 0 4607182418800017408], .agg #[.int .i64 1, .int .i64 1, .int .i64 ino, .complex .f64 0 4607182418800017408], .pointer (some ⟨m, 0, none⟩), .agg #[.int .i64 1, .int .i64 1, .int .i64 ino, .complex .f64 0 4607182418800017408], .slice (some ⟨g, 0, none⟩) 512 cap, .func (.func 93) #[] #[.pointer (some ⟨w1.heap.size + 1, 0, none⟩), .pointer (some ⟨w1.heap.size, 0, none⟩)], .int .i64 ((xx.val : Nat) : Int), undef, undef, undef, undef, .int .i64 1, undef], defers := [] }) ?assign1 ?body1 ?done1 ?stop1
    case assign1 =>
      intro l xx W K hK
      gi_wp2
      simpa using hK
    case stop1 =>
      rintro D cd pre W hD hpre hX hK
      exact hX.elim
    case body1 =>
      rintro l pre xx W ⟨hS, hKW⟩ hlt
      have hgD := HgD.out
      have c5 : W.cell? ⟨w.heap.size, 0, none⟩ = some (.complex .f64 (fN P1) (fN (I0 + pre.length))) := cell_of_block hS.out 0
      have g5 : W.frozen? ⟨w.heap.size, 0, none⟩ = false := frozen_of_block hS.out 0
      have hb7 := hKW.out.heap HBnD.out (show ¬ V1.heap.size = w.heap.size by omega)
      have c7 : W.cell? ⟨V1.heap.size, 3, none⟩ = some (.complex .f64 0 4607182418800017408) := cell_of_block hb7 3
      have hadd : ∀ W2, (binOp .add 66 (.complex .f64 (fN P1) (fN (I0 + pre.length))) (.complex .f64 0 4607182418800017408)).run Tryz.prog W2 = .ok (.complex .f64 (fN P1) (fN (I0 + pre.length + 1))) W2 := fun W2 => run_cadd W2 (fN_same _ (by have := HP00.out; have := HE0.out; omega)) (fN_add _ (by have := HI00.out; omega))
      have HE : Hid (cplB (W.setCell ⟨w.heap.size, 0, none⟩ (.complex .f64 (fN P1) (fN (I0 + pre.length + 1)))) w.heap.size (fN P1) (fN (I0 + pre.length + 1)) ∧ Keeps (fun i => i = w.heap.size) W (W.setCell ⟨w.heap.size, 0, none⟩ (.complex .f64 (fN P1) (fN (I0 + pre.length + 1))))) := ⟨block_setCell hS.out 0 _, (Keeps.refl _ _).grown (grown_setCell (grown_refl _ _) _ _) (fun i e => .inl (Option.some.inj e).symm)⟩
      clear hb7 hgD
      gi_wp2
      have hlen : (pre ++ [xx]).length = pre.length + 1 := by simp
      refine ⟨⟨HE.out.2.size, fun i ob hi ho _ => HE.out.2.heap ho (by have := HgD.out; omega)⟩, HE.out.2.mono (fun i e => .inl e), ?_, hKW.out.trans HE.out.2 (fun i e => .inl e)⟩
      rw [hlen]
      exact HE.out.1
    case done1 =>
      rintro D1 ys V2 hD1 hys ⟨hS, hKW⟩ hKd
      have hyl : ys.length = p2.length := by rw [HQ2.out, ← hys, List.length_map]
      have hS2 : cplB V2 w.heap.size (fN (P1)) (fN (I0 + p2.length)) := by rw [← hyl]; exact hS.out
      obtain ⟨I1, hE1⟩ : ∃ I1, I1 = I0 + p2.length := ⟨_, rfl⟩
      rw [← hE1] at hS2
      have HE1 := hid hE1
      have HS2 := hid hS2
      clear hE1 hS2
      have HW2 : Hid (Keeps F w V2) := (HW1.out.trans HVD.out (fun i e => .inl e)).trans hKW.out (fun i e => .inr (by have e' : i = w.heap.size := e; omega))
      have HP2 : Hid (Pc V2 c F size N Pg Cm D o (u + 1 + 1)) := HPD.out.keepX HSS.out.off (fun hf => Nat.lt_irrefl _ (HFl.out _ hf)) hKW.out
      have hkne : ¬ kb = w.heap.size := fun e => by have h1 := HkbD.out; rw [e, HSS.out] at h1; simp at h1
      have hmne : ¬ m = w.heap.size := fun e => by have h1 := HmD.out; unfold mapB at h1; rw [e, HSS.out] at h1; simp at h1
      have HK2 := hid (hKW.out.heap HkbD.out hkne)
      have HM2 : Hid (mapB V2 m c ino) := HmD.out.keep hKW.out hmne
      have HDf1 := hid hKd
      have HDn1 : Hid (w.heap.size < D1) := by have := HgD.out; show w.heap.size < D1; omega
      clear HSt1 HSS HBnD HPD HkbD HmD HgD HRD HX1 HX2 HsD HKD HBn HbB hyl hkne hmne
      have HDf2 : Hid (V2.heap[D0]? = some (.deferred (some []))) := hKW.out.heap (HVD.out.heap HDf0.out (fun hf => by have := HFl.out _ hf; have := HDn0.out; omega)) (by have := HDn0.out; omega)
      have hne : D1 ≠ D0 := fun e => by have h1 := lt_of_heap HDf0.out; have := HVD.out.size; omega
      clear hS hKW hKd HVD
      go_wp2
      rw [roundsIn_succ]
      have c5 : V2.cell? ⟨w.heap.size, 0, none⟩ = some (.complex .f64 (fN P1) (fN I1)) := cell_of_block HS2.out 0
      gi_wp2
      have hg1 := grownBy_putObj' V2 D1 (.deferred none)
      have hg2 := grownBy_putObj' (V2.putObj D1 (.deferred none)) D0 (.deferred none)
      have hk : Keeps (fun i => i = D1 ∨ i = D0) V2 ((V2.putObj D1 (.deferred none)).putObj D0 (.deferred none)) := ((Keeps.refl _ _).grown hg1 (fun i e => .inl (.inl (Option.some.inj e).symm))).grown hg2 (fun i e => .inl (.inr (Option.some.inj e).symm))
      refine ⟨by simp, .inl ⟨_, _, rfl, run_takeDeferred HDf1.out, ⟨by simp, .inl ⟨_, _, rfl, run_takeDeferred (grown_block hg1 HDf2.out (fun e => hne (Option.some.inj e))), ?_⟩⟩⟩⟩
      refine ⟨_, results_tmp rfl _ _ _, ?_, HW2.out.trans hk (fun i e => .inr (by have := HDn0.out; have := HDn1.out; omega)), ?_⟩
      · have e1 : P1 = p1.length := by have h1 := HE0.out; have h2 := HP00.out; omega
        have e2 : I1 = p2.length := by have h1 := HE1.out; have h2 := HI00.out; omega
        rw [← e1, ← e2]; rfl
      · have hF1 : ¬ F D1 := fun hf => by have := HFl.out _ hf; have := HDn1.out; omega
        have hF0 : ¬ F D0 := fun hf => by have := HFl.out _ hf; have := HDn0.out; omega
        exact (HP2.out.keepX (off_deferred HDf1.out) hF1 (Keeps.of_grown hg1 (fun i e => (Option.some.inj e).symm))).keepX (off_deferred (grown_block hg1 HDf2.out (fun e => hne (Option.some.inj e)))) hF0 (Keeps.of_grown hg2 (fun i e => (Option.some.inj e).symm))
end
end Go.Proofs.YtkkmbgjlmdddoabGreat
