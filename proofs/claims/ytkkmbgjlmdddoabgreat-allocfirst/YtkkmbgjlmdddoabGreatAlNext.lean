/- nextFree. -/
import Derived.Test.YtkkmbgjlmdddoabGreatAlFree
namespace Go.Proofs.YtkkmbgjlmdddoabGreat
open Go.RowKit Go.Shelf
attribute [local go_sem] Oper.semAt_some
theorem freeTo_pre (L : List UInt8) (a z k : Nat) : ∀ d, ∃ t, freeTo L a z (k + d) = freeTo L a z k ++ t
  | 0 => ⟨[], by simp⟩
  | d + 1 => by
    obtain ⟨t, ht⟩ := freeTo_pre L a z k d
    rw [show k + (d + 1) = (k + d) + 1 by omega]
    cases h : isFree L a z (k + d) with
    | true => exact ⟨t ++ [k + d], by rw [freeTo_yes h, ht, List.append_assoc]⟩
    | false => exact ⟨t, by rw [freeTo_no h, ht]⟩
theorem freeTo_head {L : List UInt8} {a z q : Nat} (h1 : freeTo L a z q = []) (h2 : isFree L a z q = true) (hq : q < 4096) : ∃ rest, freeTo L a z 4096 = q :: rest := by
  obtain ⟨t, ht⟩ := freeTo_pre L a z (q + 1) (4096 - (q + 1))
  rw [show q + 1 + (4096 - (q + 1)) = 4096 by omega, freeTo_yes h2, h1] at ht
  exact ⟨t, ht⟩
set_option maxRecDepth 100000 in
theorem afree_any (b a z x y g cap : Nat) (w : World) : Calls Tryz.prog 64 #[numV b a z x y, .slice (some ⟨g, 0, none⟩) 512 cap] w fun e w' => e = .returned (.func (.func 93) #[] #[.pointer (some ⟨w.heap.size + 1, 0, none⟩), .pointer (some ⟨w.heap.size, 0, none⟩)]) ∧ w' = (w.alloc (.cells #[.int .i64 b, .int .i64 a, .int .i64 z, .complex .f64 x y] 68)).alloc (.cells #[.slice (some ⟨g, 0, none⟩) 512 cap] 57) := by
  unfold numV
  go_enter Tryz.func64, Tryz.ntmps64
  go_wp2
  go_ret
  exact ⟨by simp, rfl⟩
set_option maxRecDepth 100000 in
theorem afree_stops (n : Nat) (hn : 2 ≤ n) (bb kb g cap a z : Nat) (G : Nat → Prop) (L : List UInt8) (hL : L.length = 512) (hz : z ≤ 4096) (w : World) (hbn : ¬ G bb) (hkn : ¬ G kb) (hgn : ¬ G g)
    (hbb : w.cell? ⟨bb, 0, none⟩ = some (.slice (some ⟨g, 0, none⟩) 512 cap)) (hk1 : w.cell? ⟨kb, 1, none⟩ = some (.int .i64 a)) (hk2 : w.cell? ⟨kb, 2, none⟩ = some (.int .i64 z)) (hby : bytesAt w ⟨g, 0, none⟩ L) :
    SeqStopsK Fence.wide n Tryz.prog 93 #[.pointer (some ⟨bb, 0, none⟩), .pointer (some ⟨kb, 0, none⟩)] (fun x : Fin 4096 => #[Value.int .i64 ((x.val : Nat) : Int)]) (Keeps G) (fun ys => ys.map Fin.val = freeTo L a z 4096) (fun pre => ∃ q, isFree L a z q = true ∧ q < 4096 ∧ pre.map Fin.val = freeTo L a z q ++ [q]) z w := fun l J Jx W hW _ _ hY h0 => by
  have hb : Keeps (fun _ => False) w W := Keeps.of_below hW
  refine (afree1_in n hn l bb kb g cap a z G L hL hz hbn hkn hgn (fun pre W => ∃ p, p.map Fin.val = pre ∧ J p W) (fun pre W => ∃ p, p.map Fin.val = pre ∧ Jx p W) (fun pre x W1 hx hJ hl => ?_) W (hb.cell hbb (fun h => h)) (hb.cell hk1 (fun h => h)) (hb.cell hk2 (fun h => h)) (fun j hj => hb.cell (hby j hj) (fun h => h)) ⟨[], rfl, h0⟩).mono ?_
  · obtain ⟨p, rfl, hJ⟩ := hJ
    obtain ⟨fn, tmps, assign, body, hy, hR⟩ := hY p ⟨x, hx⟩ W1 hJ (by rwa [List.length_map] at hl)
    refine ⟨fn, tmps, assign, body, hy, hR.mono ?_⟩
    rintro e W' (⟨rfl, h1, h2⟩ | ⟨rfl, h1⟩)
    · exact .inl ⟨rfl, ⟨_, by rw [List.map_append]; rfl, h1⟩, h2⟩
    · exact .inr ⟨rfl, ⟨_, by rw [List.map_append]; rfl, h1⟩⟩
  · rintro e W' ⟨he, ⟨ys, rfl, p, hp, hj⟩ | ⟨pre, ⟨q, hq1, hq2, rfl⟩, p, hp, hj⟩⟩
    · exact ⟨he, .inl ⟨p, hp, hj⟩⟩
    · exact ⟨he, .inr ⟨p, ⟨q, hq1, hq2, hp⟩, hj⟩⟩
set_option maxRecDepth 100000 in
theorem results_next {w : World} {tmps : Array Value} {b1 b2 b3 : Nat} {x y z t : Value} (h1 : tmps.getD 4 undef = .pointer (some ⟨b1, 0, none⟩)) (h2 : tmps.getD 5 undef = .pointer (some ⟨b2, 0, none⟩)) (h3 : tmps.getD 6 undef = .pointer (some ⟨b3, 0, none⟩))
    (r1 : w.heap[b1]? = some (.cells #[x] 3 (0, 0))) (r2 : w.heap[b2]? = some (.cells #[y, z] 63 (0, 0))) (r3 : w.heap[b3]? = some (.cells #[t] 23 (0, 0))) :
    (results Tryz.f31 tmps).run Tryz.prog w = .ok (.tuple #[x, .agg #[y, z], t]) w := by
  have c1 : w.cell? ⟨b1, 0, none⟩ = some x := cell_of_block r1 0
  have c3 : w.cell? ⟨b3, 0, none⟩ = some t := cell_of_block r3 0
  have c2 : w.cell? ⟨b2, 0, none⟩ = some y := cell_of_block r2 0
  have c4 : w.cell? ⟨b2, 1, none⟩ = some z := cell_of_block r2 1
  have h1' : tmps[4]?.getD undef = .pointer (some ⟨b1, 0, none⟩) := by simpa using h1
  have h2' : tmps[5]?.getD undef = .pointer (some ⟨b2, 0, none⟩) := by simpa using h2
  have h3' : tmps[6]?.getD undef = .pointer (some ⟨b3, 0, none⟩) := by simpa using h3
  simp only [results, Tryz.results31]
  simp [go_sem, h1', h2', h3', asAddr, c1, c2, c3, c4]
/-- Where the loop was left, with q. -/
structure NextX (w w1 wD : World) (g cap b q : Nat) (L : List UInt8) (W : World) : Prop where
  row : rowU W g (flipL L q)
  r1 : W.heap[w.heap.size + 1]? = some (.cells #[.int .i64 q] 3 (0, 0))
  r2 : W.heap[w.heap.size + 1 + 1]? = some (.cells #[.int .i64 b, .slice (some ⟨g, 0, none⟩) 512 cap] 63 (0, 0))
  r3 : W.heap[w.heap.size + 1 + 1 + 1]? = some (.cells #[.int .i64 0] 23 (0, 0))
  keep : Keeps (fun i => i = g ∨ i = w.heap.size + 1 ∨ i = w.heap.size + 1 + 1 ∨ i = w.heap.size + 1 + 1 + 1) wD W
theorem NextX.own {w w1 wD A B : World} {g cap b q : Nat} {L : List UInt8} {row : Option Nat} (h : NextX w w1 wD g cap b q L A) (hw : w.heap.size + 1 + 1 + 1 < wD.heap.size) (hg : g < wD.heap.size) (hgr : A.grownBy B row) (hr : ∀ r, row = some r → wD.heap.size ≤ r) : NextX w w1 wD g cap b q L B := by
  have hne : ∀ i, i < wD.heap.size → row ≠ some i := fun i hi e => by have := hr i e; omega
  exact ⟨h.row.keep (Keeps.of_grown hgr (F := fun i => row = some i) (fun i e => e)) (hne g hg), grown_block hgr h.r1 (hne _ (by omega)), grown_block hgr h.r2 (hne _ (by omega)), grown_block hgr h.r3 (hne _ (by omega)), h.keep.grown hgr (fun i e => .inr (hr i e))⟩
theorem next_end {w w1 wD W W2 : World} {g cap b q : Nat} {L : List UInt8} (hw : w.heap.size + 1 + 1 + 1 < wD.heap.size) (hgw : w.heap.size + 1 + 1 + 1 < g) (hg : g < wD.heap.size) (hk : Keeps (fun i => i = g) W W2) (hkD : Keeps (fun i => i = g) wD W2) (hr : rowU W2 g (flipL L q))
    (v1 : W2.heap[w.heap.size + 1]? = some (.cells #[.int .i64 0] 3 (0, 0))) (v2 : W2.heap[w.heap.size + 1 + 1]? = some (.cells #[.int .i64 0, .slice none 0 0] 63 (0, 0))) (v3 : W2.heap[w.heap.size + 1 + 1 + 1]? = some (.cells #[.int .i64 0] 23 (0, 0))) :
    KeepsFrom wD.heap.size W ((((W2.setCell ⟨w.heap.size + 1, 0, none⟩ (.int .i64 (q : Int))).setCell ⟨w.heap.size + 1 + 1, 0, none⟩ (.int .i64 b)).setCell ⟨w.heap.size + 1 + 1, 1, none⟩ (.slice (some ⟨g, 0, none⟩) 512 cap)).setCell ⟨w.heap.size + 1 + 1 + 1, 0, none⟩ (.int .i64 0)).drew ∧
    NextX w w1 wD g cap b q L ((((W2.setCell ⟨w.heap.size + 1, 0, none⟩ (.int .i64 (q : Int))).setCell ⟨w.heap.size + 1 + 1, 0, none⟩ (.int .i64 b)).setCell ⟨w.heap.size + 1 + 1, 1, none⟩ (.slice (some ⟨g, 0, none⟩) 512 cap)).setCell ⟨w.heap.size + 1 + 1 + 1, 0, none⟩ (.int .i64 0)).drew := by
  have k4 : Keeps (fun i => i = w.heap.size + 1 ∨ i = w.heap.size + 1 + 1 ∨ i = w.heap.size + 1 + 1 + 1) W2 ((((W2.setCell ⟨w.heap.size + 1, 0, none⟩ (.int .i64 (q : Int))).setCell ⟨w.heap.size + 1 + 1, 0, none⟩ (.int .i64 b)).setCell ⟨w.heap.size + 1 + 1, 1, none⟩ (.slice (some ⟨g, 0, none⟩) 512 cap)).setCell ⟨w.heap.size + 1 + 1 + 1, 0, none⟩ (.int .i64 0)).drew :=
    (((((Keeps.refl _ W2).grown (grown_setCell (grown_refl _ _) _ _) (fun i e => .inl (.inl (Option.some.inj e).symm))).grown (grown_setCell (grown_refl _ _) _ _) (fun i e => .inl (.inr (.inl (Option.some.inj e).symm)))).grown (grown_setCell (grown_refl _ _) _ _) (fun i e => .inl (.inr (.inl (Option.some.inj e).symm)))).grown (grown_setCell (grown_refl _ _) _ _) (fun i e => .inl (.inr (.inr (Option.some.inj e).symm)))).drew
  have hr4 := hr.keep k4 (by omega)
  refine ⟨⟨Nat.le_trans hk.size k4.size, fun i ob hi ho _ => k4.heap (hk.heap ho (by omega)) (by omega)⟩, hr4, ?_, ?_, ?_, ?_⟩
  · refine (block_setCell_other _ _ (by omega)).trans ((block_setCell_other _ _ (by omega)).trans ((block_setCell_other _ _ (by omega)).trans (block_setCell v1 0 _)))
  · refine (block_setCell_other _ _ (by omega)).trans ?_
    have h1 := (block_setCell_other (w := W2) (b := w.heap.size + 1) (k := w.heap.size + 1 + 1) 0 (.int .i64 (q : Int)) (by omega)).trans v2
    exact block_setCell (block_setCell h1 0 (.int .i64 b)) 1 _
  · have h1 := (block_setCell_other (w := W2) (b := w.heap.size + 1) (k := w.heap.size + 1 + 1 + 1) 0 (.int .i64 (q : Int)) (by omega)).trans v3
    have h2 := (block_setCell_other (w := W2.setCell ⟨w.heap.size + 1, 0, none⟩ (.int .i64 (q : Int))) (b := w.heap.size + 1 + 1) (k := w.heap.size + 1 + 1 + 1) 0 (.int .i64 b) (by omega)).trans h1
    have h3 := (block_setCell_other (w := (W2.setCell ⟨w.heap.size + 1, 0, none⟩ (.int .i64 (q : Int))).setCell ⟨w.heap.size + 1 + 1, 0, none⟩ (.int .i64 b)) (b := w.heap.size + 1 + 1) (k := w.heap.size + 1 + 1 + 1) 1 (.slice (some ⟨g, 0, none⟩) 512 cap) (by omega)).trans h2
    exact block_setCell h3 0 _
  · exact (hkD.mono (G := fun i => i = g ∨ i = w.heap.size + 1 ∨ i = w.heap.size + 1 + 1 ∨ i = w.heap.size + 1 + 1 + 1) (fun i e => .inl e)).trans k4 (fun i e => .inl (.inr e))
section
variable {w : World} {m c ino : Nat} {F : Nat → Prop} {size N : Nat} {Pg Cm : Nat → List UInt8} {D : Int → Bool} {o u : Nat}
/-- What nextFree tells. -/
def NextTo (w : World) (c : Nat) (F : Nat → Prop) (size N : Nat) (Pg Cm : Nat → List UInt8) (D : Int → Bool) (o u b a z : Nat) (e : Ending) (w' : World) : Prop :=
  Keeps F w w' ∧ Pc w' c F size N Pg Cm D o (u + 1) ∧ ((freeTo (Pg b) a z 4096 = [] ∧ e = .returned (.tuple #[.int .i64 0, .agg #[.int .i64 0, .slice none 0 0], .int .i64 7])) ∨
    ∃ q rest g cap, freeTo (Pg b) a z 4096 = q :: rest ∧ q < 4096 ∧ e = .returned (.tuple #[.int .i64 (q : Nat), .agg #[.int .i64 b, .slice (some ⟨g, 0, none⟩) 512 cap], .int .i64 0]) ∧ w.heap.size ≤ g ∧ bytesAt w' ⟨g, 0, none⟩ (flipL (Pg b) q))
set_option maxRecDepth 100000 in
set_option maxHeartbeats 4000000 in
theorem anext_any (h : mapB w m c ino) (hmF : ¬ F m) (b a z x y : Nat) (hb : b < N) (hz : z ≤ 4096) (hu : u < 1000000) (hp : Pc w c F size N Pg Cm D o u) :
    Calls Tryz.prog 31 #[.pointer (some ⟨m, 0, none⟩), numV b a z x y] w (NextTo w c F size N Pg Cm D o u b a z) := by
  refine (callsIn_wide (n := 8)).1 ?_
  obtain ⟨wA, hA⟩ : ∃ wA, wA = (((w.alloc (.cells #[.int .i64 b, .int .i64 a, .int .i64 z, .complex .f64 x y] 68)).alloc (.cells #[.int .i64 0] 3)).alloc (.cells #[.int .i64 0, .slice none 0 0] 63)).alloc (.cells #[.int .i64 0] 23) := ⟨_, rfl⟩
  have hA0 : wA.heap[w.heap.size]? = some (.cells #[.int .i64 b, .int .i64 a, .int .i64 z, .complex .f64 x y] 68 (0, 0)) := by rw [hA]; exact block_alloc (block_alloc (block_alloc (block_new w _) _) _) _
  have hA1 : wA.heap[w.heap.size + 1]? = some (.cells #[.int .i64 0] 3 (0, 0)) := by
    have h1 := block_new (w.alloc (.cells #[.int .i64 b, .int .i64 a, .int .i64 z, .complex .f64 x y] 68)) (.cells #[.int .i64 0] 3)
    rw [World.size_alloc] at h1
    rw [hA]; exact block_alloc (block_alloc h1 _) _
  have hA2 : wA.heap[w.heap.size + 1 + 1]? = some (.cells #[.int .i64 0, .slice none 0 0] 63 (0, 0)) := by
    have h1 := block_new ((w.alloc (.cells #[.int .i64 b, .int .i64 a, .int .i64 z, .complex .f64 x y] 68)).alloc (.cells #[.int .i64 0] 3)) (.cells #[.int .i64 0, .slice none 0 0] 63)
    rw [World.size_alloc, World.size_alloc] at h1
    rw [hA]; exact block_alloc h1 _
  have hA3 : wA.heap[w.heap.size + 1 + 1 + 1]? = some (.cells #[.int .i64 0] 23 (0, 0)) := by
    have h1 := block_new (((w.alloc (.cells #[.int .i64 b, .int .i64 a, .int .i64 z, .complex .f64 x y] 68)).alloc (.cells #[.int .i64 0] 3)).alloc (.cells #[.int .i64 0, .slice none 0 0] 63)) (.cells #[.int .i64 0] 23)
    rw [World.size_alloc, World.size_alloc, World.size_alloc] at h1
    rw [hA]; exact h1
  have hAs : wA.heap.size = w.heap.size + 4 := by rw [hA]; simp
  have hAB : Below w.heap.size w wA := by rw [hA]; exact ((((Below.refl _ w).alloc (Nat.le_refl _) _).alloc (by simp) _).alloc (by simp; omega) _).alloc (by simp; omega) _
  have HBi := hid (abits_any (h.below hAB) hmF b a z x y hb hu hp hAB)
  have hlen := hp.len b hb
  have HFl := hid hp.lt
  have HA0 := hid hA0
  have HA1 := hid hA1
  have HA2 := hid hA2
  have HA3 := hid hA3
  have HAs := hid hAs
  have HAB := hid hAB
  have HLen := hid hlen
  clear hA0 hA1 hA2 hA3 hAs hAB h hp hlen
  refine callsIn_of_wp_marks Tryz.func31 rfl trivial ?_ rfl
  simp only [Tryz.ntmps31, List.size_toArray, List.length_cons, List.length_nil, Nat.reduceAdd, Nat.reduceSub, Array.replicate_succ, Array.replicate_zero, List.push_toArray, List.append_toArray, List.nil_append, List.cons_append]
  have hf1 : Fence.wide.fn 63 := trivial
  have hf2 : Fence.wide.fn 64 := trivial
  have hf3 : Fence.wide.fn 65 := trivial
  unfold numV
  gi_wp2
  rw [← hA]
  clear hA
  refine (callsIn_wide.2 HBi.out).mono ?_
  clear HBi
  rintro e w1 ⟨g, cap, rfl, hcap, hg, hrow, hK1, hW1⟩
  have HRow := hid hrow
  have HK1 := hid hK1
  have HW1 := hid hW1
  have hs1 := hK1.size
  have HB0 : Hid (w1.heap[w.heap.size]? = some (.cells #[.int .i64 b, .int .i64 a, .int .i64 z, .complex .f64 x y] 68 (0, 0))) := hK1.heap HA0.out (fun hf => Nat.lt_irrefl _ (HFl.out _ hf))
  have HB1 : Hid (w1.heap[w.heap.size + 1]? = some (.cells #[.int .i64 0] 3 (0, 0))) := hK1.heap HA1.out (fun hf => by have := HFl.out _ hf; omega)
  have HB2 : Hid (w1.heap[w.heap.size + 1 + 1]? = some (.cells #[.int .i64 0, .slice none 0 0] 63 (0, 0))) := hK1.heap HA2.out (fun hf => by have := HFl.out _ hf; omega)
  have HB3 : Hid (w1.heap[w.heap.size + 1 + 1 + 1]? = some (.cells #[.int .i64 0] 23 (0, 0))) := hK1.heap HA3.out (fun hf => by have := HFl.out _ hf; omega)
  have HSz : Hid (wA.heap.size ≤ w1.heap.size ∧ wA.heap.size ≤ g ∧ g < w1.heap.size) := ⟨hs1, hg, hrow.lt⟩
  obtain ⟨wB, hB⟩ : ∃ wB, wB = w1.alloc (.cells #[.slice (some ⟨g, 0, none⟩) 512 cap] 57) := ⟨_, rfl⟩
  have hbB := (Below.refl w1.heap.size w1).alloc (Nat.le_refl _) (.cells #[.slice (some ⟨g, 0, none⟩) 512 cap] 57)
  have hB0 := below_block hbB HB0.out (lt_of_heap HB0.out)
  have d0 := cell_of_block hB0 0
  have d1 := cell_of_block hB0 1
  have d2 := cell_of_block hB0 2
  have d3 := cell_of_block hB0 3
  have d4 : (w1.alloc (.cells #[.slice (some ⟨g, 0, none⟩) 512 cap] 57)).cell? ⟨w1.heap.size, 0, none⟩ = some (.slice (some ⟨g, 0, none⟩) 512 cap) := cell_of_block (block_new w1 _) 0
  simp only [List.getElem?_toArray, List.getElem?_cons_zero, List.getElem?_cons_succ] at d0 d1 d2 d3
  clear hrow hK1 hW1 hs1 hg HA0 HA1 HA2 HA3 hB0 hbB
  gi_wp2
  refine (callsIn_wide.2 (afree_any b a z x y g cap _)).mono ?_
  rintro e wD ⟨rfl, hD⟩
  rw [← hB] at hD
  have hsB : wB.heap.size = w1.heap.size + 1 := by rw [hB]; simp
  have hBB : Below w1.heap.size w1 wB := by rw [hB]; exact (Below.refl _ w1).alloc (Nat.le_refl _) _
  have hDB : Below wB.heap.size wB wD := by rw [hD]; exact ((Below.refl _ wB).alloc (Nat.le_refl _) _).alloc (by simp) _
  have hsD : wD.heap.size = w1.heap.size + 3 := by rw [hD]; simp [hsB]
  have h1D := hBB.trans (hDB.mono hBB.size)
  have x0 : wD.heap[w1.heap.size]? = some (.cells #[.slice (some ⟨g, 0, none⟩) 512 cap] 57 (0, 0)) := by
    have := block_new w1 (.cells #[.slice (some ⟨g, 0, none⟩) 512 cap] 57)
    rw [← hB] at this
    exact below_block hDB this (by omega)
  have x1 : wD.heap[w1.heap.size + 1]? = some (.cells #[.int .i64 b, .int .i64 a, .int .i64 z, .complex .f64 x y] 68 (0, 0)) := by
    have := block_new wB (.cells #[.int .i64 b, .int .i64 a, .int .i64 z, .complex .f64 x y] 68)
    rw [hsB] at this
    rw [hD]; exact block_alloc this _
  have x2 : wD.heap[w1.heap.size + 1 + 1]? = some (.cells #[.slice (some ⟨g, 0, none⟩) 512 cap] 57 (0, 0)) := by
    have := block_new (wB.alloc (.cells #[.int .i64 b, .int .i64 a, .int .i64 z, .complex .f64 x y] 68)) (.cells #[.slice (some ⟨g, 0, none⟩) 512 cap] 57)
    rw [World.size_alloc, hsB] at this
    rw [hD]; exact this
  have y0 := below_block h1D HB0.out (lt_of_heap HB0.out)
  have y1 := below_block h1D HB1.out (lt_of_heap HB1.out)
  have y2 := below_block h1D HB2.out (lt_of_heap HB2.out)
  have y3 := below_block h1D HB3.out (lt_of_heap HB3.out)
  have HX0 := hid x0
  have HX1 := hid x1
  have HX2 := hid x2
  have HY0 := hid y0
  have HY1 := hid y1
  have HY2 := hid y2
  have HY3 := hid y3
  have HsD := hid hsD
  have HD1 := hid h1D
  have HRD := hid (HRow.out.below h1D)
  rw [← hB, hsB]
  clear d0 d1 d2 d3 d4 hD hsB hBB hDB hsD h1D x0 x1 x2 y0 y1 y2 y3 HB0 HB1 HB2 HB3 hB wB
  gi_wp2
  have HFin : Hid (∀ V, Keeps (fun i => i = g ∨ i = w.heap.size + 1 ∨ i = w.heap.size + 1 + 1 ∨ i = w.heap.size + 1 + 1 + 1) wD V → Keeps F w V ∧ Pc V c F size N Pg Cm D o (u + 1)) := fun V hV => by
    have hge : ∀ i, (i = g ∨ i = w.heap.size + 1 ∨ i = w.heap.size + 1 + 1 ∨ i = w.heap.size + 1 + 1 + 1) → w.heap.size ≤ i := fun i hi => by have := HSz.out; have := HAs.out; omega
    have k1 : Keeps F w wD := (((Keeps.of_below HAB.out : Keeps F w wA).trans HK1.out (fun i e => .inl e)).trans (Keeps.of_below HD1.out : Keeps (fun _ => False) w1 wD) (fun i e => e.elim))
    exact ⟨k1.trans hV (fun i e => .inr (hge i e)), HW1.out V ((Keeps.of_below HD1.out).trans hV (fun i e => .inl (hge i e)))⟩
  have HSt := hid (afree_stops 7 (by omega) (w1.heap.size + 1 + 1) (w1.heap.size + 1) g cap a z (fun i => wD.heap.size ≤ i) (Pg b) HLen.out hz wD (by have := HsD.out; omega) (by have := HsD.out; omega) (by have := HsD.out; have := HSz.out; omega) (cell_of_block HX2.out 0) (cell_of_block HX1.out 1) (cell_of_block HX1.out 2) HRD.out.1)
  refine wpIn_rangeFunc_ownG rfl (by omega) (gf := 93) (lb := #[.pointer (some ⟨w1.heap.size + 1 + 1, 0, none⟩), .pointer (some ⟨w1.heap.size + 1, 0, none⟩)]) rfl trivial (enters_of Tryz.func93 (by kernel_rfl) rfl)
    HSt.out keepsK_t (keepsK_b (fun i h => h)) (Below.refl _ _) (fun _ => rfl)
    (fun pre W => pre = [] ∧ Hid (Below wD.heap.size wD W))
    (fun cd pre W => cd = .ret ∧ ∃ q : Fin 4096, pre = [q] ∧ Hid (NextX w w1 wD g cap b q.val (Pg b) W))
    (fun s A B row hs hgr hr => ⟨hs.1, hs.2.out.grown hgr hs.2.out.size (fun k e => (hr k e).1)⟩)
    (fun cd s A B row hs hgr hr => by obtain ⟨h1, q, h2, h3⟩ := hs; exact ⟨h1, q, h2, h3.out.own (by have := HsD.out; have := HSz.out; have := HAs.out; omega) (by have := HsD.out; have := HSz.out; omega) hgr (fun r e => (hr r e).1)⟩)
    ⟨rfl, Below.refl _ _⟩
    (fun q : Fin 4096 => { tmps := #[.pointer (some ⟨m, 0, none⟩), .agg #[.int .i64 b, .int .i64 a, .int .i64 z, .complex .f64 x y], undef, .pointer (some ⟨w.heap.size, 0, none⟩), .pointer (some ⟨w.heap.size + 1, 0, none⟩), .pointer (some ⟨w.heap.size + 1 + 1, 0, none⟩), .pointer (some ⟨w.heap.size + 1 + 1 + 1, 0, none⟩), .pointer (some ⟨w1.heap.size, 0, none⟩), .int .i64 ((q.val : Nat) : Int), .pointer (some ⟨m, 0, none⟩), .agg #[.int .i64 b, .int .i64 a, .int .i64 z, .complex .f64 x y], .slice (some ⟨g, 0, none⟩) 512 cap, .agg #[.int .i64 b, .int .i64 a, .int .i64 z, .complex .f64 x y], .slice (some ⟨g, 0, none⟩) 512 cap, .func (.func 93) #[] #[.pointer (some ⟨w1.heap.size + 1 + 1, 0, none⟩), .pointer (some ⟨w1.heap.size + 1, 0, none⟩)], .int .i64 ((q.val : Nat) : Int), undef, undef, undef, undef, undef, undef, undef, undef, undef], defers := [] }) ?assign ?body ?done ?stop
  case assign =>
    intro l q W K hK
    gi_wp2
    exact hK
  case body =>
    rintro l pre q W ⟨rfl, hB⟩ _
    have z0 := below_block hB.out HX0.out (lt_of_heap HX0.out)
    have c7 : W.cell? ⟨w1.heap.size, 0, none⟩ = some (.slice (some ⟨g, 0, none⟩) 512 cap) := cell_of_block z0 0
    have hf := flip_any g q.val cap (Pg b) W (HRD.out.below hB.out) HLen.out q.isLt
    have HF := hid hf
    clear z0 hf
    gi_wp2
    refine (CallsIn.inRound l (callsIn_wide.2 HF.out)).mono ?_
    clear HF
    rintro e W2 ⟨rfl, hr2, hk2⟩
    have hng : ∀ i, i < w1.heap.size → i < wA.heap.size ∨ i = w1.heap.size → i ≠ g := fun i _ hi e => by have := HSz.out; omega
    have hSz := HSz.out
    have hAs := HAs.out
    have z0 := hk2.heap (below_block hB.out HX0.out (lt_of_heap HX0.out)) (show ¬ w1.heap.size = g by omega)
    have v0 := hk2.heap (below_block hB.out HY0.out (lt_of_heap HY0.out)) (show ¬ w.heap.size = g by omega)
    have v1 := hk2.heap (below_block hB.out HY1.out (lt_of_heap HY1.out)) (show ¬ w.heap.size + 1 = g by omega)
    have v2 := hk2.heap (below_block hB.out HY2.out (lt_of_heap HY2.out)) (show ¬ w.heap.size + 1 + 1 = g by omega)
    have v3 := hk2.heap (below_block hB.out HY3.out (lt_of_heap HY3.out)) (show ¬ w.heap.size + 1 + 1 + 1 = g by omega)
    have HV1 := hid v1
    have HV2 := hid v2
    have HV3 := hid v3
    have HR2 := hid hr2
    have HKW : Hid (Keeps (fun i => i = g) wD W2) := (Keeps.of_below hB.out).trans hk2 (fun i e => .inl e)
    have HK2 := hid hk2
    have e7 : W2.cell? ⟨w1.heap.size, 0, none⟩ = some (.slice (some ⟨g, 0, none⟩) 512 cap) := cell_of_block z0 0
    have e0 : W2.cell? ⟨w.heap.size, 0, none⟩ = some (.int .i64 b) := cell_of_block v0 0
    have e1 : W2.cell? ⟨w.heap.size + 1, 0, none⟩ = some (.int .i64 0) := cell_of_block v1 0
    have e2 : W2.cell? ⟨w.heap.size + 1 + 1, 0, none⟩ = some (.int .i64 0) := cell_of_block v2 0
    have e3 : W2.cell? ⟨w.heap.size + 1 + 1, 1, none⟩ = some (.slice none 0 0) := cell_of_block v2 1
    have e4 : W2.cell? ⟨w.heap.size + 1 + 1 + 1, 0, none⟩ = some (.int .i64 0) := cell_of_block v3 0
    have f1 : W2.frozen? ⟨w.heap.size + 1, 0, none⟩ = false := frozen_of_block v1 0
    have f2 : W2.frozen? ⟨w.heap.size + 1 + 1, 0, none⟩ = false := frozen_of_block v2 0
    have f3 : W2.frozen? ⟨w.heap.size + 1 + 1, 1, none⟩ = false := frozen_of_block v2 1
    have f4 : W2.frozen? ⟨w.heap.size + 1 + 1 + 1, 0, none⟩ = false := frozen_of_block v3 0
    have n1 : ¬ w1.heap.size = w.heap.size + 1 := by omega
    have n2 : ¬ w1.heap.size = w.heap.size + 1 + 1 := by omega
    have n3 : ¬ w1.heap.size = w.heap.size + 1 + 1 + 1 := by omega
    have n1' : ¬ w.heap.size + 1 = w1.heap.size := by omega
    have n2' : ¬ w.heap.size + 1 + 1 = w1.heap.size := by omega
    have n3' : ¬ w.heap.size + 1 + 1 + 1 = w1.heap.size := by omega
    clear hng hSz hAs z0 v0 v1 v2 v3 hr2 hk2 c7
    have HE : Hid (KeepsFrom wD.heap.size W ((((W2.setCell ⟨w.heap.size + 1, 0, none⟩ (.int .i64 ((q.val : Nat) : Int))).setCell ⟨w.heap.size + 1 + 1, 0, none⟩ (.int .i64 b)).setCell ⟨w.heap.size + 1 + 1, 1, none⟩ (.slice (some ⟨g, 0, none⟩) 512 cap)).setCell ⟨w.heap.size + 1 + 1 + 1, 0, none⟩ (.int .i64 0)).drew ∧ NextX w w1 wD g cap b q.val (Pg b) ((((W2.setCell ⟨w.heap.size + 1, 0, none⟩ (.int .i64 ((q.val : Nat) : Int))).setCell ⟨w.heap.size + 1 + 1, 0, none⟩ (.int .i64 b)).setCell ⟨w.heap.size + 1 + 1, 1, none⟩ (.slice (some ⟨g, 0, none⟩) 512 cap)).setCell ⟨w.heap.size + 1 + 1 + 1, 0, none⟩ (.int .i64 0)).drew) :=
      next_end (by have := HsD.out; have := HSz.out; have := HAs.out; omega) (by have := HSz.out; have := HAs.out; omega) (by have := HsD.out; have := HSz.out; omega) HK2.out HKW.out HR2.out HV1.out HV2.out HV3.out
    clear HKW HK2 HR2 HV1 HV2 HV3
    gi_wp2
    gi_region
    all_goals (gi_wp2; exact ⟨HE.out.1, rfl, q, rfl, HE.out.2⟩)
  case done =>
    rintro D ys W hD hys ⟨rfl, hB⟩ hK
    have hfr : freeTo (Pg b) a z 4096 = [] := hys.symm
    have HFr := hid hfr
    have v1 := below_block hB.out HY1.out (lt_of_heap HY1.out)
    have v2 := below_block hB.out HY2.out (lt_of_heap HY2.out)
    have v3 := below_block hB.out HY3.out (lt_of_heap HY3.out)
    have e1 : W.cell? ⟨w.heap.size + 1, 0, none⟩ = some (.int .i64 0) := cell_of_block v1 0
    have e2 : W.cell? ⟨w.heap.size + 1 + 1, 0, none⟩ = some (.int .i64 0) := cell_of_block v2 0
    have e3 : W.cell? ⟨w.heap.size + 1 + 1, 1, none⟩ = some (.slice none 0 0) := cell_of_block v2 1
    have e4 : W.cell? ⟨w.heap.size + 1 + 1 + 1, 0, none⟩ = some (.int .i64 0) := cell_of_block v3 0
    have f1 : W.frozen? ⟨w.heap.size + 1, 0, none⟩ = false := frozen_of_block v1 0
    have f2 : W.frozen? ⟨w.heap.size + 1 + 1, 0, none⟩ = false := frozen_of_block v2 0
    have f3 : W.frozen? ⟨w.heap.size + 1 + 1, 1, none⟩ = false := frozen_of_block v2 1
    have f4 : W.frozen? ⟨w.heap.size + 1 + 1 + 1, 0, none⟩ = false := frozen_of_block v3 0
    have HV1 := hid v1
    have HV2 := hid v2
    have HV3 := hid v3
    have HKD := hid hK
    clear hys hfr v1 v2 v3 hK
    gi_wp2
    have hwD : w.heap.size + 1 + 1 + 1 < wD.heap.size := by have := HsD.out; have := HSz.out; have := HAs.out; omega
    have hK9 : ((((W.setCell ⟨w.heap.size + 1, 0, none⟩ (.int .i64 0)).setCell ⟨w.heap.size + 1 + 1, 0, none⟩ (.int .i64 0)).setCell ⟨w.heap.size + 1 + 1, 1, none⟩ (.slice none 0 0)).setCell ⟨w.heap.size + 1 + 1 + 1, 0, none⟩ (.int .i64 7)).heap[D]? = some (.deferred (some [])) :=
      (block_setCell_other _ _ (by omega)).trans ((block_setCell_other _ _ (by omega)).trans ((block_setCell_other _ _ (by omega)).trans ((block_setCell_other _ _ (by omega)).trans HKD.out)))
    have k4 : Keeps (fun i => i = g ∨ i = w.heap.size + 1 ∨ i = w.heap.size + 1 + 1 ∨ i = w.heap.size + 1 + 1 + 1) wD (((W.setCell ⟨w.heap.size + 1, 0, none⟩ (.int .i64 0)).setCell ⟨w.heap.size + 1 + 1, 0, none⟩ (.int .i64 0)).setCell ⟨w.heap.size + 1 + 1, 1, none⟩ (.slice none 0 0)) :=
      ((((Keeps.of_below hB.out).grown (grown_setCell (grown_refl _ _) _ _) (fun i e => .inl (.inr (.inl (Option.some.inj e).symm)))).grown (grown_setCell (grown_refl _ _) _ _) (fun i e => .inl (.inr (.inr (.inl (Option.some.inj e).symm))))).grown (grown_setCell (grown_refl _ _) _ _) (fun i e => .inl (.inr (.inr (.inl (Option.some.inj e).symm)))))
    have k5 : Keeps (fun i => i = g ∨ i = w.heap.size + 1 ∨ i = w.heap.size + 1 + 1 ∨ i = w.heap.size + 1 + 1 + 1) wD ((((W.setCell ⟨w.heap.size + 1, 0, none⟩ (.int .i64 0)).setCell ⟨w.heap.size + 1 + 1, 0, none⟩ (.int .i64 0)).setCell ⟨w.heap.size + 1 + 1, 1, none⟩ (.slice none 0 0)).setCell ⟨w.heap.size + 1 + 1 + 1, 0, none⟩ (.int .i64 7)) := k4.grown (grown_setCell (grown_refl _ _) _ _) (fun i e => .inl (.inr (.inr (.inr (Option.some.inj e).symm))))
    have hg9 := grownBy_putObj' ((((W.setCell ⟨w.heap.size + 1, 0, none⟩ (.int .i64 0)).setCell ⟨w.heap.size + 1 + 1, 0, none⟩ (.int .i64 0)).setCell ⟨w.heap.size + 1 + 1, 1, none⟩ (.slice none 0 0)).setCell ⟨w.heap.size + 1 + 1 + 1, 0, none⟩ (.int .i64 7)) D (.deferred none)
    have k6 := k5.grown hg9 (fun i e => .inr (by cases e; exact hD))
    have s1 : (((W.setCell ⟨w.heap.size + 1, 0, none⟩ (.int .i64 0)).setCell ⟨w.heap.size + 1 + 1, 0, none⟩ (.int .i64 0)).setCell ⟨w.heap.size + 1 + 1, 1, none⟩ (.slice none 0 0)).heap[w.heap.size + 1]? = some (.cells #[.int .i64 0] 3 (0, 0)) :=
      (block_setCell_other _ _ (by omega)).trans ((block_setCell_other _ _ (by omega)).trans (block_setCell HV1.out 0 _))
    have s2 : (((W.setCell ⟨w.heap.size + 1, 0, none⟩ (.int .i64 0)).setCell ⟨w.heap.size + 1 + 1, 0, none⟩ (.int .i64 0)).setCell ⟨w.heap.size + 1 + 1, 1, none⟩ (.slice none 0 0)).heap[w.heap.size + 1 + 1]? = some (.cells #[.int .i64 0, .slice none 0 0] 63 (0, 0)) :=
      block_setCell (block_setCell ((block_setCell_other _ _ (by omega)).trans HV2.out) 0 (.int .i64 0)) 1 _
    have s3 : (((W.setCell ⟨w.heap.size + 1, 0, none⟩ (.int .i64 0)).setCell ⟨w.heap.size + 1 + 1, 0, none⟩ (.int .i64 0)).setCell ⟨w.heap.size + 1 + 1, 1, none⟩ (.slice none 0 0)).heap[w.heap.size + 1 + 1 + 1]? = some (.cells #[.int .i64 0] 23 (0, 0)) :=
      (block_setCell_other _ _ (by omega)).trans ((block_setCell_other _ _ (by omega)).trans ((block_setCell_other _ _ (by omega)).trans HV3.out))
    refine ⟨by simp, .inl ⟨_, _, rfl, run_takeDeferred hK9, ?_⟩⟩
    refine ⟨_, results_next rfl rfl rfl (grown_block hg9 ((block_setCell_other _ _ (by omega)).trans s1) (fun e => by cases e; omega)) (grown_block hg9 ((block_setCell_other _ _ (by omega)).trans s2) (fun e => by cases e; omega)) (grown_block hg9 (block_setCell s3 0 _) (fun e => by cases e; omega)), ?_⟩
    exact ⟨(HFin.out _ k6).1, (HFin.out _ k6).2, .inl ⟨HFr.out, rfl⟩⟩
  case stop =>
    rintro D cd pre W hD hpre ⟨rfl, q, rfl, hX⟩ hK
    obtain ⟨q', hf1, hf2, hpq⟩ := hpre
    have hq : freeTo (Pg b) a z q.val = [] ∧ isFree (Pg b) a z q.val = true := by
      have h1 : freeTo (Pg b) a z q' ++ [q'] = [] ++ [q.val] := hpq.symm
      obtain ⟨h2, h3⟩ := List.append_inj' h1 rfl
      have h4 : q' = q.val := by simpa using h3
      rw [← h4]
      exact ⟨h2, hf1⟩
    obtain ⟨rest, hrest⟩ := freeTo_head hq.1 hq.2 q.isLt
    have HR := hid hrest
    have HKD := hid hK
    clear hK hpq hf1 hf2 hq hrest
    gi_wp2
    have hwD : w.heap.size + 1 + 1 + 1 < wD.heap.size := by have := HsD.out; have := HSz.out; have := HAs.out; omega
    have hg9 := grownBy_putObj' W D (.deferred none)
    have k6 := hX.out.keep.grown hg9 (fun i e => .inr (by cases e; exact hD))
    have hgD : g < wD.heap.size := by have := HsD.out; have := HSz.out; omega
    refine ⟨by simp, .inl ⟨_, _, rfl, run_takeDeferred HKD.out, ?_⟩⟩
    refine ⟨_, results_next rfl rfl rfl (grown_block hg9 hX.out.r1 (fun e => by cases e; omega)) (grown_block hg9 hX.out.r2 (fun e => by cases e; omega)) (grown_block hg9 hX.out.r3 (fun e => by cases e; omega)), ?_⟩
    exact ⟨(HFin.out _ k6).1, (HFin.out _ k6).2, .inr ⟨q.val, rest, g, cap, HR.out, q.isLt, rfl, by have := HSz.out; have := HAs.out; omega, (hX.out.row.keep (Keeps.of_grown hg9 (F := fun i => some D = some i) (fun i e => e)) (fun e => by cases e; omega)).1⟩⟩
end
end Go.Proofs.YtkkmbgjlmdddoabGreat
