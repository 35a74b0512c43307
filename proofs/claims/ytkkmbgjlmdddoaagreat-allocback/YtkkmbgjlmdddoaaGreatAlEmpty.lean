/- empty: the pages of a new map. -/
import Derived.Test.YtkkmbgjlmdddoaaGreatAlMake
namespace Go.Proofs.YtkkmbgjlmdddoaaGreat
open Go.RowKit
/-- The pages ahead of First, as Make writes them; k of them in the table. -/
def empK (N ino k : Nat) : List (Nat × List UInt8) := [(0, superL N ino), (1, bitsTo 1), (2, bitsTo (3 + ino / 8))] ++ (List.range k).map (fun j => (3 + j, zN 512))
def WPg.key (p : WPg) : Nat × List UInt8 := (p.n, p.l)
/-- Pages that are made, in memory. -/
structure EmpIn (w0 w : World) (ps : List WPg) (N ino k : Nat) : Prop where
  keys : ps.map WPg.key = empK N ino k
  rows : ∀ p ∈ ps, p.l.length = 512 ∧ bytesAt w ⟨p.g, 0, none⟩ p.l ∧ w0.heap.size ≤ p.g
def psCells (ps : List WPg) : List Value := ps.flatMap WPg.cells
theorem psCells_snoc (ps : List WPg) (p : WPg) : psCells (ps ++ [p]) = psCells ps ++ [.int .i64 p.n, .slice (some ⟨p.g, 0, none⟩) 512 p.cap] := by simp [psCells, WPg.cells]
theorem psCells_at : ∀ (ps : List WPg) (i : Nat) (hi : i < ps.length), (psCells ps)[i * 2]? = some (.int .i64 ps[i].n) ∧ (psCells ps)[i * 2 + 1]? = some (.slice (some ⟨ps[i].g, 0, none⟩) 512 ps[i].cap)
  | p :: ps, 0, _ => by simp [psCells, WPg.cells]
  | p :: ps, i + 1, hi => by
    have ih := psCells_at ps i (by simpa using hi)
    have e : psCells (p :: ps) = [.int .i64 p.n, .slice (some ⟨p.g, 0, none⟩) 512 p.cap] ++ psCells ps := by simp [psCells, WPg.cells]
    rw [e]
    refine ⟨?_, ?_⟩
    · rw [show (i + 1) * 2 = i * 2 + 2 by omega, List.getElem?_append_right (by simp), show i * 2 + 2 - [Value.int .i64 p.n, .slice (some ⟨p.g, 0, none⟩) 512 p.cap].length = i * 2 by simp]
      simpa using ih.1
    · rw [show (i + 1) * 2 + 1 = i * 2 + 1 + 2 by omega, List.getElem?_append_right (by simp), show i * 2 + 1 + 2 - [Value.int .i64 p.n, .slice (some ⟨p.g, 0, none⟩) 512 p.cap].length = i * 2 + 1 by simp]
      simpa using ih.2
theorem length_psCells (ps : List WPg) : (psCells ps).length = ps.length * 2 := by
  induction ps with
  | nil => rfl
  | cons p ps ih =>
    have e : psCells (p :: ps) = [.int .i64 p.n, .slice (some ⟨p.g, 0, none⟩) 512 p.cap] ++ psCells ps := by simp [psCells, WPg.cells]
    rw [e, List.length_append, ih]; simp; omega
theorem psCells_one (ps : List WPg) : ∀ v ∈ psCells ps, v.oneCell' = true := fun v hv => by
  obtain ⟨p, -, hp⟩ := List.mem_flatMap.1 hv
  simp only [WPg.cells, List.mem_cons, List.mem_nil_iff, or_false] at hp
  rcases hp with rfl | rfl <;> rfl
theorem EmpIn.below {w0 w w' : World} {ps : List WPg} {N ino k : Nat} (h : EmpIn w0 w ps N ino k) (hb : Below w.heap.size w w') : EmpIn w0 w' ps N ino k :=
  ⟨h.keys, fun p hp => ⟨(h.rows p hp).1, fun j hj => (hb.cell (World.block_lt_of_cell? w _ ((h.rows p hp).2.1 j hj))).trans ((h.rows p hp).2.1 j hj), (h.rows p hp).2.2⟩⟩
theorem EmpIn.len {w0 w : World} {ps : List WPg} {N ino k : Nat} (h : EmpIn w0 w ps N ino k) : ps.length = 3 + k := by
  have := congrArg List.length h.keys
  simp [empK] at this
  omega
/-- A row of pages is no row of bytes. -/
theorem row_off {w : World} {lo g gp n : Nat} {v : Value} {ps : List WPg} {l : List UInt8} (h : w.ownsRow lo 85 2 v n (psCells ps)) (e : v.ownBlock = some g) (hp : 0 < ps.length) (hl : bytesAt w ⟨gp, 0, none⟩ l) (h0 : 0 < l.length) : gp ≠ g := fun hg => by
  subst hg
  rcases h.2 with ⟨rfl, -⟩ | ⟨g', cap, cur, rfl, -, hh, hn, -, hs, ht⟩
  · cases e
  · obtain rfl : g' = gp := Option.some.inj e
    have h1 := hl 0 h0
    rw [Addr.add_mid, Nat.zero_add, cell_of_block hh] at h1
    have h2 := (psCells_at ps 0 hp).1
    rw [← ht, Nat.zero_mul] at h2
    have h3 : cur.toList[0]? = some (.int .i64 ps[0].n) := by
      rw [List.getElem?_take] at h2
      split at h2
      · exact h2
      · cases h2
    rw [Array.getElem?_toList] at h3
    rw [h3] at h1
    simp at h1
section
variable {w : World} {m c ino : Nat} {F : Nat → Prop} {size N : Nat} {Pg Cm : Nat → List UInt8} {D : Int → Bool} {o u : Nat}
set_option maxRecDepth 100000 in
set_option maxHeartbeats 4000000 in
theorem aempty_any (h : mapB w m c ino) (hi : ino ≤ 512) (hp : Pc w c F size N Pg Cm D o u) :
    Calls Tryz.prog 38 #[.pointer (some ⟨m, 0, none⟩)] w fun e w' => ∃ pb cap ps, e = .returned (.slice (some ⟨pb, 0, none⟩) (3 + ino / 8) cap) ∧ w'.ownsRow w.heap.size 85 2 (.slice (some ⟨pb, 0, none⟩) (3 + ino / 8) cap) (3 + ino / 8) (psCells ps) ∧ EmpIn w w' ps N ino (ino / 8) ∧ Below w.heap.size w w' := by
  obtain ⟨i0, hi0, hz0, hz1, hz2⟩ := info_parts infoPage
  have HI0 := hid hi0
  have hN4 := hp.four
  have HPa := hid (fun W (hW : Below w.heap.size w W) => ampages_any (h.below hW) (hp.below hW))
  have HSu := hid (fun W => asuper_any N ino hN4 (by omega) W)
  have HOi := hid (fun W (hW : Below w.heap.size w W) => amofInodes_any (h.below hW))
  have HOp := hid (fun W (hW : Below w.heap.size w W) => amofPages_any (h.below hW) hi (hp.below hW))
  have HAi := hid (fun W => aalways_any 1 1 ino 0 oneF (by omega) W)
  have HAp := hid (fun W => aalways_any 2 (3 + ino / 8) N oneF 0 (by omega) W)
  have HFi := hid (fun W (hW : Below w.heap.size w W) => amFirst_any (h.below hW) hi)
  have HC : Hid (∀ W, Below w.heap.size w W → W.cell? ⟨m, 1, none⟩ = some (.int .i64 ino)) := fun W hW => cell_of_block (h.below hW) 1
  have hC0 := HC.out w (Below.refl _ _)
  obtain ⟨f, hf⟩ : ∃ f, f = ino / 8 := ⟨_, rfl⟩
  rw [← hf] at HOp HAp HFi ⊢
  have hf64 : f ≤ 64 := by omega
  have HEk : Hid (∀ k, empK N ino k = [(0, superL N ino), (1, bitsTo 1), (2, bitsTo (3 + f))] ++ (List.range k).map (fun j => (3 + j, zN 512))) := fun k => by rw [hf]; rfl
  clear h hp hf hi0 hN4
  go_enter Tryz.func38, Tryz.ntmps38
  go_wp2
  refine wp_region_noPanic ?_
  refine wp_region_held_drew (S := fun W => W.cell? ⟨m, 1, none⟩ = some (.int .i64 ino)) (by kernel_rfl) hC0 (fun hHeld => ?_)
  refine wpAnyH_take (i := 0) (v := ?_) rfl (by kernel_rfl) (by kernel_rfl) (by kernel_rfl) (fun _ _ _ h => h) (Or.inl ⟨by rfl, ?_⟩) (by assumption) ?_
  rotate_left
  · (intro W hSw; (try dsimp only at hSw); obtain s0 := hSw; go_simp; try with_reducible rfl)
  try simp only [List.getElem_toArray, List.getElem_cons_zero, Act.put, List.setIfInBounds_toArray, List.set_cons_zero, List.set_cons_succ]
  refine wpAnyH_take (i := 2) (v := ?_) rfl (by kernel_rfl) (by kernel_rfl) (by kernel_rfl) (fun _ _ _ h => h) (Or.inl ⟨by rfl, ?_⟩) (by assumption) ?_
  rotate_left
  · (intro W hSw; (try dsimp only at hSw); obtain s0 := hSw; go_simp; try with_reducible rfl)
  try simp only [List.getElem_toArray, List.getElem_cons_succ, List.getElem_cons_zero, Act.put, List.setIfInBounds_toArray, List.set_cons_zero, List.set_cons_succ]
  refine wpAnyH_take (i := 3) (v := ?_) rfl (by kernel_rfl) (by kernel_rfl) (by kernel_rfl) (fun _ _ _ h => h) (Or.inl ⟨by rfl, ?_⟩) (by assumption) ?_
  rotate_left
  · (intro W hSw; (try dsimp only at hSw); obtain s0 := hSw; go_simp; try with_reducible rfl)
  try simp only [List.getElem_toArray, List.getElem_cons_succ, List.getElem_cons_zero, Act.put, List.setIfInBounds_toArray, List.set_cons_zero, List.set_cons_succ]
  refine wpAnyH_take (i := 4) (v := ?_) rfl (by kernel_rfl) (by kernel_rfl) (by kernel_rfl) (fun _ _ _ h => h) (Or.inl ⟨by rfl, ?_⟩) (by assumption) ?_
  rotate_left
  · (intro W hSw; (try dsimp only at hSw); obtain s0 := hSw; go_simp; try with_reducible rfl)
  try simp only [List.getElem_toArray, List.getElem_cons_succ, List.getElem_cons_zero, Act.put, List.setIfInBounds_toArray, List.set_cons_zero, List.set_cons_succ]
  refine wpAnyH_take (i := 5) (v := ?_) rfl (by kernel_rfl) (by kernel_rfl) (by kernel_rfl) (fun _ _ _ h => h) (Or.inl ⟨by rfl, ?_⟩) (by assumption) ?_
  rotate_left
  · (intro W hSw; (try dsimp only at hSw); obtain s0 := hSw; go_simp; try with_reducible rfl)
  try simp only [List.getElem_toArray, List.getElem_cons_succ, List.getElem_cons_zero, Act.put, List.setIfInBounds_toArray, List.set_cons_zero, List.set_cons_succ]
  refine wpAnyH_take (i := 8) (v := ?_) rfl (by kernel_rfl) (by kernel_rfl) (by kernel_rfl) (fun _ _ _ h => h) (Or.inl ⟨by rfl, ?_⟩) (by assumption) ?_
  rotate_left
  · (intro W hSw; (try dsimp only at hSw); obtain s0 := hSw; go_simp; try with_reducible rfl)
  try simp only [List.getElem_toArray, List.getElem_cons_succ, List.getElem_cons_zero, Act.put, List.setIfInBounds_toArray, List.set_cons_zero, List.set_cons_succ]
  refine wpAnyH_take (i := 12) (v := ?_) rfl (by kernel_rfl) (by kernel_rfl) (by kernel_rfl) (fun _ _ _ h => h) (Or.inl ⟨by rfl, ?_⟩) (by assumption) ?_
  rotate_left
  · (intro W hSw; (try dsimp only at hSw); obtain s0 := hSw; go_simp; try with_reducible rfl)
  try simp only [List.getElem_toArray, List.getElem_cons_succ, List.getElem_cons_zero, Act.put, List.setIfInBounds_toArray, List.set_cons_zero, List.set_cons_succ]
  refine wpAnyH_ready (rs := [1]) (by kernel_rfl) (by simp) (AllReadyH.cons rfl (fun K hK => ?_) AllReadyH.nil)
  rw [if_pos (by rfl)]
  go_simp
  refine (HPa.out w.drew ((Below.refl _ w).drew)).mono ?_
  rintro e w1 ⟨rfl, hb1⟩
  have HB1 : Hid (Below w.heap.size w w1) := (Below.refl _ w).drew.trans (hb1.mono (Nat.le_refl _))
  have hz := HC.out w1 HB1.out
  clear hb1 hC0
  go_wp2_with fail
  refine hK.out _ _ hz (fun hHeld => ?_)
  clear hK K
  try simp only [List.getElem_toArray, List.getElem_cons_succ, List.getElem_cons_zero, Act.put, List.setIfInBounds_toArray, List.set_cons_zero, List.set_cons_succ]
  refine wpAnyH_ready (rs := [6]) (by kernel_rfl) (by simp) (AllReadyH.cons rfl (fun K hK => ?_) AllReadyH.nil)
  rw [if_pos (by rfl)]
  go_simp
  refine (HSu.out w1).mono ?_
  rintro e w2 ⟨rfl, hs2, hb2⟩
  have HB2 := hid (HB1.out.trans (hb2.mono HB1.out.size))
  have HS2 := hid hs2
  have Hn1 := hid HB1.out.size
  obtain ⟨g0, hg0⟩ : ∃ g0, g0 = w1.heap.size := ⟨_, rfl⟩
  rw [← hg0] at HS2 Hn1 ⊢
  have hz2' := HC.out w2 HB2.out
  clear hb2 hs2 hg0 hz
  go_wp2_with fail
  refine hK.out _ _ hz2' (fun hHeld => ?_)
  clear hK K
  try simp only [List.getElem_toArray, List.getElem_cons_succ, List.getElem_cons_zero, Act.put, List.setIfInBounds_toArray, List.set_cons_zero, List.set_cons_succ]
  refine wpAnyH_take (i := 7) (v := ?_) rfl (by kernel_rfl) (by kernel_rfl) (by kernel_rfl) (fun _ _ _ h => h) (Or.inl ⟨by rfl, ?_⟩) (by assumption) ?_
  rotate_left
  · (intro W hSw; (try dsimp only at hSw); obtain s0 := hSw; go_simp; try with_reducible rfl)
  try simp only [List.getElem_toArray, List.getElem_cons_succ, List.getElem_cons_zero, Act.put, List.setIfInBounds_toArray, List.set_cons_zero, List.set_cons_succ]
  refine wpAnyH_ready (rs := [9]) (by kernel_rfl) (by simp) (AllReadyH.cons rfl (fun K hK => ?_) AllReadyH.nil)
  rw [if_pos (by rfl)]
  go_simp
  refine (HOi.out w2 HB2.out).mono ?_
  rintro e w3 ⟨rfl, hb3⟩
  have HB3 := hid (HB2.out.trans (hb3.mono HB2.out.size))
  have HS3 := hid (HS2.out.below hb3)
  have hz3 := HC.out w3 HB3.out
  clear hb3 hz2' HS2
  go_wp2_with fail
  refine hK.out _ _ hz3 (fun hHeld => ?_)
  clear hK K
  try simp only [List.getElem_toArray, List.getElem_cons_succ, List.getElem_cons_zero, Act.put, List.setIfInBounds_toArray, List.set_cons_zero, List.set_cons_succ]
  refine wpAnyH_ready (rs := [10]) (by kernel_rfl) (by simp) (AllReadyH.cons rfl (fun K hK => ?_) AllReadyH.nil)
  rw [if_pos (by rfl)]
  go_simp
  refine (HAi.out w3).mono ?_
  rintro e w4 ⟨g1, rfl, hg1, hr4, hb4⟩
  have HB4 := hid (HB3.out.trans (hb4.mono HB3.out.size))
  have HS4 := hid (HS3.out.below hb4)
  have HR4 := hid hr4.1
  have Hg1 : Hid (w.heap.size ≤ g1) := Nat.le_trans HB3.out.size hg1
  have hz4 := HC.out w4 HB4.out
  clear hb4 hz3 HS3 hr4 hg1
  go_wp2_with fail
  refine hK.out _ _ hz4 (fun hHeld => ?_)
  clear hK K
  try simp only [List.getElem_toArray, List.getElem_cons_succ, List.getElem_cons_zero, Act.put, List.setIfInBounds_toArray, List.set_cons_zero, List.set_cons_succ]
  refine wpAnyH_take (i := 11) (v := ?_) rfl (by kernel_rfl) (by kernel_rfl) (by kernel_rfl) (fun _ _ _ h => h) (Or.inl ⟨by rfl, ?_⟩) (by assumption) ?_
  rotate_left
  · (intro W hSw; (try dsimp only at hSw); obtain s0 := hSw; go_simp; try with_reducible rfl)
  try simp only [List.getElem_toArray, List.getElem_cons_succ, List.getElem_cons_zero, Act.put, List.setIfInBounds_toArray, List.set_cons_zero, List.set_cons_succ]
  refine wpAnyH_ready (rs := [13]) (by kernel_rfl) (by simp) (AllReadyH.cons rfl (fun K hK => ?_) AllReadyH.nil)
  rw [if_pos (by rfl)]
  go_simp
  refine (HOp.out w4 HB4.out).mono ?_
  rintro e w5 ⟨rfl, hb5⟩
  have HB5 := hid (HB4.out.trans (hb5.mono HB4.out.size))
  have HS5 := hid (HS4.out.below hb5)
  have HR5 : Hid (bytesAt w5 ⟨g1, 0, none⟩ (bitsTo 1)) := fun j hj => (hb5.cell (World.block_lt_of_cell? w4 _ (HR4.out j hj))).trans (HR4.out j hj)
  have hz5 := HC.out w5 HB5.out
  clear hb5 hz4 HS4 HR4
  go_wp2_with fail
  refine hK.out _ _ hz5 (fun hHeld => ?_)
  clear hK K
  try simp only [List.getElem_toArray, List.getElem_cons_succ, List.getElem_cons_zero, Act.put, List.setIfInBounds_toArray, List.set_cons_zero, List.set_cons_succ]
  refine wpAnyH_ready (rs := [14]) (by kernel_rfl) (by simp) (AllReadyH.cons rfl (fun K hK => ?_) AllReadyH.nil)
  rw [if_pos (by rfl)]
  go_simp
  refine (HAp.out w5).mono ?_
  rintro e w6 ⟨g2, rfl, hg2, hr6, hb6⟩
  have HB6 := hid (HB5.out.trans (hb6.mono HB5.out.size))
  have HS6 := hid (HS5.out.below hb6)
  have HR6 : Hid (bytesAt w6 ⟨g1, 0, none⟩ (bitsTo 1)) := fun j hj => (hb6.cell (World.block_lt_of_cell? w5 _ (HR5.out j hj))).trans (HR5.out j hj)
  have HT6 := hid hr6.1
  have Hg2 : Hid (w.heap.size ≤ g2) := Nat.le_trans HB5.out.size hg2
  have hz6 := HC.out w6 HB6.out
  clear hb6 hz5 HS5 HR5 hr6 hg2
  go_wp2_with fail
  refine hK.out _ _ hz6 (fun hHeld => ?_)
  clear hK K
  try simp only [List.getElem_toArray, List.getElem_cons_succ, List.getElem_cons_zero, Act.put, List.setIfInBounds_toArray, List.set_cons_zero, List.set_cons_succ]
  refine wpAnyH_take (i := 15) (v := ?_) rfl (by kernel_rfl) (by kernel_rfl) (by kernel_rfl) (fun _ _ _ h => h) (Or.inl ⟨by rfl, ?_⟩) (by assumption) ?_
  rotate_left
  · (intro W hSw; (try dsimp only at hSw); obtain s0 := hSw; go_simp; try with_reducible rfl)
  try simp only [List.getElem_toArray, List.getElem_cons_succ, List.getElem_cons_zero, Act.put, List.setIfInBounds_toArray, List.set_cons_zero, List.set_cons_succ]
  refine wpAnyH_ready (rs := [16]) (by kernel_rfl) (by simp) (AllReadyH.cons rfl (fun K hK => ?_) AllReadyH.nil)
  rw [if_pos (by rfl)]
  go_simp
  have hb7 : Below w6.heap.size w6 (w6.alloc (.cells #[.int .i64 0, .slice (some ⟨g0, 0, none⟩) 512 512, .int .i64 1, .slice (some ⟨g1, 0, none⟩) 512 512, .int .i64 2, .slice (some ⟨g2, 0, none⟩) 512 512] 85)) := (Below.refl _ w6).alloc (Nat.le_refl _) _
  have HB7 := hid (HB6.out.trans (hb7.mono HB6.out.size))
  have hz7 := HC.out _ HB7.out
  have hn6 := HB6.out.size
  have HE7 : Hid (EmpIn w (w6.alloc (.cells #[.int .i64 0, .slice (some ⟨g0, 0, none⟩) 512 512, .int .i64 1, .slice (some ⟨g1, 0, none⟩) 512 512, .int .i64 2, .slice (some ⟨g2, 0, none⟩) 512 512] 85)) [⟨0, g0, 512, superL N ino⟩, ⟨1, g1, 512, bitsTo 1⟩, ⟨2, g2, 512, bitsTo (3 + f)⟩] N ino 0) := by
    refine ⟨by rw [HEk.out]; rfl, fun p hp => ?_⟩
    have hcell : ∀ (g : Nat) (l : List UInt8), bytesAt w6 ⟨g, 0, none⟩ l → bytesAt (w6.alloc (.cells #[.int .i64 0, .slice (some ⟨g0, 0, none⟩) 512 512, .int .i64 1, .slice (some ⟨g1, 0, none⟩) 512 512, .int .i64 2, .slice (some ⟨g2, 0, none⟩) 512 512] 85)) ⟨g, 0, none⟩ l := fun g l hl j hj => (hb7.cell (World.block_lt_of_cell? w6 _ (hl j hj))).trans (hl j hj)
    simp only [List.mem_cons, List.mem_nil_iff, or_false] at hp
    rcases hp with rfl | rfl | rfl
    · exact ⟨length_superL _ _, hcell _ _ HS6.out.at, Hn1.out⟩
    · exact ⟨length_bitsTo _, hcell _ _ HR6.out, Hg1.out⟩
    · exact ⟨length_bitsTo _, hcell _ _ HT6.out, Hg2.out⟩
  have HO7 : Hid ((w6.alloc (.cells #[.int .i64 0, .slice (some ⟨g0, 0, none⟩) 512 512, .int .i64 1, .slice (some ⟨g1, 0, none⟩) 512 512, .int .i64 2, .slice (some ⟨g2, 0, none⟩) 512 512] 85)).ownsRow w.heap.size 85 2 (.slice (some ⟨w6.heap.size, 0, none⟩) 3 3) 3 (psCells [⟨0, g0, 512, superL N ino⟩, ⟨1, g1, 512, bitsTo 1⟩, ⟨2, g2, 512, bitsTo (3 + f)⟩])) :=
    ⟨rfl, .inr ⟨w6.heap.size, 3, _, rfl, hn6, block_new w6 _, Nat.le_refl _, by unfold maxLen; omega, rfl, rfl⟩⟩
  clear hb7 hz6 hn6 HS6 HR6 HT6
  generalize w6.alloc (.cells #[.int .i64 0, .slice (some ⟨g0, 0, none⟩) 512 512, .int .i64 1, .slice (some ⟨g1, 0, none⟩) 512 512, .int .i64 2, .slice (some ⟨g2, 0, none⟩) 512 512] 85) = w7 at *
  generalize w6.heap.size = pb at *
  refine hK.out _ _ hz7 (fun hHeld => ?_)
  clear hK K
  try simp only [List.getElem_toArray, List.getElem_cons_succ, List.getElem_cons_zero, Act.put, List.setIfInBounds_toArray, List.set_cons_zero, List.set_cons_succ]
  refine wpAnyH_take (i := 17) (v := ?_) rfl (by kernel_rfl) (by kernel_rfl) (by kernel_rfl) (fun _ _ _ h => h) (Or.inl ⟨by rfl, ?_⟩) (by assumption) ?_
  rotate_left
  · (intro W hSw; (try dsimp only at hSw); obtain s0 := hSw; go_simp; try with_reducible rfl)
  try simp only [List.getElem_toArray, List.getElem_cons_succ, List.getElem_cons_zero, Act.put, List.setIfInBounds_toArray, List.set_cons_zero, List.set_cons_succ]
  refine wpAnyH_done (by kernel_rfl) ?_ _
  refine NoPanic.normal ?_
  clear hHeld hz7 HPa HSu HOi HOp HAi HAp
  go_wp2
  go_loopw [3, 4] (fun v i wr => ∃ (k : Nat) (ps : List WPg), k ≤ f ∧ i = .int .i64 ((3 + k : Nat) : Int) ∧ Hid (wr.ownsRow w.heap.size 85 2 v (3 + k) (psCells ps)) ∧ Hid (EmpIn w wr ps N ino k) ∧ Hid (Below w.heap.size w wr)) (fun _ i _ => 3 + f - (intOf i).toNat)
  case atStart => exact ⟨0, _, by omega, rfl, HO7, HE7, HB7⟩
  case round =>
    obtain ⟨k, ps, hk, rfl, hO, hE, hB⟩ := hrel
    clear HO7 HE7 HB7
    by_cases hlt : k < f
    · have hlt' : ((3 + k : Nat) : Int) < ((3 + f : Nat) : Int) := by omega
      have HF1 := hid (HFi.out wr hB.out)
      obtain ⟨n, hn⟩ : ∃ n, n = 3 + k := ⟨_, rfl⟩
      rw [← hn] at hlt' hO ⊢
      have HN := hid hn
      have hn67 : n ≤ 67 := by omega
      clear hn
      obtain ⟨z, hz⟩ : ∃ z, z = 3 + f := ⟨_, rfl⟩
      rw [← hz] at hlt' HF1
      clear hz
      go_wp2_with fail
      refine HF1.out.mono ?_
      clear HF1
      rintro e w8 ⟨rfl, h8⟩
      obtain rfl := h8.symm
      clear h8
      go_wp2_with fail
      refine (noughts_any wr).mono ?_
      rintro e w8 ⟨rfl, hz8, hb8⟩
      have HB8 := hid (hB.out.trans (hb8.mono hB.out.size))
      have hO8 := (Keeps.of_below hb8 : Keeps (fun _ => False) wr w8).row hO.out (fun _ _ h => h)
      have HO8 := hid hO8
      have HE8 := hid (hE.out.below hb8)
      have HZ8 := hid hz8
      have hwr := hB.out.size
      obtain ⟨gz, hgz⟩ : ∃ gz, gz = wr.heap.size := ⟨_, rfl⟩
      rw [← hgz] at HZ8 ⊢
      have hgzw : w.heap.size ≤ gz := by omega
      clear hb8 hO8 hz8 hgz hwr hO hE hB
      have hs8 := HB8.out.size
      go_wp2_with (refine wpList_append_lies _ rfl (.tmp 28) (.tmp 32) 73 rfl w.heap.size 85 i0 (.agg #[.int .i64 0, .slice none 0 0]) 2 32 Tryz.underlying73 HI0.out hz0 hz1 hz2 rfl (by omega) u3 n _ rfl (HO8.out.alloc _) ⟨w8.heap.size, 0, none⟩ 1 1 [.int .i64 n, .slice (some ⟨gz, 0, none⟩) 512 512] rfl rfl (World.news_of_block (cs := #[.int .i64 n, .slice (some ⟨gz, 0, none⟩) 512 512]) (block_new w8 _)) (by intro u hu; rcases List.mem_cons.1 hu with rfl | hu; rfl; rw [List.mem_singleton.1 hu]; rfl) (by omega) (by unfold maxLen; omega) (by omega) (by simp; omega) (w8.heap.size + 1) (by simp) ?_; intro g9 cap9 w9 hown hgr hat hlt9; have HOw := hid hown; have HGr := hid hgr; clear hown hgr hat hlt9)
      have hnn := HN.out
      have hb9 : Below w8.heap.size w8 (w8.alloc (.cells #[.int .i64 n, .slice (some ⟨gz, 0, none⟩) 512 512] 85)) := (Below.refl _ w8).alloc (Nat.le_refl _) _
      have hk9 : Keeps (fun i => u3.ownBlock = some i) w8 w9 := (Keeps.of_below hb9).grown HGr.out (fun i e => .inl e)
      have hrowpl : ∀ i, u3.ownBlock = some i → w.heap.size ≤ i := fun i e => (HO8.out.lt i e).1
      refine ⟨⟨k + 1, ps ++ [⟨n, gz, 512, zN 512⟩], by omega, by rw [hnn]; go_num, ?_, ?_, ?_⟩, by rw [hnn]; simp [intOf]; omega⟩
      · unfold Hid
        rw [psCells_snoc, show 3 + (k + 1) = n + 1 by omega]
        exact HOw.out
      · refine ⟨?_, fun p hp => ?_⟩
        · rw [List.map_append, HE8.out.keys]
          simp [empK, List.range_succ, WPg.key, hnn]
        · have hne : ∀ (gp : Nat) (l : List UInt8), l.length = 512 → bytesAt w8 ⟨gp, 0, none⟩ l → bytesAt w9 ⟨gp, 0, none⟩ l := fun gp l hl5 hl j hj => hk9.cell (hl j hj) (fun e => by
            rw [add_block] at e
            exact row_off HO8.out e (by rw [HE8.out.len]; omega) hl (by omega) rfl)
          rcases List.mem_append.1 hp with hp | hp
          · exact ⟨(HE8.out.rows p hp).1, hne _ _ (HE8.out.rows p hp).1 (HE8.out.rows p hp).2.1, (HE8.out.rows p hp).2.2⟩
          · obtain rfl : p = ⟨n, gz, 512, zN 512⟩ := by simpa using hp
            exact ⟨length_zN 512, hne _ _ (length_zN 512) HZ8.out.at, hgzw⟩
      · exact HB8.out.trans (hk9.below HB8.out.size hrowpl)
    · obtain rfl : k = f := by omega
      have HF1 := hid (HFi.out wr hB.out)
      obtain ⟨n, hn⟩ : ∃ n, n = 3 + k := ⟨_, rfl⟩
      rw [← hn] at hO HF1 ⊢
      have hge : ¬ ((n : Int) < (n : Int)) := by omega
      have HN := hid hn
      clear hn
      have hpos : 3 ≤ n := by have := HN.out; omega
      obtain ⟨pb', cap', hv⟩ : ∃ pb' cap', u3 = .slice (some ⟨pb', 0, none⟩) n cap' := by
        rcases hO.out.2 with ⟨-, h0⟩ | ⟨g, cp, cur, e, -⟩
        · omega
        · exact ⟨g, cp, e⟩
      subst hv
      go_wp2_with fail
      refine HF1.out.mono ?_
      clear HF1
      rintro e w8 ⟨rfl, h8⟩
      obtain rfl := h8.symm
      clear h8
      go_wp2
      go_ret
      rw [← HN.out]
      exact ⟨pb', cap', ps, rfl, hO.out, hE.out, hB.out⟩
end
end Go.Proofs.YtkkmbgjlmdddoaaGreat
