/- Several of my texts in one: InDec, InTab, AlOff, AlLive, InStore, InFile, InOpen, InOpen2, InRise, InParts, InTook, InClear, InOff, InHold. -/
import Derived.Test.YthdcloaaahhnaaaGreatJoined4
import Derived.Test.YthdcloaaahhnaaaGreatJoined3
import Derived.Test.YthdcloaaahhnaaaGreatJoined2
import Derived.RangeFuncNested
import Derived.RangeFuncBound
import Derived.RangeFuncCalls
import Derived.RangeFuncLeaves
import Derived.Shelf.Abstract
import Derived.Shelf.RegionOpen
import Derived.WalkKit
import Derived.OwnWalkIn
import Derived.TacticsInMore
import Derived.LoopNIn
import Derived.LoopIn
import Derived.Scope
import Derived.BigRegionIn
/- decoded. Written by mk_indec.py. -/
namespace Go.Proofs.YthdcloaaahhnaaaGreat
open Go.RowKit
theorem wp_store_block {op : Oper} {a : Act} {w : World} {K : Act → World → Prop} {Q : Exit → Act → World → Prop} (ty : TypeId) (x y : Operand) (ho : op.op = .store ty x y)
    (b : Nat) (cs : Array Value) (hx : a.eval x = .pointer (some ⟨b, 0, none⟩)) (hy : a.eval y = .agg cs) (C : Array Value) (t : TypeId) (hb : w.heap[b]? = some (.cells C t (0, 0))) (hs : cs.size = C.size)
    (hi : (Tryz.prog.info? ty).map (·.size) = some cs.size) (h1 : cs.all (·.oneCell') = true)
    (h : ∀ w1 : World, w.grownBy w1 (some b) → w1.heap[b]? = some (.cells cs t (0, 0)) → w1.heap.size = w.heap.size → K (a.put op.dst undef) w1) : op.wp Tryz.prog a w K Q := by
  obtain ⟨i1, i2, i3, i4, i5, i6⟩ := setCells_block b cs.toList 0 w C t hb (by simp; omega)
  refine wp_store_mid ty x y ho b 0 cs hx hy (there_of_block hb 0 _ (by omega)) hi h1 (h _ ⟨i3, i4, i5, by omega, fun k _ hk => i2 k (by simpa using hk)⟩ ?_ i6)
  rw [i1]
  rw [List.drop_eq_nil_of_le (by simp; omega)]
  simp
/-- An inode in a block. -/
def nodeB (w : World) (b : Nat) (n : NodeS) : Prop := w.heap[b]? = some (.cells (nodeC n).toArray 100 (0, 0))
theorem nodeB.page {w : World} {b : Nat} {n : NodeS} (h : nodeB w b n) (j : Nat) (hj : j < n.pages.length) : w.cell? ⟨b, 4 + j, none⟩ = some (.int .i64 (n.pages[j] : Nat)) := by
  rw [cell_of_block h]
  unfold nodeC
  rw [List.getElem?_toArray, List.getElem?_append_right (by simp), List.length_cons, List.length_cons, List.length_cons, List.length_cons, List.length_nil, show 4 + j - (0 + 1 + 1 + 1 + 1) = j by omega, List.getElem?_map, List.getElem?_eq_getElem hj]
  rfl
theorem nodeB.setPage {w : World} {b : Nat} {n : NodeS} (h : nodeB w b n) (j x : Nat) : nodeB (w.setCell ⟨b, 4 + j, none⟩ (.int .i64 x)) b { n with pages := n.pages.set j x } := by
  have h1 := block_setCell h (4 + j) (.int .i64 x)
  unfold nodeB
  rw [h1, List.setIfInBounds_toArray]
  unfold nodeC
  rw [List.set_append_right _ _ (by simp)]
  simp only [List.length_cons, List.length_nil, List.map_set]
  rw [show 4 + j - (0 + 1 + 1 + 1 + 1) = j by omega]
/-- The pages, k of them read. -/
def decQ (l : List UInt8) (k : Nat) : List Nat := decP l k ++ List.replicate (11 - k) 0
theorem length_decQ (l : List UInt8) (k : Nat) (hk : k ≤ 11) : (decQ l k).length = 11 := by unfold decQ; rw [List.length_append, length_decP, List.length_replicate]; omega
theorem decQ_set (l : List UInt8) (k : Nat) (hk : k < 11) : (decQ l k).set k (numS ((l.drop (9 + 4 * k)).take 4)) = decQ l (k + 1) := by
  unfold decQ
  rw [List.set_append_right _ _ (by rw [length_decP]; omega), length_decP, Nat.sub_self, decP_succ, show 11 - k = (11 - (k + 1)) + 1 by omega, List.replicate_succ, List.set_cons_zero]
  simp
theorem length_nodeC (a b c d : Nat) (l : List UInt8) : (nodeC ⟨a, b, c, d, decQ l 11⟩).length = 15 := by
  unfold nodeC; rw [List.length_append, List.length_map, length_decQ l 11 (Nat.le_refl _)]; rfl
theorem nodeC_one (n : NodeS) : (nodeC n).toArray.all (·.oneCell') = true := by
  rw [Array.all_eq_true_iff_forall_mem]
  intro v hv
  have hv' : v ∈ nodeC n := by simpa using hv
  unfold nodeC at hv'
  simp only [List.cons_append, List.nil_append, List.mem_cons, List.mem_map] at hv'
  rcases hv' with rfl | rfl | rfl | rfl | ⟨p, _, rfl⟩ <;> rfl
set_option maxRecDepth 100000 in
theorem results_dec {w : World} {tmps : Array Value} {b : Nat} {cs : List Value} (h1 : tmps.getD 2 undef = .pointer (some ⟨b, 0, none⟩)) (r : w.heap[b]? = some (.cells cs.toArray 100 (0, 0))) (hl : cs.length = 15) :
    (results Tryz.f121 tmps).run Tryz.prog w = .ok (.agg cs.toArray) w := by
  have h1' : tmps[2]?.getD undef = .pointer (some ⟨b, 0, none⟩) := by simpa using h1
  have hr := run_loadVar_mid (P := Tryz.prog) w b 0 100 cs _ (by have := range_of_block r; exact this) Tryz.underlying100 rfl (by rw [hl]; kernel_rfl)
  simp only [results, Tryz.results121]
  simp [h1', asAddr, hr]
theorem part_in {w : World} {b o : Nat} {l : List UInt8} (h : bytesAt w ⟨b, o, none⟩ l) (p n : Nat) (hp : p + n ≤ l.length) : bytesIn w (some ⟨b, o + p, none⟩) ((l.drop p).take n) := fun _ _ => ⟨b, o + p, rfl, fun k hk => by
  have hk' : k < n := by rw [List.length_take] at hk; omega
  have h1 := h (p + k) (by omega)
  rw [Addr.add_mid] at h1
  rw [Nat.add_assoc, h1]
  simp [List.getElem_take, List.getElem_drop]⟩
theorem len_part {l : List UInt8} {p n : Nat} (h : p + n ≤ l.length) : ((l.drop p).take n).length = n := by rw [List.length_take, List.length_drop]; omega
set_option maxRecDepth 100000 in
set_option maxHeartbeats 2000000 in
theorem idec_any (b o c : Nat) (l : List UInt8) (w : World) (h : bytesAt w ⟨b, o, none⟩ l) (hl : l.length = 64) (hc : 64 ≤ c) (hc2 : c ≤ 4096) : Calls Tryz.prog 121 #[.slice (some ⟨b, o, none⟩) 64 c] w fun e w' => e = .returned (nodeV (decL l)) ∧ Below w.heap.size w w' := by
  have hba : Below w.heap.size w (w.alloc (.cells #[.int .i64 0, .int .i64 0, .int .i64 0, .int .i64 0, .int .i64 0, .int .i64 0, .int .i64 0, .int .i64 0, .int .i64 0, .int .i64 0, .int .i64 0, .int .i64 0, .int .i64 0, .int .i64 0, .int .i64 0] 100)) := (Below.refl _ w).alloc (Nat.le_refl _) _
  have hbd : Below (w.alloc (.cells #[.int .i64 0, .int .i64 0, .int .i64 0, .int .i64 0, .int .i64 0, .int .i64 0, .int .i64 0, .int .i64 0, .int .i64 0, .int .i64 0, .int .i64 0, .int .i64 0, .int .i64 0, .int .i64 0, .int .i64 0] 100)).heap.size (w.alloc (.cells #[.int .i64 0, .int .i64 0, .int .i64 0, .int .i64 0, .int .i64 0, .int .i64 0, .int .i64 0, .int .i64 0, .int .i64 0, .int .i64 0, .int .i64 0, .int .i64 0, .int .i64 0, .int .i64 0, .int .i64 0] 100)) (w.alloc (.cells #[.int .i64 0, .int .i64 0, .int .i64 0, .int .i64 0, .int .i64 0, .int .i64 0, .int .i64 0, .int .i64 0, .int .i64 0, .int .i64 0, .int .i64 0, .int .i64 0, .int .i64 0, .int .i64 0, .int .i64 0] 100)).drew := (Below.refl _ _).drew
  have hbw : Below w.heap.size w (w.alloc (.cells #[.int .i64 0, .int .i64 0, .int .i64 0, .int .i64 0, .int .i64 0, .int .i64 0, .int .i64 0, .int .i64 0, .int .i64 0, .int .i64 0, .int .i64 0, .int .i64 0, .int .i64 0, .int .i64 0, .int .i64 0] 100)).drew := hba.trans (hbd.mono hba.size)
  have hr0 := below_block hbd (block_new w (.cells #[.int .i64 0, .int .i64 0, .int .i64 0, .int .i64 0, .int .i64 0, .int .i64 0, .int .i64 0, .int .i64 0, .int .i64 0, .int .i64 0, .int .i64 0, .int .i64 0, .int .i64 0, .int .i64 0, .int .i64 0] 100)) (by simp)
  have hby : ∀ W, Below (w.alloc (.cells #[.int .i64 0, .int .i64 0, .int .i64 0, .int .i64 0, .int .i64 0, .int .i64 0, .int .i64 0, .int .i64 0, .int .i64 0, .int .i64 0, .int .i64 0, .int .i64 0, .int .i64 0, .int .i64 0, .int .i64 0] 100)).drew.heap.size (w.alloc (.cells #[.int .i64 0, .int .i64 0, .int .i64 0, .int .i64 0, .int .i64 0, .int .i64 0, .int .i64 0, .int .i64 0, .int .i64 0, .int .i64 0, .int .i64 0, .int .i64 0, .int .i64 0, .int .i64 0, .int .i64 0] 100)).drew W → bytesAt W ⟨b, o, none⟩ l := fun W hW j hj => by
    have h1 := h j hj
    have hlt := World.block_lt_of_cell? w _ h1
    have h2 := (hbw.cell hlt).trans h1
    exact (hW.cell (World.block_lt_of_cell? _ _ h2)).trans h2
  have hnum : ∀ W, Below (w.alloc (.cells #[.int .i64 0, .int .i64 0, .int .i64 0, .int .i64 0, .int .i64 0, .int .i64 0, .int .i64 0, .int .i64 0, .int .i64 0, .int .i64 0, .int .i64 0, .int .i64 0, .int .i64 0, .int .i64 0, .int .i64 0] 100)).drew.heap.size (w.alloc (.cells #[.int .i64 0, .int .i64 0, .int .i64 0, .int .i64 0, .int .i64 0, .int .i64 0, .int .i64 0, .int .i64 0, .int .i64 0, .int .i64 0, .int .i64 0, .int .i64 0, .int .i64 0, .int .i64 0, .int .i64 0] 100)).drew W → ∀ p n, p + n ≤ 64 → n ≤ 7 → Calls Tryz.prog 56 #[.slice (some ⟨b, o + p, none⟩) n (c - p)] W fun e w' => e = .returned (.int .i64 (numS ((l.drop p).take n) : Nat)) ∧ w' = W := fun W hW p n hp hn => by
    have h1 := number_any ((l.drop p).take n) (some ⟨b, o + p, none⟩) (c - p) W (part_in (hby W hW) p n (by omega)) (by rw [len_part (by omega)]; exact hn)
    rw [len_part (by omega)] at h1
    exact h1
  have h00 := h 0 (by omega)
  rw [Addr.add_mid, Nat.add_zero] at h00
  have cd0 := (hbw.cell (World.block_lt_of_cell? w _ h00)).trans h00
  have ca0 := (hba.cell (World.block_lt_of_cell? w _ h00)).trans h00
  obtain ⟨x0, hx0⟩ : ∃ x0, x0 = l[0] := ⟨_, rfl⟩
  rw [← hx0] at cd0 ca0
  have HNum := hid hnum
  have HBy := hid hby
  have HBw := hid hbw
  have HR0 := hid hr0
  have HX0 : Hid (x0 = l.getD 0 0) := by unfold Hid; rw [hx0, List.getD_eq_getElem?_getD, List.getElem?_eq_getElem (by omega)]; rfl
  have HL := hid hl
  have hc' : (64 : Int) ≤ (c : Int) := by omega
  clear hba hbd hbw hr0 hby hnum h00 hx0 h
  replace hl : True := trivial
  clear hl
  go_enter Tryz.func121, Tryz.ntmps121
  go_wp2
  refine wp_region_noPanic ?_
  refine wp_region_held_drew (S := fun W => W.cell? ⟨b, o, none⟩ = some (.int .u8 (x0.toNat : Int))) (by kernel_rfl) ca0 (fun hHeld => ?_)
  have HSz : Hid ((w.alloc (.cells #[.int .i64 0, .int .i64 0, .int .i64 0, .int .i64 0, .int .i64 0, .int .i64 0, .int .i64 0, .int .i64 0, .int .i64 0, .int .i64 0, .int .i64 0, .int .i64 0, .int .i64 0, .int .i64 0, .int .i64 0] 100)).drew.heap.size = w.heap.size + 1) := by unfold Hid; simp [World.drew]
  generalize (w.alloc (.cells #[.int .i64 0, .int .i64 0, .int .i64 0, .int .i64 0, .int .i64 0, .int .i64 0, .int .i64 0, .int .i64 0, .int .i64 0, .int .i64 0, .int .i64 0, .int .i64 0, .int .i64 0, .int .i64 0, .int .i64 0] 100)).drew = wd at *
  have hn6 := fun W hW => HNum.out W hW 1 2 (by omega) (by omega)
  have hn9 := fun W hW => HNum.out W hW 3 2 (by omega) (by omega)
  have hn12 := fun W hW => HNum.out W hW 5 4 (by omega) (by omega)
  obtain ⟨m1, hm1⟩ : ∃ m1, m1 = numS ((l.drop 1).take 2) := ⟨_, rfl⟩
  obtain ⟨m2, hm2⟩ : ∃ m2, m2 = numS ((l.drop 3).take 2) := ⟨_, rfl⟩
  obtain ⟨m3, hm3⟩ : ∃ m3, m3 = numS ((l.drop 5).take 4) := ⟨_, rfl⟩
  rw [← hm1] at hn6
  rw [← hm2] at hn9
  rw [← hm3] at hn12
  have HN6 := hid hn6
  have HN9 := hid hn9
  have HN12 := hid hn12
  have HMs := hid (And.intro hm1 (And.intro hm2 hm3))
  clear hn6 hn9 hn12 hm1 hm2 hm3
  have hw0 : IntKind.i64.wrap (x0.toNat : Int) = (x0.toNat : Int) := by rw [IntWalk.i64_in _ (by have := x0.toNat_lt; omega)]
  have cd := cd0
  clear cd0 ca0
  refine tk 0 ?_ rfl (by kernel_rfl) (fun _ _ _ h => h) (by rfl) (by assumption) ?_ ?_
  rotate_left
  · (intro W h; (try dsimp only at h); obtain s0 := h; go_simp; try with_reducible rfl)
  try simp only [tS]
  have hq3 : (3 : Int) ≤ (c : Int) := by omega
  have hq5 : (5 : Int) ≤ (c : Int) := by omega
  have hq9 : (9 : Int) ≤ (c : Int) := by omega
  have hn1 : ¬ c = 1 := by omega
  have hn3 : ¬ c = 3 := by omega
  have hn5 : ¬ c = 5 := by omega
  refine tk 1 ?_ rfl (by kernel_rfl) (fun _ _ _ h => h) (by rfl) (by assumption) ?_ ?_
  rotate_left
  · (intro W h; (try dsimp only at h); obtain s0 := h; go_simp; try with_reducible rfl)
  try simp only [tS]
  refine tk 2 ?_ rfl (by kernel_rfl) (fun _ _ _ h => h) (by rfl) (by assumption) ?_ ?_
  rotate_left
  · (intro W h; (try dsimp only at h); obtain s0 := h; go_simp; try with_reducible rfl)
  try simp only [tS]
  refine tk 3 (.int .i64 (x0.toNat : Int)) rfl (by kernel_rfl) (fun _ _ _ h => h) (by rfl) (by assumption) ?_ ?_
  · (intro W h; (try dsimp only at h); obtain s0 := h; go_simp; try first | with_reducible rfl | go_num | (rw [if_pos (by assumption)]; simp only [*]) | simp only [*])
  try simp only [tS]
  refine tk 4 ?_ rfl (by kernel_rfl) (fun _ _ _ h => h) (by rfl) (by assumption) ?_ ?_
  rotate_left
  · (intro W h; (try dsimp only at h); obtain s0 := h; go_simp; try with_reducible rfl)
  try simp only [tS]
  refine tk 5 (.slice (some ⟨b, o + 1, none⟩) 2 (c - 1)) rfl (by kernel_rfl) (fun _ _ _ h => h) (by rfl) (by assumption) ?_ ?_
  · (intro W h; (try dsimp only at h); obtain s0 := h; go_simp; try first | with_reducible rfl | go_num | (rw [if_pos (by assumption)]; simp only [*]) | simp only [*])
  try simp only [tS]
  refine tk 7 ?_ rfl (by kernel_rfl) (fun _ _ _ h => h) (by rfl) (by assumption) ?_ ?_
  rotate_left
  · (intro W h; (try dsimp only at h); obtain s0 := h; go_simp; try with_reducible rfl)
  try simp only [tS]
  refine tk 8 (.slice (some ⟨b, o + 3, none⟩) 2 (c - 3)) rfl (by kernel_rfl) (fun _ _ _ h => h) (by rfl) (by assumption) ?_ ?_
  · (intro W h; (try dsimp only at h); obtain s0 := h; go_simp; try first | with_reducible rfl | go_num | (rw [if_pos (by assumption)]; simp only [*]) | simp only [*])
  try simp only [tS]
  refine tk 10 ?_ rfl (by kernel_rfl) (fun _ _ _ h => h) (by rfl) (by assumption) ?_ ?_
  rotate_left
  · (intro W h; (try dsimp only at h); obtain s0 := h; go_simp; try with_reducible rfl)
  try simp only [tS]
  refine tk 11 (.slice (some ⟨b, o + 5, none⟩) 4 (c - 5)) rfl (by kernel_rfl) (fun _ _ _ h => h) (by rfl) (by assumption) ?_ ?_
  · (intro W h; (try dsimp only at h); obtain s0 := h; go_simp; try first | with_reducible rfl | go_num | (rw [if_pos (by assumption)]; simp only [*]) | simp only [*])
  try simp only [tS]
  refine wpAnyH_ready (rs := [6, 14]) (by kernel_rfl) (by simp) (AllReadyH.cons rfl (fun K hK => ?_) (AllReadyH.cons rfl (fun K hK => ?_) AllReadyH.nil))
  · rw [if_pos (by rfl)]
    go_simp
    refine (HN6.out wd (Below.refl _ _)).mono ?_
    rintro e w9 ⟨rfl, h9⟩
    obtain rfl := h9.symm
    clear h9
    go_wp2_with fail
    refine hK.out _ _ cd (fun hHeld => ?_)
    clear hK K
    try simp only [tS]
    refine wpAnyH_ready (rs := [9, 14]) (by kernel_rfl) (by simp) (AllReadyH.cons rfl (fun K hK => ?_) (AllReadyH.cons rfl (fun K hK => ?_) AllReadyH.nil))
    · rw [if_pos (by rfl)]
      go_simp
      refine (HN9.out wd (Below.refl _ _)).mono ?_
      rintro e w9 ⟨rfl, h9⟩
      obtain rfl := h9.symm
      clear h9
      go_wp2_with fail
      refine hK.out _ _ cd (fun hHeld => ?_)
      clear hK K
      try simp only [tS]
      refine wpAnyH_ready (rs := [12, 14]) (by kernel_rfl) (by simp) (AllReadyH.cons rfl (fun K hK => ?_) (AllReadyH.cons rfl (fun K hK => ?_) AllReadyH.nil))
      · rw [if_pos (by rfl)]
        go_simp
        refine (HN12.out wd (Below.refl _ _)).mono ?_
        rintro e w9 ⟨rfl, h9⟩
        obtain rfl := h9.symm
        clear h9
        go_wp2_with fail
        refine hK.out _ _ cd (fun hHeld => ?_)
        clear hK K
        try simp only [tS]
        refine tk 13 ?_ rfl (by kernel_rfl) (fun _ _ _ h => h) (by rfl) (by assumption) ?_ ?_
        rotate_left
        · (intro W h; (try dsimp only at h); obtain s0 := h; go_simp; try with_reducible rfl)
        try simp only [tS]
        refine wpAnyH_ready (rs := [14]) (by kernel_rfl) (by simp) (AllReadyH.cons rfl (fun K hK => ?_) AllReadyH.nil)
        rw [if_pos (by rfl)]
        unfold Oper.wp
        go_simp
        have HBz : Hid (Below wd.heap.size wd (wd.alloc (.cells #[.int .i64 0, .int .i64 0, .int .i64 0, .int .i64 0, .int .i64 0, .int .i64 0, .int .i64 0, .int .i64 0, .int .i64 0, .int .i64 0, .int .i64 0, .int .i64 0, .int .i64 0, .int .i64 0, .int .i64 0] 100))) := (Below.refl _ wd).alloc (Nat.le_refl _) _
        have HNz : Hid ((wd.alloc (.cells #[.int .i64 0, .int .i64 0, .int .i64 0, .int .i64 0, .int .i64 0, .int .i64 0, .int .i64 0, .int .i64 0, .int .i64 0, .int .i64 0, .int .i64 0, .int .i64 0, .int .i64 0, .int .i64 0, .int .i64 0] 100)).heap[wd.heap.size]? = some (.cells #[.int .i64 0, .int .i64 0, .int .i64 0, .int .i64 0, .int .i64 0, .int .i64 0, .int .i64 0, .int .i64 0, .int .i64 0, .int .i64 0, .int .i64 0, .int .i64 0, .int .i64 0, .int .i64 0, .int .i64 0] 100 (0, 0))) := block_new wd _
        have cz : (wd.alloc (.cells #[.int .i64 0, .int .i64 0, .int .i64 0, .int .i64 0, .int .i64 0, .int .i64 0, .int .i64 0, .int .i64 0, .int .i64 0, .int .i64 0, .int .i64 0, .int .i64 0, .int .i64 0, .int .i64 0, .int .i64 0] 100)).cell? ⟨b, o, none⟩ = some (.int .u8 (x0.toNat : Int)) := (HBz.out.cell (World.block_lt_of_cell? wd _ cd)).trans cd
        generalize wd.alloc (.cells #[.int .i64 0, .int .i64 0, .int .i64 0, .int .i64 0, .int .i64 0, .int .i64 0, .int .i64 0, .int .i64 0, .int .i64 0, .int .i64 0, .int .i64 0, .int .i64 0, .int .i64 0, .int .i64 0, .int .i64 0] 100) = wz at *
        refine hK.out _ _ cz (fun hHeld => ?_)
        clear hK K
        try simp only [tS]
        refine wpAnyH_ready (rs := [15]) (by kernel_rfl) (by simp) (AllReadyH.cons rfl (fun K hK => ?_) AllReadyH.nil)
        rw [if_pos (by rfl)]
        refine wp_store_block 100 (.tmp 3) (.tmp 18) rfl wd.heap.size #[.int .i64 (x0.toNat : Int), .int .i64 m1, .int .i64 m2, .int .i64 m3, .int .i64 0, .int .i64 0, .int .i64 0, .int .i64 0, .int .i64 0, .int .i64 0, .int .i64 0, .int .i64 0, .int .i64 0, .int .i64 0, .int .i64 0] rfl rfl _ _ HNz.out rfl (by kernel_rfl) (by simp [Value.oneCell']) ?_
        intro w5 hg5 hn5 hz5
        have hbne : b < wd.heap.size := World.block_lt_of_cell? wd _ cd
        have kk : Keeps (fun i => i = wd.heap.size) wz w5 := Keeps.of_grown hg5 (fun i e => (Option.some.inj e).symm)
        have c5 : w5.cell? ⟨b, o, none⟩ = some (.int .u8 (x0.toNat : Int)) := kk.cell cz (fun e => by have e' : b = wd.heap.size := e; omega)
        have HN5 := hid hn5
        have HB5 : Hid (Below wd.heap.size wd w5) := HBz.out.trans (kk.below HBz.out.size (fun i e => by have e' : i = wd.heap.size := e; omega))
        clear hg5 hn5 hz5 kk HBz HNz
        refine hK.out _ _ c5 (fun hHeld => ?_)
        clear hK K
        try simp only [List.getElem_toArray, List.getElem_cons_succ, List.getElem_cons_zero, Act.put]
        refine wpAnyH_done (by kernel_rfl) ?_ _
        refine NoPanic.normal ?_
        clear hHeld c5 cz cd HN6 HN9 HN12
        have HN0 : Hid (nodeB w5 wd.heap.size ⟨x0.toNat, m1, m2, m3, decQ l 0⟩) := HN5
        have hn9 : ¬ c = 9 := by omega
        clear HN5 hq3 hq5 hq9 hn1 hn3 hn5
        obtain ⟨nb, hnb⟩ : ∃ nb, nb = wd.heap.size := ⟨_, rfl⟩
        rw [← hnb] at HN0 ⊢
        have HNb := hid hnb
        clear hnb
        go_wp2
        go_loopw [19] (fun iv wr => ∃ j : Nat, j ≤ 11 ∧ iv = .int .i64 j ∧ Hid (nodeB wr nb ⟨x0.toNat, m1, m2, m3, decQ l j⟩) ∧ Hid (Below wd.heap.size wd wr)) (fun iv _ => 11 - (intOf iv).toNat)
        case atStart => exact ⟨0, by omega, rfl, HN0, HB5⟩
        case round =>
          obtain ⟨j, hj, rfl, HN, HB⟩ := hrel
          clear HN0 HB5
          by_cases hlt : j < 11
          · have hj0 : (0 : Int) ≤ (j : Int) := by omega
            have hj1 : (j : Int) < 11 := by omega
            have HF := hid (ifourth_any b (o + 9) 55 (c - 9) j wr (by omega) (by omega) (by omega))
            have hnu := HNum.out wr HB.out (9 + 4 * j) 4 (by omega) (by omega)
            rw [show o + (9 + 4 * j) = o + 9 + 4 * j by omega, show c - (9 + 4 * j) = c - 9 - 4 * j by omega] at hnu
            have hdl : j < (decQ l j).length := by rw [length_decQ l j hj]; exact hlt
            have k1 := HN.out.page j hdl
            have k2 : wr.frozen? ⟨nb, 4 + j, none⟩ = false := frozen_of_block HN.out _
            have hst := HN.out.setPage j (numS ((l.drop (9 + 4 * j)).take 4))
            rw [show (decQ l j).set j (numS ((l.drop (9 + 4 * j)).take 4)) = decQ l (j + 1) from decQ_set l j hlt] at hst
            have HSt := hid hst
            have HNu := hid hnu
            clear hnu hst HN
            generalize numS ((l.drop (9 + 4 * j)).take 4) = x at *
            generalize hpj : (decQ l j)[j] = pj at *
            clear hpj hdl
            go_wp2_with fail
            refine HF.out.mono ?_
            clear HF
            rintro e w7 ⟨rfl, h7⟩
            obtain rfl := h7.symm
            clear h7
            go_wp2_with fail
            refine HNu.out.mono ?_
            clear HNu
            rintro e w8 ⟨rfl, h8⟩
            obtain rfl := h8.symm
            clear h8
            have HB8 : Hid (Below wd.heap.size wd (wr.setCell ⟨nb, 4 + j, none⟩ (.int .i64 x))) := HB.out.setCell (show wd.heap.size ≤ nb from by have := HNb.out; omega) _
            clear HB
            go_wp2
            exact ⟨⟨j + 1, by omega, by go_num, HSt, HB8⟩, by simp [intOf]; omega⟩
          · obtain rfl : j = 11 := by omega
            have hr0 := below_block HB.out HR0.out (by have := HSz.out; omega)
            have HR1 := hid hr0
            clear hr0
            go_wp2_with (first
              | (refine wpList_load_mid rfl 100 (.tmp 3) rfl nb 0 rfl (nodeC ⟨x0.toNat, m1, m2, m3, decQ l 11⟩) _ (by have := range_of_block HN.out; exact this) Tryz.underlying100 rfl (by rw [length_nodeC]; kernel_rfl) ?_)
              | (refine wpList_store_block rfl 100 (.tmp 2) (.tmp 31) rfl w.heap.size (nodeC ⟨x0.toNat, m1, m2, m3, decQ l 11⟩).toArray rfl rfl _ _ HR1.out (by rw [List.size_toArray, length_nodeC]; rfl) (by rw [List.size_toArray, length_nodeC]; kernel_rfl) (nodeC_one _) ?_; intro w6 hg6 hb6 hz6))
            have hsz := HSz.out
            have hBw := HBw.out.size
            refine bodyPost_ret (results_dec rfl hb6 (length_nodeC _ _ _ _ _)) rfl ⟨?_, ?_⟩
            · unfold nodeV decL
              rw [← HX0.out, ← HMs.out.1, ← HMs.out.2.1, ← HMs.out.2.2]
              have e : decQ l 11 = decP l 11 := by unfold decQ; simp
              rw [e]
            · have hbr : Below w.heap.size w wr := HBw.out.trans (HB.out.mono (by omega))
              exact hbr.trans ((Keeps.of_grown hg6 (F := fun i => some w.heap.size = some i) (fun i e => e)).below hbr.size (fun i e => by cases e; exact Nat.le_refl _))
      · rw [if_pos (by rfl)]
        unfold Oper.wp
        go_simp
        have HBz : Hid (Below wd.heap.size wd (wd.alloc (.cells #[.int .i64 0, .int .i64 0, .int .i64 0, .int .i64 0, .int .i64 0, .int .i64 0, .int .i64 0, .int .i64 0, .int .i64 0, .int .i64 0, .int .i64 0, .int .i64 0, .int .i64 0, .int .i64 0, .int .i64 0] 100))) := (Below.refl _ wd).alloc (Nat.le_refl _) _
        have HNz : Hid ((wd.alloc (.cells #[.int .i64 0, .int .i64 0, .int .i64 0, .int .i64 0, .int .i64 0, .int .i64 0, .int .i64 0, .int .i64 0, .int .i64 0, .int .i64 0, .int .i64 0, .int .i64 0, .int .i64 0, .int .i64 0, .int .i64 0] 100)).heap[wd.heap.size]? = some (.cells #[.int .i64 0, .int .i64 0, .int .i64 0, .int .i64 0, .int .i64 0, .int .i64 0, .int .i64 0, .int .i64 0, .int .i64 0, .int .i64 0, .int .i64 0, .int .i64 0, .int .i64 0, .int .i64 0, .int .i64 0] 100 (0, 0))) := block_new wd _
        have cz : (wd.alloc (.cells #[.int .i64 0, .int .i64 0, .int .i64 0, .int .i64 0, .int .i64 0, .int .i64 0, .int .i64 0, .int .i64 0, .int .i64 0, .int .i64 0, .int .i64 0, .int .i64 0, .int .i64 0, .int .i64 0, .int .i64 0] 100)).cell? ⟨b, o, none⟩ = some (.int .u8 (x0.toNat : Int)) := (HBz.out.cell (World.block_lt_of_cell? wd _ cd)).trans cd
        generalize wd.alloc (.cells #[.int .i64 0, .int .i64 0, .int .i64 0, .int .i64 0, .int .i64 0, .int .i64 0, .int .i64 0, .int .i64 0, .int .i64 0, .int .i64 0, .int .i64 0, .int .i64 0, .int .i64 0, .int .i64 0, .int .i64 0] 100) = wz at *
        refine hK.out _ _ cz (fun hHeld => ?_)
        clear hK K
        try simp only [tS]
        refine wpAnyH_ready (rs := [12]) (by kernel_rfl) (by simp) (AllReadyH.cons rfl (fun K hK => ?_) AllReadyH.nil)
        rw [if_pos (by rfl)]
        go_simp
        refine (HN12.out wz HBz.out).mono ?_
        rintro e w9 ⟨rfl, h9⟩
        obtain rfl := h9.symm
        clear h9
        go_wp2_with fail
        refine hK.out _ _ cz (fun hHeld => ?_)
        clear hK K
        try simp only [tS]
        refine tk 13 ?_ rfl (by kernel_rfl) (fun _ _ _ h => h) (by rfl) (by assumption) ?_ ?_
        rotate_left
        · (intro W h; (try dsimp only at h); obtain s0 := h; go_simp; try with_reducible rfl)
        try simp only [tS]
        refine wpAnyH_ready (rs := [15]) (by kernel_rfl) (by simp) (AllReadyH.cons rfl (fun K hK => ?_) AllReadyH.nil)
        rw [if_pos (by rfl)]
        refine wp_store_block 100 (.tmp 3) (.tmp 18) rfl wd.heap.size #[.int .i64 (x0.toNat : Int), .int .i64 m1, .int .i64 m2, .int .i64 m3, .int .i64 0, .int .i64 0, .int .i64 0, .int .i64 0, .int .i64 0, .int .i64 0, .int .i64 0, .int .i64 0, .int .i64 0, .int .i64 0, .int .i64 0] rfl rfl _ _ HNz.out rfl (by kernel_rfl) (by simp [Value.oneCell']) ?_
        intro w5 hg5 hn5 hz5
        have hbne : b < wd.heap.size := World.block_lt_of_cell? wd _ cd
        have kk : Keeps (fun i => i = wd.heap.size) wz w5 := Keeps.of_grown hg5 (fun i e => (Option.some.inj e).symm)
        have c5 : w5.cell? ⟨b, o, none⟩ = some (.int .u8 (x0.toNat : Int)) := kk.cell cz (fun e => by have e' : b = wd.heap.size := e; omega)
        have HN5 := hid hn5
        have HB5 : Hid (Below wd.heap.size wd w5) := HBz.out.trans (kk.below HBz.out.size (fun i e => by have e' : i = wd.heap.size := e; omega))
        clear hg5 hn5 hz5 kk HBz HNz
        refine hK.out _ _ c5 (fun hHeld => ?_)
        clear hK K
        try simp only [List.getElem_toArray, List.getElem_cons_succ, List.getElem_cons_zero, Act.put]
        refine wpAnyH_done (by kernel_rfl) ?_ _
        refine NoPanic.normal ?_
        clear hHeld c5 cz cd HN6 HN9 HN12
        have HN0 : Hid (nodeB w5 wd.heap.size ⟨x0.toNat, m1, m2, m3, decQ l 0⟩) := HN5
        have hn9 : ¬ c = 9 := by omega
        clear HN5 hq3 hq5 hq9 hn1 hn3 hn5
        obtain ⟨nb, hnb⟩ : ∃ nb, nb = wd.heap.size := ⟨_, rfl⟩
        rw [← hnb] at HN0 ⊢
        have HNb := hid hnb
        clear hnb
        go_wp2
        go_loopw [19] (fun iv wr => ∃ j : Nat, j ≤ 11 ∧ iv = .int .i64 j ∧ Hid (nodeB wr nb ⟨x0.toNat, m1, m2, m3, decQ l j⟩) ∧ Hid (Below wd.heap.size wd wr)) (fun iv _ => 11 - (intOf iv).toNat)
        case atStart => exact ⟨0, by omega, rfl, HN0, HB5⟩
        case round =>
          obtain ⟨j, hj, rfl, HN, HB⟩ := hrel
          clear HN0 HB5
          by_cases hlt : j < 11
          · have hj0 : (0 : Int) ≤ (j : Int) := by omega
            have hj1 : (j : Int) < 11 := by omega
            have HF := hid (ifourth_any b (o + 9) 55 (c - 9) j wr (by omega) (by omega) (by omega))
            have hnu := HNum.out wr HB.out (9 + 4 * j) 4 (by omega) (by omega)
            rw [show o + (9 + 4 * j) = o + 9 + 4 * j by omega, show c - (9 + 4 * j) = c - 9 - 4 * j by omega] at hnu
            have hdl : j < (decQ l j).length := by rw [length_decQ l j hj]; exact hlt
            have k1 := HN.out.page j hdl
            have k2 : wr.frozen? ⟨nb, 4 + j, none⟩ = false := frozen_of_block HN.out _
            have hst := HN.out.setPage j (numS ((l.drop (9 + 4 * j)).take 4))
            rw [show (decQ l j).set j (numS ((l.drop (9 + 4 * j)).take 4)) = decQ l (j + 1) from decQ_set l j hlt] at hst
            have HSt := hid hst
            have HNu := hid hnu
            clear hnu hst HN
            generalize numS ((l.drop (9 + 4 * j)).take 4) = x at *
            generalize hpj : (decQ l j)[j] = pj at *
            clear hpj hdl
            go_wp2_with fail
            refine HF.out.mono ?_
            clear HF
            rintro e w7 ⟨rfl, h7⟩
            obtain rfl := h7.symm
            clear h7
            go_wp2_with fail
            refine HNu.out.mono ?_
            clear HNu
            rintro e w8 ⟨rfl, h8⟩
            obtain rfl := h8.symm
            clear h8
            have HB8 : Hid (Below wd.heap.size wd (wr.setCell ⟨nb, 4 + j, none⟩ (.int .i64 x))) := HB.out.setCell (show wd.heap.size ≤ nb from by have := HNb.out; omega) _
            clear HB
            go_wp2
            exact ⟨⟨j + 1, by omega, by go_num, HSt, HB8⟩, by simp [intOf]; omega⟩
          · obtain rfl : j = 11 := by omega
            have hr0 := below_block HB.out HR0.out (by have := HSz.out; omega)
            have HR1 := hid hr0
            clear hr0
            go_wp2_with (first
              | (refine wpList_load_mid rfl 100 (.tmp 3) rfl nb 0 rfl (nodeC ⟨x0.toNat, m1, m2, m3, decQ l 11⟩) _ (by have := range_of_block HN.out; exact this) Tryz.underlying100 rfl (by rw [length_nodeC]; kernel_rfl) ?_)
              | (refine wpList_store_block rfl 100 (.tmp 2) (.tmp 31) rfl w.heap.size (nodeC ⟨x0.toNat, m1, m2, m3, decQ l 11⟩).toArray rfl rfl _ _ HR1.out (by rw [List.size_toArray, length_nodeC]; rfl) (by rw [List.size_toArray, length_nodeC]; kernel_rfl) (nodeC_one _) ?_; intro w6 hg6 hb6 hz6))
            have hsz := HSz.out
            have hBw := HBw.out.size
            refine bodyPost_ret (results_dec rfl hb6 (length_nodeC _ _ _ _ _)) rfl ⟨?_, ?_⟩
            · unfold nodeV decL
              rw [← HX0.out, ← HMs.out.1, ← HMs.out.2.1, ← HMs.out.2.2]
              have e : decQ l 11 = decP l 11 := by unfold decQ; simp
              rw [e]
            · have hbr : Below w.heap.size w wr := HBw.out.trans (HB.out.mono (by omega))
              exact hbr.trans ((Keeps.of_grown hg6 (F := fun i => some w.heap.size = some i) (fun i e => e)).below hbr.size (fun i e => by cases e; exact Nat.le_refl _))
    · rw [if_pos (by rfl)]
      unfold Oper.wp
      go_simp
      have HBz : Hid (Below wd.heap.size wd (wd.alloc (.cells #[.int .i64 0, .int .i64 0, .int .i64 0, .int .i64 0, .int .i64 0, .int .i64 0, .int .i64 0, .int .i64 0, .int .i64 0, .int .i64 0, .int .i64 0, .int .i64 0, .int .i64 0, .int .i64 0, .int .i64 0] 100))) := (Below.refl _ wd).alloc (Nat.le_refl _) _
      have HNz : Hid ((wd.alloc (.cells #[.int .i64 0, .int .i64 0, .int .i64 0, .int .i64 0, .int .i64 0, .int .i64 0, .int .i64 0, .int .i64 0, .int .i64 0, .int .i64 0, .int .i64 0, .int .i64 0, .int .i64 0, .int .i64 0, .int .i64 0] 100)).heap[wd.heap.size]? = some (.cells #[.int .i64 0, .int .i64 0, .int .i64 0, .int .i64 0, .int .i64 0, .int .i64 0, .int .i64 0, .int .i64 0, .int .i64 0, .int .i64 0, .int .i64 0, .int .i64 0, .int .i64 0, .int .i64 0, .int .i64 0] 100 (0, 0))) := block_new wd _
      have cz : (wd.alloc (.cells #[.int .i64 0, .int .i64 0, .int .i64 0, .int .i64 0, .int .i64 0, .int .i64 0, .int .i64 0, .int .i64 0, .int .i64 0, .int .i64 0, .int .i64 0, .int .i64 0, .int .i64 0, .int .i64 0, .int .i64 0] 100)).cell? ⟨b, o, none⟩ = some (.int .u8 (x0.toNat : Int)) := (HBz.out.cell (World.block_lt_of_cell? wd _ cd)).trans cd
      generalize wd.alloc (.cells #[.int .i64 0, .int .i64 0, .int .i64 0, .int .i64 0, .int .i64 0, .int .i64 0, .int .i64 0, .int .i64 0, .int .i64 0, .int .i64 0, .int .i64 0, .int .i64 0, .int .i64 0, .int .i64 0, .int .i64 0] 100) = wz at *
      refine hK.out _ _ cz (fun hHeld => ?_)
      clear hK K
      try simp only [tS]
      refine wpAnyH_ready (rs := [9]) (by kernel_rfl) (by simp) (AllReadyH.cons rfl (fun K hK => ?_) AllReadyH.nil)
      rw [if_pos (by rfl)]
      go_simp
      refine (HN9.out wz HBz.out).mono ?_
      rintro e w9 ⟨rfl, h9⟩
      obtain rfl := h9.symm
      clear h9
      go_wp2_with fail
      refine hK.out _ _ cz (fun hHeld => ?_)
      clear hK K
      try simp only [tS]
      refine wpAnyH_ready (rs := [12]) (by kernel_rfl) (by simp) (AllReadyH.cons rfl (fun K hK => ?_) AllReadyH.nil)
      rw [if_pos (by rfl)]
      go_simp
      refine (HN12.out wz HBz.out).mono ?_
      rintro e w9 ⟨rfl, h9⟩
      obtain rfl := h9.symm
      clear h9
      go_wp2_with fail
      refine hK.out _ _ cz (fun hHeld => ?_)
      clear hK K
      try simp only [tS]
      refine tk 13 ?_ rfl (by kernel_rfl) (fun _ _ _ h => h) (by rfl) (by assumption) ?_ ?_
      rotate_left
      · (intro W h; (try dsimp only at h); obtain s0 := h; go_simp; try with_reducible rfl)
      try simp only [tS]
      refine wpAnyH_ready (rs := [15]) (by kernel_rfl) (by simp) (AllReadyH.cons rfl (fun K hK => ?_) AllReadyH.nil)
      rw [if_pos (by rfl)]
      refine wp_store_block 100 (.tmp 3) (.tmp 18) rfl wd.heap.size #[.int .i64 (x0.toNat : Int), .int .i64 m1, .int .i64 m2, .int .i64 m3, .int .i64 0, .int .i64 0, .int .i64 0, .int .i64 0, .int .i64 0, .int .i64 0, .int .i64 0, .int .i64 0, .int .i64 0, .int .i64 0, .int .i64 0] rfl rfl _ _ HNz.out rfl (by kernel_rfl) (by simp [Value.oneCell']) ?_
      intro w5 hg5 hn5 hz5
      have hbne : b < wd.heap.size := World.block_lt_of_cell? wd _ cd
      have kk : Keeps (fun i => i = wd.heap.size) wz w5 := Keeps.of_grown hg5 (fun i e => (Option.some.inj e).symm)
      have c5 : w5.cell? ⟨b, o, none⟩ = some (.int .u8 (x0.toNat : Int)) := kk.cell cz (fun e => by have e' : b = wd.heap.size := e; omega)
      have HN5 := hid hn5
      have HB5 : Hid (Below wd.heap.size wd w5) := HBz.out.trans (kk.below HBz.out.size (fun i e => by have e' : i = wd.heap.size := e; omega))
      clear hg5 hn5 hz5 kk HBz HNz
      refine hK.out _ _ c5 (fun hHeld => ?_)
      clear hK K
      try simp only [List.getElem_toArray, List.getElem_cons_succ, List.getElem_cons_zero, Act.put]
      refine wpAnyH_done (by kernel_rfl) ?_ _
      refine NoPanic.normal ?_
      clear hHeld c5 cz cd HN6 HN9 HN12
      have HN0 : Hid (nodeB w5 wd.heap.size ⟨x0.toNat, m1, m2, m3, decQ l 0⟩) := HN5
      have hn9 : ¬ c = 9 := by omega
      clear HN5 hq3 hq5 hq9 hn1 hn3 hn5
      obtain ⟨nb, hnb⟩ : ∃ nb, nb = wd.heap.size := ⟨_, rfl⟩
      rw [← hnb] at HN0 ⊢
      have HNb := hid hnb
      clear hnb
      go_wp2
      go_loopw [19] (fun iv wr => ∃ j : Nat, j ≤ 11 ∧ iv = .int .i64 j ∧ Hid (nodeB wr nb ⟨x0.toNat, m1, m2, m3, decQ l j⟩) ∧ Hid (Below wd.heap.size wd wr)) (fun iv _ => 11 - (intOf iv).toNat)
      case atStart => exact ⟨0, by omega, rfl, HN0, HB5⟩
      case round =>
        obtain ⟨j, hj, rfl, HN, HB⟩ := hrel
        clear HN0 HB5
        by_cases hlt : j < 11
        · have hj0 : (0 : Int) ≤ (j : Int) := by omega
          have hj1 : (j : Int) < 11 := by omega
          have HF := hid (ifourth_any b (o + 9) 55 (c - 9) j wr (by omega) (by omega) (by omega))
          have hnu := HNum.out wr HB.out (9 + 4 * j) 4 (by omega) (by omega)
          rw [show o + (9 + 4 * j) = o + 9 + 4 * j by omega, show c - (9 + 4 * j) = c - 9 - 4 * j by omega] at hnu
          have hdl : j < (decQ l j).length := by rw [length_decQ l j hj]; exact hlt
          have k1 := HN.out.page j hdl
          have k2 : wr.frozen? ⟨nb, 4 + j, none⟩ = false := frozen_of_block HN.out _
          have hst := HN.out.setPage j (numS ((l.drop (9 + 4 * j)).take 4))
          rw [show (decQ l j).set j (numS ((l.drop (9 + 4 * j)).take 4)) = decQ l (j + 1) from decQ_set l j hlt] at hst
          have HSt := hid hst
          have HNu := hid hnu
          clear hnu hst HN
          generalize numS ((l.drop (9 + 4 * j)).take 4) = x at *
          generalize hpj : (decQ l j)[j] = pj at *
          clear hpj hdl
          go_wp2_with fail
          refine HF.out.mono ?_
          clear HF
          rintro e w7 ⟨rfl, h7⟩
          obtain rfl := h7.symm
          clear h7
          go_wp2_with fail
          refine HNu.out.mono ?_
          clear HNu
          rintro e w8 ⟨rfl, h8⟩
          obtain rfl := h8.symm
          clear h8
          have HB8 : Hid (Below wd.heap.size wd (wr.setCell ⟨nb, 4 + j, none⟩ (.int .i64 x))) := HB.out.setCell (show wd.heap.size ≤ nb from by have := HNb.out; omega) _
          clear HB
          go_wp2
          exact ⟨⟨j + 1, by omega, by go_num, HSt, HB8⟩, by simp [intOf]; omega⟩
        · obtain rfl : j = 11 := by omega
          have hr0 := below_block HB.out HR0.out (by have := HSz.out; omega)
          have HR1 := hid hr0
          clear hr0
          go_wp2_with (first
            | (refine wpList_load_mid rfl 100 (.tmp 3) rfl nb 0 rfl (nodeC ⟨x0.toNat, m1, m2, m3, decQ l 11⟩) _ (by have := range_of_block HN.out; exact this) Tryz.underlying100 rfl (by rw [length_nodeC]; kernel_rfl) ?_)
            | (refine wpList_store_block rfl 100 (.tmp 2) (.tmp 31) rfl w.heap.size (nodeC ⟨x0.toNat, m1, m2, m3, decQ l 11⟩).toArray rfl rfl _ _ HR1.out (by rw [List.size_toArray, length_nodeC]; rfl) (by rw [List.size_toArray, length_nodeC]; kernel_rfl) (nodeC_one _) ?_; intro w6 hg6 hb6 hz6))
          have hsz := HSz.out
          have hBw := HBw.out.size
          refine bodyPost_ret (results_dec rfl hb6 (length_nodeC _ _ _ _ _)) rfl ⟨?_, ?_⟩
          · unfold nodeV decL
            rw [← HX0.out, ← HMs.out.1, ← HMs.out.2.1, ← HMs.out.2.2]
            have e : decQ l 11 = decP l 11 := by unfold decQ; simp
            rw [e]
          · have hbr : Below w.heap.size w wr := HBw.out.trans (HB.out.mono (by omega))
            exact hbr.trans ((Keeps.of_grown hg6 (F := fun i => some w.heap.size = some i) (fun i e => e)).below hbr.size (fun i e => by cases e; exact Nat.le_refl _))
  · rw [if_pos (by rfl)]
    unfold Oper.wp
    go_simp
    have HBz : Hid (Below wd.heap.size wd (wd.alloc (.cells #[.int .i64 0, .int .i64 0, .int .i64 0, .int .i64 0, .int .i64 0, .int .i64 0, .int .i64 0, .int .i64 0, .int .i64 0, .int .i64 0, .int .i64 0, .int .i64 0, .int .i64 0, .int .i64 0, .int .i64 0] 100))) := (Below.refl _ wd).alloc (Nat.le_refl _) _
    have HNz : Hid ((wd.alloc (.cells #[.int .i64 0, .int .i64 0, .int .i64 0, .int .i64 0, .int .i64 0, .int .i64 0, .int .i64 0, .int .i64 0, .int .i64 0, .int .i64 0, .int .i64 0, .int .i64 0, .int .i64 0, .int .i64 0, .int .i64 0] 100)).heap[wd.heap.size]? = some (.cells #[.int .i64 0, .int .i64 0, .int .i64 0, .int .i64 0, .int .i64 0, .int .i64 0, .int .i64 0, .int .i64 0, .int .i64 0, .int .i64 0, .int .i64 0, .int .i64 0, .int .i64 0, .int .i64 0, .int .i64 0] 100 (0, 0))) := block_new wd _
    have cz : (wd.alloc (.cells #[.int .i64 0, .int .i64 0, .int .i64 0, .int .i64 0, .int .i64 0, .int .i64 0, .int .i64 0, .int .i64 0, .int .i64 0, .int .i64 0, .int .i64 0, .int .i64 0, .int .i64 0, .int .i64 0, .int .i64 0] 100)).cell? ⟨b, o, none⟩ = some (.int .u8 (x0.toNat : Int)) := (HBz.out.cell (World.block_lt_of_cell? wd _ cd)).trans cd
    generalize wd.alloc (.cells #[.int .i64 0, .int .i64 0, .int .i64 0, .int .i64 0, .int .i64 0, .int .i64 0, .int .i64 0, .int .i64 0, .int .i64 0, .int .i64 0, .int .i64 0, .int .i64 0, .int .i64 0, .int .i64 0, .int .i64 0] 100) = wz at *
    refine hK.out _ _ cz (fun hHeld => ?_)
    clear hK K
    try simp only [tS]
    refine wpAnyH_ready (rs := [6]) (by kernel_rfl) (by simp) (AllReadyH.cons rfl (fun K hK => ?_) AllReadyH.nil)
    rw [if_pos (by rfl)]
    go_simp
    refine (HN6.out wz HBz.out).mono ?_
    rintro e w9 ⟨rfl, h9⟩
    obtain rfl := h9.symm
    clear h9
    go_wp2_with fail
    refine hK.out _ _ cz (fun hHeld => ?_)
    clear hK K
    try simp only [tS]
    refine wpAnyH_ready (rs := [9]) (by kernel_rfl) (by simp) (AllReadyH.cons rfl (fun K hK => ?_) AllReadyH.nil)
    rw [if_pos (by rfl)]
    go_simp
    refine (HN9.out wz HBz.out).mono ?_
    rintro e w9 ⟨rfl, h9⟩
    obtain rfl := h9.symm
    clear h9
    go_wp2_with fail
    refine hK.out _ _ cz (fun hHeld => ?_)
    clear hK K
    try simp only [tS]
    refine wpAnyH_ready (rs := [12]) (by kernel_rfl) (by simp) (AllReadyH.cons rfl (fun K hK => ?_) AllReadyH.nil)
    rw [if_pos (by rfl)]
    go_simp
    refine (HN12.out wz HBz.out).mono ?_
    rintro e w9 ⟨rfl, h9⟩
    obtain rfl := h9.symm
    clear h9
    go_wp2_with fail
    refine hK.out _ _ cz (fun hHeld => ?_)
    clear hK K
    try simp only [tS]
    refine tk 13 ?_ rfl (by kernel_rfl) (fun _ _ _ h => h) (by rfl) (by assumption) ?_ ?_
    rotate_left
    · (intro W h; (try dsimp only at h); obtain s0 := h; go_simp; try with_reducible rfl)
    try simp only [tS]
    refine wpAnyH_ready (rs := [15]) (by kernel_rfl) (by simp) (AllReadyH.cons rfl (fun K hK => ?_) AllReadyH.nil)
    rw [if_pos (by rfl)]
    refine wp_store_block 100 (.tmp 3) (.tmp 18) rfl wd.heap.size #[.int .i64 (x0.toNat : Int), .int .i64 m1, .int .i64 m2, .int .i64 m3, .int .i64 0, .int .i64 0, .int .i64 0, .int .i64 0, .int .i64 0, .int .i64 0, .int .i64 0, .int .i64 0, .int .i64 0, .int .i64 0, .int .i64 0] rfl rfl _ _ HNz.out rfl (by kernel_rfl) (by simp [Value.oneCell']) ?_
    intro w5 hg5 hn5 hz5
    have hbne : b < wd.heap.size := World.block_lt_of_cell? wd _ cd
    have kk : Keeps (fun i => i = wd.heap.size) wz w5 := Keeps.of_grown hg5 (fun i e => (Option.some.inj e).symm)
    have c5 : w5.cell? ⟨b, o, none⟩ = some (.int .u8 (x0.toNat : Int)) := kk.cell cz (fun e => by have e' : b = wd.heap.size := e; omega)
    have HN5 := hid hn5
    have HB5 : Hid (Below wd.heap.size wd w5) := HBz.out.trans (kk.below HBz.out.size (fun i e => by have e' : i = wd.heap.size := e; omega))
    clear hg5 hn5 hz5 kk HBz HNz
    refine hK.out _ _ c5 (fun hHeld => ?_)
    clear hK K
    try simp only [List.getElem_toArray, List.getElem_cons_succ, List.getElem_cons_zero, Act.put]
    refine wpAnyH_done (by kernel_rfl) ?_ _
    refine NoPanic.normal ?_
    clear hHeld c5 cz cd HN6 HN9 HN12
    have HN0 : Hid (nodeB w5 wd.heap.size ⟨x0.toNat, m1, m2, m3, decQ l 0⟩) := HN5
    have hn9 : ¬ c = 9 := by omega
    clear HN5 hq3 hq5 hq9 hn1 hn3 hn5
    obtain ⟨nb, hnb⟩ : ∃ nb, nb = wd.heap.size := ⟨_, rfl⟩
    rw [← hnb] at HN0 ⊢
    have HNb := hid hnb
    clear hnb
    go_wp2
    go_loopw [19] (fun iv wr => ∃ j : Nat, j ≤ 11 ∧ iv = .int .i64 j ∧ Hid (nodeB wr nb ⟨x0.toNat, m1, m2, m3, decQ l j⟩) ∧ Hid (Below wd.heap.size wd wr)) (fun iv _ => 11 - (intOf iv).toNat)
    case atStart => exact ⟨0, by omega, rfl, HN0, HB5⟩
    case round =>
      obtain ⟨j, hj, rfl, HN, HB⟩ := hrel
      clear HN0 HB5
      by_cases hlt : j < 11
      · have hj0 : (0 : Int) ≤ (j : Int) := by omega
        have hj1 : (j : Int) < 11 := by omega
        have HF := hid (ifourth_any b (o + 9) 55 (c - 9) j wr (by omega) (by omega) (by omega))
        have hnu := HNum.out wr HB.out (9 + 4 * j) 4 (by omega) (by omega)
        rw [show o + (9 + 4 * j) = o + 9 + 4 * j by omega, show c - (9 + 4 * j) = c - 9 - 4 * j by omega] at hnu
        have hdl : j < (decQ l j).length := by rw [length_decQ l j hj]; exact hlt
        have k1 := HN.out.page j hdl
        have k2 : wr.frozen? ⟨nb, 4 + j, none⟩ = false := frozen_of_block HN.out _
        have hst := HN.out.setPage j (numS ((l.drop (9 + 4 * j)).take 4))
        rw [show (decQ l j).set j (numS ((l.drop (9 + 4 * j)).take 4)) = decQ l (j + 1) from decQ_set l j hlt] at hst
        have HSt := hid hst
        have HNu := hid hnu
        clear hnu hst HN
        generalize numS ((l.drop (9 + 4 * j)).take 4) = x at *
        generalize hpj : (decQ l j)[j] = pj at *
        clear hpj hdl
        go_wp2_with fail
        refine HF.out.mono ?_
        clear HF
        rintro e w7 ⟨rfl, h7⟩
        obtain rfl := h7.symm
        clear h7
        go_wp2_with fail
        refine HNu.out.mono ?_
        clear HNu
        rintro e w8 ⟨rfl, h8⟩
        obtain rfl := h8.symm
        clear h8
        have HB8 : Hid (Below wd.heap.size wd (wr.setCell ⟨nb, 4 + j, none⟩ (.int .i64 x))) := HB.out.setCell (show wd.heap.size ≤ nb from by have := HNb.out; omega) _
        clear HB
        go_wp2
        exact ⟨⟨j + 1, by omega, by go_num, HSt, HB8⟩, by simp [intOf]; omega⟩
      · obtain rfl : j = 11 := by omega
        have hr0 := below_block HB.out HR0.out (by have := HSz.out; omega)
        have HR1 := hid hr0
        clear hr0
        go_wp2_with (first
          | (refine wpList_load_mid rfl 100 (.tmp 3) rfl nb 0 rfl (nodeC ⟨x0.toNat, m1, m2, m3, decQ l 11⟩) _ (by have := range_of_block HN.out; exact this) Tryz.underlying100 rfl (by rw [length_nodeC]; kernel_rfl) ?_)
          | (refine wpList_store_block rfl 100 (.tmp 2) (.tmp 31) rfl w.heap.size (nodeC ⟨x0.toNat, m1, m2, m3, decQ l 11⟩).toArray rfl rfl _ _ HR1.out (by rw [List.size_toArray, length_nodeC]; rfl) (by rw [List.size_toArray, length_nodeC]; kernel_rfl) (nodeC_one _) ?_; intro w6 hg6 hb6 hz6))
        have hsz := HSz.out
        have hBw := HBw.out.size
        refine bodyPost_ret (results_dec rfl hb6 (length_nodeC _ _ _ _ _)) rfl ⟨?_, ?_⟩
        · unfold nodeV decL
          rw [← HX0.out, ← HMs.out.1, ← HMs.out.2.1, ← HMs.out.2.2]
          have e : decQ l 11 = decP l 11 := by unfold decQ; simp
          rw [e]
        · have hbr : Below w.heap.size w wr := HBw.out.trans (HB.out.mono (by omega))
          exact hbr.trans ((Keeps.of_grown hg6 (F := fun i => some w.heap.size = some i) (fun i e => e)).below hbr.size (fun i e => by cases e; exact Nat.le_refl _))
end Go.Proofs.YthdcloaaahhnaaaGreat
/- An inode in the table: get, put. -/
namespace Go.Proofs.YthdcloaaahhnaaaGreat
open Go.RowKit
/-- The 64 bytes of an inode in its page of the table. -/
def inoL (L : List UInt8) (i : Nat) : List UInt8 := (L.drop (i % 8 * 64)).take 64
def putT (L : List UInt8) (i : Nat) (e : List UInt8) : List UInt8 := L.take (i % 8 * 64) ++ e ++ L.drop (i % 8 * 64 + 64)
theorem length_inoL {L : List UInt8} (h : L.length = 512) (i : Nat) : (inoL L i).length = 64 := by
  unfold inoL; rw [List.length_take, List.length_drop]; omega
theorem length_putT {L : List UInt8} (h : L.length = 512) (i : Nat) {e : List UInt8} (he : e.length = 64) : (putT L i e).length = 512 := by
  unfold putT; rw [List.length_append, List.length_append, List.length_take, List.length_drop]; omega
theorem inoL_at {L : List UInt8} (i j : Nat) (h : j < (inoL L i).length) (h2 : i % 8 * 64 + j < L.length) : (inoL L i)[j] = L[i % 8 * 64 + j] := by
  simp [inoL]
theorem length_nodeD (l : List UInt8) : (nodeC (decL l)).length = 15 := by
  unfold nodeC decL; rw [List.length_append, List.length_map, length_decP]; rfl
set_option maxRecDepth 100000 in
theorem results_get {w : World} {tmps : Array Value} {b : Nat} {cs : List Value} (h1 : tmps.getD 4 undef = .pointer (some ⟨b, 0, none⟩)) (r : w.heap[b]? = some (.cells cs.toArray 100 (0, 0))) (hl : cs.length = 15) :
    (results Tryz.f90 tmps).run Tryz.prog w = .ok (.agg cs.toArray) w := by
  have h1' : tmps[4]?.getD undef = .pointer (some ⟨b, 0, none⟩) := by simpa using h1
  have hr := run_loadVar_mid (P := Tryz.prog) w b 0 100 cs _ (by have := range_of_block r; exact this) Tryz.underlying100 rfl (by rw [hl]; kernel_rfl)
  simp only [results, Tryz.results90]
  simp [h1', asAddr, hr]
section
variable {w : World} {m c ino : Nat} {F : Nat → Prop} {size N : Nat} {Pg Cm : Nat → List UInt8} {D : Int → Bool} {o u : Nat}
theorem aTable_in (h : mapB w m c ino) (hi : ino ≤ 512) (i : Nat) (hin : i < ino) : Calls Tryz.prog 83 #[.pointer (some ⟨m, 0, none⟩), .int .i64 i] w fun e w' => e = .returned (.tuple #[.int .i64 (3 + i / 8 : Nat), .int .i64 (i % 8 * 64 : Nat), .int .i64 0]) ∧ w' = w := by
  refine (aTable_any h hi (i : Int)).mono ?_
  rintro e w' ⟨rfl, rfl⟩
  rw [if_pos ⟨by omega, by omega⟩]
  refine ⟨?_, rfl⟩
  have e1 : (3 : Int) + (i : Int) / 8 = ((3 + i / 8 : Nat) : Int) := by omega
  have e2 : (i : Int) % 8 * 64 = ((i % 8 * 64 : Nat) : Int) := by omega
  rw [e1, e2]
set_option maxRecDepth 100000 in
theorem iget_any (h : mapB w m c ino) (hi : ino ≤ 512) (i : Nat) (hin : i < ino) (hN : 3 + i / 8 < N) (hu : u < 1000000) (hp : Pc w c F size N Pg Cm D o u) :
    Calls Tryz.prog 90 #[gV m, .int .i64 i] w fun e w' => e = .returned (nodeV (decL (inoL (Pg (3 + i / 8)) i))) ∧ Keeps F w w' ∧ ∀ W, Keeps (fun i => w.heap.size ≤ i) w' W → Pc W c F size N Pg Cm D o (u + 1) := by
  have HLen := hid (hp.len _ hN)
  have HT := hid (fun W (hW : Below w.heap.size w W) => aTable_in (h.below hW) hi i hin)
  have HPg := hid (fun W (hW : Below w.heap.size w W) => ipage_any (h.below hW) (3 + i / 8) hN hu hp hW)
  obtain ⟨a, ha⟩ : ∃ a, a = i % 8 * 64 := ⟨_, rfl⟩
  obtain ⟨p, hpp⟩ : ∃ p, p = 3 + i / 8 := ⟨_, rfl⟩
  have HA := hid ha
  have ha4 : a ≤ 448 := by omega
  have ha5 : (a : Int) ≤ 448 := by omega
  have ha0 : (0 : Int) ≤ (a : Int) := by omega
  rw [← ha, ← hpp] at HT
  rw [← hpp] at HPg HLen ⊢
  have HFl := hid hp.lt
  clear h hp hpp ha
  unfold gV at HPg ⊢
  obtain ⟨wb, hwb⟩ : ∃ wb, wb = (w.alloc (.cells #[.pointer (some ⟨m, 0, none⟩)] 84)).alloc (.cells #[.int .i64 0, .int .i64 0, .int .i64 0, .int .i64 0, .int .i64 0, .int .i64 0, .int .i64 0, .int .i64 0, .int .i64 0, .int .i64 0, .int .i64 0, .int .i64 0, .int .i64 0, .int .i64 0, .int .i64 0] 100) := ⟨_, rfl⟩
  have hB : Below w.heap.size w wb := by rw [hwb]; exact ((Below.refl _ w).alloc (Nat.le_refl _) _).alloc (by simp) _
  have hb0 : wb.heap[w.heap.size]? = some (.cells #[.pointer (some ⟨m, 0, none⟩)] 84 (0, 0)) := by rw [hwb]; exact block_alloc (block_new w _) _
  have hb1 : wb.heap[w.heap.size + 1]? = some (.cells #[.int .i64 0, .int .i64 0, .int .i64 0, .int .i64 0, .int .i64 0, .int .i64 0, .int .i64 0, .int .i64 0, .int .i64 0, .int .i64 0, .int .i64 0, .int .i64 0, .int .i64 0, .int .i64 0, .int .i64 0] 100 (0, 0)) := by
    have h1 := block_new (w.alloc (.cells #[.pointer (some ⟨m, 0, none⟩)] 84)) (.cells #[.int .i64 0, .int .i64 0, .int .i64 0, .int .i64 0, .int .i64 0, .int .i64 0, .int .i64 0, .int .i64 0, .int .i64 0, .int .i64 0, .int .i64 0, .int .i64 0, .int .i64 0, .int .i64 0, .int .i64 0] 100)
    rw [World.size_alloc] at h1
    rw [hwb]; exact h1
  have HB := hid hB
  have HB0 := hid hb0
  have HB1 := hid hb1
  have c0 : ((w.alloc (.cells #[.pointer (some ⟨m, 0, none⟩)] 84)).alloc (.cells #[.int .i64 0, .int .i64 0, .int .i64 0, .int .i64 0, .int .i64 0, .int .i64 0, .int .i64 0, .int .i64 0, .int .i64 0, .int .i64 0, .int .i64 0, .int .i64 0, .int .i64 0, .int .i64 0, .int .i64 0] 100)).cell? ⟨w.heap.size, 0, none⟩ = some (.pointer (some ⟨m, 0, none⟩)) := by rw [← hwb]; exact cell_of_block hb0 0
  clear hB hb0 hb1
  go_enter Tryz.func90, Tryz.ntmps90
  go_wp2_with fail
  rw [← hwb] at c0 ⊢
  clear hwb
  refine (HT.out wb HB.out).mono ?_
  clear HT
  rintro e w1 ⟨rfl, h1⟩
  obtain rfl := h1.symm
  clear h1
  go_wp2_with fail
  refine (HPg.out wb HB.out).mono ?_
  clear HPg
  rintro e w3 ⟨g, rfl, hg, ho3, hk3, hW3⟩
  have hn5 : ¬ (512 = a) := by omega
  have hby : bytesAt w3 ⟨g, a, none⟩ (inoL (Pg p) i) := fun j hj => by
    have hj6 : j < 64 := by rw [length_inoL HLen.out] at hj; exact hj
    have h1 := ho3.cell (a + j) (by rw [HLen.out]; omega)
    rw [Addr.add_mid, h1, inoL_at i j hj (by rw [HLen.out, ← HA.out]; omega)]
    simp only [HA.out]
  have HD := hid (idec_any g a (512 - a) (inoL (Pg p) i) w3 hby (length_inoL HLen.out i) (by omega) (by omega))
  have HK3 := hid hk3
  have HW3 := hid hW3
  clear hby ho3 hk3 hW3
  go_wp2_with fail
  refine HD.out.mono ?_
  clear HD
  rintro e w5 ⟨rfl, hb5⟩
  have hs3 := HB.out.size
  have hk5 : Keeps F wb w5 := HK3.out.trans (Keeps.of_below hb5 : Keeps (fun _ => False) w3 w5) (fun i e => e.elim)
  have HR5 := hid (hk5.heap HB1.out (fun hf => by have := HFl.out _ hf; omega))
  have HK5 := hid hk5
  have HB5 := hid hb5
  clear hb5 hk5 HK3
  unfold nodeV
  generalize hdl : decL (inoL (Pg p) i) = nd at *
  have hnl : (nodeC nd).length = 15 := by rw [← hdl]; exact length_nodeD _
  have HNl := hid hnl
  have HDl := hid hdl
  clear hdl hnl
  go_wp2_with (refine wpList_store_block rfl 100 (.tmp 4) (.tmp 22) rfl (w.heap.size + 1) (nodeC nd).toArray rfl rfl _ _ HR5.out (by rw [List.size_toArray, HNl.out]; rfl) (by rw [List.size_toArray, HNl.out]; kernel_rfl) (nodeC_one _) ?_; intro w6 hg6 hb6 hz6)
  have k56 : Keeps (fun i => w.heap.size ≤ i) w5 w6 := Keeps.of_grown hg6 (fun i e => by cases e; show w.heap.size ≤ w.heap.size + 1; omega)
  refine bodyPost_ret (results_get rfl hb6 HNl.out) rfl ⟨by rw [HDl.out]; rfl, ?_, fun W hW => HW3.out W ((Keeps.of_below HB5.out).trans (k56.trans hW (fun i e => .inl e)) (fun i e => .inl e))⟩
  exact (((Keeps.of_below HB.out : Keeps F w wb).trans HK5.out (fun i e => .inl e)).trans k56 (fun i e => .inr e))
set_option maxRecDepth 100000 in
theorem iput_any (h : mapB w m c ino) (hmF0 : ¬ F m) (hi : ino ≤ 512) (i : Nat) (hin : i < ino) (n : NodeS) (hn : n.ok) (hN : 3 + i / 8 < N) (hu : u < 1000000) (hr : D ((3 + i / 8 : Nat) : Int) = true ∨ (dkD N D).length < min size 100) (hp : Pc w c F size N Pg Cm D o u) :
    Calls Tryz.prog 38 #[gV m, .int .i64 i, nodeV n] w fun e w' => e = .returned (.int .i64 0) ∧ Keeps F w w' ∧ Pc w' c F size N (updP Pg (3 + i / 8) (putT (Pg (3 + i / 8)) i (encL n))) Cm (updT D ((3 + i / 8 : Nat) : Int)) o (u + 1) := by
  have HLen := hid (hp.len _ hN)
  have HMb := hid h
  have HT := hid (fun W (hW : Below w.heap.size w W) => aTable_in (h.below hW) hi i hin)
  have HPg := hid (fun W (hW : Below w.heap.size w W) => ipage_any (h.below hW) (3 + i / 8) hN hu hp hW)
  have HEn := hid (fun W => ienc_any n hn W)
  obtain ⟨a, ha⟩ : ∃ a, a = i % 8 * 64 := ⟨_, rfl⟩
  have HPu : Hid (∀ L e, putT L i e = L.take a ++ e ++ L.drop (a + 64)) := fun L e => by unfold putT; rw [ha]
  obtain ⟨p, hpp⟩ : ∃ p, p = 3 + i / 8 := ⟨_, rfl⟩
  have ha4 : a ≤ 448 := by omega
  have ha5 : (a : Int) ≤ 448 := by omega
  have ha0 : (0 : Int) ≤ (a : Int) := by omega
  rw [← ha, ← hpp] at HT
  rw [← hpp] at HPg HLen hr ⊢
  have HPN : Hid (p < N) := by rw [hpp]; exact hN
  have HFl := hid hp.lt
  have HRo := hid hr
  have hel : (encL n).length = 64 := length_encTo n 11 (Nat.le_refl _) hn.pages
  have HEl := hid hel
  have hpl := hn.pages
  clear h hp hpp ha hr hn hel hN
  unfold gV at HPg ⊢
  unfold nodeV at HEn ⊢
  have hncs : (nodeC n).length = 15 := by unfold nodeC; rw [List.length_append, List.length_map, hpl]; rfl
  generalize nodeC n = nc at *
  have HNs := hid hncs
  clear hncs hpl
  obtain ⟨wb, hwb⟩ : ∃ wb, wb = (w.alloc (.cells #[.pointer (some ⟨m, 0, none⟩)] 84)).alloc (.cells nc.toArray 100) := ⟨_, rfl⟩
  have hB : Below w.heap.size w wb := by rw [hwb]; exact ((Below.refl _ w).alloc (Nat.le_refl _) _).alloc (by simp) _
  have hb0 : wb.heap[w.heap.size]? = some (.cells #[.pointer (some ⟨m, 0, none⟩)] 84 (0, 0)) := by rw [hwb]; exact block_alloc (block_new w _) _
  have hb1 : wb.heap[w.heap.size + 1]? = some (.cells nc.toArray 100 (0, 0)) := by
    have h1 := block_new (w.alloc (.cells #[.pointer (some ⟨m, 0, none⟩)] 84)) (.cells nc.toArray 100)
    rw [World.size_alloc] at h1
    rw [hwb]; exact h1
  have hsb : wb.heap.size = w.heap.size + 2 := by rw [hwb]; simp
  have HSb := hid hsb
  clear hsb
  have HB := hid hB
  have HB0 := hid hb0
  have HB1 := hid hb1
  have c0 : ((w.alloc (.cells #[.pointer (some ⟨m, 0, none⟩)] 84)).alloc (.cells nc.toArray 100)).cell? ⟨w.heap.size, 0, none⟩ = some (.pointer (some ⟨m, 0, none⟩)) := by rw [← hwb]; exact cell_of_block hb0 0
  clear hB hb0 hb1
  go_enter Tryz.func38, Tryz.ntmps38
  go_wp2_with fail
  rw [← hwb] at c0 ⊢
  clear hwb
  refine (HT.out wb HB.out).mono ?_
  clear HT
  rintro e w1 ⟨rfl, h1⟩
  obtain rfl := h1.symm
  clear h1
  go_wp2_with fail
  refine (HPg.out wb HB.out).mono ?_
  clear HPg
  rintro e w3 ⟨g, rfl, hg, ho3, hk3, hW3⟩
  have hn5 : ¬ (512 = a) := by omega
  have hs3 := HB.out.size
  have HR0 := hid (hk3.heap HB0.out (fun hf => by have := HFl.out _ hf; omega))
  have HR1 := hid (hk3.heap HB1.out (fun hf => by have := HFl.out _ hf; omega))
  have HO3 := hid ho3
  have HG := hid hg
  have HK3 := hid hk3
  have HW3 := hid hW3
  clear ho3 hk3 hW3 hg HB0 HB1 c0
  go_wp2_with fail
  have hbd : Below w3.heap.size w3 w3.drew := (Below.refl _ w3).drew
  have HBd := hid hbd
  have HR1d := hid (below_block hbd HR1.out (lt_of_heap HR1.out))
  clear hbd
  refine wp_region_noPanic ?_
  refine wp_region_held_drew (S := fun W => W.heap[w.heap.size + 1]? = some (.cells nc.toArray 100 (0, 0))) (by kernel_rfl) HR1.out (fun hHeld => ?_)
  generalize w3.drew = wd at *
  refine tk 0 ?_ rfl (by kernel_rfl) (fun _ _ _ h => h) (by rfl) (by assumption) ?_ ?_
  rotate_left
  · (intro W h; (try dsimp only at h); obtain s0 := h; go_simp; try with_reducible rfl)
  try simp only [tS]
  refine tk 1 ?_ rfl (by kernel_rfl) (fun _ _ _ h => h) (by rfl) (by assumption) ?_ ?_
  rotate_left
  · (intro W h; (try dsimp only at h); obtain s0 := h; go_simp; try with_reducible rfl)
  try simp only [tS]
  have hq5 : (a : Int) ≤ 512 := by omega
  refine tk 2 (.slice (some ⟨g, a, none⟩) (512 - a) (512 - a)) rfl (by kernel_rfl) (fun _ _ _ h => h) (by rfl) (by assumption) ?_ ?_
  · (intro W h; (try dsimp only at h); obtain s0 := h; go_simp; try first | with_reducible rfl | go_num | (rw [if_pos (by assumption)]; simp only [*]) | simp only [*])
  try simp only [tS]
  refine wpAnyH_take (i := 3) (v := .agg nc.toArray) rfl (by kernel_rfl) (by kernel_rfl) (by kernel_rfl) (fun _ _ _ h => h) (yieldsIf_load_mid (by rfl) 100 (.tmp 5) rfl (w.heap.size + 1) 0 rfl nc _ (fun W hW => by have := range_of_block hW; exact this) Tryz.underlying100 rfl (by rw [HNs.out]; kernel_rfl)) (by assumption) ?_
  try simp only [tS]
  refine wpAnyH_ready (rs := [4]) (by kernel_rfl) (by simp) (AllReadyH.cons rfl (fun K hK => ?_) AllReadyH.nil)
  rw [if_pos (by rfl)]
  go_simp
  refine (HEn.out wd).mono ?_
  clear HEn
  rintro e w5 ⟨b5, rfl, hb5, ho5, hB5⟩
  have HR5 := hid (below_block hB5 HR1d.out (lt_of_heap HR1d.out))
  have HO5 := hid ho5
  have HB5 := hid hB5
  have hd3 := HBd.out.size
  have HOg := hid (((HO3.out.below HBd.out).below hB5))
  have hgb : g < w3.heap.size := HO3.out.lt
  clear hB5 ho5
  go_wp2_with fail
  refine hK.out _ _ HR5.out (fun hHeld => ?_)
  clear hK K
  try simp only [tS]
  refine wpAnyH_ready (rs := [5]) (by kernel_rfl) (by simp) (AllReadyH.cons rfl (fun K hK => ?_) AllReadyH.nil)
  rw [if_pos (by rfl)]
  refine wp_copy_own8 (.tmp 24) (.tmp 26) rfl g a (512 - a) (512 - a) ⟨b5, 0, none⟩ 64 64 rfl rfl (Pg p) (encL n) HOg.out HO5.out.at (by rw [HEl.out]; show 64 = min 64 (512 - a); omega) (by rw [HEl.out, HLen.out]; omega) ?_
  intro w6 hk6 ho6 hz6
  rw [HEl.out] at ho6
  have hge := HG.out
  have hsb := HSb.out
  have k36 : Keeps (fun i => i = g) w3 w6 := (Keeps.of_below HBd.out : Keeps (fun i => i = g) w3 wd).trans ((Keeps.of_below HB5.out : Keeps (fun i => i = g) wd w5).trans hk6 (fun i e => .inl e)) (fun i e => .inl e)
  have HR6 := hid (k36.heap HR1.out (fun e => by have e' : w.heap.size + 1 = g := e; omega))
  have c6 : w6.cell? ⟨w.heap.size, 0, none⟩ = some (.pointer (some ⟨m, 0, none⟩)) := cell_of_block (k36.heap HR0.out (fun e => by have e' : w.heap.size = g := e; omega)) 0
  have hpl : putT (Pg p) i (encL n) = (Pg p).take a ++ encL n ++ (Pg p).drop (a + 64) := HPu.out _ _
  rw [← hpl] at ho6
  have k36' : Keeps (fun i => w.heap.size ≤ i) w3 w6 := k36.mono (fun i e => by have e' : i = g := e; show w.heap.size ≤ i; omega)
  have hp6 := HW3.out w6 k36'
  have hpln : (putT (Pg p) i (encL n)).length = 512 := length_putT HLen.out i HEl.out
  have HWr := hid (hp6.write p HPN.out (putT (Pg p) i (encL n)) hpln ⟨g, 0, none⟩ 512 ho6.at HRo.out)
  have kw6 : Keeps F w w6 := ((Keeps.of_below HB.out : Keeps F w wb).trans HK3.out (fun i e => .inl e)).trans k36' (fun i e => .inr e)
  have HKw := hid kw6
  have HCa := hid (amCache_any (HMb.out.keep kw6 hmF0))
  clear hk6 ho6 hz6 hge k36 k36' hp6 hpln hpl kw6
  refine hK.out _ _ HR6.out (fun hHeld => ?_)
  clear hK K
  try simp only [tS]
  refine wpAnyH_done (by kernel_rfl) ?_ _
  refine NoPanic.normal ?_
  clear hHeld
  go_wp2_with fail
  refine HCa.out.mono ?_
  clear HCa
  rintro e w7 ⟨rfl, h7⟩
  obtain rfl := h7.symm
  clear h7
  go_wp2_with fail
  refine HWr.out.mono ?_
  clear HWr
  rintro e w8 ⟨rfl, hk8, hp8⟩
  have HK8 := hid hk8
  have HP8 := hid hp8
  clear hk8 hp8
  go_wp2
  go_ret
  exact ⟨rfl, HKw.out.trans HK8.out (fun i e => .inl e), HP8.out⟩
end
end Go.Proofs.YthdcloaaahhnaaaGreat
/- A cache stays when a block of numbers or bools is written that is none of its own. -/
namespace Go.Proofs.YthdcloaaahhnaaaGreat
open Go.RowKit Go.Maps
/-- A block of numbers, bools, slices or pointers, none of a log's, a cache's, a map's. -/
def offN (w : World) (b : Nat) : Prop := ∃ cs t fr, w.heap[b]? = some (.cells cs t fr) ∧ (t ≠ 70 ∧ t ≠ 75 ∧ t ≠ 79) ∧ ∀ v ∈ cs.toList, (∃ n, v = .int .i64 n) ∨ (∃ x, v = .bool x) ∨ (∃ a n c, v = .slice a n c) ∨ ∃ a, v = .pointer a
theorem offN.not {w : World} {b : Nat} {ad : Addr} {v : Value} (h : offN w b) (hc : w.cell? ad = some v) (hv : (∀ n, v ≠ .int .i64 n) ∧ (∀ x, v ≠ .bool x) ∧ (∀ a n c, v ≠ .slice a n c) ∧ ∀ a, v ≠ .pointer a) : ad.block ≠ b := fun e => by
  obtain ⟨cs, t, fr, hb, -, hk⟩ := h
  have hp := plain_addr hc
  rw [hp, e, cell_of_block hb] at hc
  have hm : v ∈ cs.toList := by
    obtain ⟨h1, h2⟩ := Array.getElem?_eq_some_iff.1 hc
    rw [← h2]; simp
  rcases hk v hm with ⟨n, rfl⟩ | ⟨x, rfl⟩ | ⟨a, n, c, rfl⟩ | ⟨a, rfl⟩
  · exact hv.1 n rfl
  · exact hv.2.1 x rfl
  · exact hv.2.2.1 a n c rfl
  · exact hv.2.2.2 a rfl
theorem offN.noMap {w : World} {b : Nat} (h : offN w b) (e : Array MapEntry) (k : Nat) : w.heap[b]? ≠ some (.map e k) := fun hm => by
  obtain ⟨cs, t, fr, hb, -⟩ := h
  rw [hb] at hm; cases hm
theorem offN.type {w : World} {b : Nat} (h : offN w b) {cs : Array Value} {t : TypeId} {fr : Nat × Nat} (hm : w.heap[b]? = some (.cells cs t fr)) : t ≠ 70 ∧ t ≠ 75 ∧ t ≠ 79 := by
  obtain ⟨cs', t', fr', hb, ht, -⟩ := h
  rw [hb] at hm
  simp only [Option.some.injEq, Obj.cells.injEq] at hm
  rw [← hm.2.1]; exact ht
theorem AnyAt.keepY {w w' : World} {d : DL} {S : DiskS} {F G : Nat → Prop} (h : AnyAt w d S F) (hb : ∀ b, G b → offN w b) (hF : ∀ b, G b → ¬ F b) (k : Keeps G w w') : AnyAt w' d S F := by
  rcases h with ⟨h, hf⟩ | ⟨h, hf⟩
  · refine .inl ⟨?_, hf⟩
    have hne : ∀ i, d.cutFoot S.waits i → ¬ G i := fun i hi e => hF i e (hf i hi)
    obtain ⟨h1, ⟨a, e1, e2, e3⟩, ⟨ad, c, e4, e5, e6⟩, h4⟩ := h
    refine ⟨h1.keep k (hne _ (.inl rfl)) (fun i hi => hne i (.inr hi)), ⟨a, e1, e2, fun q hq => ⟨fun j u hu => ?_, Nat.lt_of_lt_of_le (e3 q hq).2 k.size⟩⟩, ⟨ad, c, e4, fun j s hj => ?_, e6⟩, h4⟩
    · refine k.cell ((e3 q hq).1 j u hu) (fun hG => (hb _ hG).not ((e3 q hq).1 j u hu) ?_ rfl)
      rw [List.getElem?_map] at hu
      cases ho : S.ops[j]? with
      | none => rw [ho] at hu; cases hu
      | some o => rw [ho] at hu; obtain rfl := Option.some.inj hu; cases o <;> simp [encOp]
    · exact k.cell (e5 j s hj) (fun hG => (hb _ hG).not (e5 j s hj) (by simp) rfl)
  · refine .inr ⟨?_, hf⟩
    have hne : ∀ i, d.foot S.waits i → ¬ G i := fun i hi e => hF i e (hf i hi)
    refine h.keep k hne (fun i hi e => ?_)
    obtain ⟨ad, c, e4, e5, e6⟩ := h.first
    have hpos : 0 < S.first.length := by rw [h.flen]; exact h.plates.pos
    have hc := e5 0 S.first[0] (List.getElem?_eq_getElem hpos)
    have h1 := (hb i e).not hc (by simp)
    rw [add_block] at h1
    rw [e4] at hi
    exact h1 (Option.some.inj hi)
theorem LogIn.keepY {w w' : World} {p : Nat} {d : DL} {S : DiskS} {size rec : Nat} {F G : Nat → Prop} (h : LogIn w p d S size rec F) (hb : ∀ b, G b → offN w b) (hF : ∀ b, G b → ¬ F b) (k : Keeps G w w') : LogIn w' p d S size rec F := by
  refine ⟨k.heap h.heap (fun e => ?_), h.disk.keepY hb hF k, h.off⟩
  exact absurd ((hb p e).type h.heap) (by decide)
theorem CacheAt.keepY {w w' : World} {c : Nat} {L : CLay} {C : CS} (h : CacheAt w c L C) {G : Nat → Prop} (hg : ∀ b, G b → offN w b) (hF : ∀ b, G b → ¬ L.F b) (k : Keeps G w w') : CacheAt w' c L C := by
  obtain ⟨es, kk, hm⟩ := h.dmap
  obtain ⟨es', kk', hu⟩ := h.umap
  have hmap : ∀ m e k0, w.heap[m]? = some (.map e k0) → ¬ G m := fun m e k0 hm e1 => (hg m e1).noMap _ _ hm
  exact {
    heap := k.heap h.heap (fun e => absurd ((hg c e).type h.heap) (by decide))
    log := h.log.keepY hg hF k
    lt := fun i hi => Nat.lt_of_lt_of_le (h.lt i hi) k.size
    dirty := h.dirty.keep k (hmap _ _ _ hm)
    bytes := fun n v hv => by
      obtain ⟨g', cap, bs, h1, h2, h3, h4, h5⟩ := h.bytes n v hv
      subst h2
      refine ⟨g', cap, bs, h1, rfl, fun j hj => k.cell (h3 j hj) (fun hG => (hg _ hG).not (h3 j hj) (by simp) rfl), h4, h5⟩
    clean := h.clean
    used := h.used.keep k (hmap _ _ _ hu)
    offc := h.offc
    offd := h.offd
    offu := h.offu
    ne := h.ne
    pages := h.pages
    fits := h.fits
    few := h.few
    ub := h.ub }
section
variable {w w' : World} {c : Nat} {F : Nat → Prop} {size N : Nat} {Pg Cm : Nat → List UInt8} {D : Int → Bool} {o u : Nat}
/-- The same for several blocks. -/
theorem Pc.keepYs (h : Pc w c F size N Pg Cm D o u) {G : Nat → Prop} (hg : ∀ b, G b → offN w b) (hF : ∀ b, G b → ¬ F b) (k : Keeps G w w') : Pc w' c F size N Pg Cm D o u := by
  obtain ⟨L, C, h⟩ := h
  exact ⟨L, C, h.at_.keepY hg (fun b hb hf => hF b hb (h.foot _ (.inl hf))) k, h.sz, h.nn, h.made, h.ops, h.uses, h.pg, h.cm, h.dirty, h.room, h.foot, fun i hi => Nat.lt_of_lt_of_le (h.lt i hi) k.size, Nat.lt_of_lt_of_le h.p0 k.size, h.quiet⟩
theorem Pc.keepY (h : Pc w c F size N Pg Cm D o u) {b : Nat} (hg : offN w b) (hF : ¬ F b) (k : Keeps (fun i => i = b) w w') : Pc w' c F size N Pg Cm D o u := h.keepYs (G := fun i => i = b) (fun i e => by have e' : i = b := e; rw [e']; exact hg) (fun i e => by have e' : i = b := e; rw [e']; exact hF) k
end
end Go.Proofs.YthdcloaaahhnaaaGreat
/- law05's live. -/
namespace Go.Proofs.YthdcloaaahhnaaaGreat
open Go.RowKit
theorem freeTo_none {L : List UInt8} {a z : Nat} : ∀ k, (∀ j, j < k → isFree L a z j = false) → freeTo L a z k = []
  | 0, _ => rfl
  | k + 1, h => by rw [freeTo_no (h k (by omega)), freeTo_none k (fun j hj => h j (by omega))]
/-- The first free one. -/
theorem freeTo_is {L : List UInt8} {a z k : Nat} (h1 : ∀ j, j < k → isFree L a z j = false) (h2 : isFree L a z k = true) (hk : k < 4096) : ∃ rest, freeTo L a z 4096 = k :: rest := freeTo_head (freeTo_none k h1) h2 hk
theorem dkD_putLD (N : Nat) : ∀ (ks : List (Nat × List UInt8)) (D : Int → Bool), (dkD N (putLD D ks)).length ≤ (dkD N D).length + ks.length
  | [], _ => Nat.le_refl _
  | p :: ks, D => by
    have ih := dkD_putLD N ks (updT D p.1)
    have h1 := dkD_updT N D p.1
    have e : putLD D (p :: ks) = putLD (updT D p.1) ks := rfl
    rw [e, List.length_cons]
    have h2 : (if D (p.1 : Int) = true then 0 else 1) ≤ 1 := by split <;> omega
    omega
theorem dkD_upd1 (N : Nat) (D : Int → Bool) (n : Nat) : (dkD N (updT D n)).length ≤ (dkD N D).length + 1 := by
  have h1 := dkD_updT N D n
  have h2 : (if D (n : Int) = true then 0 else 1) ≤ 1 := by split <;> omega
  omega
theorem length_empK (N ino k : Nat) : (empK N ino k).length = 3 + k := by simp [empK]; omega
/-- What page n has, behind Make. -/
theorem putL_other {Pg : Nat → List UInt8} {n : Nat} : ∀ (ks : List (Nat × List UInt8)), (∀ x ∈ ks, x.1 ≠ n) → putL Pg ks n = Pg n := by
  intro ks
  induction ks generalizing Pg with
  | nil => intro _; rfl
  | cons p ks ih =>
    intro h
    have e : putL Pg (p :: ks) = putL (updP Pg p.1 p.2) ks := rfl
    rw [e, ih (fun x hx => h x (List.mem_cons_of_mem _ hx))]
    unfold updP
    rw [if_neg (fun e => h p List.mem_cons_self e.symm)]
theorem made_at (N ino k : Nat) (Pg : Nat → List UInt8) : putL Pg (empK N ino k) 0 = superL N ino ∧ putL Pg (empK N ino k) 1 = bitsTo 1 ∧ putL Pg (empK N ino k) 2 = bitsTo (3 + ino / 8) := by
  have e : putL Pg (empK N ino k) = putL (updP (updP (updP Pg 0 (superL N ino)) 1 (bitsTo 1)) 2 (bitsTo (3 + ino / 8))) ((List.range k).map (fun j => (3 + j, zN 512))) := rfl
  have hr : ∀ n, n < 3 → ∀ x ∈ (List.range k).map (fun j => (3 + j, zN 512)), x.1 ≠ n := fun n hn x hx => by
    obtain ⟨j, -, rfl⟩ := List.mem_map.1 hx
    show 3 + j ≠ n
    omega
  rw [e, putL_other _ (hr 0 (by omega)), putL_other _ (hr 1 (by omega)), putL_other _ (hr 2 (by omega))]
  exact ⟨rfl, rfl, rfl⟩
end Go.Proofs.YthdcloaaahhnaaaGreat
/- The store: New, Get, Make. -/
namespace Go.Proofs.YthdcloaaahhnaaaGreat
open Go.RowKit
/-- A store in memory. -/
def storeB (w : World) (s m : Nat) : Prop := w.heap[s]? = some (.cells #[.pointer (some ⟨m, 0, none⟩)] 86 (0, 0))
theorem storeB.keep {w w' : World} {s m : Nat} {F : Nat → Prop} (h : storeB w s m) (k : Keeps F w w') (hF : ¬ F s) : storeB w' s m := k.heap h hF
theorem storeB.below {w w' : World} {s m : Nat} (h : storeB w s m) (k : Below w.heap.size w w') : storeB w' s m := below_block k h (lt_of_heap h)
theorem storeB.cell {w : World} {s m : Nat} (h : storeB w s m) : w.cell? ⟨s, 0, none⟩ = some (.pointer (some ⟨m, 0, none⟩)) := cell_of_block h 0
set_option maxRecDepth 100000 in
theorem iNew_ok (m : Nat) (w : World) : Calls Tryz.prog 8 #[.pointer (some ⟨m, 0, none⟩)] w fun e w' => e = .returned (.tuple #[.pointer (some ⟨w.heap.size, 0, none⟩), .int .i64 0]) ∧ storeB w' w.heap.size m ∧ Below w.heap.size w w' := by
  have hb : Below w.heap.size w (w.alloc (.cells #[.pointer (some ⟨m, 0, none⟩)] 86)) := (Below.refl _ w).alloc (Nat.le_refl _) _
  have hn : storeB (w.alloc (.cells #[.pointer (some ⟨m, 0, none⟩)] 86)) w.heap.size m := block_new w _
  have HB := hid hb
  have HN := hid hn
  clear hb hn
  go_enter Tryz.func8, Tryz.ntmps8
  go_wp2
  go_returns
  exact ⟨rfl, HN.out, HB.out⟩
set_option maxRecDepth 100000 in
theorem iend_ok (s : Nat) (w : World) : Calls Tryz.prog 39 #[.pointer (some ⟨s, 0, none⟩), .int .i64 0] w fun e w' => e = .returned (.int .i64 0) ∧ w' = w := by
  go_enter Tryz.func39, Tryz.ntmps39
  go_wp2
  go_ret
  exact ⟨rfl, rfl⟩
theorem node_off {w : World} {b : Nat} {cs : List Value} {fr : Nat × Nat} (h : w.heap[b]? = some (.cells cs.toArray 100 fr)) (hc : ∀ v ∈ cs, ∃ n, v = .int .i64 n) : offN w b :=
  ⟨_, _, _, h, by decide, fun v hv => .inl (hc v (by simpa using hv))⟩
theorem zero15 : ∀ v ∈ (List.replicate 15 (Value.int .i64 0)), ∃ n, v = .int .i64 n := fun _ hv => ⟨0, List.eq_of_mem_replicate hv⟩
set_option maxRecDepth 100000 in
theorem results_Get {w : World} {tmps : Array Value} {b : Nat} {cs : List Value} {t : Value} (h1 : tmps.getD 4 undef = .pointer (some ⟨b, 0, none⟩)) (h2 : tmps.getD 5 undef = t) (r : w.heap[b]? = some (.cells cs.toArray 100 (0, 0))) (hl : cs.length = 15) :
    (results Tryz.f40 tmps).run Tryz.prog w = .ok (.tuple #[.agg cs.toArray, t]) w := by
  have h1' : tmps[4]?.getD undef = .pointer (some ⟨b, 0, none⟩) := by simpa using h1
  have h2' : tmps[5]?.getD undef = t := by simpa using h2
  have hr := run_loadVar_mid (P := Tryz.prog) w b 0 100 cs _ (by have := range_of_block r; exact this) Tryz.underlying100 rfl (by rw [hl]; kernel_rfl)
  simp only [results, Tryz.results40]
  simp [h1', h2', asAddr, hr]
section
variable {w : World} {s m c ino : Nat} {F : Nat → Prop} {size N : Nat} {Pg Cm : Nat → List UInt8} {D : Int → Bool} {o u : Nat}
set_option maxRecDepth 100000 in
theorem iGet_ok (h : mapB w m c ino) (hmF : ¬ F m) (hs : storeB w s m) (hsF : ¬ F s) (hi : ino ≤ 512) (i : Nat) (hi0 : 0 < i) (hin : i < ino) (hb : bitL (Pg 1) i = true) (hN : 3 + i / 8 < N) (hu : u < 999990) (hp : Pc w c F size N Pg Cm D o u) :
    Calls Tryz.prog 40 #[.pointer (some ⟨s, 0, none⟩), .int .i64 i] w fun e w' => e = .returned (.tuple #[nodeV (decL (inoL (Pg (3 + i / 8)) i)), .int .i64 0]) ∧ Keeps F w w' ∧ Pc w' c F size N Pg Cm D o (u + 2) := by
  have ht : takenP (Pg 1) 1 ino (i : Int) = true := by
    unfold takenP
    rw [if_pos ⟨by omega, by omega⟩, Int.toNat_natCast]; exact hb
  obtain ⟨wb, hwb⟩ : ∃ wb, wb = w.alloc (.cells #[.int .i64 0, .int .i64 0, .int .i64 0, .int .i64 0, .int .i64 0, .int .i64 0, .int .i64 0, .int .i64 0, .int .i64 0, .int .i64 0, .int .i64 0, .int .i64 0, .int .i64 0, .int .i64 0, .int .i64 0] 100) := ⟨_, rfl⟩
  have hB : Below w.heap.size w wb := by rw [hwb]; exact (Below.refl _ w).alloc (Nat.le_refl _) _
  have hr0 : wb.heap[w.heap.size]? = some (.cells #[.int .i64 0, .int .i64 0, .int .i64 0, .int .i64 0, .int .i64 0, .int .i64 0, .int .i64 0, .int .i64 0, .int .i64 0, .int .i64 0, .int .i64 0, .int .i64 0, .int .i64 0, .int .i64 0, .int .i64 0] 100 (0, 0)) := by rw [hwb]; exact block_new w _
  have HIn := hid (amInodes_any (h.below hB))
  have hus := aUsedInode_any (h.below hB) hmF hi (i : Int) (by omega) (by omega) (hp.below hB)
  rw [ht] at hus
  have HUs := hid hus
  have HGt := hid (fun W (hk : Keeps F wb W) (hW : Pc W c F size N Pg Cm D o (u + 1)) => iget_any ((h.below hB).keep hk hmF) hi i hin hN (by omega) hW)
  have c0 : (w.alloc (.cells #[.int .i64 0, .int .i64 0, .int .i64 0, .int .i64 0, .int .i64 0, .int .i64 0, .int .i64 0, .int .i64 0, .int .i64 0, .int .i64 0, .int .i64 0, .int .i64 0, .int .i64 0, .int .i64 0, .int .i64 0] 100)).cell? ⟨s, 0, none⟩ = some (.pointer (some ⟨m, 0, none⟩)) := by rw [← hwb]; exact (hs.below hB).cell
  have HSt := hid (hs.below hB)
  have HB := hid hB
  have HR0 := hid hr0
  have HFl := hid hp.lt
  have hi0' : ¬ ((i : Int) ≤ 0) := by omega
  have hin' : ¬ ((ino : Int) ≤ (i : Int)) := by omega
  clear h hp hs hB hr0 hus ht hb
  generalize hnd : decL (inoL (Pg (3 + i / 8)) i) = nd at *
  have hnl : (nodeC nd).length = 15 := by rw [← hnd]; exact length_nodeD _
  have HNl := hid hnl
  clear hnd hnl
  unfold gV at HGt
  go_enter Tryz.func40, Tryz.ntmps40
  go_wp2_with fail
  rw [← hwb] at c0 ⊢
  clear hwb
  refine HIn.out.mono ?_
  clear HIn
  rintro e w1 ⟨rfl, h1⟩
  obtain rfl := h1.symm
  clear h1
  go_wp2_with fail
  refine HUs.out.mono ?_
  clear HUs
  rintro e w2 ⟨rfl, hk2, hp2⟩
  have HG2 := hid (HGt.out w2 hk2 hp2)
  have c2 := (HSt.out.keep hk2 hsF).cell
  have HK2 := hid hk2
  have HR2 := hid (hk2.heap HR0.out (fun hf => by have := HFl.out _ hf; omega))
  clear hk2 hp2 c0 HGt
  go_wp2_with fail
  refine HG2.out.mono ?_
  clear HG2
  rintro e w3 ⟨rfl, hk3, hW3⟩
  have HR3 := hid (hk3.heap HR2.out (fun hf => by have := HFl.out _ hf; omega))
  have HK3 := hid hk3
  have HW3 := hid hW3
  clear hk3 hW3 c2
  unfold nodeV
  go_wp2_with (refine wpList_store_block rfl 100 (.tmp 4) (.tmp 36) rfl w.heap.size (nodeC nd).toArray rfl rfl _ _ HR3.out (by rw [List.size_toArray, HNl.out]; rfl) (by rw [List.size_toArray, HNl.out]; kernel_rfl) (nodeC_one _) ?_; intro w6 hg6 hb6 hz6)
  have hp3 := HW3.out w3 (Keeps.refl _ _)
  have hoff : offN w3 w.heap.size := node_off (cs := List.replicate 15 (Value.int .i64 0)) HR3.out zero15
  have k36 : Keeps (fun i => i = w.heap.size) w3 w6 := Keeps.of_grown hg6 (fun i e => (Option.some.inj e).symm)
  have hp6 := hp3.keepY hoff (fun hf => by have := HFl.out _ hf; omega) k36
  refine bodyPost_ret (results_Get rfl rfl hb6 HNl.out) rfl ⟨rfl, ?_, hp6⟩
  exact (((Keeps.of_below HB.out : Keeps F w wb).trans HK2.out (fun i e => .inl e)).trans HK3.out (fun i e => .inl e)).trans k36 (fun i e => .inr (by have e' : i = w.heap.size := e; omega))
/-- A new inode. -/
def newN (k mode : Nat) : NodeS := ⟨k, mode, 1, 0, List.replicate 11 0⟩
theorem newN_ok (k mode : Nat) (hk : k ≤ 3) (hm : mode ≤ 4095) : (newN k mode).ok := ⟨by show k < 256; omega, by show mode < 65536; omega, by show 1 < 65536; omega, by show 0 < 4294967296; omega, rfl, fun p hp => by rw [List.eq_of_mem_replicate hp]; omega⟩
theorem inoC_two (Pg : Nat → List UInt8) (D : Int → Bool) (q : Nat) : inoC Pg D q ≤ 2 := by
  unfold inoC
  have a1 : (if D 1 = true then 0 else 1) ≤ 1 := by split <;> omega
  have a2 : (if inoT Pg q = Pg (3 + q / 8) then 0 else if D (3 + q / 8 : Nat) then 0 else 1) ≤ 1 := by
    split
    · omega
    · split <;> omega
  omega
theorem dkD_ino2 (N : Nat) (Pg : Nat → List UInt8) (D : Int → Bool) (q : Nat) : (dkD N (inoD Pg D q)).length ≤ (dkD N D).length + 2 := by
  have d1 : (dkD N (updT D 1)).length ≤ (dkD N D).length + 1 := dkD_upd1 N D 1
  unfold inoD
  split
  · omega
  · have d2 := dkD_upd1 N (updT D 1) (3 + q / 8)
    omega
/-- The pages behind Make. -/
def makP (Pg : Nat → List UInt8) (q k mode : Nat) : Nat → List UInt8 := updP (inoP Pg q) (3 + q / 8) (putT (inoP Pg q (3 + q / 8)) q (encL (newN k mode)))
set_option maxRecDepth 100000 in
theorem iMake_ok (h : mapB w m c ino) (hmF : ¬ F m) (hs : storeB w s m) (hsF : ¬ F s) (hi : ino ≤ 512) (h8 : ino % 8 = 0) (hN : 3 + ino / 8 ≤ N) (k mode q : Nat) (rest : List Nat) (hk1 : 1 ≤ k) (hk3 : k ≤ 3) (hm : mode ≤ 4095) (hf : freeTo (Pg 1) 1 ino 4096 = q :: rest) (hr : (dkD N D).length + 3 ≤ min size 100) (hu : u < 999990) (hp : Pc w c F size N Pg Cm D o u) :
    Calls Tryz.prog 11 #[.pointer (some ⟨s, 0, none⟩), .int .i64 k, .int .i64 mode] w fun e w' => e = .returned (.tuple #[.int .i64 q, .int .i64 0]) ∧ Keeps F w w' ∧ Pc w' c F size N (makP Pg q k mode) Cm (updT (inoD Pg D q) ((3 + q / 8 : Nat) : Int)) o (u + 3) := by
  have hq := freeTo_first hf
  have hc2 := inoC_two Pg D q
  have hd2 := dkD_ino2 N Pg D q
  have HIn := hid (aInode_any h hmF hi h8 hN (by omega) (by omega) hp)
  have HPt := hid (fun W (hk : Keeps F w W) (hW : Pc W c F size N (inoP Pg q) Cm (inoD Pg D q) o (u + 2)) => iput_any (h.keep hk hmF) hmF hi q hq.2.1 (newN k mode) (newN_ok k mode hk3 hm) (by omega) (by omega) (.inr (by omega)) hW)
  have c0 := hs.cell
  have HS := hid hs
  have HMo := hid (iisMode_any (mode : Int) w)
  rw [decide_eq_true ⟨by omega, by omega⟩] at HMo
  have HF := hid hf
  have HR := hid hr
  have HC := hid hc2
  have hka : ¬ ((k : Int) < 1) := by omega
  have hkb : ¬ ((3 : Int) < (k : Int)) := by omega
  unfold gV nodeV at HPt
  have hnc : nodeC (newN k mode) = [.int .i64 k, .int .i64 mode, .int .i64 1, .int .i64 0, .int .i64 0, .int .i64 0, .int .i64 0, .int .i64 0, .int .i64 0, .int .i64 0, .int .i64 0, .int .i64 0, .int .i64 0, .int .i64 0, .int .i64 0] := rfl
  rw [hnc] at HPt
  clear h hp hs hf hr hc2 hd2 hnc
  go_enter Tryz.func11, Tryz.ntmps11
  go_wp2_with fail
  refine HMo.out.mono ?_
  clear HMo
  rintro e w1 ⟨rfl, h1⟩
  obtain rfl := h1.symm
  clear h1
  go_wp2_with fail
  refine HIn.out.mono ?_
  clear HIn
  rintro e w2 ⟨hk2, hx⟩
  rcases hx with ⟨h0, -⟩ | ⟨q', rest', h0, hx⟩
  · rw [HF.out] at h0; cases h0
  obtain rfl : q = q' := (List.cons.inj (HF.out.symm.trans h0)).1
  rcases hx with ⟨hfl, -, -⟩ | ⟨-, rfl, hp2⟩
  · have := HR.out; have := HC.out; omega
  have HP2 := hid (HPt.out w2 hk2 hp2)
  have HK2 := hid hk2
  have c2 := (HS.out.keep hk2 hsF).cell
  clear hk2 hp2 h0 c0 HPt
  go_wp2_with fail
  refine HP2.out.mono ?_
  clear HP2
  rintro e w3 ⟨rfl, hk3', hp3⟩
  have HK3 := hid (HK2.out.trans hk3' (fun i e => .inl e))
  have HP3 := hid hp3
  have HEn := hid (iend_ok s w3)
  clear hk3' hp3
  go_wp2_with fail
  refine HEn.out.mono ?_
  clear HEn
  rintro e w4 ⟨rfl, h4⟩
  obtain rfl := h4.symm
  clear h4
  go_wp2
  go_returns
  exact ⟨rfl, HK3.out, HP3.out⟩
end
end Go.Proofs.YthdcloaaahhnaaaGreat
/- A file at work: its block, its slots. -/
namespace Go.Proofs.YthdcloaaahhnaaaGreat
open Go.RowKit
/-- A file: its number, what its inode tells, and its slots: eleven of the inode, then those of the indirect page. -/
structure FileS where
  num : Nat
  kind : Nat
  mode : Nat
  links : Nat
  size : Nat
  slots : List Nat
def FileS.cells (m : Nat) (S : FileS) : List Value := [.pointer (some ⟨m, 0, none⟩), .int .i64 S.num, .int .i64 S.kind, .int .i64 S.mode, .int .i64 S.links, .int .i64 S.size] ++ S.slots.map (fun n : Nat => Value.int .i64 n)
def fileB (w : World) (f m : Nat) (S : FileS) : Prop := w.heap[f]? = some (.cells (S.cells m).toArray 162 (0, 0))
section
variable {w w' : World} {f m : Nat} {S : FileS}
theorem fileB.lt (h : fileB w f m S) : f < w.heap.size := lt_of_heap h
theorem fileB.keep {F : Nat → Prop} (h : fileB w f m S) (k : Keeps F w w') (hF : ¬ F f) : fileB w' f m S := k.heap h hF
theorem fileB.below (h : fileB w f m S) (k : Below w.heap.size w w') : fileB w' f m S := below_block k h (lt_of_heap h)
theorem fileB.head (h : fileB w f m S) : w.cell? ⟨f, 0, none⟩ = some (.pointer (some ⟨m, 0, none⟩)) ∧ w.cell? ⟨f, 1, none⟩ = some (.int .i64 S.num) ∧ w.cell? ⟨f, 2, none⟩ = some (.int .i64 S.kind) ∧ w.cell? ⟨f, 3, none⟩ = some (.int .i64 S.mode) ∧ w.cell? ⟨f, 4, none⟩ = some (.int .i64 S.links) ∧ w.cell? ⟨f, 5, none⟩ = some (.int .i64 S.size) := by
  refine ⟨?_, ?_, ?_, ?_, ?_, ?_⟩ <;> (rw [cell_of_block h]; rfl)
theorem fileB.slot (h : fileB w f m S) (j : Nat) (hj : j < S.slots.length) : w.cell? ⟨f, 6 + j, none⟩ = some (.int .i64 (S.slots[j] : Nat)) := by
  rw [cell_of_block h]
  unfold FileS.cells
  rw [List.getElem?_toArray, List.getElem?_append_right (by simp), List.length_cons, List.length_cons, List.length_cons, List.length_cons, List.length_cons, List.length_cons, List.length_nil, show 6 + j - (0 + 1 + 1 + 1 + 1 + 1 + 1) = j by omega, List.getElem?_map, List.getElem?_eq_getElem hj]
  rfl
theorem fileB.frozen (h : fileB w f m S) (j : Nat) : w.frozen? ⟨f, j, none⟩ = false := frozen_of_block h _
theorem fileB.setSlot (h : fileB w f m S) (j x : Nat) : fileB (w.setCell ⟨f, 6 + j, none⟩ (.int .i64 x)) f m { S with slots := S.slots.set j x } := by
  have h1 := block_setCell h (6 + j) (.int .i64 x)
  unfold fileB
  rw [h1, List.setIfInBounds_toArray]
  unfold FileS.cells
  rw [List.set_append_right _ _ (by simp)]
  simp only [List.length_cons, List.length_nil, List.map_set]
  rw [show 6 + j - (0 + 1 + 1 + 1 + 1 + 1 + 1) = j by omega]
theorem fileB.setSize (h : fileB w f m S) (x : Nat) : fileB (w.setCell ⟨f, 5, none⟩ (.int .i64 x)) f m { S with size := x } := by
  have h1 := block_setCell h 5 (.int .i64 x)
  unfold fileB
  rw [h1, List.setIfInBounds_toArray]
  rfl
set_option maxRecDepth 100000 in
theorem islot_any (f j : Nat) (hj : j < 139) (w : World) : Calls Tryz.prog 130 #[.pointer (some ⟨f, 0, none⟩), .int .i64 j] w fun e w' => e = .returned (.pointer (some ⟨f, 6 + j, none⟩)) ∧ w' = w := by
  have h0 : (0 : Int) ≤ (j : Int) := by omega
  by_cases h1 : j ≤ 10
  · have h2 : (j : Int) ≤ 10 := by omega
    go_enter Tryz.func130, Tryz.ntmps130
    go_wp2
    go_ret
    exact ⟨rfl, rfl⟩
  · obtain ⟨i, rfl⟩ : ∃ i, j = i + 11 := ⟨j - 11, by omega⟩
    have h2 : ¬ (((i + 11 : Nat) : Int) ≤ 10) := by omega
    have h3 : ((i + 11 : Nat) : Int) - 10 - 1 = (i : Int) := by omega
    rw [show 6 + (i + 11) = 17 + i by omega]
    go_enter Tryz.func130, Tryz.ntmps130
    go_wp2
    go_ret
    exact ⟨rfl, rfl⟩
end
end Go.Proofs.YthdcloaaahhnaaaGreat
/- open: a file at work. -/
namespace Go.Proofs.YthdcloaaahhnaaaGreat
open Go.RowKit
/-- The numbers of an indirect page, k of them. -/
def farL (L : List UInt8) (k : Nat) : List Nat := (List.range k).map (fun j => numS ((L.drop (4 * j)).take 4))
theorem farL_succ (L : List UInt8) (k : Nat) : farL L (k + 1) = farL L k ++ [numS ((L.drop (4 * k)).take 4)] := by simp [farL, List.range_succ]
theorem length_farL (L : List UInt8) (k : Nat) : (farL L k).length = k := by simp [farL]
set_option maxRecDepth 100000 in
theorem file_cells (m i kd md lk sz p0 p1 p2 p3 p4 p5 p6 p7 p8 p9 p10 : Nat) : (((((((((((((((((Tryz.zeroCells162.setIfInBounds 0 (.pointer (some ⟨m, 0, none⟩))).setIfInBounds 1 (.int .i64 i)).setIfInBounds 2 (.int .i64 kd)).setIfInBounds 3 (.int .i64 md)).setIfInBounds 4 (.int .i64 lk)).setIfInBounds 5 (.int .i64 sz)).setIfInBounds 6 (.int .i64 p0)).setIfInBounds 7 (.int .i64 p1)).setIfInBounds 8 (.int .i64 p2)).setIfInBounds 9 (.int .i64 p3)).setIfInBounds 10 (.int .i64 p4)).setIfInBounds 11 (.int .i64 p5)).setIfInBounds 12 (.int .i64 p6)).setIfInBounds 13 (.int .i64 p7)).setIfInBounds 14 (.int .i64 p8)).setIfInBounds 15 (.int .i64 p9)).setIfInBounds 16 (.int .i64 p10)) = (FileS.cells m ⟨i, kd, md, lk, sz, [p0, p1, p2, p3, p4, p5, p6, p7, p8, p9, p10] ++ List.replicate 128 0⟩).toArray := by
  kernel_rfl
section
variable {w : World} {m c ino : Nat} {F : Nat → Prop} {size N : Nat} {Pg Cm : Nat → List UInt8} {D : Int → Bool} {o u : Nat}
set_option maxRecDepth 100000 in
set_option maxHeartbeats 2000000 in
theorem iopen_near (i : Nat) (n : NodeS) (hn : n.ok) (hs : n.size ≤ 5120) (w : World) : Calls Tryz.prog 41 #[gV m, .int .i64 i, nodeV n] w fun e w' => ∃ f, e = .returned (.pointer (some ⟨f, 0, none⟩)) ∧ w.heap.size ≤ f ∧ fileB w' f m ⟨i, n.kind, n.mode, n.links, n.size, n.pages ++ List.replicate 128 0⟩ ∧ Below w.heap.size w w' := by
  obtain ⟨kd, md, lk, sz, pages⟩ := n
  have hp : pages.length = 11 := hn.pages
  obtain ⟨p0, p1, p2, p3, p4, p5, p6, p7, p8, p9, p10, rfl⟩ := list11 hp
  have hs' : ¬ ((5120 : Int) < (sz : Int)) := by have : sz ≤ 5120 := hs; omega
  have HH := hid (fun W => ihasFar_any (sz : Int) W)
  rw [decide_eq_false hs'] at HH
  unfold gV
  show Calls Tryz.prog 41 #[.agg #[.pointer (some ⟨m, 0, none⟩)], .int .i64 i, .agg #[.int .i64 kd, .int .i64 md, .int .i64 lk, .int .i64 sz, .int .i64 p0, .int .i64 p1, .int .i64 p2, .int .i64 p3, .int .i64 p4, .int .i64 p5, .int .i64 p6, .int .i64 p7, .int .i64 p8, .int .i64 p9, .int .i64 p10]] w _
  clear hn hp hs hs'
  obtain ⟨wb, hwb⟩ : ∃ wb, wb = ((w.alloc (.cells #[.pointer (some ⟨m, 0, none⟩)] 84)).alloc (.cells #[.int .i64 kd, .int .i64 md, .int .i64 lk, .int .i64 sz, .int .i64 p0, .int .i64 p1, .int .i64 p2, .int .i64 p3, .int .i64 p4, .int .i64 p5, .int .i64 p6, .int .i64 p7, .int .i64 p8, .int .i64 p9, .int .i64 p10] 100)).alloc (.cells (((((((((((((((((Tryz.zeroCells162.setIfInBounds 0 (.pointer (some ⟨m, 0, none⟩))).setIfInBounds 1 (.int .i64 i)).setIfInBounds 2 (.int .i64 kd)).setIfInBounds 3 (.int .i64 md)).setIfInBounds 4 (.int .i64 lk)).setIfInBounds 5 (.int .i64 sz)).setIfInBounds 6 (.int .i64 p0)).setIfInBounds 7 (.int .i64 p1)).setIfInBounds 8 (.int .i64 p2)).setIfInBounds 9 (.int .i64 p3)).setIfInBounds 10 (.int .i64 p4)).setIfInBounds 11 (.int .i64 p5)).setIfInBounds 12 (.int .i64 p6)).setIfInBounds 13 (.int .i64 p7)).setIfInBounds 14 (.int .i64 p8)).setIfInBounds 15 (.int .i64 p9)).setIfInBounds 16 (.int .i64 p10)) 162) := ⟨_, rfl⟩
  have hB : Below w.heap.size w wb := by rw [hwb]; exact (((Below.refl _ w).alloc (Nat.le_refl _) _).alloc (by simp) _).alloc (by simp; omega) _
  have hf : fileB wb (w.heap.size + 1 + 1) m ⟨i, kd, md, lk, sz, [p0, p1, p2, p3, p4, p5, p6, p7, p8, p9, p10] ++ List.replicate 128 0⟩ := by
    have h1 := block_new ((w.alloc (.cells #[.pointer (some ⟨m, 0, none⟩)] 84)).alloc (.cells #[.int .i64 kd, .int .i64 md, .int .i64 lk, .int .i64 sz, .int .i64 p0, .int .i64 p1, .int .i64 p2, .int .i64 p3, .int .i64 p4, .int .i64 p5, .int .i64 p6, .int .i64 p7, .int .i64 p8, .int .i64 p9, .int .i64 p10] 100)) (.cells (((((((((((((((((Tryz.zeroCells162.setIfInBounds 0 (.pointer (some ⟨m, 0, none⟩))).setIfInBounds 1 (.int .i64 i)).setIfInBounds 2 (.int .i64 kd)).setIfInBounds 3 (.int .i64 md)).setIfInBounds 4 (.int .i64 lk)).setIfInBounds 5 (.int .i64 sz)).setIfInBounds 6 (.int .i64 p0)).setIfInBounds 7 (.int .i64 p1)).setIfInBounds 8 (.int .i64 p2)).setIfInBounds 9 (.int .i64 p3)).setIfInBounds 10 (.int .i64 p4)).setIfInBounds 11 (.int .i64 p5)).setIfInBounds 12 (.int .i64 p6)).setIfInBounds 13 (.int .i64 p7)).setIfInBounds 14 (.int .i64 p8)).setIfInBounds 15 (.int .i64 p9)).setIfInBounds 16 (.int .i64 p10)) 162)
    rw [World.size_alloc, World.size_alloc] at h1
    unfold fileB
    rw [hwb, h1, file_cells]
  have HB := hid hB
  have HF := hid hf
  clear hB hf
  go_enter Tryz.func41, Tryz.ntmps41
  go_wp2_with fail
  rw [← hwb]
  clear hwb
  refine (HH.out wb).mono ?_
  clear HH
  rintro e w1 ⟨rfl, h1⟩
  obtain rfl := h1.symm
  clear h1
  go_wp2
  go_ret
  exact ⟨w.heap.size + 1 + 1, rfl, by omega, HF.out, HB.out⟩
end
end Go.Proofs.YthdcloaaahhnaaaGreat
/- open of a file with an indirect page. -/
namespace Go.Proofs.YthdcloaaahhnaaaGreat
open Go.RowKit
/-- The slots, k numbers of the indirect page read. -/
def slotsTo (ps : List Nat) (L : List UInt8) (k : Nat) : List Nat := ps ++ (farL L k ++ List.replicate (128 - k) 0)
theorem length_slotsTo {ps : List Nat} (h : ps.length = 11) (L : List UInt8) (k : Nat) (hk : k ≤ 128) : (slotsTo ps L k).length = 139 := by
  unfold slotsTo; rw [List.length_append, List.length_append, length_farL, List.length_replicate]; omega
theorem slotsTo_set {ps : List Nat} (h : ps.length = 11) (L : List UInt8) (k : Nat) (hk : k < 128) : (slotsTo ps L k).set (11 + k) (numS ((L.drop (4 * k)).take 4)) = slotsTo ps L (k + 1) := by
  unfold slotsTo
  rw [List.set_append_right _ _ (by omega), h, show 11 + k - 11 = k by omega, List.set_append_right _ _ (by rw [length_farL]; omega), length_farL, Nat.sub_self, farL_succ, show 128 - k = (128 - (k + 1)) + 1 by omega, List.replicate_succ, List.set_cons_zero]
  simp
section
variable {w : World} {m c ino : Nat} {F : Nat → Prop} {size N : Nat} {Pg Cm : Nat → List UInt8} {D : Int → Bool} {o u : Nat}
set_option maxRecDepth 100000 in
set_option maxHeartbeats 2000000 in
theorem iopen_far (h : mapB w m c ino) (hp : Pc w c F size N Pg Cm D o u) (hu : u < 1000000) (i : Nat) (n : NodeS) (hn : n.ok) (hs : 5120 < n.size) (hN : n.pages.getD 10 0 < N) : Calls Tryz.prog 41 #[gV m, .int .i64 i, nodeV n] w fun e w' => ∃ f, e = .returned (.pointer (some ⟨f, 0, none⟩)) ∧ w.heap.size ≤ f ∧ fileB w' f m ⟨i, n.kind, n.mode, n.links, n.size, slotsTo n.pages (Pg (n.pages.getD 10 0)) 128⟩ ∧ Keeps F w w' ∧ Pc w' c F size N Pg Cm D o (u + 1) := by
  obtain ⟨kd, md, lk, sz, pages⟩ := n
  have hpl : pages.length = 11 := hn.pages
  obtain ⟨p0, p1, p2, p3, p4, p5, p6, p7, p8, p9, p10, rfl⟩ := list11 hpl
  have hs' : (5120 : Int) < (sz : Int) := by have : 5120 < sz := hs; omega
  have HH := hid (fun W => ihasFar_any (sz : Int) W)
  rw [decide_eq_true hs'] at HH
  have hN' : p10 < N := hN
  have HPg := hid (fun W (hW : Below w.heap.size w W) => ipage_any (h.below hW) p10 hN' hu hp hW)
  have HLen := hid (hp.len p10 hN')
  have HFl := hid hp.lt
  unfold gV at HPg ⊢
  show Calls Tryz.prog 41 #[.agg #[.pointer (some ⟨m, 0, none⟩)], .int .i64 i, .agg #[.int .i64 kd, .int .i64 md, .int .i64 lk, .int .i64 sz, .int .i64 p0, .int .i64 p1, .int .i64 p2, .int .i64 p3, .int .i64 p4, .int .i64 p5, .int .i64 p6, .int .i64 p7, .int .i64 p8, .int .i64 p9, .int .i64 p10]] w (fun e w' => ∃ f, e = .returned (.pointer (some ⟨f, 0, none⟩)) ∧ w.heap.size ≤ f ∧ fileB w' f m ⟨i, kd, md, lk, sz, slotsTo [p0, p1, p2, p3, p4, p5, p6, p7, p8, p9, p10] (Pg p10) 128⟩ ∧ Keeps F w w' ∧ Pc w' c F size N Pg Cm D o (u + 1))
  clear hn hpl hs hs' hN hN' h hp
  obtain ⟨wb, hwb⟩ : ∃ wb, wb = ((w.alloc (.cells #[.pointer (some ⟨m, 0, none⟩)] 84)).alloc (.cells #[.int .i64 kd, .int .i64 md, .int .i64 lk, .int .i64 sz, .int .i64 p0, .int .i64 p1, .int .i64 p2, .int .i64 p3, .int .i64 p4, .int .i64 p5, .int .i64 p6, .int .i64 p7, .int .i64 p8, .int .i64 p9, .int .i64 p10] 100)).alloc (.cells (((((((((((((((((Tryz.zeroCells162.setIfInBounds 0 (.pointer (some ⟨m, 0, none⟩))).setIfInBounds 1 (.int .i64 i)).setIfInBounds 2 (.int .i64 kd)).setIfInBounds 3 (.int .i64 md)).setIfInBounds 4 (.int .i64 lk)).setIfInBounds 5 (.int .i64 sz)).setIfInBounds 6 (.int .i64 p0)).setIfInBounds 7 (.int .i64 p1)).setIfInBounds 8 (.int .i64 p2)).setIfInBounds 9 (.int .i64 p3)).setIfInBounds 10 (.int .i64 p4)).setIfInBounds 11 (.int .i64 p5)).setIfInBounds 12 (.int .i64 p6)).setIfInBounds 13 (.int .i64 p7)).setIfInBounds 14 (.int .i64 p8)).setIfInBounds 15 (.int .i64 p9)).setIfInBounds 16 (.int .i64 p10)) 162) := ⟨_, rfl⟩
  have hB : Below w.heap.size w wb := by rw [hwb]; exact (((Below.refl _ w).alloc (Nat.le_refl _) _).alloc (by simp) _).alloc (by simp; omega) _
  have hf : fileB wb (w.heap.size + 1 + 1) m ⟨i, kd, md, lk, sz, [p0, p1, p2, p3, p4, p5, p6, p7, p8, p9, p10] ++ List.replicate 128 0⟩ := by
    have h1 := block_new ((w.alloc (.cells #[.pointer (some ⟨m, 0, none⟩)] 84)).alloc (.cells #[.int .i64 kd, .int .i64 md, .int .i64 lk, .int .i64 sz, .int .i64 p0, .int .i64 p1, .int .i64 p2, .int .i64 p3, .int .i64 p4, .int .i64 p5, .int .i64 p6, .int .i64 p7, .int .i64 p8, .int .i64 p9, .int .i64 p10] 100)) (.cells (((((((((((((((((Tryz.zeroCells162.setIfInBounds 0 (.pointer (some ⟨m, 0, none⟩))).setIfInBounds 1 (.int .i64 i)).setIfInBounds 2 (.int .i64 kd)).setIfInBounds 3 (.int .i64 md)).setIfInBounds 4 (.int .i64 lk)).setIfInBounds 5 (.int .i64 sz)).setIfInBounds 6 (.int .i64 p0)).setIfInBounds 7 (.int .i64 p1)).setIfInBounds 8 (.int .i64 p2)).setIfInBounds 9 (.int .i64 p3)).setIfInBounds 10 (.int .i64 p4)).setIfInBounds 11 (.int .i64 p5)).setIfInBounds 12 (.int .i64 p6)).setIfInBounds 13 (.int .i64 p7)).setIfInBounds 14 (.int .i64 p8)).setIfInBounds 15 (.int .i64 p9)).setIfInBounds 16 (.int .i64 p10)) 162)
    rw [World.size_alloc, World.size_alloc] at h1
    unfold fileB
    rw [hwb, h1, file_cells]
  have hg0 : wb.heap[w.heap.size]? = some (.cells #[.pointer (some ⟨m, 0, none⟩)] 84 (0, 0)) := by rw [hwb]; exact block_alloc (block_alloc (block_new w _) _) _
  have hg1 : wb.heap[w.heap.size + 1]? = some (.cells #[.int .i64 kd, .int .i64 md, .int .i64 lk, .int .i64 sz, .int .i64 p0, .int .i64 p1, .int .i64 p2, .int .i64 p3, .int .i64 p4, .int .i64 p5, .int .i64 p6, .int .i64 p7, .int .i64 p8, .int .i64 p9, .int .i64 p10] 100 (0, 0)) := by
    have h1 := block_new (w.alloc (.cells #[.pointer (some ⟨m, 0, none⟩)] 84)) (.cells #[.int .i64 kd, .int .i64 md, .int .i64 lk, .int .i64 sz, .int .i64 p0, .int .i64 p1, .int .i64 p2, .int .i64 p3, .int .i64 p4, .int .i64 p5, .int .i64 p6, .int .i64 p7, .int .i64 p8, .int .i64 p9, .int .i64 p10] 100)
    rw [World.size_alloc] at h1
    rw [hwb]; exact block_alloc h1 _
  have hsb : wb.heap.size = w.heap.size + 3 := by rw [hwb]; simp
  have HB := hid hB
  have HF := hid hf
  have HSb := hid hsb
  have d0 : wb.cell? ⟨w.heap.size, 0, none⟩ = some (.pointer (some ⟨m, 0, none⟩)) := cell_of_block hg0 0
  have d1 : wb.cell? ⟨w.heap.size + 1, 14, none⟩ = some (.int .i64 p10) := cell_of_block hg1 14
  clear hB hf hg0 hg1 hsb
  go_enter Tryz.func41, Tryz.ntmps41
  go_wp2_with fail
  rw [← hwb]
  clear hwb
  generalize Value.agg (((((((((((((((((Tryz.zeroCells162.setIfInBounds 0 (.pointer (some ⟨m, 0, none⟩))).setIfInBounds 1 (.int .i64 i)).setIfInBounds 2 (.int .i64 kd)).setIfInBounds 3 (.int .i64 md)).setIfInBounds 4 (.int .i64 lk)).setIfInBounds 5 (.int .i64 sz)).setIfInBounds 6 (.int .i64 p0)).setIfInBounds 7 (.int .i64 p1)).setIfInBounds 8 (.int .i64 p2)).setIfInBounds 9 (.int .i64 p3)).setIfInBounds 10 (.int .i64 p4)).setIfInBounds 11 (.int .i64 p5)).setIfInBounds 12 (.int .i64 p6)).setIfInBounds 13 (.int .i64 p7)).setIfInBounds 14 (.int .i64 p8)).setIfInBounds 15 (.int .i64 p9)).setIfInBounds 16 (.int .i64 p10)) = bv
  refine (HH.out wb).mono ?_
  clear HH
  rintro e w1 ⟨rfl, h1⟩
  obtain rfl := h1.symm
  clear h1
  go_wp2_with fail
  refine (HPg.out wb HB.out).mono ?_
  clear HPg
  rintro e w3 ⟨g, rfl, hg, ho3, hk3, hW3⟩
  obtain ⟨f, hff⟩ : ∃ f, f = w.heap.size + 1 + 1 := ⟨_, rfl⟩
  rw [← hff] at HF ⊢
  have hsb := HSb.out
  have HF3 : Hid (fileB w3 f m ⟨i, kd, md, lk, sz, slotsTo [p0, p1, p2, p3, p4, p5, p6, p7, p8, p9, p10] (Pg p10) 0⟩) := HF.out.keep hk3 (fun hf => by have := HFl.out _ hf; omega)
  have HO3 := hid ho3
  have HK3 := hid hk3
  have HW3 := hid hW3
  have HG : Hid (f < g ∧ w.heap.size ≤ f) := ⟨by omega, by omega⟩
  clear ho3 hk3 hW3 hg HF d0 d1 hff hsb
  obtain ⟨ps, hps⟩ : ∃ ps, ps = [p0, p1, p2, p3, p4, p5, p6, p7, p8, p9, p10] := ⟨_, rfl⟩
  have hpl : ps.length = 11 := by rw [hps]; rfl
  rw [← hps] at HF3
  have HPs := hid hps
  have HPl := hid hpl
  clear hps hpl
  go_wp2
  go_loopw [23] (fun iv wr => ∃ j : Nat, j ≤ 128 ∧ iv = .int .i64 j ∧ Hid (fileB wr f m ⟨i, kd, md, lk, sz, slotsTo ps (Pg p10) j⟩) ∧ Hid (ownB wr g (Pg p10)) ∧ Hid (Keeps (fun i => i = f) w3 wr)) (fun iv _ => 128 - (intOf iv).toNat)
  case atStart => exact ⟨0, by omega, rfl, HF3, HO3, Keeps.refl _ _⟩
  case round =>
    obtain ⟨j, hj, rfl, HFj, HOj, HKj⟩ := hrel
    clear HF3 HO3
    by_cases hlt : j < 128
    · have hj0 : (0 : Int) ≤ (j : Int) := by omega
      have hj1 : (j : Int) < 128 := by omega
      have hbd : Below wr.heap.size wr wr.drew := (Below.refl _ wr).drew
      have hFd := HFj.out.below hbd
      have hOd := HOj.out.below hbd
      have HKd : Hid (Keeps (fun i => i = f) w3 wr.drew) := HKj.out.trans (Keeps.of_below hbd : Keeps (fun i => i = f) wr wr.drew) (fun i e => .inl e)
      have hfo := ifourth_any g 0 512 512 j wr.drew (by omega) (by omega) (by omega)
      rw [Nat.zero_add] at hfo
      have HFo := hid hfo
      clear hfo
      have hlp : 4 * j + 4 ≤ (Pg p10).length := by rw [HLen.out]; omega
      have hnu := number_any (((Pg p10).drop (4 * j)).take 4) (some ⟨g, 0 + 4 * j, none⟩) (512 - 4 * j) wr.drew (part_in hOd.at (4 * j) 4 hlp) (by rw [len_part hlp]; omega)
      rw [len_part hlp, Nat.zero_add] at hnu
      have hsl : 11 + j < (slotsTo ps (Pg p10) j).length := by rw [length_slotsTo HPl.out _ j hj]; omega
      obtain ⟨pj, k1⟩ : ∃ pj : Nat, wr.drew.cell? ⟨f, 17 + j, none⟩ = some (.int .i64 pj) := by
        have k1 := hFd.slot (11 + j) hsl
        rw [show 6 + (11 + j) = 17 + j by omega] at k1
        exact ⟨_, k1⟩
      have k2 := hFd.frozen (17 + j)
      have hst := hFd.setSlot (11 + j) (numS (((Pg p10).drop (4 * j)).take 4))
      rw [show 6 + (11 + j) = 17 + j by omega, show (slotsTo ps (Pg p10) j).set (11 + j) (numS (((Pg p10).drop (4 * j)).take 4)) = slotsTo ps (Pg p10) (j + 1) from slotsTo_set HPl.out _ j hlt] at hst
      have HNu := hid hnu
      have HSt := hid hst
      have HOd := hid hOd
      clear hnu hst hOd hFd hbd HFj HOj HKj hlp
      generalize numS (((Pg p10).drop (4 * j)).take 4) = x at *
      clear hsl
      go_wp2
      refine wp_region_noPanic ?_
      refine wp_region_held_drew (S := fun _ => True) (by kernel_rfl) trivial (fun hHeld => ?_)
      generalize wr.drew = wd at *
      refine tk 0 ?_ rfl (by kernel_rfl) (fun _ _ _ h => h) (by rfl) (by assumption) ?_ ?_
      rotate_left
      · (intro W h; (try dsimp only at h); obtain _ := h; go_simp; try with_reducible rfl)
      try simp only [tS]
      refine tk 1 ?_ rfl (by kernel_rfl) (fun _ _ _ h => h) (by rfl) (by assumption) ?_ ?_
      rotate_left
      · (intro W h; (try dsimp only at h); obtain _ := h; go_simp; try with_reducible rfl)
      try simp only [tS]
      refine tk 2 ?_ rfl (by kernel_rfl) (fun _ _ _ h => h) (by rfl) (by assumption) ?_ ?_
      rotate_left
      · (intro W h; (try dsimp only at h); obtain _ := h; go_simp; try with_reducible rfl)
      try simp only [tS]
      refine tk 3 ?_ rfl (by kernel_rfl) (fun _ _ _ h => h) (by rfl) (by assumption) ?_ ?_
      rotate_left
      · (intro W h; (try dsimp only at h); obtain _ := h; go_simp; try with_reducible rfl)
      try simp only [tS]
      refine tk 6 ?_ rfl (by kernel_rfl) (fun _ _ _ h => h) (by rfl) (by assumption) ?_ ?_
      rotate_left
      · (intro W h; (try dsimp only at h); obtain _ := h; go_simp; try with_reducible rfl)
      try simp only [tS]
      refine tk 7 ?_ rfl (by kernel_rfl) (fun _ _ _ h => h) (by rfl) (by assumption) ?_ ?_
      rotate_left
      · (intro W h; (try dsimp only at h); obtain _ := h; go_simp; try with_reducible rfl)
      try simp only [tS]
      refine wpAnyH_ready (rs := [4]) (by kernel_rfl) (by simp) (AllReadyH.cons rfl (fun K hK => ?_) AllReadyH.nil)
      rw [if_pos (by rfl)]
      go_simp
      refine HFo.out.mono ?_
      clear HFo
      rintro e w7 ⟨rfl, h7⟩
      obtain rfl := h7.symm
      clear h7
      go_wp2_with fail
      refine hK.out _ _ trivial (fun hHeld => ?_)
      clear hK K
      try simp only [tS]
      refine wpAnyH_ready (rs := [5]) (by kernel_rfl) (by simp) (AllReadyH.cons rfl (fun K hK => ?_) AllReadyH.nil)
      rw [if_pos (by rfl)]
      go_simp
      refine HNu.out.mono ?_
      clear HNu
      rintro e w8 ⟨rfl, h8⟩
      obtain rfl := h8.symm
      clear h8
      go_wp2_with fail
      refine hK.out _ _ trivial (fun hHeld => ?_)
      clear hK K
      try simp only [tS]
      refine tk 8 (.pointer (some ⟨f, 17 + j, none⟩)) rfl (by kernel_rfl) (fun _ _ _ h => h) (by rfl) (by assumption) ?_ ?_
      · (intro W h; (try dsimp only at h); obtain _ := h; go_simp; try first | with_reducible rfl | go_num | (rw [if_pos (by assumption)]; simp only [*]) | simp only [*])
      try simp only [tS]
      refine wpAnyH_ready (rs := [9]) (by kernel_rfl) (by simp) (AllReadyH.cons rfl (fun K hK => ?_) AllReadyH.nil)
      rw [if_pos (by rfl)]
      unfold Oper.wp
      go_simp
      have kk : Keeps (fun i => i = f) wd (wd.setCell ⟨f, 17 + j, none⟩ (.int .i64 x)) := (Keeps.refl _ wd).grown (grown_setCell (grown_refl _ _) _ _) (fun i e => .inl (Option.some.inj e).symm)
      have HK9 := hid (HKd.out.trans kk (fun i e => .inl e))
      have HO9 := hid (HOd.out.keep kk (fun e => by have e' : g = f := e; have := HG.out; omega))
      clear kk HKd HOd k1 k2
      generalize wd.setCell ⟨f, 17 + j, none⟩ (.int .i64 x) = w9 at *
      refine hK.out _ _ trivial (fun hHeld => ?_)
      clear hK K
      try simp only [List.getElem_toArray, List.getElem_cons_succ, List.getElem_cons_zero, Act.put]
      refine wpAnyH_done (by kernel_rfl) ?_ _
      refine NoPanic.normal ?_
      clear hHeld
      go_wp2
      exact ⟨⟨j + 1, by omega, by go_num, HSt, HO9, HK9⟩, by simp [intOf]; omega⟩
    · obtain rfl : j = 128 := by omega
      go_wp2
      go_ret
      have hsf := HG.out.2
      have kw : Keeps (fun i => w.heap.size ≤ i) w3 wr := HKj.out.mono (fun i e => by have e' : i = f := e; show w.heap.size ≤ i; omega)
      refine ⟨f, rfl, hsf, ?_, ?_, HW3.out wr kw⟩
      · have := HFj.out
        rw [HPs.out] at this
        exact this
      · exact (((Keeps.of_below HB.out : Keeps F w wb).trans HK3.out (fun i e => .inl e)).trans kw (fun i e => .inr e))
end
end Go.Proofs.YthdcloaaahhnaaaGreat
/- The slots, rising: the iterator. -/
namespace Go.Proofs.YthdcloaaahhnaaaGreat
open Go.RowKit Go.Shelf
attribute [local go_sem] Oper.semAt_some
/-- Numbers from a on, ahead of z. -/
def upTo (a z : Nat) : List Nat := (List.range (z - a)).map (fun j => a + j)
theorem upTo_none (a : Nat) : upTo a a = [] := by simp [upTo]
theorem upTo_succ {a z : Nat} (h : a ≤ z) : upTo a (z + 1) = upTo a z ++ [z] := by
  unfold upTo
  rw [show z + 1 - a = (z - a) + 1 by omega, List.range_succ, List.map_append]
  simp; omega
theorem length_upTo (a z : Nat) : (upTo a z).length = z - a := by simp [upTo]
set_option maxRecDepth 100000 in
theorem irising_any (f a z : Nat) (w : World) : Calls Tryz.prog 124 #[.pointer (some ⟨f, 0, none⟩), .int .i64 a, .int .i64 z] w fun e w' => e = .returned (.func (.func 144) #[] #[.pointer (some ⟨w.heap.size + 1, 0, none⟩), .pointer (some ⟨w.heap.size + 1 + 1, 0, none⟩), .pointer (some ⟨w.heap.size, 0, none⟩)]) ∧ w' = ((w.alloc (.cells #[.pointer (some ⟨f, 0, none⟩)] 104)).alloc (.cells #[.int .i64 a] 3)).alloc (.cells #[.int .i64 z] 3) := by
  go_enter Tryz.func124, Tryz.ntmps124
  go_wp2
  go_ret
  exact ⟨by simp, rfl⟩
set_option maxRecDepth 100000 in
set_option maxHeartbeats 4000000 in
theorem irising1_in (n : Nat) (hn : 2 ≤ n) (l fb ab zb f a z : Nat) (G : Nat → Prop) (hz : z ≤ 139) (hfn : ¬ G fb) (hzn : ¬ G zb) (J Jx : List Nat → World → Prop)
    (hY : ∀ pre (x : Nat) W, x < 139 → J pre W → pre.length < z - a → YieldAt Fence.wide (n - 1) Tryz.prog l #[.pointer (some ⟨f, 6 + x, none⟩)] W fun e W' =>
      (e = .returned (.bool true) ∧ J (pre ++ [x]) W' ∧ Keeps G W W') ∨ (e = .returned (.bool false) ∧ Jx (pre ++ [x]) W'))
    (W : World) (hfb : W.cell? ⟨fb, 0, none⟩ = some (.pointer (some ⟨f, 0, none⟩))) (hab : W.cell? ⟨ab, 0, none⟩ = some (.int .i64 a)) (hzb : W.cell? ⟨zb, 0, none⟩ = some (.int .i64 z)) (h0 : J [] W) :
    CallsIn Fence.wide n Tryz.prog 144 #[.func (.yield l) #[] #[], .pointer (some ⟨ab, 0, none⟩), .pointer (some ⟨zb, 0, none⟩), .pointer (some ⟨fb, 0, none⟩)] W fun e W' => (∃ v, e = .returned v) ∧
      ((∃ ys, ys = upTo a z ∧ J ys W') ∨ (∃ pre, (∃ q, a ≤ q ∧ q < z ∧ pre = upTo a q ++ [q]) ∧ Jx pre W')) := by
  have HY := hid hY
  have HC : Hid (∀ wr, Keeps G W wr → wr.cell? ⟨fb, 0, none⟩ = some (.pointer (some ⟨f, 0, none⟩)) ∧ wr.cell? ⟨zb, 0, none⟩ = some (.int .i64 z)) := fun wr hb => ⟨hb.cell hfb hfn, hb.cell hzb hzn⟩
  have HS : Hid (∀ wr q, q < 139 → CallsIn (Fence.wide) (n - 1) Tryz.prog 130 #[.pointer (some ⟨f, 0, none⟩), .int .i64 (q : Nat)] wr fun e w' => e = .returned (.pointer (some ⟨f, 6 + q, none⟩)) ∧ w' = wr) := fun wr q hq => callsIn_wide.2 (islot_any f q hq wr)
  have HJ0 := hid h0
  clear hY h0
  have hf9 : Fence.wide.fn 130 := trivial
  have h1n : 1 ≤ n := by omega
  refine callsIn_of_wp Tryz.func144 rfl trivial ?_ rfl
  simp only [Tryz.ntmps144, List.size_toArray, List.length_cons, List.length_nil, Nat.reduceAdd, Nat.reduceSub, Array.replicate_succ, Array.replicate_zero, List.push_toArray, List.append_toArray, List.nil_append, List.cons_append]
  gi_wp2
  clear hab
  gi_loopw [5] (fun i wr => ∃ q : Nat, a ≤ q ∧ (q ≤ z ∨ q = a) ∧ i = .int .i64 q ∧ Hid (J (upTo a q) wr) ∧ Hid (Keeps G W wr)) (fun i _ => z - (intOf i).toNat)
  case atStart => exact ⟨a, Nat.le_refl _, .inr rfl, rfl, by rw [upTo_none]; exact HJ0, Keeps.refl _ _⟩
  case round =>
    obtain ⟨q, hq1, hq2, rfl, HJ, HB⟩ := hrel
    clear HJ0
    obtain ⟨cf, cz⟩ := HC.out wr HB.out
    by_cases hlt : q < z
    · have hlt' : (q : Int) < (z : Int) := by omega
      have HSq := hid (HS.out wr q (by omega))
      obtain ⟨fn, tmps, assign, body, hy, hR⟩ := HY.out _ q wr (by omega) HJ.out (by rw [length_upTo]; omega)
      have HR := hid hR
      clear hR
      gi_wp2_with (gi_at_call 130; refine HSq.out.mono ?_; rintro e w9 ⟨rfl, h9⟩; obtain rfl := h9.symm; clear h9)
      refine HR.out.mono ?_
      rintro e W3 (⟨rfl, hJ3, hk3⟩ | ⟨rfl, hJx3⟩)
      · have HJ3 : Hid (J (upTo a (q + 1)) W3) := by rw [upTo_succ hq1]; exact hJ3
        have HB3 := hid (HB.out.trans hk3 (fun i e => .inl e))
        clear hJ3 hk3
        gi_wp2
        go_roundw
        case rel => exact ⟨q + 1, by omega, by omega, by go_num, HJ3, HB3⟩
        case measure => simp [intOf]; omega
      · have HX := hid hJx3
        clear hJx3
        gi_wp2
        refine bodyPost_ret (results_none rfl _ _ _) rfl ?_
        exact ⟨⟨_, rfl⟩, .inr ⟨_, ⟨q, hq1, hlt, rfl⟩, HX.out⟩⟩
    · have hge : ¬ ((q : Int) < (z : Int)) := by omega
      have hup : upTo a q = upTo a z := by
        rcases hq2 with h | h
        · rw [show q = z by omega]
        · rw [h, upTo_none]; unfold upTo; rw [show z - a = 0 by omega]; rfl
      rw [hup] at HJ
      gi_wp2
      go_end0
      exact ⟨⟨_, rfl⟩, .inl HJ.out⟩
/-- Numbers ahead of z, falling, k of them. -/
def dnL (z k : Nat) : List Nat := (List.range k).map (fun j => z - 1 - j)
theorem dnL_succ (z k : Nat) : dnL z (k + 1) = dnL z k ++ [z - 1 - k] := by simp [dnL, List.range_succ]
theorem length_dnL (z k : Nat) : (dnL z k).length = k := by simp [dnL]
set_option maxRecDepth 100000 in
theorem ifalling_any (f z a : Nat) (w : World) : Calls Tryz.prog 126 #[.pointer (some ⟨f, 0, none⟩), .int .i64 z, .int .i64 a] w fun e w' => e = .returned (.func (.func 145) #[] #[.pointer (some ⟨w.heap.size + 1, 0, none⟩), .pointer (some ⟨w.heap.size + 1 + 1, 0, none⟩), .pointer (some ⟨w.heap.size, 0, none⟩)]) ∧ w' = ((w.alloc (.cells #[.pointer (some ⟨f, 0, none⟩)] 104)).alloc (.cells #[.int .i64 z] 3)).alloc (.cells #[.int .i64 a] 3) := by
  go_enter Tryz.func126, Tryz.ntmps126
  go_wp2
  go_ret
  exact ⟨by simp, rfl⟩
set_option maxRecDepth 100000 in
set_option maxHeartbeats 4000000 in
theorem ifalling1_in (n : Nat) (hn : 2 ≤ n) (l fb zb ab f z a : Nat) (G : Nat → Prop) (hz : z ≤ 139) (ha : a ≤ 139) (hfn : ¬ G fb) (han : ¬ G ab) (J Jx : List Nat → World → Prop)
    (hY : ∀ pre (x : Nat) W, x < 139 → J pre W → pre.length < z - a → YieldAt Fence.wide (n - 1) Tryz.prog l #[.pointer (some ⟨f, 6 + x, none⟩)] W fun e W' =>
      (e = .returned (.bool true) ∧ J (pre ++ [x]) W' ∧ Keeps G W W') ∨ (e = .returned (.bool false) ∧ Jx (pre ++ [x]) W'))
    (W : World) (hfb : W.cell? ⟨fb, 0, none⟩ = some (.pointer (some ⟨f, 0, none⟩))) (hzb : W.cell? ⟨zb, 0, none⟩ = some (.int .i64 z)) (hab : W.cell? ⟨ab, 0, none⟩ = some (.int .i64 a)) (h0 : J [] W) :
    CallsIn Fence.wide n Tryz.prog 145 #[.func (.yield l) #[] #[], .pointer (some ⟨zb, 0, none⟩), .pointer (some ⟨ab, 0, none⟩), .pointer (some ⟨fb, 0, none⟩)] W fun e W' => (∃ v, e = .returned v) ∧
      ((∃ ys, ys = dnL z (z - a) ∧ J ys W') ∨ (∃ pre, (∃ k, k < z - a ∧ pre = dnL z (k + 1)) ∧ Jx pre W')) := by
  have HY := hid hY
  have HC : Hid (∀ wr, Keeps G W wr → wr.cell? ⟨fb, 0, none⟩ = some (.pointer (some ⟨f, 0, none⟩)) ∧ wr.cell? ⟨ab, 0, none⟩ = some (.int .i64 a)) := fun wr hb => ⟨hb.cell hfb hfn, hb.cell hab han⟩
  have HS : Hid (∀ wr q, q < 139 → CallsIn (Fence.wide) (n - 1) Tryz.prog 130 #[.pointer (some ⟨f, 0, none⟩), .int .i64 (q : Nat)] wr fun e w' => e = .returned (.pointer (some ⟨f, 6 + q, none⟩)) ∧ w' = wr) := fun wr q hq => callsIn_wide.2 (islot_any f q hq wr)
  have HJ0 := hid h0
  clear hY h0
  have hf9 : Fence.wide.fn 130 := trivial
  have h1n : 1 ≤ n := by omega
  refine callsIn_of_wp Tryz.func145 rfl trivial ?_ rfl
  simp only [Tryz.ntmps145, List.size_toArray, List.length_cons, List.length_nil, Nat.reduceAdd, Nat.reduceSub, Array.replicate_succ, Array.replicate_zero, List.push_toArray, List.append_toArray, List.nil_append, List.cons_append]
  gi_wp2
  clear hzb
  gi_loopw [5] (fun i wr => ∃ k : Nat, k ≤ z - a ∧ i = .int .i64 ((z : Int) - 1 - k) ∧ Hid (J (dnL z k) wr) ∧ Hid (Keeps G W wr)) (fun i _ => (intOf i + 1).toNat)
  case atStart => exact ⟨0, by omega, by simp, HJ0, Keeps.refl _ _⟩
  case round =>
    obtain ⟨k, hk, rfl, HJ, HB⟩ := hrel
    clear HJ0
    obtain ⟨cf, ca⟩ := HC.out wr HB.out
    by_cases hlt : k < z - a
    · obtain ⟨q, hq⟩ : ∃ q, q = z - 1 - k := ⟨_, rfl⟩
      have hq' : (z : Int) - 1 - (k : Int) = (q : Int) := by omega
      have hlt' : (a : Int) ≤ (q : Int) := by omega
      rw [hq']
      have HSq := hid (HS.out wr q (by omega))
      obtain ⟨fn, tmps, assign, body, hy, hR⟩ := HY.out _ q wr (by omega) HJ.out (by rw [length_dnL]; omega)
      have HR := hid hR
      have HQ := hid hq
      clear hR hq
      gi_wp2_with (gi_at_call 130; refine HSq.out.mono ?_; rintro e w9 ⟨rfl, h9⟩; obtain rfl := h9.symm; clear h9)
      refine HR.out.mono ?_
      rintro e W3 (⟨rfl, hJ3, hk3⟩ | ⟨rfl, hJx3⟩)
      · have HJ3 : Hid (J (dnL z (k + 1)) W3) := by rw [dnL_succ, ← HQ.out]; exact hJ3
        have HB3 := hid (HB.out.trans hk3 (fun i e => .inl e))
        clear hJ3 hk3
        gi_wp2
        go_roundw
        case rel => exact ⟨k + 1, by omega, by congr 1; omega, HJ3, HB3⟩
        case measure => simp [intOf]
      · have HX : Hid (Jx (dnL z (k + 1)) W3) := by rw [dnL_succ, ← HQ.out]; exact hJx3
        clear hJx3
        gi_wp2
        refine bodyPost_ret (results_none rfl _ _ _) rfl ?_
        exact ⟨⟨_, rfl⟩, .inr ⟨_, ⟨k, hlt, rfl⟩, HX.out⟩⟩
    · have hke : k = z - a := by omega
      have hge : ¬ ((a : Int) ≤ (z : Int) - 1 - (k : Int)) := by omega
      rw [hke] at HJ
      gi_wp2
      go_end0
      exact ⟨⟨_, rfl⟩, .inl HJ.out⟩
set_option maxRecDepth 100000 in
theorem irising_stops (n : Nat) (hn : 2 ≤ n) (fb ab zb f a z : Nat) (G : Nat → Prop) (hz : z ≤ 139) (w : World) (hfn : ¬ G fb) (hzn : ¬ G zb)
    (hfb : w.cell? ⟨fb, 0, none⟩ = some (.pointer (some ⟨f, 0, none⟩))) (hab : w.cell? ⟨ab, 0, none⟩ = some (.int .i64 a)) (hzb : w.cell? ⟨zb, 0, none⟩ = some (.int .i64 z)) :
    SeqStopsK Fence.wide n Tryz.prog 144 #[.pointer (some ⟨ab, 0, none⟩), .pointer (some ⟨zb, 0, none⟩), .pointer (some ⟨fb, 0, none⟩)] (fun x : Fin 139 => #[Value.pointer (some ⟨f, 6 + x.val, none⟩)]) (Keeps G) (fun ys => ys.map Fin.val = upTo a z) (fun pre => ∃ q, a ≤ q ∧ q < z ∧ pre.map Fin.val = upTo a q ++ [q]) (z - a) w := fun l J Jx W hW _ _ hY h0 => by
  have hb : Keeps (fun _ => False) w W := Keeps.of_below hW
  refine (irising1_in n hn l fb ab zb f a z G hz hfn hzn (fun pre W => ∃ p, p.map Fin.val = pre ∧ J p W) (fun pre W => ∃ p, p.map Fin.val = pre ∧ Jx p W) (fun pre x W1 hx hJ hl => ?_) W (hb.cell hfb (fun h => h)) (hb.cell hab (fun h => h)) (hb.cell hzb (fun h => h)) ⟨[], rfl, h0⟩).mono ?_
  · obtain ⟨p, rfl, hJ⟩ := hJ
    obtain ⟨fn, tmps, assign, body, hy, hR⟩ := hY p ⟨x, hx⟩ W1 hJ (by rwa [List.length_map] at hl)
    refine ⟨fn, tmps, assign, body, hy, hR.mono ?_⟩
    rintro e W' (⟨rfl, h1, h2⟩ | ⟨rfl, h1⟩)
    · exact .inl ⟨rfl, ⟨_, by rw [List.map_append]; rfl, h1⟩, h2⟩
    · exact .inr ⟨rfl, ⟨_, by rw [List.map_append]; rfl, h1⟩⟩
  · rintro e W' ⟨he, ⟨ys, rfl, p, hp, hj⟩ | ⟨pre, ⟨q, hq1, hq2, rfl⟩, p, hp, hj⟩⟩
    · exact ⟨he, .inl ⟨p, hp, hj⟩⟩
    · exact ⟨he, .inr ⟨p, ⟨q, hq1, hq2, hp⟩, hj⟩⟩
set_option maxRecDepth 100000 in
theorem ifalling_stops (n : Nat) (hn : 2 ≤ n) (fb zb ab f z a : Nat) (G : Nat → Prop) (hz : z ≤ 139) (ha : a ≤ 139) (w : World) (hfn : ¬ G fb) (han : ¬ G ab)
    (hfb : w.cell? ⟨fb, 0, none⟩ = some (.pointer (some ⟨f, 0, none⟩))) (hzb : w.cell? ⟨zb, 0, none⟩ = some (.int .i64 z)) (hab : w.cell? ⟨ab, 0, none⟩ = some (.int .i64 a)) :
    SeqStopsK Fence.wide n Tryz.prog 145 #[.pointer (some ⟨zb, 0, none⟩), .pointer (some ⟨ab, 0, none⟩), .pointer (some ⟨fb, 0, none⟩)] (fun x : Fin 139 => #[Value.pointer (some ⟨f, 6 + x.val, none⟩)]) (Keeps G) (fun ys => ys.map Fin.val = dnL z (z - a)) (fun pre => ∃ k, k < z - a ∧ pre.map Fin.val = dnL z (k + 1)) (z - a) w := fun l J Jx W hW _ _ hY h0 => by
  have hb : Keeps (fun _ => False) w W := Keeps.of_below hW
  refine (ifalling1_in n hn l fb zb ab f z a G hz ha hfn han (fun pre W => ∃ p, p.map Fin.val = pre ∧ J p W) (fun pre W => ∃ p, p.map Fin.val = pre ∧ Jx p W) (fun pre x W1 hx hJ hl => ?_) W (hb.cell hfb (fun h => h)) (hb.cell hzb (fun h => h)) (hb.cell hab (fun h => h)) ⟨[], rfl, h0⟩).mono ?_
  · obtain ⟨p, rfl, hJ⟩ := hJ
    obtain ⟨fn, tmps, assign, body, hy, hR⟩ := hY p ⟨x, hx⟩ W1 hJ (by rwa [List.length_map] at hl)
    refine ⟨fn, tmps, assign, body, hy, hR.mono ?_⟩
    rintro e W' (⟨rfl, h1, h2⟩ | ⟨rfl, h1⟩)
    · exact .inl ⟨rfl, ⟨_, by rw [List.map_append]; rfl, h1⟩, h2⟩
    · exact .inr ⟨rfl, ⟨_, by rw [List.map_append]; rfl, h1⟩⟩
  · rintro e W' ⟨he, ⟨ys, rfl, p, hp, hj⟩ | ⟨pre, ⟨k, hk, rfl⟩, p, hp, hj⟩⟩
    · exact ⟨he, .inl ⟨p, hp, hj⟩⟩
    · exact ⟨he, .inr ⟨p, ⟨k, hk, hp⟩, hj⟩⟩
end Go.Proofs.YthdcloaaahhnaaaGreat
/- The parts of a file: the iterator. -/
namespace Go.Proofs.YthdcloaaahhnaaaGreat
open Go.RowKit Go.Shelf
attribute [local go_sem] Oper.semAt_some
/-- The slot of the k-th page of bytes. -/
def dslot (k : Nat) : Nat := if k < 10 then k else k + 1
theorem need_dslot (k : Nat) (hk : k < 138) : needZ (((k * 512 + 1 : Nat)) : Int) = dslot k + 1 := by
  unfold needZ needN fillN dslot
  rw [if_neg (by omega), Int.toNat_natCast, if_neg (by omega)]
  by_cases h : k < 10
  · rw [if_neg (by omega), if_pos h]; omega
  · rw [if_pos (by omega), if_neg h]; omega
theorem dslot_lt (k : Nat) (hk : k < 138) : dslot k < 139 := by unfold dslot; split <;> omega
/-- What is yielded of the k-th page. -/
def partV (sl : List Nat) (a z k : Nat) : Array Value := #[.int .i64 (sl.getD (dslot k) 0 : Nat), .agg #[.int .i64 (a - k * 512 : Nat), .int .i64 (min (z - k * 512) 512 : Nat)]]
set_option maxRecDepth 100000 in
theorem iparts_any (f a z : Nat) (w : World) : Calls Tryz.prog 94 #[.pointer (some ⟨f, 0, none⟩), .int .i64 a, .int .i64 z] w fun e w' => e = .returned (.func (.func 128) #[] #[.pointer (some ⟨w.heap.size + 1, 0, none⟩), .pointer (some ⟨w.heap.size + 1 + 1, 0, none⟩), .pointer (some ⟨w.heap.size, 0, none⟩)]) ∧ w' = ((w.alloc (.cells #[.pointer (some ⟨f, 0, none⟩)] 104)).alloc (.cells #[.int .i64 a] 3)).alloc (.cells #[.int .i64 z] 3) := by
  go_enter Tryz.func94, Tryz.ntmps94
  go_wp2
  go_ret
  exact ⟨by simp, rfl⟩
set_option maxRecDepth 100000 in
set_option maxHeartbeats 4000000 in
theorem iparts1_in (n : Nat) (hn : 2 ≤ n) (l fb ab zb f m a z : Nat) (S : FileS) (hS : S.slots.length = 139) (G : Nat → Prop) (hz : z ≤ 70656) (haz : a ≤ 70656) (hfn : ¬ G fb) (han : ¬ G ab) (hzn : ¬ G zb) (hfG : ¬ G f) (J Jx : List Nat → World → Prop)
    (hJa : ∀ pre W W', J pre W → Below W.heap.size W W' → J pre W')
    (hY : ∀ pre (x : Nat) W, a / 512 ≤ x → x < fillN z → J pre W → pre.length < fillN z - a / 512 → YieldAt Fence.wide (n - 1) Tryz.prog l (partV S.slots a z x) W fun e W' =>
      (e = .returned (.bool true) ∧ J (pre ++ [x]) W' ∧ Keeps G W W') ∨ (e = .returned (.bool false) ∧ Jx (pre ++ [x]) W'))
    (W : World) (hf : fileB W f m S) (hfb : W.cell? ⟨fb, 0, none⟩ = some (.pointer (some ⟨f, 0, none⟩))) (hab : W.cell? ⟨ab, 0, none⟩ = some (.int .i64 a)) (hzb : W.cell? ⟨zb, 0, none⟩ = some (.int .i64 z)) (h0 : J [] W) :
    CallsIn Fence.wide n Tryz.prog 128 #[.func (.yield l) #[] #[], .pointer (some ⟨ab, 0, none⟩), .pointer (some ⟨zb, 0, none⟩), .pointer (some ⟨fb, 0, none⟩)] W fun e W' => (∃ v, e = .returned v) ∧
      ((∃ ys, ys = upTo (a / 512) (fillN z) ∧ J ys W') ∨ (∃ pre, (∃ q, a / 512 ≤ q ∧ q < fillN z ∧ pre = upTo (a / 512) q ++ [q]) ∧ Jx pre W')) := by
  have HY := hid hY
  have HJa := hid hJa
  have HC : Hid (∀ wr, Keeps G W wr → wr.cell? ⟨fb, 0, none⟩ = some (.pointer (some ⟨f, 0, none⟩)) ∧ wr.cell? ⟨ab, 0, none⟩ = some (.int .i64 a) ∧ wr.cell? ⟨zb, 0, none⟩ = some (.int .i64 z) ∧ fileB wr f m S) := fun wr hb => ⟨hb.cell hfb hfn, hb.cell hab han, hb.cell hzb hzn, hf.keep hb hfG⟩
  have HSl : Hid (∀ wr q, q < 139 → CallsIn (Fence.wide) (n - 1) Tryz.prog 130 #[.pointer (some ⟨f, 0, none⟩), .int .i64 (q : Nat)] wr fun e w' => e = .returned (.pointer (some ⟨f, 6 + q, none⟩)) ∧ w' = wr) := fun wr q hq => callsIn_wide.2 (islot_any f q hq wr)
  have HFi : Hid (∀ wr, CallsIn (Fence.wide) (n - 1) Tryz.prog 129 #[.int .i64 z] wr fun e w' => e = .returned (.int .i64 (fillN z : Nat)) ∧ w' = wr) := fun wr => callsIn_wide.2 (ifilled_any z (by omega) wr)
  have HNe : Hid (∀ wr (q : Nat), q < 138 → CallsIn (Fence.wide) (n - 1) Tryz.prog 123 #[.int .i64 ((q * 512 + 1 : Nat) : Int)] wr fun e w' => e = .returned (.int .i64 ((dslot q + 1 : Nat) : Int)) ∧ w' = wr) := fun wr q hq => by
    have := iNeed_any (((q * 512 + 1 : Nat)) : Int) wr
    rw [need_dslot q hq] at this
    exact callsIn_wide.2 this
  have HJ0 := hid h0
  have hfz : fillN z ≤ 138 := by unfold fillN; omega
  have HS := hid hS
  clear hY h0 hJa hS
  have hf9 : Fence.wide.fn 130 := trivial
  have hf8 : Fence.wide.fn 129 := trivial
  have hf7 : Fence.wide.fn 123 := trivial
  have h1n : 1 ≤ n := by omega
  have hmz : (z : Int) ≤ 70656 := by omega
  refine callsIn_of_wp Tryz.func128 rfl trivial ?_ rfl
  simp only [Tryz.ntmps128, List.size_toArray, List.length_cons, List.length_nil, Nat.reduceAdd, Nat.reduceSub, Array.replicate_succ, Array.replicate_zero, List.push_toArray, List.append_toArray, List.nil_append, List.cons_append]
  have EA : Hid ((a : Int) / 512 = ((a / 512 : Nat) : Int)) := by unfold Hid; omega
  gi_wp2
  rw [EA.out]
  clear EA
  obtain ⟨a5, ha5⟩ : ∃ a5, a5 = a / 512 := ⟨_, rfl⟩
  rw [← ha5]
  have HA5 := hid ha5
  clear ha5
  gi_loopw [5] (fun i wr => ∃ q : Nat, a5 ≤ q ∧ (q ≤ fillN z ∨ q = a5) ∧ i = .int .i64 q ∧ Hid (J (upTo a5 q) wr) ∧ Hid (Keeps G W wr)) (fun i _ => fillN z - (intOf i).toNat)
  case atStart => exact ⟨a5, Nat.le_refl _, .inr rfl, rfl, by rw [upTo_none]; exact HJ0, Keeps.refl _ _⟩
  case round =>
    obtain ⟨q, hq1, hq2, rfl, HJ, HB⟩ := hrel
    clear HJ0
    obtain ⟨cf, ca, cz, hfl⟩ := HC.out wr HB.out
    have HFl := hid hfl
    clear hfl
    have HFq := hid (HFi.out wr)
    generalize hfz' : fillN z = fz at *
    by_cases hlt : q < fz
    · have hlt' : (q : Int) < (fz : Int) := by omega
      have hNq := HNe.out wr q (by omega)
      obtain ⟨ds, hds⟩ : ∃ ds, ds = dslot q := ⟨_, rfl⟩
      rw [← hds] at hNq
      have HNq := hid hNq
      have EQ1 : Hid ((q : Int) * 512 + 1 = ((q * 512 + 1 : Nat) : Int)) := by unfold Hid; omega
      have HMin : Hid (min (z : Int) 70656 = (z : Int)) := by unfold Hid; omega
      have HSq := hid (fun W => HSl.out W ds (by rw [hds]; exact dslot_lt q (by omega)))
      have hd138 : (ds : Int) ≤ 138 := by have := dslot_lt q (by omega); omega
      have hd0 : (0 : Int) ≤ (ds : Int) := by omega
      have HDs := hid hds
      clear hNq hds
      have HV : Hid (max ((a : Int) - (q : Int) * 512) 0 = ((a - q * 512 : Nat) : Int) ∧ min ((z : Int) - (q : Int) * 512) 512 = ((min (z - q * 512) 512 : Nat) : Int)) := by
        have hzq : q * 512 < z := by rw [← hfz'] at hlt; unfold fillN at hlt; omega
        exact ⟨by omega, by omega⟩
      gi_wp2_with (first
        | (gi_at_call 129; rw [HMin.out]; refine HFq.out.mono ?_; rintro e w9 ⟨rfl, h9⟩; obtain rfl := h9.symm; clear h9)
        | (gi_at_call 123; rw [EQ1.out]; refine HNq.out.mono ?_; rintro e w9 ⟨rfl, h9⟩; obtain rfl := h9.symm; clear h9))
      rw [HV.out.1, HV.out.2]
      obtain ⟨pa, hpa⟩ : ∃ pa, pa = a - q * 512 := ⟨_, rfl⟩
      obtain ⟨pz, hpz⟩ : ∃ pz, pz = min (z - q * 512) 512 := ⟨_, rfl⟩
      rw [← hpa, ← hpz]
      have HPA := hid hpa
      have HPZ := hid hpz
      have hbp : Below wr.heap.size wr (wr.alloc (.cells #[.int .i64 pa, .int .i64 pz] 167)).drew := ((Below.refl _ wr).alloc (Nat.le_refl _) _).drew
      have e0 : (wr.alloc (.cells #[.int .i64 pa, .int .i64 pz] 167)).drew.cell? ⟨wr.heap.size, 0, none⟩ = some (.int .i64 pa) := cell_of_block (block_new wr (.cells #[.int .i64 pa, .int .i64 pz] 167)) 0
      have e1 : (wr.alloc (.cells #[.int .i64 pa, .int .i64 pz] 167)).drew.cell? ⟨wr.heap.size, 1, none⟩ = some (.int .i64 pz) := cell_of_block (block_new wr (.cells #[.int .i64 pa, .int .i64 pz] 167)) 1
      have hfw := HFl.out.below hbp
      have hsl : ds < S.slots.length := by rw [HS.out]; omega
      have e2 := hfw.slot ds hsl
      have e3 : (wr.alloc (.cells #[.int .i64 pa, .int .i64 pz] 167)).drew.cell? ⟨fb, 0, none⟩ = some (.pointer (some ⟨f, 0, none⟩)) := (hbp.cell (World.block_lt_of_cell? wr _ cf)).trans cf
      have HJp := hid (HJa.out _ _ _ HJ.out hbp)
      have HBp := hid hbp
      have hpv : partV S.slots a z q = #[.int .i64 (S.slots[ds] : Nat), .agg #[.int .i64 pa, .int .i64 pz]] := by
        unfold partV
        rw [← HDs.out, ← hpa, ← hpz, List.getD_eq_getElem?_getD, List.getElem?_eq_getElem hsl]; rfl
      obtain ⟨fn, tmps, assign, body, hy, hR⟩ := HY.out _ q _ (by rw [← HA5.out]; exact hq1) hlt HJp.out (by rw [length_upTo, ← HA5.out]; omega)
      rw [hpv] at hy
      have HR := hid hR
      clear hbp hfw hpa hpz cf ca cz hR hpv
      refine wpIn_region_any (by kernel_rfl) ?_
      show wpAnyIn _ _ _ _ _ _ _ _ _ (wr.alloc (.cells #[.int .i64 pa, .int .i64 pz] 167)).drew
      generalize (wr.alloc (.cells #[.int .i64 pa, .int .i64 pz] 167)).drew = wp at *
      generalize hsd : S.slots[ds] = sd at *
      refine wpAnyIn_take (i := 0) (v := .func (.yield l) #[] #[]) rfl rfl (by kernel_rfl) (by kernel_rfl) (by kernel_rfl) (fun _ _ _ h => h) ⟨Or.inl ⟨by rfl, fun W => rfl⟩, fun W => rfl⟩ ?_
      try simp only [tS]
      refine wpAnyIn_take (i := 2) (v := .int .i64 ds) rfl rfl (by kernel_rfl) (by kernel_rfl) (by kernel_rfl) (fun _ _ _ h => h) ⟨Or.inl ⟨by rfl, fun W => rfl⟩, fun W => rfl⟩ ?_
      try simp only [tS]
      -- ORDERS
      refine wpAnyIn_ready (rs := [1, 6]) (by kernel_rfl) (by simp) (BigFrame.allReadyIn_want rfl rfl (fun K hK => ?_) (BigFrame.allReadyIn_want rfl rfl (fun K hK => ?_) AllReadyIn.nil))
      · try simp only [List.getElem_toArray, List.getElem_cons_succ, List.getElem_cons_zero]
        gi_big_op
        refine hK _ _ ?_
        clear hK K
        refine wpAnyIn_ready (rs := [3, 6]) (by kernel_rfl) (by simp) (BigFrame.allReadyIn_want rfl rfl (fun K hK => ?_) (BigFrame.allReadyIn_want rfl rfl (fun K hK => ?_) AllReadyIn.nil))
        · try simp only [List.getElem_toArray, List.getElem_cons_succ, List.getElem_cons_zero]
          refine ⟨fun _ _ => trivial, ?_⟩
          go_simp
          refine (HSq.out wp).mono ?_
          rintro e w9 ⟨rfl, h9⟩
          obtain rfl := h9.symm
          clear h9
          refine hK _ _ ?_
          clear hK K
          refine wpAnyIn_take (i := 4) (v := .pointer (some ⟨f, 6 + ds, none⟩)) rfl rfl (by kernel_rfl) (by kernel_rfl) (by kernel_rfl) (fun _ _ _ h => h) ⟨Or.inl ⟨by rfl, fun W => rfl⟩, fun W => rfl⟩ ?_
          try simp only [tS]
          refine wpAnyIn_ready (rs := [5, 6]) (by kernel_rfl) (by simp) (BigFrame.allReadyIn_want rfl rfl (fun K hK => ?_) (BigFrame.allReadyIn_want rfl rfl (fun K hK => ?_) AllReadyIn.nil))
          · try simp only [List.getElem_toArray, List.getElem_cons_succ, List.getElem_cons_zero]
            gi_big_op
            refine hK _ _ ?_
            clear hK K
            refine wpAnyIn_ready (rs := [6]) (by kernel_rfl) (by simp) (BigFrame.allReadyIn_want rfl rfl (fun K hK => ?_) AllReadyIn.nil)
            try simp only [List.getElem_toArray, List.getElem_cons_succ, List.getElem_cons_zero]
            gi_big_op
            refine hK _ _ ?_
            clear hK K
            refine wpAnyIn_ready (rs := [7]) (by kernel_rfl) (by simp) (BigFrame.allReadyIn_want rfl rfl (fun K hK => ?_) AllReadyIn.nil)
            try simp only [List.getElem_toArray, List.getElem_cons_succ, List.getElem_cons_zero]
            refine ⟨fun _ _ => trivial, ?_⟩
            go_simp
            refine HR.out.mono ?_
            clear HR
            rintro e W3 (⟨rfl, hJ3, hk3⟩ | ⟨rfl, hJx3⟩)
            · have HJ3 : Hid (J (upTo a5 (q + 1)) W3) := by rw [upTo_succ hq1]; exact hJ3
              have HB3 : Hid (Keeps G W W3) := (HB.out.trans (Keeps.of_below HBp.out : Keeps G wr wp) (fun i e => .inl e)).trans hk3 (fun i e => .inl e)
              clear hJ3 hk3
              refine hK _ _ ?_
              clear hK K
              refine wpAnyIn_take (i := 8) (v := .bool false) rfl rfl (by kernel_rfl) (by kernel_rfl) (by kernel_rfl) (fun _ _ _ h => h) ⟨Or.inl ⟨by rfl, fun W => rfl⟩, fun W => rfl⟩ ?_
              try simp only [tS]
              refine wpAnyIn_done (by kernel_rfl) ?_ _
              gi_wp2
              go_roundw
              case rel => exact ⟨q + 1, by omega, .inl (by omega), by go_num, HJ3, HB3⟩
              case measure => simp [intOf]; omega
            · have HX := hid hJx3
              clear hJx3
              refine hK _ _ ?_
              clear hK K
              refine wpAnyIn_take (i := 8) (v := .bool true) rfl rfl (by kernel_rfl) (by kernel_rfl) (by kernel_rfl) (fun _ _ _ h => h) ⟨Or.inl ⟨by rfl, fun W => rfl⟩, fun W => rfl⟩ ?_
              try simp only [tS]
              refine wpAnyIn_done (by kernel_rfl) ?_ _
              gi_wp2
              refine bodyPost_ret (results_none rfl _ _ _) rfl ?_
              exact ⟨⟨_, rfl⟩, .inr ⟨_, ⟨q, by rw [← HA5.out]; exact hq1, by rw [hfz']; exact hlt, by rw [← HA5.out]⟩, HX.out⟩⟩
          · try simp only [List.getElem_toArray, List.getElem_cons_succ, List.getElem_cons_zero]
            gi_big_op
            refine hK _ _ ?_
            clear hK K
            refine wpAnyIn_ready (rs := [5]) (by kernel_rfl) (by simp) (BigFrame.allReadyIn_want rfl rfl (fun K hK => ?_) AllReadyIn.nil)
            try simp only [List.getElem_toArray, List.getElem_cons_succ, List.getElem_cons_zero]
            gi_big_op
            refine hK _ _ ?_
            clear hK K
            refine wpAnyIn_ready (rs := [7]) (by kernel_rfl) (by simp) (BigFrame.allReadyIn_want rfl rfl (fun K hK => ?_) AllReadyIn.nil)
            try simp only [List.getElem_toArray, List.getElem_cons_succ, List.getElem_cons_zero]
            refine ⟨fun _ _ => trivial, ?_⟩
            go_simp
            refine HR.out.mono ?_
            clear HR
            rintro e W3 (⟨rfl, hJ3, hk3⟩ | ⟨rfl, hJx3⟩)
            · have HJ3 : Hid (J (upTo a5 (q + 1)) W3) := by rw [upTo_succ hq1]; exact hJ3
              have HB3 : Hid (Keeps G W W3) := (HB.out.trans (Keeps.of_below HBp.out : Keeps G wr wp) (fun i e => .inl e)).trans hk3 (fun i e => .inl e)
              clear hJ3 hk3
              refine hK _ _ ?_
              clear hK K
              refine wpAnyIn_take (i := 8) (v := .bool false) rfl rfl (by kernel_rfl) (by kernel_rfl) (by kernel_rfl) (fun _ _ _ h => h) ⟨Or.inl ⟨by rfl, fun W => rfl⟩, fun W => rfl⟩ ?_
              try simp only [tS]
              refine wpAnyIn_done (by kernel_rfl) ?_ _
              gi_wp2
              go_roundw
              case rel => exact ⟨q + 1, by omega, .inl (by omega), by go_num, HJ3, HB3⟩
              case measure => simp [intOf]; omega
            · have HX := hid hJx3
              clear hJx3
              refine hK _ _ ?_
              clear hK K
              refine wpAnyIn_take (i := 8) (v := .bool true) rfl rfl (by kernel_rfl) (by kernel_rfl) (by kernel_rfl) (fun _ _ _ h => h) ⟨Or.inl ⟨by rfl, fun W => rfl⟩, fun W => rfl⟩ ?_
              try simp only [tS]
              refine wpAnyIn_done (by kernel_rfl) ?_ _
              gi_wp2
              refine bodyPost_ret (results_none rfl _ _ _) rfl ?_
              exact ⟨⟨_, rfl⟩, .inr ⟨_, ⟨q, by rw [← HA5.out]; exact hq1, by rw [hfz']; exact hlt, by rw [← HA5.out]⟩, HX.out⟩⟩
        · try simp only [List.getElem_toArray, List.getElem_cons_succ, List.getElem_cons_zero]
          gi_big_op
          refine hK _ _ ?_
          clear hK K
          refine wpAnyIn_ready (rs := [3]) (by kernel_rfl) (by simp) (BigFrame.allReadyIn_want rfl rfl (fun K hK => ?_) AllReadyIn.nil)
          try simp only [List.getElem_toArray, List.getElem_cons_succ, List.getElem_cons_zero]
          refine ⟨fun _ _ => trivial, ?_⟩
          go_simp
          refine (HSq.out wp).mono ?_
          rintro e w9 ⟨rfl, h9⟩
          obtain rfl := h9.symm
          clear h9
          refine hK _ _ ?_
          clear hK K
          refine wpAnyIn_take (i := 4) (v := .pointer (some ⟨f, 6 + ds, none⟩)) rfl rfl (by kernel_rfl) (by kernel_rfl) (by kernel_rfl) (fun _ _ _ h => h) ⟨Or.inl ⟨by rfl, fun W => rfl⟩, fun W => rfl⟩ ?_
          try simp only [tS]
          refine wpAnyIn_ready (rs := [5]) (by kernel_rfl) (by simp) (BigFrame.allReadyIn_want rfl rfl (fun K hK => ?_) AllReadyIn.nil)
          try simp only [List.getElem_toArray, List.getElem_cons_succ, List.getElem_cons_zero]
          gi_big_op
          refine hK _ _ ?_
          clear hK K
          refine wpAnyIn_ready (rs := [7]) (by kernel_rfl) (by simp) (BigFrame.allReadyIn_want rfl rfl (fun K hK => ?_) AllReadyIn.nil)
          try simp only [List.getElem_toArray, List.getElem_cons_succ, List.getElem_cons_zero]
          refine ⟨fun _ _ => trivial, ?_⟩
          go_simp
          refine HR.out.mono ?_
          clear HR
          rintro e W3 (⟨rfl, hJ3, hk3⟩ | ⟨rfl, hJx3⟩)
          · have HJ3 : Hid (J (upTo a5 (q + 1)) W3) := by rw [upTo_succ hq1]; exact hJ3
            have HB3 : Hid (Keeps G W W3) := (HB.out.trans (Keeps.of_below HBp.out : Keeps G wr wp) (fun i e => .inl e)).trans hk3 (fun i e => .inl e)
            clear hJ3 hk3
            refine hK _ _ ?_
            clear hK K
            refine wpAnyIn_take (i := 8) (v := .bool false) rfl rfl (by kernel_rfl) (by kernel_rfl) (by kernel_rfl) (fun _ _ _ h => h) ⟨Or.inl ⟨by rfl, fun W => rfl⟩, fun W => rfl⟩ ?_
            try simp only [tS]
            refine wpAnyIn_done (by kernel_rfl) ?_ _
            gi_wp2
            go_roundw
            case rel => exact ⟨q + 1, by omega, .inl (by omega), by go_num, HJ3, HB3⟩
            case measure => simp [intOf]; omega
          · have HX := hid hJx3
            clear hJx3
            refine hK _ _ ?_
            clear hK K
            refine wpAnyIn_take (i := 8) (v := .bool true) rfl rfl (by kernel_rfl) (by kernel_rfl) (by kernel_rfl) (fun _ _ _ h => h) ⟨Or.inl ⟨by rfl, fun W => rfl⟩, fun W => rfl⟩ ?_
            try simp only [tS]
            refine wpAnyIn_done (by kernel_rfl) ?_ _
            gi_wp2
            refine bodyPost_ret (results_none rfl _ _ _) rfl ?_
            exact ⟨⟨_, rfl⟩, .inr ⟨_, ⟨q, by rw [← HA5.out]; exact hq1, by rw [hfz']; exact hlt, by rw [← HA5.out]⟩, HX.out⟩⟩
      · try simp only [List.getElem_toArray, List.getElem_cons_succ, List.getElem_cons_zero]
        gi_big_op
        refine hK _ _ ?_
        clear hK K
        refine wpAnyIn_ready (rs := [1]) (by kernel_rfl) (by simp) (BigFrame.allReadyIn_want rfl rfl (fun K hK => ?_) AllReadyIn.nil)
        try simp only [List.getElem_toArray, List.getElem_cons_succ, List.getElem_cons_zero]
        gi_big_op
        refine hK _ _ ?_
        clear hK K
        refine wpAnyIn_ready (rs := [3]) (by kernel_rfl) (by simp) (BigFrame.allReadyIn_want rfl rfl (fun K hK => ?_) AllReadyIn.nil)
        try simp only [List.getElem_toArray, List.getElem_cons_succ, List.getElem_cons_zero]
        refine ⟨fun _ _ => trivial, ?_⟩
        go_simp
        refine (HSq.out wp).mono ?_
        rintro e w9 ⟨rfl, h9⟩
        obtain rfl := h9.symm
        clear h9
        refine hK _ _ ?_
        clear hK K
        refine wpAnyIn_take (i := 4) (v := .pointer (some ⟨f, 6 + ds, none⟩)) rfl rfl (by kernel_rfl) (by kernel_rfl) (by kernel_rfl) (fun _ _ _ h => h) ⟨Or.inl ⟨by rfl, fun W => rfl⟩, fun W => rfl⟩ ?_
        try simp only [tS]
        refine wpAnyIn_ready (rs := [5]) (by kernel_rfl) (by simp) (BigFrame.allReadyIn_want rfl rfl (fun K hK => ?_) AllReadyIn.nil)
        try simp only [List.getElem_toArray, List.getElem_cons_succ, List.getElem_cons_zero]
        gi_big_op
        refine hK _ _ ?_
        clear hK K
        refine wpAnyIn_ready (rs := [7]) (by kernel_rfl) (by simp) (BigFrame.allReadyIn_want rfl rfl (fun K hK => ?_) AllReadyIn.nil)
        try simp only [List.getElem_toArray, List.getElem_cons_succ, List.getElem_cons_zero]
        refine ⟨fun _ _ => trivial, ?_⟩
        go_simp
        refine HR.out.mono ?_
        clear HR
        rintro e W3 (⟨rfl, hJ3, hk3⟩ | ⟨rfl, hJx3⟩)
        · have HJ3 : Hid (J (upTo a5 (q + 1)) W3) := by rw [upTo_succ hq1]; exact hJ3
          have HB3 : Hid (Keeps G W W3) := (HB.out.trans (Keeps.of_below HBp.out : Keeps G wr wp) (fun i e => .inl e)).trans hk3 (fun i e => .inl e)
          clear hJ3 hk3
          refine hK _ _ ?_
          clear hK K
          refine wpAnyIn_take (i := 8) (v := .bool false) rfl rfl (by kernel_rfl) (by kernel_rfl) (by kernel_rfl) (fun _ _ _ h => h) ⟨Or.inl ⟨by rfl, fun W => rfl⟩, fun W => rfl⟩ ?_
          try simp only [tS]
          refine wpAnyIn_done (by kernel_rfl) ?_ _
          gi_wp2
          go_roundw
          case rel => exact ⟨q + 1, by omega, .inl (by omega), by go_num, HJ3, HB3⟩
          case measure => simp [intOf]; omega
        · have HX := hid hJx3
          clear hJx3
          refine hK _ _ ?_
          clear hK K
          refine wpAnyIn_take (i := 8) (v := .bool true) rfl rfl (by kernel_rfl) (by kernel_rfl) (by kernel_rfl) (fun _ _ _ h => h) ⟨Or.inl ⟨by rfl, fun W => rfl⟩, fun W => rfl⟩ ?_
          try simp only [tS]
          refine wpAnyIn_done (by kernel_rfl) ?_ _
          gi_wp2
          refine bodyPost_ret (results_none rfl _ _ _) rfl ?_
          exact ⟨⟨_, rfl⟩, .inr ⟨_, ⟨q, by rw [← HA5.out]; exact hq1, by rw [hfz']; exact hlt, by rw [← HA5.out]⟩, HX.out⟩⟩
    · have hge : ¬ ((q : Int) < (fz : Int)) := by omega
      have hup : upTo a5 q = upTo (a / 512) fz := by
        rw [← HA5.out]
        rcases hq2 with h | h
        · rw [show q = fz by omega]
        · rw [h, upTo_none]; unfold upTo; rw [show fz - a5 = 0 by omega]; rfl
      have HMin : Hid (min (z : Int) 70656 = (z : Int)) := by unfold Hid; omega
      rw [hup] at HJ
      gi_wp2_with (gi_at_call 129; rw [HMin.out]; refine HFq.out.mono ?_; rintro e w9 ⟨rfl, h9⟩; obtain rfl := h9.symm; clear h9)
      go_end0
      rw [← hfz'] at HJ
      exact ⟨⟨_, rfl⟩, .inl ⟨_, rfl, HJ.out⟩⟩
end Go.Proofs.YthdcloaaahhnaaaGreat
/- Pages that are taken one behind the other. -/
namespace Go.Proofs.YthdcloaaahhnaaaGreat
open Go.RowKit
/-- The free ones behind the first one is taken. -/
theorem freeTo_next {L : List UInt8} {a z q : Nat} {rest : List Nat} (hL : L.length = 512) (hz : z ≤ 4096) (h : freeTo L a z 4096 = q :: rest) : freeTo (flipL L q) a z 4096 = rest := by
  have hq := freeTo_first h
  have e1 : ∀ n, isFree (flipL L q) a z n = (isFree L a z n && decide (n ≠ q)) := fun n => by
    unfold isFree
    rw [bitL_flipL L q n (by omega)]
    by_cases e : n = q
    · subst e; rw [if_pos rfl, hq.2.2]; simp
    · rw [if_neg e]; simp [e]
  have e2 : freeTo (flipL L q) a z 4096 = (freeTo L a z 4096).filter (fun n => decide (n ≠ q)) := by
    unfold freeTo
    rw [List.filter_filter]
    exact List.filter_congr (fun n _ => by rw [e1, Bool.and_comm])
  have hnd : (freeTo L a z 4096).Nodup := List.Pairwise.filter _ List.nodup_range
  rw [h] at hnd
  rw [e2, h, List.filter_cons_of_neg (by simp)]
  rw [List.filter_eq_self]
  intro x hx
  have hne : x ≠ q := fun e => (List.nodup_cons.1 hnd).1 (e ▸ hx)
  exact decide_eq_true hne
/-- Pages as they are behind one is taken. -/
def tkP (Pg : Nat → List UInt8) (q : Nat) : Nat → List UInt8 := updP (updP Pg 2 (flipL (Pg 2) q)) q (zN 512)
def tkD (D : Int → Bool) (q : Nat) : Int → Bool := updT (updT D 2) q
/-- Behind these are taken, one by one. -/
def tkPs (Pg : Nat → List UInt8) (ks : List Nat) : Nat → List UInt8 := ks.foldl tkP Pg
def tkDs (D : Int → Bool) (ks : List Nat) : Int → Bool := ks.foldl tkD D
theorem tkPs_snoc (Pg : Nat → List UInt8) (ks : List Nat) (q : Nat) : tkPs Pg (ks ++ [q]) = tkP (tkPs Pg ks) q := by simp [tkPs]
theorem tkDs_snoc (D : Int → Bool) (ks : List Nat) (q : Nat) : tkDs D (ks ++ [q]) = tkD (tkDs D ks) q := by simp [tkDs]
/-- Room for n pages more. -/
def Rm (N size : Nat) (D : Int → Bool) (n : Nat) : Prop := (dkD N D).length + n ≤ min size 100 ∨ N ≤ min size 100
theorem Rm.le {N size : Nat} {D : Int → Bool} {n n' : Nat} (h : Rm N size D n) (hn : n' ≤ n) : Rm N size D n' := by
  rcases h with h | h
  · left; omega
  · exact .inr h
theorem dkD_le (N : Nat) (D : Int → Bool) : (dkD N D).length ≤ N := by
  have h : (dkD N D).length ≤ ((List.range N).map (fun k : Nat => (k : Int))).length := List.length_filter_le _ _
  simpa using h
theorem Rm.put {N size : Nat} {D : Int → Bool} {n : Nat} (h : Rm N size D (n + 1)) (q : Nat) : Rm N size (updT D q) n := by
  rcases h with h | h
  · have := dkD_upd1 N D q; left; omega
  · exact .inr h
theorem Rm.use {N size : Nat} {D : Int → Bool} {n : Nat} (h : Rm N size D (n + 1)) (q : Nat) (hq : q < N) : D q = true ∨ (dkD N D).length < min size 100 := by
  rcases h with h | h
  · right; omega
  · cases hd : D q with
    | true => exact .inl rfl
    | false => have h1 := dkD_more N D q hq hd; have h2 := dkD_le N (updT D q); right; omega
theorem Rm.two {N size : Nat} {D : Int → Bool} {n : Nat} (h : Rm N size D (n + 2)) (p q : Nat) (hp : p < N) (hq : q < N) (hpq : p ≠ q) : (dkD N D).length + ((if D p then 0 else 1) + (if D q then 0 else 1)) ≤ min size 100 := by
  have e2 : (if D p = true then 0 else 1) ≤ 1 := by split <;> omega
  have e3 : (if D q = true then 0 else 1) ≤ 1 := by split <;> omega
  rcases h with h | h
  · omega
  · have h3 := dkD_le N (updT (updT D p) q)
    have h4 := dkD_le N (updT D q)
    have h5 := dkD_le N (updT D p)
    have h6 := dkD_le N D
    cases hd : D p with
    | true =>
      cases hd2 : D q with
      | true => simp; omega
      | false => have h1 := dkD_more N D q hq hd2; simp; omega
    | false =>
      have h1 := dkD_more N D p hp hd
      cases hd2 : D q with
      | true => simp; omega
      | false =>
        have h2 := dkD_more N (updT D p) q hq (by unfold updT; rw [if_neg (by omega)]; exact hd2)
        simp; omega
theorem Rm.tks {N size : Nat} : ∀ {ks : List Nat} {D : Int → Bool} {n : Nat}, Rm N size D (n + 2 * ks.length) → Rm N size (tkDs D ks) n
  | [], _, _, h => h
  | q :: ks, D, n, h => by
    have h1 : Rm N size D (n + 2 * ks.length + 1 + 1) := by simpa [Nat.mul_add, Nat.add_assoc] using h
    exact Rm.tks (ks := ks) (D := tkD D q) ((h1.put 2).put q)
/-- A cache with room for k pages more. -/
def Pe (w : World) (c : Nat) (F : Nat → Prop) (size N : Nat) (Pg Cm : Nat → List UInt8) (o u k : Nat) : Prop := ∃ D, Rm N size D k ∧ Pc w c F size N Pg Cm D o u
/-- The free ones behind the first k are taken. -/
theorem free_tks {Pg : Nat → List UInt8} {a z : Nat} (ha : 3 ≤ a) (hz : z ≤ 4096) (hL : (Pg 2).length = 512) : ∀ (k : Nat), k ≤ (freeTo (Pg 2) a z 4096).length → freeTo (tkPs Pg ((freeTo (Pg 2) a z 4096).take k) 2) a z 4096 = (freeTo (Pg 2) a z 4096).drop k ∧ (tkPs Pg ((freeTo (Pg 2) a z 4096).take k) 2).length = 512
  | 0, _ => ⟨rfl, hL⟩
  | k + 1, hk => by
    obtain ⟨ih1, ih2⟩ := free_tks ha hz hL k (by omega)
    have hlt : k < (freeTo (Pg 2) a z 4096).length := by omega
    rw [List.drop_eq_getElem_cons hlt] at ih1
    have hq := freeTo_first ih1
    rw [List.take_add_one, List.getElem?_eq_getElem hlt, Option.toList_some, tkPs_snoc]
    have e2 : tkP (tkPs Pg ((freeTo (Pg 2) a z 4096).take k)) (freeTo (Pg 2) a z 4096)[k] 2 = flipL (tkPs Pg ((freeTo (Pg 2) a z 4096).take k) 2) (freeTo (Pg 2) a z 4096)[k] := by
      unfold tkP updP
      rw [if_neg (by omega), if_pos rfl]
    rw [e2]
    exact ⟨freeTo_next ih2 hz ih1, by rw [length_flipL]; exact ih2⟩
section
variable {w : World} {m c ino : Nat} {F : Nat → Prop} {size N : Nat} {Pg Cm : Nat → List UInt8} {D : Int → Bool} {o u : Nat}
/-- The k-th page that is taken. -/
theorem aPage_tks (h : mapB w m c ino) (hmF : ¬ F m) (hi : ino ≤ 512) (hN : 3 ≤ N) (k : Nat) (hk : k < (freeTo (Pg 2) (3 + ino / 8) N 4096).length) (hL : (Pg 2).length = 512) (hr : Rm N size D (2 * k + 2)) (hu : u < 1000000)
    (hp : Pc w c F size N (tkPs Pg ((freeTo (Pg 2) (3 + ino / 8) N 4096).take k)) Cm (tkDs D ((freeTo (Pg 2) (3 + ino / 8) N 4096).take k)) o u) :
    Calls Tryz.prog 125 #[.pointer (some ⟨m, 0, none⟩)] w fun e w' => e = .returned (.tuple #[.int .i64 ((freeTo (Pg 2) (3 + ino / 8) N 4096)[k] : Nat), .int .i64 0]) ∧ Keeps F w w' ∧ Pc w' c F size N (tkPs Pg ((freeTo (Pg 2) (3 + ino / 8) N 4096).take (k + 1))) Cm (tkDs D ((freeTo (Pg 2) (3 + ino / 8) N 4096).take (k + 1))) o (u + 1) := by
  obtain ⟨h1, -⟩ := free_tks (Pg := Pg) (a := 3 + ino / 8) (z := N) (by omega) hp.four hL k (by omega)
  rw [List.drop_eq_getElem_cons hk] at h1
  have hd : Rm N size (tkDs D ((freeTo (Pg 2) (3 + ino / 8) N 4096).take k)) 2 := Rm.tks (by rw [List.length_take, Nat.min_eq_left (by omega)]; exact hr.le (by omega))
  refine (aPage_any h hmF hi hN hu hp).mono ?_
  rintro e w' ⟨hk', hx⟩
  rcases hx with ⟨h0, -⟩ | ⟨q, rest, h0, hx⟩
  · rw [h1] at h0; cases h0
  obtain rfl : (freeTo (Pg 2) (3 + ino / 8) N 4096)[k] = q := (List.cons.inj (h1.symm.trans h0)).1
  rcases hx with ⟨hf, -, -⟩ | ⟨-, rfl, hp'⟩
  · have hq := freeTo_first h1
    have hd2 := hd.two 2 _ (by omega) (by omega : (freeTo (Pg 2) (3 + ino / 8) N 4096)[k] < N) (by omega)
    exact absurd hd2 (by have e : ((2 : Nat) : Int) = 2 := rfl; rw [e]; omega)
  · refine ⟨rfl, hk', ?_⟩
    rw [List.take_add_one, List.getElem?_eq_getElem hk, Option.toList_some, tkPs_snoc, tkDs_snoc]
    exact hp'
end
end Go.Proofs.YthdcloaaahhnaaaGreat
/- clearTail where there is no tail. -/
namespace Go.Proofs.YthdcloaaahhnaaaGreat
open Go.RowKit Go.Shelf
attribute [local go_sem] Oper.semAt_some
set_option maxRecDepth 100000 in
theorem iparts_stops (n : Nat) (hn : 2 ≤ n) (fb ab zb f m a z : Nat) (S : FileS) (hS : S.slots.length = 139) (G : Nat → Prop) (hz : z ≤ 70656) (ha : a ≤ 70656) (w : World) (hfn : ¬ G fb) (han : ¬ G ab) (hzn : ¬ G zb) (hfG : ¬ G f) (hf : fileB w f m S)
    (hfb : w.cell? ⟨fb, 0, none⟩ = some (.pointer (some ⟨f, 0, none⟩))) (hab : w.cell? ⟨ab, 0, none⟩ = some (.int .i64 a)) (hzb : w.cell? ⟨zb, 0, none⟩ = some (.int .i64 z)) (M : Nat) (hM : M = fillN z - a / 512) :
    SeqStopsK Fence.wide n Tryz.prog 128 #[.pointer (some ⟨ab, 0, none⟩), .pointer (some ⟨zb, 0, none⟩), .pointer (some ⟨fb, 0, none⟩)] (fun x : Fin M => partV S.slots a z (a / 512 + x.val)) (Keeps G) (fun ys => ys.map (fun x => a / 512 + x.val) = upTo (a / 512) (fillN z)) (fun pre => ∃ q, a / 512 ≤ q ∧ q < fillN z ∧ pre.map (fun x => a / 512 + x.val) = upTo (a / 512) q ++ [q]) M w := fun l J Jx W hW hAb _ hY h0 => by
  have hb : Keeps (fun _ => False) w W := Keeps.of_below hW
  refine (iparts1_in n hn l fb ab zb f m a z S hS G hz ha hfn han hzn hfG (fun pre W => ∃ p : List (Fin M), p.map (fun x => a / 512 + x.val) = pre ∧ J p W) (fun pre W => ∃ p : List (Fin M), p.map (fun x => a / 512 + x.val) = pre ∧ Jx p W)
    (fun pre W1 W2 hJ hb2 => by obtain ⟨p, hp, hJ⟩ := hJ; exact ⟨p, hp, hAb p W1 W2 none hJ (grown_of_below hb2 none) (fun r e => by cases e)⟩)
    (fun pre x W1 hx1 hx2 hJ hl => ?_) W (hf.keep hb (fun h => h)) (hb.cell hfb (fun h => h)) (hb.cell hab (fun h => h)) (hb.cell hzb (fun h => h)) ⟨[], rfl, h0⟩).mono ?_
  · obtain ⟨p, rfl, hJ⟩ := hJ
    obtain ⟨k, rfl⟩ : ∃ k, x = a / 512 + k := ⟨x - a / 512, by omega⟩
    obtain ⟨fn, tmps, assign, body, hy, hR⟩ := hY p ⟨k, by omega⟩ W1 hJ (by rw [List.length_map] at hl; omega)
    refine ⟨fn, tmps, assign, body, hy, hR.mono ?_⟩
    rintro e W' (⟨rfl, h1, h2⟩ | ⟨rfl, h1⟩)
    · exact .inl ⟨rfl, ⟨_, by rw [List.map_append]; rfl, h1⟩, h2⟩
    · exact .inr ⟨rfl, ⟨_, by rw [List.map_append]; rfl, h1⟩⟩
  · rintro e W' ⟨he, ⟨ys, rfl, p, hp, hj⟩ | ⟨pre, ⟨q, hq1, hq2, rfl⟩, p, hp, hj⟩⟩
    · exact ⟨he, .inl ⟨p, hp, hj⟩⟩
    · exact ⟨he, .inr ⟨p, ⟨q, hq1, hq2, hp⟩, hj⟩⟩
set_option maxRecDepth 100000 in
theorem results_iclear {w : World} {tmps : Array Value} {b : Nat} {x : Value} (h1 : tmps.getD 2 undef = .pointer (some ⟨b, 0, none⟩)) (r : w.heap[b]? = some (.cells #[x] 24 (0, 0))) :
    (results Tryz.f122 tmps).run Tryz.prog w = .ok x w := by
  have c1 : w.cell? ⟨b, 0, none⟩ = some x := cell_of_block r 0
  have h1' : tmps[2]?.getD undef = .pointer (some ⟨b, 0, none⟩) := by simpa using h1
  simp only [results, Tryz.results122]
  simp [go_sem, h1', asAddr, c1]
set_option maxRecDepth 100000 in
set_option maxHeartbeats 4000000 in
theorem iclear_none {w : World} {f m : Nat} {S : FileS} (hf : fileB w f m S) (hS : S.slots.length = 139) (hs : S.size ≤ 70656) (h5 : S.size % 512 = 0) : Calls Tryz.prog 122 #[.pointer (some ⟨f, 0, none⟩)] w fun e w' => e = .returned (.int .i64 0) ∧ Below w.heap.size w w' := by
  refine (callsIn_wide (n := 8)).1 ?_
  obtain ⟨wA, hA⟩ : ∃ wA, wA = (w.alloc (.cells #[.pointer (some ⟨f, 0, none⟩)] 104)).alloc (.cells #[.int .i64 0] 24) := ⟨_, rfl⟩
  have hAB : Below w.heap.size w wA := by rw [hA]; exact ((Below.refl _ w).alloc (Nat.le_refl _) _).alloc (by simp) _
  have hA0 : wA.heap[w.heap.size]? = some (.cells #[.pointer (some ⟨f, 0, none⟩)] 104 (0, 0)) := by rw [hA]; exact block_alloc (block_new w _) _
  have hA1 : wA.heap[w.heap.size + 1]? = some (.cells #[.int .i64 0] 24 (0, 0)) := by
    have h1 := block_new (w.alloc (.cells #[.pointer (some ⟨f, 0, none⟩)] 104)) (.cells #[.int .i64 0] 24)
    rw [World.size_alloc] at h1
    rw [hA]; exact h1
  have hAs : wA.heap.size = w.heap.size + 2 := by rw [hA]; simp
  have hfA := hf.below hAB
  obtain ⟨-, -, -, -, -, c5⟩ := hfA.head
  have c0 : wA.cell? ⟨w.heap.size, 0, none⟩ = some (.pointer (some ⟨f, 0, none⟩)) := cell_of_block hA0 0
  have HF := hid hfA
  have HFi := hid (fun W => ifilled_any S.size (by omega) W)
  have HFe : Hid (((fillN S.size : Nat) : Int) * 512 = (S.size : Int)) := by unfold Hid fillN; omega
  have HFu : Hid (fillN S.size = S.size / 512) := by unfold Hid fillN; omega
  have hfb : ((fillN S.size : Nat) : Int) ≤ 200 := by unfold fillN; omega
  have HA1 := hid hA1
  have HA0 := hid hA0
  have HAB := hid hAB
  have HAs := hid hAs
  have HS := hid hS
  have hfl : f < w.heap.size := hf.lt
  rw [hA] at c5 c0
  clear hf hfA hA0 hA1 hAB hAs hS
  refine callsIn_of_wp_marks Tryz.func122 rfl trivial ?_ rfl
  simp only [Tryz.ntmps122, List.size_toArray, List.length_cons, List.length_nil, Nat.reduceAdd, Nat.reduceSub, Array.replicate_succ, Array.replicate_zero, List.push_toArray, List.append_toArray, List.nil_append, List.cons_append]
  have hf1 : Fence.wide.fn 129 := trivial
  have hf2 : Fence.wide.fn 94 := trivial
  obtain ⟨z, hz⟩ : ∃ z, z = S.size := ⟨_, rfl⟩
  obtain ⟨fz, hfz⟩ : ∃ fz, fz = fillN S.size := ⟨_, rfl⟩
  rw [← hz] at c5
  have HZ := hid hz
  have HFz := hid hfz
  rw [← hfz, ← hz] at HFe
  rw [← hfz] at hfb
  clear hz hfz
  gi_wp2
  rw [← hA] at c0 c5 ⊢
  clear hA
  have hbd : Below wA.heap.size wA wA.drew := (Below.refl _ wA).drew
  have d0 := (hbd.cell (World.block_lt_of_cell? wA _ c0)).trans c0
  have HBd := hid hbd
  have hfi := HFi.out wA.drew
  rw [← HFz.out, ← HZ.out] at hfi
  have HFi2 := hid hfi
  have HPa := hid (iparts_any f z z wA.drew)
  have hmul : IntKind.i64.wrap ((fz : Int) * 512) = (z : Int) := by rw [IntWalk.i64_in _ (by omega)]; exact HFe.out
  clear HFi hfi hbd c5
  refine wpIn_wide.2 ?_
  refine wp_region_noPanic ?_
  refine wp_region_held_drew (S := fun W => W.cell? ⟨w.heap.size, 0, none⟩ = some (.pointer (some ⟨f, 0, none⟩))) (by kernel_rfl) c0 (fun hHeld => ?_)
  generalize wA.drew = wd at *
  refine tk 0 ?_ rfl (by kernel_rfl) (fun _ _ _ h => h) (by rfl) (by assumption) ?_ ?_
  rotate_left
  · (intro W h; (try dsimp only at h); obtain s0 := h; go_simp; try with_reducible rfl)
  try simp only [tS]
  refine tk 1 ?_ rfl (by kernel_rfl) (fun _ _ _ h => h) (by rfl) (by assumption) ?_ ?_
  rotate_left
  · (intro W h; (try dsimp only at h); obtain s0 := h; go_simp; try with_reducible rfl)
  try simp only [tS]
  refine tk 2 ?_ rfl (by kernel_rfl) (fun _ _ _ h => h) (by rfl) (by assumption) ?_ ?_
  rotate_left
  · (intro W h; (try dsimp only at h); obtain s0 := h; go_simp; try with_reducible rfl)
  try simp only [tS]
  refine wpAnyH_ready (rs := [3]) (by kernel_rfl) (by simp) (AllReadyH.cons rfl (fun K hK => ?_) AllReadyH.nil)
  rw [if_pos (by rfl)]
  go_simp
  refine HFi2.out.mono ?_
  clear HFi2
  rintro e w1 ⟨rfl, h1⟩
  obtain rfl := h1.symm
  clear h1
  go_wp2_with fail
  refine hK.out _ _ d0 (fun hHeld => ?_)
  clear hK K
  try simp only [tS]
  refine tk 4 (.int .i64 (z : Int)) rfl (by kernel_rfl) (fun _ _ _ h => h) (by rfl) (by assumption) ?_ ?_
  · (intro W h; (try dsimp only at h); obtain s0 := h; go_simp; try first | with_reducible rfl | go_num | (rw [if_pos (by assumption)]; simp only [*]) | simp only [*])
  try simp only [tS]
  refine wpAnyH_ready (rs := [5]) (by kernel_rfl) (by simp) (AllReadyH.cons rfl (fun K hK => ?_) AllReadyH.nil)
  rw [if_pos (by rfl)]
  go_simp
  refine HPa.out.mono ?_
  clear HPa
  rintro e wD ⟨rfl, hD⟩
  have hDB : Below wd.heap.size wd wD := by rw [hD]; exact (((Below.refl _ wd).alloc (Nat.le_refl _) _).alloc (by simp) _).alloc (by simp; omega) _
  have hsD : wD.heap.size = wd.heap.size + 3 := by rw [hD]; simp
  have x0 : wD.cell? ⟨wd.heap.size, 0, none⟩ = some (.pointer (some ⟨f, 0, none⟩)) := by rw [hD]; exact cell_of_block (block_alloc (block_alloc (block_new wd _) _) _) 0
  have x1 : wD.cell? ⟨wd.heap.size + 1, 0, none⟩ = some (.int .i64 z) := by
    have h1 := block_new (wd.alloc (.cells #[.pointer (some ⟨f, 0, none⟩)] 104)) (.cells #[.int .i64 z] 3)
    rw [World.size_alloc] at h1
    rw [hD]; exact cell_of_block (block_alloc h1 _) 0
  have x2 : wD.cell? ⟨wd.heap.size + 1 + 1, 0, none⟩ = some (.int .i64 z) := by
    have h1 := block_new ((wd.alloc (.cells #[.pointer (some ⟨f, 0, none⟩)] 104)).alloc (.cells #[.int .i64 z] 3)) (.cells #[.int .i64 z] 3)
    rw [World.size_alloc, World.size_alloc] at h1
    rw [hD]; exact cell_of_block h1 0
  have dD : wD.cell? ⟨w.heap.size, 0, none⟩ = some (.pointer (some ⟨f, 0, none⟩)) := (hDB.cell (World.block_lt_of_cell? wd _ d0)).trans d0
  have hBD := HBd.out.trans (hDB.mono HBd.out.size)
  have HBD := hid hBD
  have HFD := hid (HF.out.below hBD)
  have HRD := hid (below_block hBD HA1.out (lt_of_heap HA1.out))
  have HX0 := hid x0
  have HX1 := hid x1
  have HX2 := hid x2
  have HsD := hid hsD
  have hsd := HBd.out.size
  clear hD hDB hsD x0 x1 x2 hBD HF HA1
  go_wp2_with fail
  refine hK.out _ _ dD (fun hHeld => ?_)
  clear hK K
  try simp only [tS]
  refine wpAnyH_done (by kernel_rfl) ?_ _
  refine NoPanic.normal ?_
  clear hHeld dD d0 c0
  gi_wp2
  have hs9 := HsD.out
  have HSt := hid (iparts_stops 7 (by omega) wd.heap.size (wd.heap.size + 1) (wd.heap.size + 1 + 1) f m z z S HS.out (fun i => wD.heap.size ≤ i) (by rw [HZ.out]; exact hs) (by rw [HZ.out]; exact hs) wD (by omega) (by omega) (by omega) (by have := HAs.out; omega) HFD.out HX0.out HX1.out HX2.out (fillN z - z / 512) rfl)
  have hN0 : fillN z - z / 512 = 0 := by rw [HZ.out, HFu.out]; omega
  have HN0 := hid hN0
  clear hN0
  refine wpIn_rangeFunc_ownH rfl (by omega) (gf := 128) (lb := #[.pointer (some ⟨wd.heap.size + 1, 0, none⟩), .pointer (some ⟨wd.heap.size + 1 + 1, 0, none⟩), .pointer (some ⟨wd.heap.size, 0, none⟩)]) rfl trivial (enters_of Tryz.func128 (by kernel_rfl) rfl)
    HSt.out (fun h k => keepsK_t h k) (keepsK_b (fun i h => h)) (Below.refl _ _) (fun _ => rfl)
    (fun pre W => pre = [] ∧ Hid (Below wD.heap.size wD W))
    (fun _ _ _ => False)
    (fun s A B row hs hgr hr => ⟨hs.1, hs.2.out.grown hgr hs.2.out.size (fun k e => (hr k e).1)⟩)
    (fun cd s A B row hs hgr hr => hs)
    ⟨rfl, Below.refl _ _⟩
    (fun _ _ _ => True) (fun _ _ _ _ _ _ hs _ _ => hs) ?assign ?body ?done ?stop
  case assign =>
    rintro l pre x W K ⟨rfl, hB⟩ hK
    have HK := hid hK
    have HB := hid hB
    clear hK hB
    unfold partV
    obtain ⟨a1, ha1⟩ : ∃ a1 : Int, a1 = ((S.slots.getD (dslot (z / 512 + x.val)) 0 : Nat) : Int) := ⟨_, rfl⟩
    obtain ⟨a2, ha2⟩ : ∃ a2 : Int, a2 = ((z - (z / 512 + x.val) * 512 : Nat) : Int) := ⟨_, rfl⟩
    obtain ⟨a3, ha3⟩ : ∃ a3 : Int, a3 = ((min (z - (z / 512 + x.val) * 512) 512 : Nat) : Int) := ⟨_, rfl⟩
    rw [← ha1, ← ha2, ← ha3]
    clear ha1 ha2 ha3
    gi_wp2
    refine HK.out _ _ ⟨by simp, fun i ob hi ho _ => block_alloc ho _⟩ (Keeps.of_below ((Below.refl _ W).alloc (Nat.le_refl _) _)) ⟨trivial, HB.out.out.alloc HB.out.out.size _⟩ trivial
  case body =>
    intro l pre x a' W h1 h2 h3 h4 hlt
    exact absurd hlt (by have := HN0.out; omega)
  case done =>
    rintro D ys W hD hys ⟨rfl, hB⟩ hK
    have v1 := below_block hB.out HRD.out (lt_of_heap HRD.out)
    have e1 : W.cell? ⟨w.heap.size + 1, 0, none⟩ = some (.int .i64 0) := cell_of_block v1 0
    have f1 : W.frozen? ⟨w.heap.size + 1, 0, none⟩ = false := frozen_of_block v1 0
    have HV1 := hid v1
    have HKD := hid hK
    have HB := hid hB
    clear hys v1 hK hB
    gi_wp2
    have hwl := HAs.out
    have hwd := HBD.out.size
    have hBW : Below w.heap.size w W := (HAB.out.trans (HBD.out.mono HAB.out.size)).trans (HB.out.out.mono (by omega))
    have hK9 : (W.setCell ⟨w.heap.size + 1, 0, none⟩ (.int .i64 0)).heap[D]? = some (.deferred (some [])) := (block_setCell_other _ _ (by omega)).trans HKD.out
    have hg9 := grownBy_putObj' (W.setCell ⟨w.heap.size + 1, 0, none⟩ (.int .i64 0)) D (.deferred none)
    have hB2 := hBW.setCell (show w.heap.size ≤ Addr.block ⟨w.heap.size + 1, 0, none⟩ from Nat.le_succ _) (.int .i64 0)
    refine ⟨by simp, .inl ⟨_, _, rfl, run_takeDeferred hK9, ?_⟩⟩
    refine ⟨_, results_iclear rfl (grown_block hg9 (block_setCell HV1.out 0 _) (fun e => by cases e; omega)), ?_⟩
    exact ⟨rfl, hB2.trans ((Keeps.of_grown hg9 (F := fun i => some D = some i) (fun i e => e)).below hB2.size (fun i e => by cases e; omega))⟩
  case stop =>
    intro D c pre W hD hpre hx
    exact hx.elim
end Go.Proofs.YthdcloaaahhnaaaGreat
/- A cache stays when what is no block of cells is put anew. -/
namespace Go.Proofs.YthdcloaaahhnaaaGreat
open Go.RowKit Go.Maps
/-- No block of cells. -/
def offO (w : World) (b : Nat) : Prop := ∃ o : Obj, w.heap[b]? = some o ∧ o.isCells = false
theorem offO.cells {w : World} {b : Nat} {cs : Array Value} {t : TypeId} {fr : Nat × Nat} (h : offO w b) : w.heap[b]? ≠ some (.cells cs t fr) := fun hm => by
  obtain ⟨o, h1, h2⟩ := h
  rw [hm] at h1
  obtain rfl := Option.some.inj h1
  cases h2
theorem offO.not {w : World} {b : Nat} {ad : Addr} {v : Value} (h : offO w b) (hc : w.cell? ad = some v) : ad.block ≠ b := fun e => by
  obtain ⟨o, h1, h2⟩ := h
  have hp := plain_addr hc
  rw [hp, e] at hc
  cases o with
  | cells cs t fr => cases h2
  | _ => simp [World.cell?, h1] at hc
theorem AnyAt.keepO {w w' : World} {d : DL} {S : DiskS} {F : Nat → Prop} {b : Nat} (h : AnyAt w d S F) (hb : offO w b) (hF : ¬ F b) (k : Keeps (fun i => i = b) w w') : AnyAt w' d S F := by
  rcases h with ⟨h, hf⟩ | ⟨h, hf⟩
  · refine .inl ⟨?_, hf⟩
    have hne : ∀ i, d.cutFoot S.waits i → ¬ i = b := fun i hi e => hF (e ▸ hf i hi)
    obtain ⟨h1, ⟨a, e1, e2, e3⟩, ⟨ad, c, e4, e5, e6⟩, h4⟩ := h
    refine ⟨h1.keep k (hne _ (.inl rfl)) (fun i hi => hne i (.inr hi)), ⟨a, e1, e2, fun q hq => ⟨fun j u hu => ?_, Nat.lt_of_lt_of_le (e3 q hq).2 k.size⟩⟩, ⟨ad, c, e4, fun j s hj => ?_, e6⟩, h4⟩
    · exact k.cell ((e3 q hq).1 j u hu) (hb.not ((e3 q hq).1 j u hu))
    · exact k.cell (e5 j s hj) (hb.not (e5 j s hj))
  · refine .inr ⟨?_, hf⟩
    have hne : ∀ i, d.foot S.waits i → ¬ i = b := fun i hi e => hF (e ▸ hf i hi)
    refine h.keep k hne (fun i hi e => ?_)
    obtain ⟨ad, c, e4, e5, e6⟩ := h.first
    have hpos : 0 < S.first.length := by rw [h.flen]; exact h.plates.pos
    have hc := e5 0 S.first[0] (List.getElem?_eq_getElem hpos)
    have h1 := hb.not hc
    rw [add_block] at h1
    rw [e4] at hi
    exact h1 ((Option.some.inj hi).trans e)
theorem LogIn.keepO {w w' : World} {p : Nat} {d : DL} {S : DiskS} {size rec : Nat} {F : Nat → Prop} {b : Nat} (h : LogIn w p d S size rec F) (hb : offO w b) (hF : ¬ F b) (k : Keeps (fun i => i = b) w w') : LogIn w' p d S size rec F := by
  refine ⟨k.heap h.heap (fun e => ?_), h.disk.keepO hb hF k, h.off⟩
  have e2 : p = b := e
  exact hb.cells (e2 ▸ h.heap)
theorem CacheAt.keepO {w w' : World} {c : Nat} {L : CLay} {C : CS} (h : CacheAt w c L C) {b : Nat} (hg : offO w b) (hFt : ¬ L.foot c b) (k : Keeps (fun i => i = b) w w') : CacheAt w' c L C := by
  have hF : ¬ L.F b := fun hf => hFt (.inl hf)
  exact {
    heap := k.heap h.heap (fun e => by
      have e1 : c = b := e
      exact hg.cells (e1 ▸ h.heap))
    log := h.log.keepO hg hF k
    lt := fun i hi => Nat.lt_of_lt_of_le (h.lt i hi) k.size
    dirty := h.dirty.keep k (fun e => hFt (.inr (.inr (.inl e.symm))))
    bytes := fun n v hv => by
      obtain ⟨g', cap, bs, h1, h2, h3, h4, h5⟩ := h.bytes n v hv
      subst h2
      refine ⟨g', cap, bs, h1, rfl, fun j hj => k.cell (h3 j hj) (hg.not (h3 j hj)), h4, h5⟩
    clean := h.clean
    used := h.used.keep k (fun e => hFt (.inr (.inr (.inr e.symm))))
    offc := h.offc
    offd := h.offd
    offu := h.offu
    ne := h.ne
    pages := h.pages
    fits := h.fits
    few := h.few
    ub := h.ub }
section
variable {w w' : World} {c : Nat} {F : Nat → Prop} {size N : Nat} {Pg Cm : Nat → List UInt8} {D : Int → Bool} {o u : Nat}
theorem Pc.keepO (h : Pc w c F size N Pg Cm D o u) {b : Nat} (hg : offO w b) (hF : ¬ F b) (k : Keeps (fun i => i = b) w w') : Pc w' c F size N Pg Cm D o u := by
  obtain ⟨L, C, h⟩ := h
  exact ⟨L, C, h.at_.keepO hg (fun hf => hF (h.foot _ hf)) k, h.sz, h.nn, h.made, h.ops, h.uses, h.pg, h.cm, h.dirty, h.room, h.foot, fun i hi => Nat.lt_of_lt_of_le (h.lt i hi) k.size, Nat.lt_of_lt_of_le h.p0 k.size, h.quiet⟩
end
end Go.Proofs.YthdcloaaahhnaaaGreat
/- hold: a file grows. -/
namespace Go.Proofs.YthdcloaaahhnaaaGreat
open Go.RowKit Go.Shelf
attribute [local go_sem] Oper.semAt_some
/-- Slots, with these laid at these places. -/
def setL (sl ps ks : List Nat) : List Nat := (ps.zip ks).foldl (fun s x => s.set x.1 x.2) sl
theorem setL_snoc (sl ps ks : List Nat) (p k : Nat) (h : ps.length = ks.length) : setL sl (ps ++ [p]) (ks ++ [k]) = (setL sl ps ks).set p k := by
  unfold setL
  rw [List.zip_append h]
  simp
theorem length_foldSet : ∀ (l : List (Nat × Nat)) (sl : List Nat), (l.foldl (fun s x => s.set x.1 x.2) sl).length = sl.length
  | [], _ => rfl
  | x :: l, sl => by
    show (l.foldl (fun s x => s.set x.1 x.2) (sl.set x.1 x.2)).length = sl.length
    rw [length_foldSet l, List.length_set]
theorem length_setL (sl ps ks : List Nat) : (setL sl ps ks).length = sl.length := length_foldSet _ _
theorem fileB.off {w : World} {f m : Nat} {S : FileS} (h : fileB w f m S) : offN w f := by
  refine ⟨_, _, _, h, by decide, fun v hv => ?_⟩
  have hv' : v ∈ S.cells m := by simpa using hv
  unfold FileS.cells at hv'
  simp only [List.cons_append, List.nil_append, List.mem_cons, List.mem_map] at hv'
  rcases hv' with rfl | rfl | rfl | rfl | rfl | rfl | ⟨p, _, rfl⟩
  · exact .inr (.inr (.inr ⟨_, rfl⟩))
  all_goals exact .inl ⟨_, rfl⟩
theorem Pc.own {W W' : World} {c : Nat} {F : Nat → Prop} {size N : Nat} {Pg Cm : Nat → List UInt8} {D : Int → Bool} {o u B : Nat} {row : Option Nat} (h : Pc W c F size N Pg Cm D o u) (hF : ∀ i, F i → i < B) (hgr : W.grownBy W' row) (hr : ∀ r, row = some r → B ≤ r ∧ ∃ o : Obj, W.heap[r]? = some o ∧ o.isCells = false) : Pc W' c F size N Pg Cm D o u := by
  cases row with
  | none => exact h.below ⟨hgr.os, hgr.tape, hgr.output, hgr.size, fun k hk => hgr.block k hk (by simp)⟩
  | some r =>
    obtain ⟨hB, ob, h1, h2⟩ := hr r rfl
    exact h.keepO ⟨ob, h1, h2⟩ (fun hf => by have := hF r hf; omega) (Keeps.of_grown hgr (fun i e => (Option.some.inj e).symm))
theorem need_mono {a b : Nat} (h : a ≤ b) (hb : b ≤ 70656) : needN a ≤ needN b := by
  unfold needN fillN
  have h1 : ¬ 70656 < a := by omega
  have h2 : ¬ 70656 < b := by omega
  simp only [h1, h2, if_false]
  split <;> split <;> omega
theorem needZ_nat (a : Nat) : needZ (a : Int) = needN a := by
  unfold needZ; rw [if_neg (by omega), Int.toNat_natCast]
theorem need_139 (a : Nat) : needN a ≤ 139 := by
  unfold needN fillN
  split
  · omega
  · split <;> omega
set_option maxRecDepth 100000 in
theorem results_ihold {w : World} {tmps : Array Value} {b : Nat} {x : Value} (h1 : tmps.getD 4 undef = .pointer (some ⟨b, 0, none⟩)) (r : w.heap[b]? = some (.cells #[x] 24 (0, 0))) :
    (results Tryz.f93 tmps).run Tryz.prog w = .ok x w := by
  have c1 : w.cell? ⟨b, 0, none⟩ = some x := cell_of_block r 0
  have h1' : tmps[4]?.getD undef = .pointer (some ⟨b, 0, none⟩) := by simpa using h1
  simp only [results, Tryz.results93]
  simp [go_sem, h1', asAddr, c1]
theorem errno_off {w : World} {b : Nat} {n : Int} {fr : Nat × Nat} (h : w.heap[b]? = some (.cells #[.int .i64 n] 24 fr)) : offN w b :=
  ⟨_, _, _, h, by decide, fun v hv => .inl ⟨n, by simpa using hv⟩⟩
section
variable {w : World} {m c ino : Nat} {F : Nat → Prop} {size N : Nat} {Pg Cm : Nat → List UInt8} {D : Int → Bool} {o u : Nat}
/-- No page is left. -/
theorem aPage_out (h : mapB w m c ino) (hmF : ¬ F m) (hi : ino ≤ 512) (hN : 3 ≤ N) (hL : (Pg 2).length = 512) (hu : u < 1000000)
    (hp : Pc w c F size N (tkPs Pg ((freeTo (Pg 2) (3 + ino / 8) N 4096).take (freeTo (Pg 2) (3 + ino / 8) N 4096).length)) Cm D o u) :
    Calls Tryz.prog 125 #[.pointer (some ⟨m, 0, none⟩)] w fun e w' => e = .returned (.tuple #[.int .i64 0, .int .i64 7]) ∧ Keeps F w w' ∧ ∃ Pg' D', Pc w' c F size N Pg' Cm D' o (u + 1) := by
  obtain ⟨h1, -⟩ := free_tks (Pg := Pg) (a := 3 + ino / 8) (z := N) (by omega) hp.four hL _ (Nat.le_refl _)
  rw [List.drop_length] at h1
  refine (aPage_any h hmF hi hN hu hp).mono ?_
  rintro e w' ⟨hk', hx⟩
  rcases hx with ⟨-, rfl, hp'⟩ | ⟨q, rest, h0, -⟩
  · exact ⟨rfl, hk', _, _, hp'⟩
  · rw [h1] at h0; cases h0
end
/-- hold, as it is left with no room. -/
structure HoldX (w wD : World) (c : Nat) (F : Nat → Prop) (size N : Nat) (Cm : Nat → List UInt8) (o u f : Nat) (W : World) : Prop where
  r1 : W.heap[w.heap.size + 1]? = some (.cells #[.int .i64 7] 24 (0, 0))
  pc : ∃ Pg' D', Pc W c F size N Pg' Cm D' o u
  keep : Keeps (fun i => F i ∨ i = f ∨ i = w.heap.size + 1) wD W
theorem HoldX.own {w wD A B : World} {c : Nat} {F : Nat → Prop} {size N : Nat} {Cm : Nat → List UInt8} {o u f : Nat} {row : Option Nat} (h : HoldX w wD c F size N Cm o u f A) (hF : ∀ i, F i → i < wD.heap.size) (h1 : w.heap.size + 1 < wD.heap.size) (hgr : A.grownBy B row) (hr : ∀ r, row = some r → wD.heap.size ≤ r ∧ ∃ o : Obj, A.heap[r]? = some o ∧ o.isCells = false) : HoldX w wD c F size N Cm o u f B := by
  obtain ⟨Pg', D', hp⟩ := h.pc
  exact ⟨grown_block hgr h.r1 (fun e => by have := (hr _ e).1; omega), ⟨Pg', D', hp.own hF hgr hr⟩, h.keep.trans (Keeps.of_grown hgr (F := fun i => row = some i) (fun i e => e)) (fun i e => .inr (hr i e).1)⟩
set_option maxRecDepth 100000 in
set_option maxHeartbeats 4000000 in
theorem ihold_up {w : World} {f m c ino : Nat} {F : Nat → Prop} {size N : Nat} {Pg Cm : Nat → List UInt8} {o u k : Nat} {S : FileS} (h : mapB w m c ino) (hmF : ¬ F m) (hi : ino ≤ 512) (hN : 3 ≤ N) (hf : fileB w f m S) (hfF : ¬ F f) (hS : S.slots.length = 139) (hFl : ∀ i, F i → i < w.heap.size) (s : Nat) (hs : s ≤ 70656) (hss : S.size < s) (hL : (Pg 2).length = 512) (hu : u < 900000)
    (hcl : ∀ W, Below w.heap.size w W → Calls Tryz.prog 122 #[.pointer (some ⟨f, 0, none⟩)] W fun e w' => e = .returned (.int .i64 0) ∧ Keeps F W w' ∧ Pe w' c F size N Pg Cm o u (k + 2 * (needN s - needN S.size))) :
    Calls Tryz.prog 93 #[.pointer (some ⟨f, 0, none⟩), .int .i64 s] w fun e w' => Keeps (fun i => F i ∨ i = f) w w' ∧
      ((needN s - needN S.size ≤ (freeTo (Pg 2) (3 + ino / 8) N 4096).length ∧ e = .returned (.int .i64 0) ∧ fileB w' f m ⟨S.num, S.kind, S.mode, S.links, s, setL S.slots (upTo (needN S.size) (needN s)) ((freeTo (Pg 2) (3 + ino / 8) N 4096).take (needN s - needN S.size))⟩ ∧
        Pe w' c F size N (tkPs Pg ((freeTo (Pg 2) (3 + ino / 8) N 4096).take (needN s - needN S.size))) Cm o (u + (needN s - needN S.size)) k) ∨
      ((freeTo (Pg 2) (3 + ino / 8) N 4096).length < needN s - needN S.size ∧ e = .returned (.int .i64 7) ∧ ∃ Pg' D', Pc w' c F size N Pg' Cm D' o (u + (needN s - needN S.size)))) := by
  refine (callsIn_wide (n := 8)).1 ?_
  obtain ⟨wA, hA⟩ : ∃ wA, wA = (w.alloc (.cells #[.pointer (some ⟨f, 0, none⟩)] 104)).alloc (.cells #[.int .i64 0] 24) := ⟨_, rfl⟩
  have hAB : Below w.heap.size w wA := by rw [hA]; exact ((Below.refl _ w).alloc (Nat.le_refl _) _).alloc (by simp) _
  have hA0 : wA.heap[w.heap.size]? = some (.cells #[.pointer (some ⟨f, 0, none⟩)] 104 (0, 0)) := by rw [hA]; exact block_alloc (block_new w _) _
  have hA1 : wA.heap[w.heap.size + 1]? = some (.cells #[.int .i64 0] 24 (0, 0)) := by
    have h1 := block_new (w.alloc (.cells #[.pointer (some ⟨f, 0, none⟩)] 104)) (.cells #[.int .i64 0] 24)
    rw [World.size_alloc] at h1
    rw [hA]; exact h1
  have hAs : wA.heap.size = w.heap.size + 2 := by rw [hA]; simp
  have hfA := hf.below hAB
  obtain ⟨-, -, -, -, -, c5⟩ := hfA.head
  have c0 : wA.cell? ⟨w.heap.size, 0, none⟩ = some (.pointer (some ⟨f, 0, none⟩)) := cell_of_block hA0 0
  have HCl := hid (hcl wA hAB)
  have HF := hid hfA
  have HMp := hid (h.below hAB)
  have HL := hid hL
  have HFl := hid hFl
  have HA1 := hid hA1
  have HA0 := hid hA0
  have HAB := hid hAB
  have HAs := hid hAs
  have HS := hid hS
  have hfl : f < w.heap.size := hf.lt
  rw [hA] at c5 c0
  obtain ⟨z, hz⟩ : ∃ z, z = S.size := ⟨_, rfl⟩
  rw [← hz] at c5 hss
  have HZ := hid hz
  have hss' : (z : Int) < (s : Int) := by omega
  clear hf hfA hA0 hA1 hAB hAs hS h hcl hL hFl hz
  refine callsIn_of_wp_marks Tryz.func93 rfl trivial ?_ rfl
  simp only [Tryz.ntmps93, List.size_toArray, List.length_cons, List.length_nil, Nat.reduceAdd, Nat.reduceSub, Array.replicate_succ, Array.replicate_zero, List.push_toArray, List.append_toArray, List.nil_append, List.cons_append]
  have hf1 : Fence.wide.fn 122 := trivial
  have hf2 : Fence.wide.fn 124 := trivial
  have hf3 : Fence.wide.fn 126 := trivial
  have hf4 : Fence.wide.fn 123 := trivial
  have hf5 : Fence.wide.fn 125 := trivial
  gi_wp2
  rw [← hA] at c0 c5 ⊢
  clear hA
  refine (callsIn_wide.2 HCl.out).mono ?_
  clear HCl
  rintro e w1 ⟨rfl, hk1, D, hr, hp1⟩
  have d0 := hk1.cell c0 (fun hh => Nat.lt_irrefl _ (HFl.out _ hh))
  have d5 := hk1.cell c5 hfF
  have HK1 := hid hk1
  have HP1 := hid hp1
  have HRm := hid hr
  clear hk1 hp1 hr c0 c5
  gi_wp2
  have hn1 := iNeed_any (z : Int) w1
  have hn2 := iNeed_any (s : Int) w1
  rw [needZ_nat] at hn1 hn2
  have hmo : needN z ≤ needN s := need_mono (by omega) hs
  have h139 := need_139 s
  have hr := HRm.out
  rw [← HZ.out] at hr
  clear HRm
  obtain ⟨hv, hhv⟩ : ∃ hv, hv = needN z := ⟨_, rfl⟩
  obtain ⟨nd, hnd⟩ : ∃ nd, nd = needN s := ⟨_, rfl⟩
  rw [← hhv] at hn1 hmo hr
  rw [← hnd] at hn2 hmo h139 hr
  have HHv := hid hhv
  have HNd := hid hnd
  have HN1 := hid hn1
  have HN2 := hid hn2
  clear hn1 hn2 hhv hnd
  refine (callsIn_wide.2 HN1.out).mono ?_
  clear HN1
  rintro e w2 ⟨rfl, h2⟩
  obtain rfl := h2.symm
  clear h2
  gi_wp2
  refine (callsIn_wide.2 HN2.out).mono ?_
  clear HN2
  rintro e w2 ⟨rfl, h2⟩
  obtain rfl := h2.symm
  clear h2
  gi_wp2
  refine (callsIn_wide.2 (irising_any f hv nd w1)).mono ?_
  rintro e wD ⟨rfl, hD⟩
  have hDB : Below w1.heap.size w1 wD := by rw [hD]; exact (((Below.refl _ w1).alloc (Nat.le_refl _) _).alloc (by simp) _).alloc (by simp; omega) _
  have hsD : wD.heap.size = w1.heap.size + 3 := by rw [hD]; simp
  have x0 : wD.cell? ⟨w1.heap.size, 0, none⟩ = some (.pointer (some ⟨f, 0, none⟩)) := by rw [hD]; exact cell_of_block (block_alloc (block_alloc (block_new w1 _) _) _) 0
  have x1 : wD.cell? ⟨w1.heap.size + 1, 0, none⟩ = some (.int .i64 hv) := by
    have h1 := block_new (w1.alloc (.cells #[.pointer (some ⟨f, 0, none⟩)] 104)) (.cells #[.int .i64 hv] 3)
    rw [World.size_alloc] at h1
    rw [hD]; exact cell_of_block (block_alloc h1 _) 0
  have x2 : wD.cell? ⟨w1.heap.size + 1 + 1, 0, none⟩ = some (.int .i64 nd) := by
    have h1 := block_new ((w1.alloc (.cells #[.pointer (some ⟨f, 0, none⟩)] 104)).alloc (.cells #[.int .i64 hv] 3)) (.cells #[.int .i64 nd] 3)
    rw [World.size_alloc, World.size_alloc] at h1
    rw [hD]; exact cell_of_block h1 0
  have hw1 := HK1.out.size
  have hwA := HAs.out
  have hnw : ∀ i, w.heap.size ≤ i → ¬ F i := fun i hi hh => by have := HFl.out i hh; omega
  have HBD : Hid (Keeps (fun i => F i ∨ i = f) wA wD) := (HK1.out.mono (fun i e => .inl e)).trans (Keeps.of_below hDB : Keeps (fun _ => False) w1 wD) (fun i e => e.elim)
  have HFD := hid ((HF.out.keep HK1.out hfF).below hDB)
  have HMD := hid ((HMp.out.keep HK1.out hmF).below hDB)
  have HPD := hid (HP1.out.below hDB)
  have v1 := HK1.out.heap HA1.out (hnw _ (by omega))
  have v0 := HK1.out.heap HA0.out (hnw _ (Nat.le_refl _))
  have HR1 := hid (below_block hDB v1 (lt_of_heap v1))
  have HR0 := hid (below_block hDB v0 (lt_of_heap v0))
  have HsD := hid hsD
  have HSt := hid (irising_stops 7 (by omega) w1.heap.size (w1.heap.size + 1) (w1.heap.size + 1 + 1) f hv nd (fun i => F i ∨ i = f ∨ wD.heap.size ≤ i) h139 wD (fun hh => by rcases hh with hh | hh | hh; (have := HFl.out _ hh; omega); omega; omega) (fun hh => by rcases hh with hh | hh | hh; (have := HFl.out _ hh; omega); omega; omega) x0 x1 x2)
  clear hD hDB hsD x0 x1 x2 HF HMp HP1 HA1 HA0 d0 d5 v0 v1 hnw
  gi_wp2
  generalize hfr : freeTo (Pg 2) (3 + ino / 8) N 4096 = fr at *
  have HFr := hid hfr
  have hsd := HsD.out
  refine wpIn_rangeFunc_ownG rfl (by omega) (gf := 144) (lb := #[.pointer (some ⟨w1.heap.size + 1, 0, none⟩), .pointer (some ⟨w1.heap.size + 1 + 1, 0, none⟩), .pointer (some ⟨w1.heap.size, 0, none⟩)]) rfl trivial (enters_of Tryz.func144 (by kernel_rfl) rfl)
    HSt.out keepsK_t (keepsK_b (fun i h => .inr (.inr h))) (Below.refl _ _) (fun _ => rfl)
    (fun pre W => Hid (pre.length ≤ fr.length) ∧ Hid (fileB W f m ⟨S.num, S.kind, S.mode, S.links, S.size, setL S.slots (pre.map Fin.val) (fr.take pre.length)⟩) ∧ Hid (Pc W c F size N (tkPs Pg (fr.take pre.length)) Cm (tkDs D (fr.take pre.length)) o (u + pre.length)) ∧ Hid (Keeps (fun i => F i ∨ i = f) wD W))
    (fun cd pre W => cd = .ret ∧ Hid (HoldX w wD c F size N Cm o (u + (nd - hv)) f W) ∧ fr.length < nd - hv)
    (fun s A B row hs hgr hr => ⟨hs.1, grown_block hgr hs.2.1.out (fun e => by have := (hr _ e).1; omega), hs.2.2.1.out.own (B := wD.heap.size) (fun i hi => by have := HFl.out i hi; omega) hgr hr, hs.2.2.2.out.trans (Keeps.of_grown hgr (F := fun i => row = some i) (fun i e => e)) (fun i e => .inr (by have := (hr i e).1; exact this))⟩)
    (fun cd s A B row hs hgr hr => ⟨hs.1, hs.2.1.out.own (fun i hi => by have := HFl.out i hi; omega) (by omega) hgr hr, hs.2.2⟩)
    ⟨Nat.zero_le _, HFD, HPD, Keeps.refl _ _⟩
    (fun x : Fin 139 => { tmps := #[.pointer (some ⟨f, 0, none⟩), .int .i64 s, .pointer (some ⟨w.heap.size, 0, none⟩), undef, .pointer (some ⟨w.heap.size + 1, 0, none⟩), .int .i64 0, .int .i64 hv, .int .i64 nd, .pointer (some ⟨f, 6 + x.val, none⟩), undef, undef, undef, undef, .int .i64 s, .pointer (some ⟨f, 0, none⟩), .pointer (some ⟨f, 0, none⟩), .pointer (some ⟨f, 2, none⟩), .pointer (some ⟨f, 5, none⟩), .int .i64 z, .bool true, .pointer (some ⟨f, 0, none⟩), .int .i64 0, .int .i64 0, .bool false, undef, .pointer (some ⟨f, 0, none⟩), .pointer (some ⟨f, 0, none⟩), .pointer (some ⟨f, 2, none⟩), .pointer (some ⟨f, 5, none⟩), .int .i64 z, .int .i64 hv, .int .i64 s, .int .i64 nd, .pointer (some ⟨f, 0, none⟩), .int .i64 hv, .int .i64 nd, .func (.func 144) #[] #[.pointer (some ⟨w1.heap.size + 1, 0, none⟩), .pointer (some ⟨w1.heap.size + 1 + 1, 0, none⟩), .pointer (some ⟨w1.heap.size, 0, none⟩)], .pointer (some ⟨f, 6 + x.val, none⟩), undef, undef, undef, undef, undef, undef, undef, undef, undef, undef, undef, undef, undef, undef, undef, undef, undef, undef, undef, undef, undef, undef, undef, undef, undef, undef, undef, undef, undef, undef, undef, undef, undef, undef, undef, undef, undef, undef, undef], defers := [] }) ?assign ?body ?done ?stop
  case assign =>
    intro l q W K hK
    gi_wp2
    exact hK
  case body =>
    rintro l pre x W ⟨hpl, HFw, HPw, HKw⟩ hlt
    have hb0 : ∀ i, w.heap.size ≤ i → ¬ (F i ∨ i = f) := fun i hi hh => by
      rcases hh with hh | hh
      · have := HFl.out i hh; omega
      · omega
    have hmf : m ≠ f := ne_of_heap HMD.out HFD.out (fun e => by simp at e)
    have hmW := HMD.out.keep HKw.out (fun hh => hh.elim hmF hmf)
    obtain ⟨c0, -⟩ := HFw.out.head
    have cb : W.cell? ⟨w.heap.size, 0, none⟩ = some (.pointer (some ⟨f, 0, none⟩)) := cell_of_block (HKw.out.heap HR0.out (hb0 _ (Nat.le_refl _))) 0
    by_cases hkl : fr.length ≤ pre.length
    · have hple : pre.length = fr.length := Nat.le_antisymm hpl.out hkl
      have hpo := aPage_out (w := W) (m := m) (c := c) (ino := ino) (F := F) (size := size) (N := N) (Pg := Pg) (Cm := Cm) (o := o) (u := u + (freeTo (Pg 2) (3 + ino / 8) N 4096).length) hmW hmF hi hN HL.out (by rw [HFr.out]; omega) (by rw [hple, ← HFr.out] at HPw; exact HPw.out)
      have HPo := hid hpo
      have vR := HKw.out.heap HR1.out (hb0 _ (Nat.le_succ _))
      clear hpo hpl
      gi_wp2
      refine (CallsIn.inRound l (callsIn_wide.2 HPo.out)).mono ?_
      clear HPo
      rintro e W2 ⟨rfl, hk2, Pg2, D2, hp2⟩
      have vR2 := hk2.heap vR (fun hh => hb0 _ (Nat.le_succ _) (.inl hh))
      have e1 : W2.cell? ⟨w.heap.size + 1, 0, none⟩ = some (.int .i64 0) := cell_of_block vR2 0
      have f1 : W2.frozen? ⟨w.heap.size + 1, 0, none⟩ = false := frozen_of_block vR2 0
      have HVR := hid vR2
      have HK2 := hid hk2
      have HP2 := hid hp2
      have HB0 := hid hb0
      clear vR vR2 hk2 hp2 hb0 cb
      gi_wp2
      have kr : Keeps (fun i => i = w.heap.size + 1) W2 (W2.setCell ⟨w.heap.size + 1, 0, none⟩ (.int .i64 7)) := (Keeps.refl _ _).grown (grown_setCell (grown_refl _ _) _ _) (fun i e => .inl (Option.some.inj e).symm)
      have hp3 := (HP2.out.keepY (errno_off HVR.out) (fun hh => HB0.out _ (Nat.le_succ _) (.inl hh)) kr)
      have k3 : Keeps (fun i => F i ∨ i = f ∨ i = w.heap.size + 1) wD (W2.setCell ⟨w.heap.size + 1, 0, none⟩ (.int .i64 7)) := ((HKw.out.mono (fun i e => e.elim .inl (fun e => .inr (.inl e)))).trans HK2.out (fun i e => .inl (.inl e))).trans kr (fun i e => .inl (.inr (.inr e)))
      refine ⟨⟨Nat.le_trans HK2.out.size kr.size, fun i ob hi ho _ => kr.heap (HK2.out.heap ho (fun hh => HB0.out i (by omega) (.inl hh))) (fun e => by have e' : i = w.heap.size + 1 := e; omega)⟩, rfl, ⟨block_setCell HVR.out 0 _, ⟨_, _, hp3.more (Nat.le_refl _) (by rw [HFr.out]; omega)⟩, k3⟩, by omega⟩
    have hkl : pre.length < fr.length := by omega
    have hkl' : pre.length < (freeTo (Pg 2) (3 + ino / 8) N 4096).length := by rw [HFr.out]; exact hkl
    have hpg := aPage_tks (w := W) (m := m) (c := c) (ino := ino) (F := F) (size := size) (N := N) (Pg := Pg) (Cm := Cm) (D := D) (o := o) (u := u + pre.length) hmW hmF hi hN pre.length hkl' HL.out (hr.le (by omega)) (by omega)
    simp only [HFr.out] at hpg
    have HPg := hid (hpg HPw.out)
    obtain ⟨q, hq⟩ : ∃ q, q = fr[pre.length] := ⟨_, rfl⟩
    rw [← hq] at HPg
    have HQ : Hid (fr.take (pre.length + 1) = fr.take pre.length ++ [q]) := by unfold Hid; rw [hq, List.take_add_one, List.getElem?_eq_getElem hkl]; rfl
    clear hpg hkl' hq
    gi_wp2
    refine (CallsIn.inRound l (callsIn_wide.2 HPg.out)).mono ?_
    clear HPg
    rintro e W2 ⟨rfl, hk2, hp2⟩
    have hf2 := HFw.out.keep hk2 hfF
    have hsl : x.val < (setL S.slots (pre.map Fin.val) (fr.take pre.length)).length := by rw [length_setL, HS.out]; exact x.isLt
    obtain ⟨pj, k1⟩ : ∃ pj : Nat, W2.cell? ⟨f, 6 + x.val, none⟩ = some (.int .i64 pj) := ⟨_, hf2.slot x.val hsl⟩
    have k2 := hf2.frozen (6 + x.val)
    have kk : Keeps (fun i => i = f) W2 (W2.setCell ⟨f, 6 + x.val, none⟩ (.int .i64 q)) := (Keeps.refl _ W2).grown (grown_setCell (grown_refl _ _) _ _) (fun i e => .inl (Option.some.inj e).symm)
    have kWW : Keeps (fun i => F i ∨ i = f) W (W2.setCell ⟨f, 6 + x.val, none⟩ (.int .i64 q)) := (hk2.mono (fun i e => .inl e)).trans (kk.mono (fun i e => .inr e)) (fun i e => .inl e)
    have hst := hf2.setSlot x.val q
    have hp3 := hp2.keepY hf2.off hfF kk
    have HKW := hid kWW
    have HST : Hid (fileB (W2.setCell ⟨f, 6 + x.val, none⟩ (.int .i64 q)) f m ⟨S.num, S.kind, S.mode, S.links, S.size, setL S.slots ((pre ++ [x]).map Fin.val) (fr.take (pre ++ [x]).length)⟩) := by
      unfold Hid
      rw [List.length_append, List.length_singleton, HQ.out, List.map_append, List.map_singleton, setL_snoc _ _ _ _ _ (by rw [List.length_map, List.length_take]; omega)]
      exact hst
    have HP3 : Hid (Pc (W2.setCell ⟨f, 6 + x.val, none⟩ (.int .i64 q)) c F size N (tkPs Pg (fr.take (pre ++ [x]).length)) Cm (tkDs D (fr.take (pre ++ [x]).length)) o (u + (pre ++ [x]).length)) := by
      unfold Hid
      rw [List.length_append, List.length_singleton]
      exact hp3
    have HK3 := hid (HKw.out.trans kWW (fun i e => .inl e))
    have HKF : Hid (KeepsFrom wD.heap.size W (W2.setCell ⟨f, 6 + x.val, none⟩ (.int .i64 q))) := ⟨kWW.size, fun i ob hi ho _ => kWW.heap ho (hb0 i (by omega))⟩
    have HKG : Hid (Keeps (fun i => F i ∨ i = f ∨ wD.heap.size ≤ i) W (W2.setCell ⟨f, 6 + x.val, none⟩ (.int .i64 q))) := kWW.mono (fun i e => e.elim .inl (fun e => .inr (.inl e)))
    clear hk2 hp2 hf2 kk kWW hst hp3 hb0 hmW cb hsl
    gi_wp2
    exact ⟨HKF.out, HKG.out, by unfold Hid; rw [List.length_append, List.length_singleton]; exact hkl, HST, HP3, HK3⟩
  case done =>
    rintro D1 ys W hD1 hys ⟨hpl, HFw, HPw, HKw⟩ hK1
    have hyl : ys.length = nd - hv := by
      have := congrArg List.length hys
      rwa [List.length_map, length_upTo] at this
    rw [hys, hyl] at HFw
    rw [hyl] at HPw hpl
    have HPl := hid hpl.out
    have hb0 : ∀ i, w.heap.size ≤ i → ¬ (F i ∨ i = f) := fun i hi hh => by
      rcases hh with hh | hh
      · have := HFl.out i hh; omega
      · omega
    have HR0w := hid (HKw.out.heap HR0.out (hb0 _ (Nat.le_refl _)))
    have HR1w := hid (HKw.out.heap HR1.out (hb0 _ (Nat.le_succ _)))
    have cb : W.cell? ⟨w.heap.size, 0, none⟩ = some (.pointer (some ⟨f, 0, none⟩)) := cell_of_block HR0w.out 0
    have HKD1 := hid hK1
    have hwW := HKw.out.size
    clear hys hyl hK1 HR0 HR1 HSt hpl
    gi_wp2
    refine (callsIn_wide.2 (ifalling_any f hv nd W)).mono ?_
    rintro e wE ⟨rfl, hE⟩
    have hEB : Below W.heap.size W wE := by rw [hE]; exact (((Below.refl _ W).alloc (Nat.le_refl _) _).alloc (by simp) _).alloc (by simp; omega) _
    have hsE : wE.heap.size = W.heap.size + 3 := by rw [hE]; simp
    have x0 : wE.cell? ⟨W.heap.size, 0, none⟩ = some (.pointer (some ⟨f, 0, none⟩)) := by rw [hE]; exact cell_of_block (block_alloc (block_alloc (block_new W _) _) _) 0
    have x1 : wE.cell? ⟨W.heap.size + 1, 0, none⟩ = some (.int .i64 hv) := by
      have h1 := block_new (W.alloc (.cells #[.pointer (some ⟨f, 0, none⟩)] 104)) (.cells #[.int .i64 hv] 3)
      rw [World.size_alloc] at h1
      rw [hE]; exact cell_of_block (block_alloc h1 _) 0
    have x2 : wE.cell? ⟨W.heap.size + 1 + 1, 0, none⟩ = some (.int .i64 nd) := by
      have h1 := block_new ((W.alloc (.cells #[.pointer (some ⟨f, 0, none⟩)] 104)).alloc (.cells #[.int .i64 hv] 3)) (.cells #[.int .i64 nd] 3)
      rw [World.size_alloc, World.size_alloc] at h1
      rw [hE]; exact cell_of_block h1 0
    have HSt2 := hid (ifalling_stops 7 (by omega) W.heap.size (W.heap.size + 1) (W.heap.size + 1 + 1) f hv nd (fun i => wE.heap.size ≤ i) (by omega) h139 wE (by omega) (by omega) x0 x1 x2)
    have HFE := hid (HFw.out.below hEB)
    have HPE := hid (HPw.out.below hEB)
    have HKE : Hid (Keeps (fun i => F i ∨ i = f) wD wE) := HKw.out.trans (Keeps.of_below hEB : Keeps (fun i => F i ∨ i = f) W wE) (fun i e => .inl e)
    have HR0E := hid (below_block hEB HR0w.out (lt_of_heap HR0w.out))
    have HR1E := hid (below_block hEB HR1w.out (lt_of_heap HR1w.out))
    have HKDE := hid (below_block hEB HKD1.out (lt_of_heap HKD1.out))
    have hlD1 := lt_of_heap HKD1.out
    have hN0 : hv - nd = 0 := by omega
    have HN0 := hid hN0
    clear hE hEB x0 x1 x2 cb HFw HPw HKw HR0w HR1w HKD1 hN0
    gi_wp2
    refine wpIn_rangeFunc_ownH rfl (by omega) (gf := 145) (lb := #[.pointer (some ⟨W.heap.size + 1, 0, none⟩), .pointer (some ⟨W.heap.size + 1 + 1, 0, none⟩), .pointer (some ⟨W.heap.size, 0, none⟩)]) rfl trivial (enters_of Tryz.func145 (by kernel_rfl) rfl)
      HSt2.out (fun h k => keepsK_t h k) (keepsK_b (fun i h => h)) (Below.refl _ _) (fun _ => rfl)
      (fun pre W => pre = [] ∧ Hid (Below wE.heap.size wE W))
      (fun _ _ _ => False)
      (fun s A B row hs hgr hr => ⟨hs.1, hs.2.out.grown hgr hs.2.out.size (fun k e => (hr k e).1)⟩)
      (fun cd s A B row hs hgr hr => hs)
      ⟨rfl, Below.refl _ _⟩
      (fun _ _ _ => True) (fun _ _ _ _ _ _ hs _ _ => hs) ?assign2 ?body2 ?done2 ?stop2
    case assign2 =>
      rintro l pre x W K ⟨rfl, hB⟩ hK
      have HK := hid hK
      have HB := hid hB
      clear hK hB
      gi_wp2
      exact HK.out _ _ (KeepsFrom.refl _ _) (Keeps.refl _ _) ⟨trivial, HB.out⟩ trivial
    case body2 =>
      intro l pre x a' W h1 h2 h3 h4 hlt
      exact absurd hlt (by rw [HN0.out]; omega)
    case done2 =>
      rintro D2 ys2 W3 hD2 hys2 ⟨rfl, hB3⟩ hK2
      have hf3 := HFE.out.below hB3.out
      obtain ⟨-, -, -, -, -, c5⟩ := hf3.head
      have g5 := hf3.frozen 5
      have v0 := below_block hB3.out HR0E.out (lt_of_heap HR0E.out)
      have v1 := below_block hB3.out HR1E.out (lt_of_heap HR1E.out)
      have cb : W3.cell? ⟨w.heap.size, 0, none⟩ = some (.pointer (some ⟨f, 0, none⟩)) := cell_of_block v0 0
      have e1 : W3.cell? ⟨w.heap.size + 1, 0, none⟩ = some (.int .i64 0) := cell_of_block v1 0
      have f1 : W3.frozen? ⟨w.heap.size + 1, 0, none⟩ = false := frozen_of_block v1 0
      have hne : ¬ f = w.heap.size + 1 := by omega
      have hne' : ¬ w.heap.size + 1 = f := by omega
      have HV1 := hid v1
      have HK2 := hid hK2
      have HKD3 := hid (below_block hB3.out HKDE.out (lt_of_heap HKDE.out))
      have HB3 := hid hB3
      have HF3 := hid hf3
      clear v0 v1 hK2 hB3 hf3 hys2
      gi_wp2
      have hwE := hsE
      have hszW := hwW
      have hB3z := HB3.out.out.size
      have kf : Keeps (fun i => i = f) W3 (W3.setCell ⟨f, 5, none⟩ (.int .i64 s)) := (Keeps.refl _ W3).grown (grown_setCell (grown_refl _ _) _ _) (fun i e => .inl (Option.some.inj e).symm)
      have hv1 := kf.heap HV1.out (fun e => hne' e)
      have kr : Keeps (fun i => i = w.heap.size + 1) (W3.setCell ⟨f, 5, none⟩ (.int .i64 s)) ((W3.setCell ⟨f, 5, none⟩ (.int .i64 s)).setCell ⟨w.heap.size + 1, 0, none⟩ (.int .i64 0)) := (Keeps.refl _ _).grown (grown_setCell (grown_refl _ _) _ _) (fun i e => .inl (Option.some.inj e).symm)
      have hv2 := block_setCell hv1 0 (.int .i64 0)
      have hf4 := (HF3.out.setSize s).keep kr (fun e => hne e)
      have hp4 := (((HPE.out.below HB3.out.out).keepY HF3.out.off hfF kf).keepY (errno_off hv1) (fun hf => by have := HFl.out _ hf; omega) kr)
      have h2D := kr.heap (kf.heap HK2.out (fun e => by have e' : D2 = f := e; omega)) (fun e => by have e' : D2 = w.heap.size + 1 := e; omega)
      have h1D := kr.heap (kf.heap HKD3.out (fun e => by have e' : D1 = f := e; omega)) (fun e => by have e' : D1 = w.heap.size + 1 := e; omega)
      have kw4 : Keeps (fun i => F i ∨ i = f) w ((W3.setCell ⟨f, 5, none⟩ (.int .i64 s)).setCell ⟨w.heap.size + 1, 0, none⟩ (.int .i64 0)) :=
        (((((Keeps.of_below HAB.out : Keeps (fun i => F i ∨ i = f) w wA).trans HBD.out (fun i e => .inl e)).trans HKE.out (fun i e => .inl e)).trans (Keeps.of_below HB3.out.out : Keeps (fun i => F i ∨ i = f) wE W3) (fun i e => .inl e)).trans kf (fun i e => .inl (.inr e))).trans kr (fun i e => .inr (by have e' : i = w.heap.size + 1 := e; omega))
      generalize (W3.setCell ⟨f, 5, none⟩ (.int .i64 s)).setCell ⟨w.heap.size + 1, 0, none⟩ (.int .i64 0) = W4 at *
      have hg5 := grownBy_putObj' W4 D2 (.deferred none)
      have h1D5 := grown_block hg5 h1D (fun e => by cases e; omega)
      have hg6 := grownBy_putObj' (W4.putObj D2 (.deferred none)) D1 (.deferred none)
      have hr5 : ∀ r, some D2 = some r → w.heap.size ≤ r ∧ ∃ o : Obj, W4.heap[r]? = some o ∧ o.isCells = false := fun r e => by cases e; exact ⟨by omega, _, h2D, rfl⟩
      have hr6 : ∀ r, some D1 = some r → w.heap.size ≤ r ∧ ∃ o : Obj, (W4.putObj D2 (.deferred none)).heap[r]? = some o ∧ o.isCells = false := fun r e => by cases e; exact ⟨by omega, _, h1D5, rfl⟩
      refine ⟨by simp, .inl ⟨_, _, rfl, run_takeDeferred h2D, ?_⟩⟩
      refine ⟨by simp, .inl ⟨_, _, rfl, run_takeDeferred h1D5, ?_⟩⟩
      refine ⟨_, results_ihold rfl (grown_block hg6 (grown_block hg5 hv2 (fun e => by cases e; omega)) (fun e => by cases e; omega)), ?_⟩
      refine ⟨?_, .inl ⟨by rw [← HZ.out, ← HHv.out, ← HNd.out]; have := HPl.out; omega, rfl, ?_, ?_⟩⟩
      · exact (kw4.trans (Keeps.of_grown hg5 (F := fun i => some D2 = some i) (fun i e => e)) (fun i e => .inr (by cases e; omega))).trans (Keeps.of_grown hg6 (F := fun i => some D1 = some i) (fun i e => e)) (fun i e => .inr (by cases e; omega))
      · have := grown_block hg6 (grown_block hg5 hf4 (fun e => by cases e; omega)) (fun e => by cases e; omega)
        rw [← HZ.out, ← HHv.out, ← HNd.out]
        exact this
      · have := (hp4.own HFl.out hg5 hr5).own HFl.out hg6 hr6
        rw [← HZ.out, ← HHv.out, ← HNd.out]
        exact ⟨_, Rm.tks (hr.le (by rw [List.length_take]; omega)), this⟩
    case stop2 =>
      intro D c pre W hD hpre hx
      exact hx.elim
  case stop =>
    rintro D1 cd pre W hD hpre ⟨rfl, hX, hlt⟩ hK
    have HKD := hid hK
    clear hK hpre
    gi_wp2
    obtain ⟨hr1, ⟨Pg2, D2, hp2⟩, hk2⟩ := hX.out
    have hg5 := grownBy_putObj' W D1 (.deferred none)
    have hr5 : ∀ r, some D1 = some r → w.heap.size ≤ r ∧ ∃ o : Obj, W.heap[r]? = some o ∧ o.isCells = false := fun r e => by cases e; exact ⟨by omega, _, HKD.out, rfl⟩
    have kw : Keeps (fun i => F i ∨ i = f) w W := (((Keeps.of_below HAB.out : Keeps (fun i => F i ∨ i = f) w wA).trans HBD.out (fun i e => .inl e))).trans hk2 (fun i e => by rcases e with e | e | e; exact .inl (.inl e); exact .inl (.inr e); exact .inr (by omega))
    refine ⟨by simp, .inl ⟨_, _, rfl, run_takeDeferred HKD.out, ?_⟩⟩
    refine ⟨_, results_ihold rfl (grown_block hg5 hr1 (fun e => by cases e; omega)), ?_⟩
    refine ⟨kw.trans (Keeps.of_grown hg5 (F := fun i => some D1 = some i) (fun i e => e)) (fun i e => .inr (by cases e; omega)), .inr ⟨?_, rfl, Pg2, D2, ?_⟩⟩
    · rw [← HZ.out, ← HHv.out, ← HNd.out, HFr.out]; exact hlt
    · rw [← HZ.out, ← HHv.out, ← HNd.out]; exact hp2.own HFl.out hg5 hr5
end Go.Proofs.YthdcloaaahhnaaaGreat
