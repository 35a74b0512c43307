/- Several of my texts in one: R5Kit, R5Take, R5Give, R5Plain, R5Map, R5Call, R5Tell, R5Make, R5Pair, R5Start, R5Do, R5Same. -/
import Derived.Test.YtkkmbgjlmdddoabGreatAlBls
import Derived.Test.YtkkmbgjlmdddoabGreatAlLive
import Derived.Test.YtkkmbgjlmdddoabGreatAlInode
/- The reference's map: rows of bools that are only read; count, Used, First. -/
namespace Go.Proofs.YtkkmbgjlmdddoabGreat
open Go.RowKit
/-- A row of bools that can be read. -/
def rowB (w : World) (g : Nat) (L : List Bool) : Prop := ∀ j (hj : j < L.length), w.cell? ⟨g, j, none⟩ = some (.bool L[j])
theorem rowB.keep {w w' : World} {g : Nat} {L : List Bool} {F : Nat → Prop} (h : rowB w g L) (k : Keeps F w w') (hF : ¬ F g) : rowB w' g L := fun j hj => k.cell (h j hj) hF
/-- How many are free. -/
def freeB (L : List Bool) : Nat := (L.filter (fun b => !b)).length
theorem freeB_snoc (L : List Bool) (b : Bool) : freeB (L ++ [b]) = freeB L + (if b then 0 else 1) := by
  unfold freeB
  rw [List.filter_append, List.length_append]
  cases b <;> simp
theorem freeB_take (L : List Bool) (j : Nat) (hj : j < L.length) : freeB (L.take (j + 1)) = freeB (L.take j) + (if L[j] then 0 else 1) := by
  rw [List.take_add_one, List.getElem?_eq_getElem hj, Option.toList_some, freeB_snoc]
theorem freeB_le (L : List Bool) : freeB L ≤ L.length := List.length_filter_le _ _
end Go.Proofs.YtkkmbgjlmdddoabGreat
/- The reference's take. -/
namespace Go.Proofs.YtkkmbgjlmdddoabGreat
open Go.RowKit
/-- What take tells. -/
def TakeTo (w : World) (g cap : Nat) (L : List Bool) (e : Ending) (w' : World) : Prop :=
  ((∀ j (hj : j < L.length), L[j] = true) ∧ e = .returned (.tuple #[.slice (some ⟨g, 0, none⟩) L.length cap, .int .i64 0, .int .i64 7]) ∧ w' = w) ∨
    ∃ (n : Nat) (hn : n < L.length) (g' cap' : Nat), L[n] = false ∧ (∀ j (hj : j < n), L[j] = true) ∧ e = .returned (.tuple #[.slice (some ⟨g', 0, none⟩) L.length cap', .int .i64 n, .int .i64 0]) ∧ w.heap.size ≤ g' ∧ rowB w' g' (L.set n true) ∧ Below w.heap.size w w'
set_option maxRecDepth 100000 in
set_option maxHeartbeats 1000000 in
theorem v5take_any (g cap : Nat) (L : List Bool) (hL : L.length ≤ 4096) (w : World) (h : rowB w g L) :
    Calls Tryz.prog 83 #[.slice (some ⟨g, 0, none⟩) L.length cap] w (TakeTo w g cap L) := by
  have H := hid h
  obtain ⟨i0, hi0, hz0, hz1, hz2⟩ := info_parts infoBl
  have HI := hid hi0
  have HX : Hid (∀ j u, (L.map Value.bool)[j]? = some u → w.cell? ((⟨g, 0, none⟩ : Addr).add j) = some u) := fun j u hu => by
    have hj : j < L.length := by simpa using (List.getElem?_eq_some_iff.1 hu).1
    rw [Addr.add_mid, Nat.zero_add, h j hj]
    rw [List.getElem?_map, List.getElem?_eq_getElem hj] at hu
    exact hu
  clear h hi0
  go_enter Tryz.func83, Tryz.ntmps83
  go_wp2
  go_loopw [5] (fun iv wr => ∃ j : Nat, j ≤ L.length ∧ iv = .int .i64 j ∧ Hid (∀ i (hi : i < L.length), i < j → L[i] = true) ∧ wr = w) (fun iv _ => L.length - (intOf iv).toNat)
  case atStart => exact ⟨0, by omega, rfl, fun i _ hi => by omega, rfl⟩
  case round =>
    obtain ⟨j, hj, rfl, HT, rfl⟩ := hrel
    by_cases hlt : j < L.length
    · have hlt' : (j : Int) < (L.length : Int) := by omega
      have hj0 : (0 : Int) ≤ (j : Int) := by omega
      have c0 := H.out j hlt
      cases hb : L[j] with
      | true =>
        rw [hb] at c0
        go_wp2
        exact ⟨⟨j + 1, by omega, by go_num, fun i hi hij => by
          rcases Nat.lt_or_ge i j with h1 | h1
          · exact HT.out i hi h1
          · have e : i = j := by omega
            subst e; exact hb, trivial⟩, by simp [intOf]; omega⟩
      | false =>
        rw [hb] at c0
        have hpos : 0 < L.length := by omega
        go_wp2_with (refine wpList_append_lies _ rfl (.tmp 18) (.tmp 19) 86 rfl wr.heap.size 4 i0 (.bool false) 1 1 Tryz.underlying86 HI.out hz0 hz1 hz2 rfl (by omega) (.slice none 0 0) 0 [] rfl (World.ownsRow_nil _ _ _ _) ⟨g, 0, none⟩ L.length cap (L.map Value.bool) rfl (by simp) HX.out (by intro u hu; obtain ⟨x, _, rfl⟩ := List.mem_map.1 hu; rfl) hpos (by unfold maxLen; omega) (by omega) (Nat.le_refl _) wr.heap.size rfl ?_; intro g2 cap2 w2 hown hgr hat hlt2; rw [Nat.zero_add, List.nil_append] at hown; rw [Nat.zero_add]; have HO := hid hown; have c1 : w2.cell? ⟨g2, j, none⟩ = some (.bool L[j]) := (by rw [hown.cellAt j (by simpa using hlt), List.getElem?_map, List.getElem?_eq_getElem hlt]; rfl); have f1 : w2.frozen? ⟨g2, j, none⟩ = false := (by obtain ⟨-, h2⟩ := hown; rcases h2 with ⟨e, -⟩ | ⟨g3, cap3, cur, e, -, hh, -⟩; exact absurd e (by simp); obtain ⟨rfl, -⟩ : g2 = g3 ∧ cap2 = cap3 := (by simpa using e); exact frozen_of_block hh _); have HG := hid hgr; have HAt := hid hat; clear hown hgr hat)
        go_returns
        have hw2 : wr.heap.size ≤ g2 := by rcases HAt.out with e | e; cases e; omega
        refine .inr ⟨j, hlt, g2, cap2, hb, fun i hi => HT.out i (by omega) hi, rfl, hw2, fun i hi => ?_, ?_⟩
        · have hi' : i < L.length := by simpa using hi
          by_cases e : i = j
          · subst e
            rw [List.getElem_set_self]
            exact World.cell?_setCell_same' w2 _ _ (by rw [c1]; rfl)
          · rw [List.getElem_set_ne (fun h => e h.symm), World.cell?_setCell_other _ _ _ _ (fun h => e (by cases h; rfl)), HO.out.cellAt i (by simpa using hi'), List.getElem?_map, List.getElem?_eq_getElem hi']; rfl
        · exact Below.setCell ⟨HG.out.os, HG.out.tape, HG.out.output, HG.out.size, fun k hk => HG.out.block k hk (by simp [Value.ownBlock])⟩ (show wr.heap.size ≤ Addr.block ⟨g2, j, none⟩ from hw2) _
    · obtain rfl : j = L.length := by omega
      have hge : ¬ ((L.length : Int) < (L.length : Int)) := by omega
      go_wp2
      go_returns
      exact .inl ⟨fun j hj => HT.out j hj hj, rfl, rfl⟩
end Go.Proofs.YtkkmbgjlmdddoabGreat
/- The reference's give. -/
namespace Go.Proofs.YtkkmbgjlmdddoabGreat
open Go.RowKit
set_option maxRecDepth 100000 in
set_option maxHeartbeats 1000000 in
theorem v5give_range (g cap : Nat) (L : List Bool) (n : Int) (least : Nat) (hn : ¬ ((least : Int) ≤ n ∧ n < L.length)) (w : World) :
    Calls Tryz.prog 84 #[.slice (some ⟨g, 0, none⟩) L.length cap, .int .i64 n, .int .i64 least] w fun e w' => e = .returned (.tuple #[.slice (some ⟨g, 0, none⟩) L.length cap, .int .i64 2]) ∧ w' = w := by
  by_cases h1 : n < (least : Int)
  · clear hn
    go_enter Tryz.func84, Tryz.ntmps84
    go_wp2
    go_returns
    exact ⟨rfl, rfl⟩
  · have h2 : (L.length : Int) ≤ n := by omega
    clear hn
    go_enter Tryz.func84, Tryz.ntmps84
    go_wp2
    go_returns
    exact ⟨rfl, rfl⟩
set_option maxRecDepth 100000 in
set_option maxHeartbeats 1000000 in
theorem v5give_none (g cap : Nat) (L : List Bool) (n least : Nat) (hl : least ≤ n) (hn : n < L.length) (hb : L[n] = false) (w : World) (h : rowB w g L) :
    Calls Tryz.prog 84 #[.slice (some ⟨g, 0, none⟩) L.length cap, .int .i64 n, .int .i64 least] w fun e w' => e = .returned (.tuple #[.slice (some ⟨g, 0, none⟩) L.length cap, .int .i64 4]) ∧ w' = w := by
  have c0 := h n hn
  rw [hb] at c0
  have h1 : ¬ ((n : Int) < (least : Int)) := by omega
  have h2 : (n : Int) < (L.length : Int) := by omega
  have h3 : (0 : Int) ≤ (n : Int) := by omega
  clear h hl hb
  go_enter Tryz.func84, Tryz.ntmps84
  go_wp2
  go_returns
  exact ⟨rfl, rfl⟩
set_option maxRecDepth 100000 in
set_option maxHeartbeats 1000000 in
theorem v5give_ok (g cap : Nat) (L : List Bool) (hL : L.length ≤ 4096) (n least : Nat) (hl : least ≤ n) (hn : n < L.length) (hb : L[n] = true) (w : World) (h : rowB w g L) :
    Calls Tryz.prog 84 #[.slice (some ⟨g, 0, none⟩) L.length cap, .int .i64 n, .int .i64 least] w fun e w' => ∃ g' cap', e = .returned (.tuple #[.slice (some ⟨g', 0, none⟩) L.length cap', .int .i64 0]) ∧ w.heap.size ≤ g' ∧ rowB w' g' (L.set n false) ∧ Below w.heap.size w w' := by
  have c0 := h n hn
  rw [hb] at c0
  obtain ⟨i0, hi0, hz0, hz1, hz2⟩ := info_parts infoBl
  have HI := hid hi0
  have HX : Hid (∀ j u, (L.map Value.bool)[j]? = some u → w.cell? ((⟨g, 0, none⟩ : Addr).add j) = some u) := fun j u hu => by
    have hj : j < L.length := by simpa using (List.getElem?_eq_some_iff.1 hu).1
    rw [Addr.add_mid, Nat.zero_add, h j hj]
    rw [List.getElem?_map, List.getElem?_eq_getElem hj] at hu
    exact hu
  have h1 : ¬ ((n : Int) < (least : Int)) := by omega
  have h2 : (n : Int) < (L.length : Int) := by omega
  have h3 : (0 : Int) ≤ (n : Int) := by omega
  have hpos : 0 < L.length := by omega
  clear h hl hb hi0
  go_enter Tryz.func84, Tryz.ntmps84
  go_wp2_with (refine wpList_append_lies _ rfl (.tmp 25) (.tmp 26) 86 rfl w.heap.size 4 i0 (.bool false) 1 1 Tryz.underlying86 HI.out hz0 hz1 hz2 rfl (by omega) (.slice none 0 0) 0 [] rfl (World.ownsRow_nil _ _ _ _) ⟨g, 0, none⟩ L.length cap (L.map Value.bool) rfl (by simp) HX.out (by intro u hu; obtain ⟨x, _, rfl⟩ := List.mem_map.1 hu; rfl) hpos (by unfold maxLen; omega) (by omega) (Nat.le_refl _) w.heap.size rfl ?_; intro g2 cap2 w2 hown hgr hat hlt2; rw [Nat.zero_add, List.nil_append] at hown; rw [Nat.zero_add]; have HO := hid hown; have c1 : w2.cell? ⟨g2, n, none⟩ = some (.bool L[n]) := (by rw [hown.cellAt n (by simpa using hn), List.getElem?_map, List.getElem?_eq_getElem hn]; rfl); have f1 : w2.frozen? ⟨g2, n, none⟩ = false := (by obtain ⟨-, h2⟩ := hown; rcases h2 with ⟨e, -⟩ | ⟨g3, cap3, cur, e, -, hh, -⟩; exact absurd e (by simp); obtain ⟨rfl, -⟩ : g2 = g3 ∧ cap2 = cap3 := (by simpa using e); exact frozen_of_block hh _); have HG := hid hgr; have HAt := hid hat; clear hown hgr hat)
  go_returns
  have hw2 : w.heap.size ≤ g2 := by rcases HAt.out with e | e; cases e; omega
  refine ⟨g2, ⟨cap2, rfl⟩, hw2, fun i hi => ?_, ?_⟩
  · have hi' : i < L.length := by simpa using hi
    by_cases e : i = n
    · subst e
      rw [List.getElem_set_self]
      exact World.cell?_setCell_same' w2 _ _ (by rw [c1]; rfl)
    · rw [List.getElem_set_ne (fun h => e h.symm), World.cell?_setCell_other _ _ _ _ (fun h => e (by cases h; rfl)), HO.out.cellAt i (by simpa using hi'), List.getElem?_map, List.getElem?_eq_getElem hi']; rfl
  · exact Below.setCell ⟨HG.out.os, HG.out.tape, HG.out.output, HG.out.size, fun k hk => HG.out.block k hk (by simp [Value.ownBlock])⟩ (show w.heap.size ≤ Addr.block ⟨g2, n, none⟩ from hw2) _
end Go.Proofs.YtkkmbgjlmdddoabGreat
/- Bits of a page and a row of bools that tell the same. -/
namespace Go.Proofs.YtkkmbgjlmdddoabGreat
open Go.RowKit
/-- A row of bools tells what the bits of a page tell; those ahead of a are set. -/
structure Rel (L : List UInt8) (a : Nat) (B : List Bool) : Prop where
  bit : ∀ n (h : n < B.length), bitL L n = B[n]
  low : ∀ n (h : n < B.length), n < a → B[n] = true
section
variable {L : List UInt8} {a : Nat} {B : List Bool}
theorem Rel.free (h : Rel L a B) (n : Nat) (hn : n < B.length) : isFree L a B.length n = !B[n] := by
  unfold isFree
  rw [h.bit n hn]
  by_cases ha : a ≤ n
  · rw [decide_eq_true ⟨ha, hn⟩, Bool.true_and]
  · rw [h.low n hn (by omega)]; simp
theorem Rel.freeOut (L : List UInt8) (a : Nat) (B : List Bool) (n : Nat) (hn : B.length ≤ n) : isFree L a B.length n = false := by
  unfold isFree
  rw [decide_eq_false (fun h => by omega)]; rfl
theorem Rel.all (h : Rel L a B) (ht : ∀ j (hj : j < B.length), B[j] = true) : freeTo L a B.length 4096 = [] :=
  freeTo_none 4096 (fun j _ => by
    by_cases hj : j < B.length
    · rw [h.free j hj, ht j hj]; rfl
    · exact Rel.freeOut L a B j (by omega))
theorem Rel.first (h : Rel L a B) (hB : B.length ≤ 4096) (n : Nat) (hn : n < B.length) (hb : B[n] = false) (ht : ∀ j (hj : j < n), B[j] = true) : ∃ rest, freeTo L a B.length 4096 = n :: rest :=
  freeTo_is (fun j hj => by rw [h.free j (by omega), ht j hj]; rfl) (by rw [h.free n hn, hb]; rfl) (by omega)
theorem Rel.to (h : Rel L a B) : ∀ k, (freeTo L a B.length k).length = freeB (B.take k)
  | 0 => by rw [freeTo_zero, List.take_zero]; rfl
  | k + 1 => by
    have ih := h.to k
    by_cases hk : k < B.length
    · rw [freeB_take B k hk]
      cases hb : B[k] with
      | false => rw [freeTo_yes (by rw [h.free k hk, hb]; rfl), List.length_append, ih]; rfl
      | true => rw [freeTo_no (by rw [h.free k hk, hb]; rfl), ih]; rfl
    · rw [freeTo_no (Rel.freeOut L a B k (by omega)), ih, List.take_of_length_le (by omega), List.take_of_length_le (by omega)]
theorem Rel.count (h : Rel L a B) (hB : B.length ≤ 4096) : (freeTo L a B.length 4096).length = freeB B := by
  rw [h.to 4096, List.take_of_length_le hB]
theorem Rel.flip (h : Rel L a B) (hL : L.length = 512) (n : Nat) (hn : n < B.length) (hB : B.length ≤ 4096) (ha : a ≤ n) : Rel (flipL L n) a (B.set n (!B[n])) where
  bit := fun k hk => by
    have hk' : k < B.length := by simpa using hk
    rw [bitL_flipL L n k (by omega)]
    by_cases e : k = n
    · subst e; rw [if_pos rfl, h.bit k hk', List.getElem_set_self]
    · rw [if_neg e, h.bit k hk', List.getElem_set_ne (fun h => e h.symm)]
  low := fun k hk ha' => by
    have hk' : k < B.length := by simpa using hk
    rw [List.getElem_set_ne (by omega)]
    exact h.low k hk' ha'
/-- Bools as they are at the start. -/
def startB (a N : Nat) : List Bool := (List.range N).map (fun n => decide (n < a))
theorem length_startB (a N : Nat) : (startB a N).length = N := by simp [startB]
theorem startB_at (a N n : Nat) (h : n < (startB a N).length) : (startB a N)[n] = decide (n < a) := by simp [startB]
theorem Rel.start (a N : Nat) (ha : a ≤ 4096) : Rel (bitsTo a) a (startB a N) where
  bit := fun n h => by rw [bitL_bitsTo a n ha, startB_at]
  low := fun n h hn => by rw [startB_at]; exact decide_eq_true hn
theorem getD_in {B : List Bool} {n : Nat} (hn : n < B.length) : B.getD n false = B[n] := by
  rw [List.getD_eq_getElem?_getD, List.getElem?_eq_getElem hn]; rfl
/-- What Used tells. -/
def usedB (B : List Bool) (n : Int) : Bool := decide (0 ≤ n ∧ n < (B.length : Int)) && B.getD n.toNat false
theorem Rel.taken (h : Rel L a B) (ha : a ≤ B.length) (n : Int) : takenP L a B.length n = usedB B n := by
  unfold takenP usedB
  by_cases h1 : (a : Int) ≤ n ∧ n < (B.length : Int)
  · have hn : n.toNat < B.length := by omega
    rw [if_pos h1, decide_eq_true (by omega), h.bit _ hn, Bool.true_and, getD_in hn]
  · rw [if_neg h1]
    by_cases h2 : 0 ≤ n ∧ n < (a : Int)
    · have hn : n.toNat < B.length := by omega
      rw [decide_eq_true h2, decide_eq_true (by omega), getD_in hn, h.low _ hn (by omega)]; rfl
    · rw [decide_eq_false h2, decide_eq_false (fun h => by omega)]; rfl
end
end Go.Proofs.YtkkmbgjlmdddoabGreat
/- The reference's map in memory: its calls. -/
namespace Go.Proofs.YtkkmbgjlmdddoabGreat
open Go.RowKit
/-- The reference's map: a block with two numbers and two rows of bools. -/
structure R5In (w : World) (r g cp gi ci : Nat) (Lp Li : List Bool) : Prop where
  heap : w.heap[r]? = some (.cells #[.int .i64 Lp.length, .int .i64 Li.length, .slice (some ⟨g, 0, none⟩) Lp.length cp, .slice (some ⟨gi, 0, none⟩) Li.length ci] 88 (0, 0))
  rp : rowB w g Lp
  ri : rowB w gi Li
  np : g ≠ r
  ni : gi ≠ r
  lp : Lp.length ≤ 4096
  li : Li.length ≤ 512
  gp : g < w.heap.size
  gl : gi < w.heap.size
section
variable {w w' w1 : World} {r g cp gi ci : Nat} {Lp Li : List Bool}
theorem R5In.keep {F : Nat → Prop} (h : R5In w r g cp gi ci Lp Li) (k : Keeps F w w') (hr : ¬ F r) (hg : ¬ F g) (hi : ¬ F gi) : R5In w' r g cp gi ci Lp Li :=
  ⟨k.heap h.heap hr, h.rp.keep k hg, h.ri.keep k hi, h.np, h.ni, h.lp, h.li, Nat.lt_of_lt_of_le h.gp k.size, Nat.lt_of_lt_of_le h.gl k.size⟩
theorem R5In.below (h : R5In w r g cp gi ci Lp Li) (hb : Below w.heap.size w w') : R5In w' r g cp gi ci Lp Li :=
  h.keep (F := fun _ => False) (Keeps.of_below hb) (fun h => h) (fun h => h) (fun h => h)
theorem R5In.off (h : R5In w r g cp gi ci Lp Li) : offN w r := by
  refine ⟨_, _, _, h.heap, .inr (.inr rfl), fun v hv => ?_⟩
  simp only [List.mem_cons, List.mem_nil_iff, or_false] at hv
  rcases hv with rfl | rfl | rfl | rfl
  · exact .inl ⟨_, rfl⟩
  · exact .inl ⟨_, rfl⟩
  · exact .inr (.inr ⟨_, _, _, rfl⟩)
  · exact .inr (.inr ⟨_, _, _, rfl⟩)
theorem R5In.lt (h : R5In w r g cp gi ci Lp Li) : r < w.heap.size := lt_of_heap h.heap
theorem rowB.set {b : Nat} {L : List Bool} (h : rowB w b L) (hb : b ≠ r) (j : Nat) (v : Value) : rowB (w.setCell ⟨r, j, none⟩ v) b L := fun i hi => by
  rw [World.cell?_setCell_other _ _ _ _ (fun e => hb (by cases e; rfl))]
  exact h i hi
theorem R5In.setP (h : R5In w r g cp gi ci Lp Li) (hb : Below w.heap.size w w1) (g' cp' : Nat) (Lp' : List Bool) (hl : Lp'.length = Lp.length) (hr : rowB w1 g' Lp') (hg : g' ≠ r) (hs : g' < w1.heap.size) :
    R5In (w1.setCell ⟨r, 2, none⟩ (.slice (some ⟨g', 0, none⟩) Lp.length cp')) r g' cp' gi ci Lp' Li ∧ Keeps (fun i => i = r) w (w1.setCell ⟨r, 2, none⟩ (.slice (some ⟨g', 0, none⟩) Lp.length cp')) := by
  have h1 := h.below hb
  have hh := block_setCell h1.heap 2 (.slice (some ⟨g', 0, none⟩) Lp.length cp')
  have k : Keeps (fun i => i = r) w w1 := Keeps.of_below hb
  refine ⟨⟨?_, hr.set hg 2 _, h1.ri.set h.ni 2 _, hg, h.ni, by rw [hl]; exact h.lp, h.li, by simpa using hs, by simpa using h1.gl⟩, ?_⟩
  · rw [hh, hl]; rfl
  · exact k.grown (grown_setCell (grown_refl _ _) _ _) (fun i e => .inl (Option.some.inj e).symm)
theorem R5In.setI (h : R5In w r g cp gi ci Lp Li) (hb : Below w.heap.size w w1) (g' cp' : Nat) (Li' : List Bool) (hl : Li'.length = Li.length) (hr : rowB w1 g' Li') (hg : g' ≠ r) (hs : g' < w1.heap.size) :
    R5In (w1.setCell ⟨r, 3, none⟩ (.slice (some ⟨g', 0, none⟩) Li.length cp')) r g cp g' cp' Lp Li' ∧ Keeps (fun i => i = r) w (w1.setCell ⟨r, 3, none⟩ (.slice (some ⟨g', 0, none⟩) Li.length cp')) := by
  have h1 := h.below hb
  have hh := block_setCell h1.heap 3 (.slice (some ⟨g', 0, none⟩) Li.length cp')
  have k : Keeps (fun i => i = r) w w1 := Keeps.of_below hb
  refine ⟨⟨?_, h1.rp.set h.np 3 _, hr.set hg 3 _, h.np, hg, h.lp, by rw [hl]; exact h.li, by simpa using h1.gp, by simpa using hs⟩, ?_⟩
  · rw [hh, hl]; rfl
  · exact k.grown (grown_setCell (grown_refl _ _) _ _) (fun i e => .inl (Option.some.inj e).symm)
theorem R5In.cells (h : R5In w r g cp gi ci Lp Li) : w.cell? ⟨r, 0, none⟩ = some (.int .i64 Lp.length) ∧ w.cell? ⟨r, 1, none⟩ = some (.int .i64 Li.length) ∧ w.cell? ⟨r, 2, none⟩ = some (.slice (some ⟨g, 0, none⟩) Lp.length cp) ∧ w.cell? ⟨r, 3, none⟩ = some (.slice (some ⟨gi, 0, none⟩) Li.length ci) :=
  ⟨cell_of_block h.heap 0, cell_of_block h.heap 1, cell_of_block h.heap 2, cell_of_block h.heap 3⟩
set_option maxRecDepth 100000 in
theorem v5First_any (h : R5In w r g cp gi ci Lp Li) : Calls Tryz.prog 44 #[.pointer (some ⟨r, 0, none⟩)] w fun e w' => e = .returned (.int .i64 (3 + Li.length / 8 : Nat)) ∧ w' = w := by
  obtain ⟨c0, c1, c2, c3⟩ := h.cells
  have hl := h.li
  obtain ⟨k, hk⟩ : ∃ k, k = Li.length := ⟨_, rfl⟩
  rw [← hk] at c1 hl ⊢
  have e1 : IntKind.i64.wrap (3 + (k : Int) / 8) = ((3 + k / 8 : Nat) : Int) := by rw [IntWalk.i64_in _ (by omega)]; omega
  clear h c0 c2 c3 hk
  go_enter Tryz.func44, Tryz.ntmps44
  go_wp2
  go_ret
  refine ⟨?_, rfl⟩
  congr 2
end
end Go.Proofs.YtkkmbgjlmdddoabGreat
/- The reference's map: the calls that write. -/
namespace Go.Proofs.YtkkmbgjlmdddoabGreat
open Go.RowKit
section
variable {w : World} {r g cp gi ci : Nat} {Lp Li : List Bool}
/-- What Page and Inode of the reference tell: X is the map behind, with the row L'. -/
def Take5 (w : World) (r : Nat) (L : List Bool) (X : World → List Bool → Nat → Nat → Prop) (g cp : Nat) (e : Ending) (w' : World) : Prop :=
  Keeps (fun i => i = r) w w' ∧ (((∀ j (hj : j < L.length), L[j] = true) ∧ e = .returned (.tuple #[.int .i64 0, .int .i64 7]) ∧ X w' L g cp) ∨
    ∃ (n : Nat) (hn : n < L.length) (g' cp' : Nat), L[n] = false ∧ (∀ j (hj : j < n), L[j] = true) ∧ e = .returned (.tuple #[.int .i64 n, .int .i64 0]) ∧ w.heap.size ≤ g' ∧ X w' (L.set n true) g' cp')
theorem rowB.lt {b : Nat} {L : List Bool} (h : rowB w b L) (n : Nat) (hn : n < L.length) : b < w.heap.size := World.block_lt_of_cell? w _ (h n hn)
set_option maxRecDepth 100000 in
theorem v5Page_any (h : R5In w r g cp gi ci Lp Li) : Calls Tryz.prog 47 #[.pointer (some ⟨r, 0, none⟩)] w (Take5 w r Lp (fun W L g cp => R5In W r g cp gi ci L Li) g cp) := by
  obtain ⟨c0, c1, c2, c3⟩ := h.cells
  have HT := hid (v5take_any g cp Lp h.lp w h.rp)
  have H := hid h
  clear h c0 c1 c3
  go_enter Tryz.func47, Tryz.ntmps47
  go_wp2_with fail
  refine HT.out.mono ?_
  clear HT
  rintro e w1 (⟨hall, rfl, h1⟩ | ⟨n, hn, g', cp', hb, hlow, rfl, hg', hrow, hbel⟩)
  · obtain rfl := h1.symm
    have f2 : w.frozen? ⟨r, 2, none⟩ = false := frozen_of_block H.out.heap 2
    have HA := hid hall
    have HX := hid (H.out.setP (Below.refl _ w) g cp Lp rfl H.out.rp H.out.np H.out.gp)
    clear h1 hall H
    go_wp2
    go_returns
    exact ⟨HX.out.2, .inl ⟨HA.out, rfl, HX.out.1⟩⟩
  · have h1 := (H.out.below hbel).heap
    have d2 : w1.cell? ⟨r, 2, none⟩ = some (.slice (some ⟨g, 0, none⟩) Lp.length cp) := cell_of_block h1 2
    have f2 : w1.frozen? ⟨r, 2, none⟩ = false := frozen_of_block h1 2
    have hne : g' ≠ r := by have := H.out.lt; omega
    have HX := hid (H.out.setP hbel g' cp' (Lp.set n true) List.length_set hrow hne (hrow.lt n (by simpa using hn)))
    have HA := hid hlow
    have HG := hid hg'
    have HB := hid hb
    clear h1 hlow hrow hbel H hne hg' hb
    go_wp2
    go_returns
    exact ⟨HX.out.2, .inr ⟨n, hn, g', cp', HB.out, HA.out, rfl, HG.out, HX.out.1⟩⟩
set_option maxRecDepth 100000 in
theorem v5Inode_any (h : R5In w r g cp gi ci Lp Li) : Calls Tryz.prog 48 #[.pointer (some ⟨r, 0, none⟩)] w (Take5 w r Li (fun W L g' cp' => R5In W r g cp g' cp' Lp L) gi ci) := by
  obtain ⟨c0, c1, c2, c3⟩ := h.cells
  have HT := hid (v5take_any gi ci Li (by have := h.li; omega) w h.ri)
  have H := hid h
  clear h c0 c1 c2
  go_enter Tryz.func48, Tryz.ntmps48
  go_wp2_with fail
  refine HT.out.mono ?_
  clear HT
  rintro e w1 (⟨hall, rfl, h1⟩ | ⟨n, hn, g', cp', hb, hlow, rfl, hg', hrow, hbel⟩)
  · obtain rfl := h1.symm
    have f2 : w.frozen? ⟨r, 3, none⟩ = false := frozen_of_block H.out.heap 3
    have HA := hid hall
    have HX := hid (H.out.setI (Below.refl _ w) gi ci Li rfl H.out.ri H.out.ni H.out.gl)
    clear h1 hall H
    go_wp2
    go_returns
    exact ⟨HX.out.2, .inl ⟨HA.out, rfl, HX.out.1⟩⟩
  · have h1 := (H.out.below hbel).heap
    have d2 : w1.cell? ⟨r, 3, none⟩ = some (.slice (some ⟨gi, 0, none⟩) Li.length ci) := cell_of_block h1 3
    have f2 : w1.frozen? ⟨r, 3, none⟩ = false := frozen_of_block h1 3
    have hne : g' ≠ r := by have := H.out.lt; omega
    have HX := hid (H.out.setI hbel g' cp' (Li.set n true) List.length_set hrow hne (hrow.lt n (by simpa using hn)))
    have HA := hid hlow
    have HG := hid hg'
    have HB := hid hb
    clear h1 hlow hrow hbel H hne hg' hb
    go_wp2
    go_returns
    exact ⟨HX.out.2, .inr ⟨n, hn, g', cp', HB.out, HA.out, rfl, HG.out, HX.out.1⟩⟩
/-- What GivePage and GiveInode of the reference tell. -/
def Give5 (w : World) (r : Nat) (L : List Bool) (least : Nat) (n : Int) (X : World → List Bool → Nat → Nat → Prop) (g cp : Nat) (e : Ending) (w' : World) : Prop :=
  Keeps (fun i => i = r) w w' ∧ ((¬ ((least : Int) ≤ n ∧ n < L.length) ∧ e = .returned (.int .i64 2) ∧ X w' L g cp) ∨
    ∃ (k : Nat) (hk : k < L.length), n = (k : Int) ∧ least ≤ k ∧ ((L[k] = false ∧ e = .returned (.int .i64 4) ∧ X w' L g cp) ∨ ∃ g' cp', L[k] = true ∧ e = .returned (.int .i64 0) ∧ w.heap.size ≤ g' ∧ X w' (L.set k false) g' cp'))
/-- What give tells, all in one. -/
def GaveTo (w : World) (g cap : Nat) (L : List Bool) (n : Int) (least : Nat) (e : Ending) (w' : World) : Prop :=
  (¬ ((least : Int) ≤ n ∧ n < L.length) ∧ e = .returned (.tuple #[.slice (some ⟨g, 0, none⟩) L.length cap, .int .i64 2]) ∧ w' = w) ∨
    ∃ (k : Nat) (hk : k < L.length), n = (k : Int) ∧ least ≤ k ∧ ((L[k] = false ∧ e = .returned (.tuple #[.slice (some ⟨g, 0, none⟩) L.length cap, .int .i64 4]) ∧ w' = w) ∨
      ∃ g' cap', L[k] = true ∧ e = .returned (.tuple #[.slice (some ⟨g', 0, none⟩) L.length cap', .int .i64 0]) ∧ w.heap.size ≤ g' ∧ rowB w' g' (L.set k false) ∧ Below w.heap.size w w')
theorem v5give_any (g cap : Nat) (L : List Bool) (hL : L.length ≤ 4096) (n : Int) (least : Nat) (w : World) (h : rowB w g L) :
    Calls Tryz.prog 84 #[.slice (some ⟨g, 0, none⟩) L.length cap, .int .i64 n, .int .i64 least] w (GaveTo w g cap L n least) := by
  by_cases hn : (least : Int) ≤ n ∧ n < L.length
  · obtain ⟨k, rfl⟩ : ∃ k : Nat, n = (k : Int) := ⟨n.toNat, by omega⟩
    have hk : k < L.length := by omega
    have hl : least ≤ k := by omega
    cases hb : L[k] with
    | false =>
      refine (v5give_none g cap L k least hl hk hb w h).mono ?_
      rintro e w' ⟨rfl, rfl⟩
      exact .inr ⟨k, hk, rfl, hl, .inl ⟨hb, rfl, rfl⟩⟩
    | true =>
      refine (v5give_ok g cap L hL k least hl hk hb w h).mono ?_
      rintro e w' ⟨g', cap', rfl, h1, h2, h3⟩
      exact .inr ⟨k, hk, rfl, hl, .inr ⟨g', cap', hb, rfl, h1, h2, h3⟩⟩
  · refine (v5give_range g cap L n least hn w).mono ?_
    rintro e w' ⟨rfl, rfl⟩
    exact .inl ⟨hn, rfl, rfl⟩
set_option maxRecDepth 100000 in
theorem v5GivePage_any (h : R5In w r g cp gi ci Lp Li) (n : Int) : Calls Tryz.prog 49 #[.pointer (some ⟨r, 0, none⟩), .int .i64 n] w (Give5 w r Lp (3 + Li.length / 8) n (fun W L g cp => R5In W r g cp gi ci L Li) g cp) := by
  have hb0 : Below w.heap.size w w.drew := (Below.refl _ w).drew
  have hd0 := h.below hb0
  obtain ⟨-, -, c2, -⟩ := h.cells
  have HF := hid (v5First_any hd0)
  have HT := hid (v5give_any g cp Lp h.lp n (3 + Li.length / 8) w.drew hd0.rp)
  have H := hid hd0
  have HB0 := hid hb0
  obtain ⟨-, -, d2, -⟩ := hd0.cells
  obtain ⟨f, hf⟩ : ∃ f, f = 3 + Li.length / 8 := ⟨_, rfl⟩
  rw [← hf] at HF HT ⊢
  clear h hf hd0 hb0
  go_enter Tryz.func49, Tryz.ntmps49
  go_wp2
  refine wp_region_noPanic ?_
  refine wp_region_held_drew (S := fun W => W.cell? ⟨r, 2, none⟩ = some (.slice (some ⟨g, 0, none⟩) Lp.length cp)) (by kernel_rfl) c2 (fun hHeld => ?_)
  generalize w.drew = wd at *
  refine wpAnyH_take (i := 0) (v := ?_) rfl (by kernel_rfl) (by kernel_rfl) (by kernel_rfl) (fun _ _ _ h => h) (Or.inl ⟨by rfl, ?_⟩) (by assumption) ?_
  rotate_left
  · (intro W hSw; (try dsimp only at hSw); obtain s0 := hSw; go_simp; try with_reducible rfl)
  try simp only [List.getElem_toArray, List.getElem_cons_zero, Act.put, List.setIfInBounds_toArray, List.set_cons_zero, List.set_cons_succ]
  refine wpAnyH_take (i := 1) (v := ?_) rfl (by kernel_rfl) (by kernel_rfl) (by kernel_rfl) (fun _ _ _ h => h) (Or.inl ⟨by rfl, ?_⟩) (by assumption) ?_
  rotate_left
  · (intro W hSw; (try dsimp only at hSw); obtain s0 := hSw; go_simp; try with_reducible rfl)
  try simp only [List.getElem_toArray, List.getElem_cons_succ, List.getElem_cons_zero, Act.put, List.setIfInBounds_toArray, List.set_cons_zero, List.set_cons_succ]
  refine wpAnyH_take (i := 2) (v := ?_) rfl (by kernel_rfl) (by kernel_rfl) (by kernel_rfl) (fun _ _ _ h => h) (Or.inl ⟨by rfl, ?_⟩) (by assumption) ?_
  rotate_left
  · (intro W hSw; (try dsimp only at hSw); obtain s0 := hSw; go_simp; try with_reducible rfl)
  try simp only [List.getElem_toArray, List.getElem_cons_succ, List.getElem_cons_zero, Act.put, List.setIfInBounds_toArray, List.set_cons_zero, List.set_cons_succ]
  refine wpAnyH_take (i := 3) (v := ?_) rfl (by kernel_rfl) (by kernel_rfl) (by kernel_rfl) (fun _ _ _ h => h) (Or.inl ⟨by rfl, ?_⟩) (by assumption) ?_
  rotate_left
  · (intro W hSw; (try dsimp only at hSw); obtain s0 := hSw; go_simp; try with_reducible rfl)
  try simp only [List.getElem_toArray, List.getElem_cons_succ, List.getElem_cons_zero, Act.put, List.setIfInBounds_toArray, List.set_cons_zero, List.set_cons_succ]
  refine wpAnyH_take (i := 4) (v := ?_) rfl (by kernel_rfl) (by kernel_rfl) (by kernel_rfl) (fun _ _ _ h => h) (Or.inl ⟨by rfl, ?_⟩) (by assumption) ?_
  rotate_left
  · (intro W hSw; (try dsimp only at hSw); obtain s0 := hSw; go_simp; try with_reducible rfl)
  try simp only [List.getElem_toArray, List.getElem_cons_succ, List.getElem_cons_zero, Act.put, List.setIfInBounds_toArray, List.set_cons_zero, List.set_cons_succ]
  refine wpAnyH_take (i := 5) (v := ?_) rfl (by kernel_rfl) (by kernel_rfl) (by kernel_rfl) (fun _ _ _ h => h) (Or.inl ⟨by rfl, ?_⟩) (by assumption) ?_
  rotate_left
  · (intro W hSw; (try dsimp only at hSw); obtain s0 := hSw; go_simp; try with_reducible rfl)
  try simp only [List.getElem_toArray, List.getElem_cons_succ, List.getElem_cons_zero, Act.put, List.setIfInBounds_toArray, List.set_cons_zero, List.set_cons_succ]
  refine wpAnyH_ready (rs := [6]) (by kernel_rfl) (by simp) (AllReadyH.cons rfl (fun K hK => ?_) AllReadyH.nil)
  rw [if_pos (by rfl)]
  go_simp
  refine HF.out.mono ?_
  clear HF
  rintro e w0 ⟨rfl, h0⟩
  obtain rfl := h0.symm
  clear h0
  go_wp2_with fail
  refine hK.out _ _ d2 (fun hHeld => ?_)
  clear hK K
  try simp only [List.getElem_toArray, List.getElem_cons_succ, List.getElem_cons_zero, Act.put, List.setIfInBounds_toArray, List.set_cons_zero, List.set_cons_succ]
  refine wpAnyH_ready (rs := [7]) (by kernel_rfl) (by simp) (AllReadyH.cons rfl (fun K hK => ?_) AllReadyH.nil)
  rw [if_pos (by rfl)]
  go_simp
  refine HT.out.mono ?_
  clear HT
  rintro e w1 (⟨hno, rfl, h1⟩ | ⟨k, hk, hnk, hlk, ⟨hb, rfl, h1⟩ | ⟨g', cp', hb, rfl, hg', hrow, hbel⟩⟩)
  · obtain rfl := h1.symm
    have f2 : wd.frozen? ⟨r, 2, none⟩ = false := frozen_of_block H.out.heap 2
    have HA := hid hno
    have HX := hid (H.out.setP (Below.refl _ wd) g cp Lp rfl H.out.rp H.out.np H.out.gp)
    clear h1 hno H
    go_wp2_with fail
    refine hK.out _ _ d2 (fun hHeld => ?_)
    clear hK K
    try simp only [List.getElem_toArray, List.getElem_cons_succ, List.getElem_cons_zero, Act.put, List.setIfInBounds_toArray, List.set_cons_zero, List.set_cons_succ]
    refine wpAnyH_take (i := 8) (v := ?_) rfl (by kernel_rfl) (by kernel_rfl) (by kernel_rfl) (fun _ _ _ h => h) (Or.inl ⟨by rfl, ?_⟩) (by assumption) ?_
    rotate_left
    · (intro W hSw; (try dsimp only at hSw); obtain s0 := hSw; go_simp; try with_reducible rfl)
    try simp only [List.getElem_toArray, List.getElem_cons_succ, List.getElem_cons_zero, Act.put, List.setIfInBounds_toArray, List.set_cons_zero, List.set_cons_succ]
    refine wpAnyH_take (i := 9) (v := ?_) rfl (by kernel_rfl) (by kernel_rfl) (by kernel_rfl) (fun _ _ _ h => h) (Or.inl ⟨by rfl, ?_⟩) (by assumption) ?_
    rotate_left
    · (intro W hSw; (try dsimp only at hSw); obtain s0 := hSw; go_simp; try with_reducible rfl)
    try simp only [List.getElem_toArray, List.getElem_cons_succ, List.getElem_cons_zero, Act.put, List.setIfInBounds_toArray, List.set_cons_zero, List.set_cons_succ]
    refine wpAnyH_take (i := 10) (v := ?_) rfl (by kernel_rfl) (by kernel_rfl) (by kernel_rfl) (fun _ _ _ h => h) (Or.inl ⟨by rfl, ?_⟩) (by assumption) ?_
    rotate_left
    · (intro W hSw; (try dsimp only at hSw); obtain s0 := hSw; go_simp; try with_reducible rfl)
    try simp only [List.getElem_toArray, List.getElem_cons_succ, List.getElem_cons_zero, Act.put, List.setIfInBounds_toArray, List.set_cons_zero, List.set_cons_succ]
    refine wpAnyH_take (i := 11) (v := ?_) rfl (by kernel_rfl) (by kernel_rfl) (by kernel_rfl) (fun _ _ _ h => h) (Or.inl ⟨by rfl, ?_⟩) (by assumption) ?_
    rotate_left
    · (intro W hSw; (try dsimp only at hSw); obtain s0 := hSw; go_simp; try with_reducible rfl)
    try simp only [List.getElem_toArray, List.getElem_cons_succ, List.getElem_cons_zero, Act.put, List.setIfInBounds_toArray, List.set_cons_zero, List.set_cons_succ]
    refine wpAnyH_take (i := 12) (v := ?_) rfl (by kernel_rfl) (by kernel_rfl) (by kernel_rfl) (fun _ _ _ h => h) (Or.inl ⟨by rfl, ?_⟩) (by assumption) ?_
    rotate_left
    · (intro W hSw; (try dsimp only at hSw); obtain s0 := hSw; go_simp; try with_reducible rfl)
    try simp only [List.getElem_toArray, List.getElem_cons_succ, List.getElem_cons_zero, Act.put, List.setIfInBounds_toArray, List.set_cons_zero, List.set_cons_succ]
    refine wpAnyH_done (by kernel_rfl) ?_ _
    refine NoPanic.normal ?_
    clear hHeld
    go_wp2
    go_ret
    exact ⟨(Keeps.of_below HB0.out).trans HX.out.2 (fun i e => .inl e), .inl ⟨HA.out, rfl, HX.out.1⟩⟩
  · obtain rfl := h1.symm
    have f2 : wd.frozen? ⟨r, 2, none⟩ = false := frozen_of_block H.out.heap 2
    have HA := hid hnk
    have HB := hid hb
    have HX := hid (H.out.setP (Below.refl _ wd) g cp Lp rfl H.out.rp H.out.np H.out.gp)
    clear h1 hnk hb H
    go_wp2_with fail
    refine hK.out _ _ d2 (fun hHeld => ?_)
    clear hK K
    try simp only [List.getElem_toArray, List.getElem_cons_succ, List.getElem_cons_zero, Act.put, List.setIfInBounds_toArray, List.set_cons_zero, List.set_cons_succ]
    refine wpAnyH_take (i := 8) (v := ?_) rfl (by kernel_rfl) (by kernel_rfl) (by kernel_rfl) (fun _ _ _ h => h) (Or.inl ⟨by rfl, ?_⟩) (by assumption) ?_
    rotate_left
    · (intro W hSw; (try dsimp only at hSw); obtain s0 := hSw; go_simp; try with_reducible rfl)
    try simp only [List.getElem_toArray, List.getElem_cons_succ, List.getElem_cons_zero, Act.put, List.setIfInBounds_toArray, List.set_cons_zero, List.set_cons_succ]
    refine wpAnyH_take (i := 9) (v := ?_) rfl (by kernel_rfl) (by kernel_rfl) (by kernel_rfl) (fun _ _ _ h => h) (Or.inl ⟨by rfl, ?_⟩) (by assumption) ?_
    rotate_left
    · (intro W hSw; (try dsimp only at hSw); obtain s0 := hSw; go_simp; try with_reducible rfl)
    try simp only [List.getElem_toArray, List.getElem_cons_succ, List.getElem_cons_zero, Act.put, List.setIfInBounds_toArray, List.set_cons_zero, List.set_cons_succ]
    refine wpAnyH_take (i := 10) (v := ?_) rfl (by kernel_rfl) (by kernel_rfl) (by kernel_rfl) (fun _ _ _ h => h) (Or.inl ⟨by rfl, ?_⟩) (by assumption) ?_
    rotate_left
    · (intro W hSw; (try dsimp only at hSw); obtain s0 := hSw; go_simp; try with_reducible rfl)
    try simp only [List.getElem_toArray, List.getElem_cons_succ, List.getElem_cons_zero, Act.put, List.setIfInBounds_toArray, List.set_cons_zero, List.set_cons_succ]
    refine wpAnyH_take (i := 11) (v := ?_) rfl (by kernel_rfl) (by kernel_rfl) (by kernel_rfl) (fun _ _ _ h => h) (Or.inl ⟨by rfl, ?_⟩) (by assumption) ?_
    rotate_left
    · (intro W hSw; (try dsimp only at hSw); obtain s0 := hSw; go_simp; try with_reducible rfl)
    try simp only [List.getElem_toArray, List.getElem_cons_succ, List.getElem_cons_zero, Act.put, List.setIfInBounds_toArray, List.set_cons_zero, List.set_cons_succ]
    refine wpAnyH_take (i := 12) (v := ?_) rfl (by kernel_rfl) (by kernel_rfl) (by kernel_rfl) (fun _ _ _ h => h) (Or.inl ⟨by rfl, ?_⟩) (by assumption) ?_
    rotate_left
    · (intro W hSw; (try dsimp only at hSw); obtain s0 := hSw; go_simp; try with_reducible rfl)
    try simp only [List.getElem_toArray, List.getElem_cons_succ, List.getElem_cons_zero, Act.put, List.setIfInBounds_toArray, List.set_cons_zero, List.set_cons_succ]
    refine wpAnyH_done (by kernel_rfl) ?_ _
    refine NoPanic.normal ?_
    clear hHeld
    go_wp2
    go_ret
    exact ⟨(Keeps.of_below HB0.out).trans HX.out.2 (fun i e => .inl e), .inr ⟨k, hk, HA.out, hlk, .inl ⟨HB.out, rfl, HX.out.1⟩⟩⟩
  · have h1 := (H.out.below hbel).heap
    have hne : g' ≠ r := by have := H.out.lt; omega
    have HX := hid (H.out.setP hbel g' cp' (Lp.set k false) List.length_set hrow hne (hrow.lt k (by simpa using hk)))
    have HA := hid hnk
    have HG : Hid (w.heap.size ≤ g') := Nat.le_trans HB0.out.size hg'
    have HB := hid hb
    clear d2
    have d2 : w1.cell? ⟨r, 2, none⟩ = some (.slice (some ⟨g, 0, none⟩) Lp.length cp) := cell_of_block h1 2
    have f2 : w1.frozen? ⟨r, 2, none⟩ = false := frozen_of_block h1 2
    clear h1 hnk hrow hbel H hne hg' hb
    go_wp2_with fail
    refine hK.out _ _ d2 (fun hHeld => ?_)
    clear hK K
    try simp only [List.getElem_toArray, List.getElem_cons_succ, List.getElem_cons_zero, Act.put, List.setIfInBounds_toArray, List.set_cons_zero, List.set_cons_succ]
    refine wpAnyH_take (i := 8) (v := ?_) rfl (by kernel_rfl) (by kernel_rfl) (by kernel_rfl) (fun _ _ _ h => h) (Or.inl ⟨by rfl, ?_⟩) (by assumption) ?_
    rotate_left
    · (intro W hSw; (try dsimp only at hSw); obtain s0 := hSw; go_simp; try with_reducible rfl)
    try simp only [List.getElem_toArray, List.getElem_cons_succ, List.getElem_cons_zero, Act.put, List.setIfInBounds_toArray, List.set_cons_zero, List.set_cons_succ]
    refine wpAnyH_take (i := 9) (v := ?_) rfl (by kernel_rfl) (by kernel_rfl) (by kernel_rfl) (fun _ _ _ h => h) (Or.inl ⟨by rfl, ?_⟩) (by assumption) ?_
    rotate_left
    · (intro W hSw; (try dsimp only at hSw); obtain s0 := hSw; go_simp; try with_reducible rfl)
    try simp only [List.getElem_toArray, List.getElem_cons_succ, List.getElem_cons_zero, Act.put, List.setIfInBounds_toArray, List.set_cons_zero, List.set_cons_succ]
    refine wpAnyH_take (i := 10) (v := ?_) rfl (by kernel_rfl) (by kernel_rfl) (by kernel_rfl) (fun _ _ _ h => h) (Or.inl ⟨by rfl, ?_⟩) (by assumption) ?_
    rotate_left
    · (intro W hSw; (try dsimp only at hSw); obtain s0 := hSw; go_simp; try with_reducible rfl)
    try simp only [List.getElem_toArray, List.getElem_cons_succ, List.getElem_cons_zero, Act.put, List.setIfInBounds_toArray, List.set_cons_zero, List.set_cons_succ]
    refine wpAnyH_take (i := 11) (v := ?_) rfl (by kernel_rfl) (by kernel_rfl) (by kernel_rfl) (fun _ _ _ h => h) (Or.inl ⟨by rfl, ?_⟩) (by assumption) ?_
    rotate_left
    · (intro W hSw; (try dsimp only at hSw); obtain s0 := hSw; go_simp; try with_reducible rfl)
    try simp only [List.getElem_toArray, List.getElem_cons_succ, List.getElem_cons_zero, Act.put, List.setIfInBounds_toArray, List.set_cons_zero, List.set_cons_succ]
    refine wpAnyH_take (i := 12) (v := ?_) rfl (by kernel_rfl) (by kernel_rfl) (by kernel_rfl) (fun _ _ _ h => h) (Or.inl ⟨by rfl, ?_⟩) (by assumption) ?_
    rotate_left
    · (intro W hSw; (try dsimp only at hSw); obtain s0 := hSw; go_simp; try with_reducible rfl)
    try simp only [List.getElem_toArray, List.getElem_cons_succ, List.getElem_cons_zero, Act.put, List.setIfInBounds_toArray, List.set_cons_zero, List.set_cons_succ]
    refine wpAnyH_done (by kernel_rfl) ?_ _
    refine NoPanic.normal ?_
    clear hHeld
    go_wp2
    go_ret
    exact ⟨(Keeps.of_below HB0.out).trans HX.out.2 (fun i e => .inl e), .inr ⟨k, hk, HA.out, hlk, .inr ⟨g', cp', HB.out, rfl, HG.out, HX.out.1⟩⟩⟩
set_option maxRecDepth 100000 in
theorem v5GiveInode_any (h : R5In w r g cp gi ci Lp Li) (n : Int) : Calls Tryz.prog 50 #[.pointer (some ⟨r, 0, none⟩), .int .i64 n] w (Give5 w r Li 1 n (fun W L g' cp' => R5In W r g cp g' cp' Lp L) gi ci) := by
  obtain ⟨c0, c1, c2, c3⟩ := h.cells
  have HT := hid (v5give_any gi ci Li (by have := h.li; omega) n 1 w h.ri)
  have H := hid h
  clear h c0 c1 c2
  go_enter Tryz.func50, Tryz.ntmps50
  go_wp2_with fail
  refine HT.out.mono ?_
  clear HT
  rintro e w1 (⟨hno, rfl, h1⟩ | ⟨k, hk, hnk, hlk, ⟨hb, rfl, h1⟩ | ⟨g', cp', hb, rfl, hg', hrow, hbel⟩⟩)
  · obtain rfl := h1.symm
    have f2 : w.frozen? ⟨r, 3, none⟩ = false := frozen_of_block H.out.heap 3
    have HA := hid hno
    have HX := hid (H.out.setI (Below.refl _ w) gi ci Li rfl H.out.ri H.out.ni H.out.gl)
    clear h1 hno H
    go_wp2
    go_ret
    exact ⟨HX.out.2, .inl ⟨HA.out, rfl, HX.out.1⟩⟩
  · obtain rfl := h1.symm
    have f2 : w.frozen? ⟨r, 3, none⟩ = false := frozen_of_block H.out.heap 3
    have HA := hid hnk
    have HB := hid hb
    have HX := hid (H.out.setI (Below.refl _ w) gi ci Li rfl H.out.ri H.out.ni H.out.gl)
    clear h1 hnk hb H
    go_wp2
    go_ret
    exact ⟨HX.out.2, .inr ⟨k, hk, HA.out, hlk, .inl ⟨HB.out, rfl, HX.out.1⟩⟩⟩
  · have h1 := (H.out.below hbel).heap
    have d2 : w1.cell? ⟨r, 3, none⟩ = some (.slice (some ⟨gi, 0, none⟩) Li.length ci) := cell_of_block h1 3
    have f2 : w1.frozen? ⟨r, 3, none⟩ = false := frozen_of_block h1 3
    have hne : g' ≠ r := by have := H.out.lt; omega
    have HX := hid (H.out.setI hbel g' cp' (Li.set k false) List.length_set hrow hne (hrow.lt k (by simpa using hk)))
    have HA := hid hnk
    have HG := hid hg'
    have HB := hid hb
    clear h1 hnk hrow hbel H hne hg' hb
    go_wp2
    go_ret
    exact ⟨HX.out.2, .inr ⟨k, hk, HA.out, hlk, .inr ⟨g', cp', HB.out, rfl, HG.out, HX.out.1⟩⟩⟩
end
end Go.Proofs.YtkkmbgjlmdddoabGreat
/- The reference's map: Used, UsedInode, Table. -/
namespace Go.Proofs.YtkkmbgjlmdddoabGreat
open Go.RowKit
section
variable {w : World} {r g cp gi ci : Nat} {Lp Li : List Bool}
end
end Go.Proofs.YtkkmbgjlmdddoabGreat
/- The reference's Make. -/
namespace Go.Proofs.YtkkmbgjlmdddoabGreat
open Go.RowKit
theorem startB_zero (N : Nat) : startB 0 N = List.replicate N false := by
  refine List.ext_getElem (by rw [length_startB, List.length_replicate]) (fun i h1 h2 => ?_)
  rw [startB_at, List.getElem_replicate]
  exact decide_eq_false (by omega)
theorem startB_set (a N : Nat) : (startB a N).set a true = startB (a + 1) N := by
  refine List.ext_getElem (by rw [List.length_set, length_startB, length_startB]) (fun i h1 h2 => ?_)
  rw [startB_at, List.getElem_set]
  split
  · rename_i e; subst e; exact (decide_eq_true (by omega)).symm
  · rw [startB_at]
    apply decide_eq_decide.2
    omega
theorem ownBl.below {w w' : World} {b : Nat} {L : List Bool} (h : ownBl w b L) (k : Below w.heap.size w w') : ownBl w' b L := below_block k h (lt_of_heap h)
theorem ownBl.row {w : World} {b : Nat} {L : List Bool} (h : ownBl w b L) : rowB w b L := fun j hj => h.cell j hj
theorem ownBl.other {w : World} {b b' : Nat} {L : List Bool} (h : ownBl w b L) (hb : b' ≠ b) (j : Nat) (v : Value) : ownBl (w.setCell ⟨b', j, none⟩ v) b L := by
  have k : Keeps (fun i => i = b') w (w.setCell ⟨b', j, none⟩ v) := (Keeps.refl _ w).grown (grown_setCell (grown_refl _ _) _ _) (fun i e => .inl (Option.some.inj e).symm)
  exact k.heap h (fun e => hb e.symm)
theorem wp_make_bls {w : World} {o : Oper} {a : Act} {K : Act → World → Prop} {Q : Exit → Act → World → Prop} (l c : Operand) (hop : o.op = Op.makeSlice 86 l c)
    (n : Nat) (hl : a.eval l = .int .i64 n) (hc : a.eval c = .int .i64 n) (hm : n ≤ 4096)
    (h : ∀ w1 : World, Below w.heap.size w w1 → ownBl w1 w.heap.size (startB 0 n) → w1.heap.size = w.heap.size + 1 → K (a.put o.dst (.slice (some ⟨w.heap.size, 0, none⟩) n n)) w1) : o.wp Tryz.prog a w K Q := by
  obtain ⟨i, hi, hz, hs, hb⟩ := info_parts infoBl
  have hrun := run_make (P := Tryz.prog) w 86 4 i (.bool false) Tryz.underlying86 hi hz .i64 .i64 n n (by omega) (by omega) (by rw [hb]; omega) (by omega)
  unfold Oper.wp
  have hown : ownBl (w.alloc (.cells (List.replicate n (Value.bool false)).toArray 4)) w.heap.size (startB 0 n) := by
    rw [startB_zero]
    unfold ownBl
    rw [List.map_replicate]; exact block_new _ _
  simp only [Int.toNat_natCast, hs, madeBl] at hrun
  generalize (List.replicate n (Value.bool false)).toArray = Z at *
  simp [execOp, hop, hl, hc, hrun, Result.andThen]
  exact h _ ((Below.refl _ _).alloc (Nat.le_refl _) _) hown (by simp)
/-- The map while it is made: j of the pages are set. -/
structure MkIn (w wr : World) (r g gi N k j : Nat) : Prop where
  heap : wr.heap[r]? = some (.cells #[.int .i64 N, .int .i64 k, .slice (some ⟨g, 0, none⟩) N N, .slice (some ⟨gi, 0, none⟩) k k] 88 (0, 0))
  p : ownBl wr g (startB j N)
  i : ownBl wr gi (startB 0 k)
  out : Below w.heap.size w wr
  r0 : w.heap.size ≤ r
  g0 : w.heap.size ≤ g
  i0 : w.heap.size ≤ gi
  ne : g ≠ r ∧ gi ≠ r ∧ g ≠ gi
theorem MkIn.r5 {w wr : World} {r g gi N k j : Nat} (h : MkIn w wr r g gi N k j) (hN : N ≤ 4096) (hk : k ≤ 512) : R5In wr r g N gi k (startB j N) (startB 0 k) := by
  refine ⟨?_, h.p.row, h.i.row, h.ne.1, h.ne.2.1, by rw [length_startB]; exact hN, by rw [length_startB]; exact hk, lt_of_heap h.p, lt_of_heap h.i⟩
  rw [length_startB, length_startB]; exact h.heap
theorem MkIn.next {w wr : World} {r g gi N k j : Nat} (h : MkIn w wr r g gi N k j) : MkIn w (wr.setCell ⟨g, j, none⟩ (.bool true)) r g gi N k (j + 1) := by
  have kk : Keeps (fun i => i = g) wr (wr.setCell ⟨g, j, none⟩ (.bool true)) := (Keeps.refl _ wr).grown (grown_setCell (grown_refl _ _) _ _) (fun i e => .inl (Option.some.inj e).symm)
  refine ⟨kk.heap h.heap (fun e => h.ne.1 e.symm), ?_, h.i.other h.ne.2.2 _ _, h.out.setCell (show w.heap.size ≤ Addr.block ⟨g, j, none⟩ from h.g0) _, h.r0, h.g0, h.i0, h.ne⟩
  have h1 := h.p.set j true
  rw [startB_set] at h1
  exact h1
theorem MkIn.last {w wr : World} {r g gi N k j : Nat} (h : MkIn w wr r g gi N k j) (hN : N ≤ 4096) (hk : k ≤ 512) :
    Below w.heap.size w (wr.setCell ⟨gi, 0, none⟩ (.bool true)) ∧ w.heap.size ≤ r ∧ w.heap.size ≤ g ∧ w.heap.size ≤ gi ∧ R5In (wr.setCell ⟨gi, 0, none⟩ (.bool true)) r g N gi k (startB j N) (startB 1 k) := by
  have kk : Keeps (fun i => i = gi) wr (wr.setCell ⟨gi, 0, none⟩ (.bool true)) := (Keeps.refl _ wr).grown (grown_setCell (grown_refl _ _) _ _) (fun i e => .inl (Option.some.inj e).symm)
  have h1 := h.i.set 0 true
  rw [startB_set] at h1
  have hp := h.p.other (fun e => h.ne.2.2 e.symm) 0 (.bool true)
  refine ⟨h.out.setCell (show w.heap.size ≤ Addr.block ⟨gi, 0, none⟩ from h.i0) _, h.r0, h.g0, h.i0, ?_, hp.row, h1.row, h.ne.1, h.ne.2.1, by rw [length_startB]; exact hN, by rw [length_startB]; exact hk, lt_of_heap hp, lt_of_heap h1⟩
  rw [length_startB, length_startB]
  exact kk.heap h.heap (fun e => h.ne.2.1 e.symm)
/-- What the reference's Make tells. -/
def Made5 (w : World) (N : Nat) (ino : Int) (e : Ending) (w' : World) : Prop :=
  Below w.heap.size w w' ∧ ((¬ mayP N ino ∧ e = .returned (.tuple #[.pointer none, .int .i64 2])) ∨
    ∃ (k r g gi : Nat), ino = (k : Int) ∧ mayP N ino ∧ e = .returned (.tuple #[.pointer (some ⟨r, 0, none⟩), .int .i64 0]) ∧ w.heap.size ≤ r ∧ w.heap.size ≤ g ∧ w.heap.size ≤ gi ∧ R5In w' r g N gi k (startB (3 + k / 8) N) (startB 1 k))
set_option maxRecDepth 100000 in
set_option maxHeartbeats 2000000 in
theorem v5Make_any (N : Nat) (ino : Int) (hN : N ≤ 4096) (w : World) : Calls Tryz.prog 20 #[.int .i64 N, .int .i64 ino] w (Made5 w N ino) := by
  by_cases h1 : ino < 8
  · go_enter Tryz.func20, Tryz.ntmps20
    go_wp2
    go_returns
    exact ⟨Below.refl _ w, .inl ⟨fun h => by unfold mayP at h; omega, rfl⟩⟩
  · by_cases h2 : 512 < ino
    · go_enter Tryz.func20, Tryz.ntmps20
      go_wp2
      go_returns
      exact ⟨Below.refl _ w, .inl ⟨fun h => by unfold mayP at h; omega, rfl⟩⟩
    · obtain ⟨k, rfl⟩ : ∃ k : Nat, ino = (k : Int) := ⟨ino.toNat, by omega⟩
      have h4 : (N : Int) ≤ 4096 := by omega
      have hk5 : k ≤ 512 := by omega
      by_cases h3 : (k : Int) % 8 = 0
      · by_cases h5 : (N : Int) ≤ 3 + (k : Int) / 8
        · go_enter Tryz.func20, Tryz.ntmps20
          go_wp2
          go_returns
          exact ⟨Below.refl _ w, .inl ⟨fun h => by unfold mayP at h; omega, rfl⟩⟩
        · have HMy : Hid (mayP N (k : Int)) := ⟨by omega, by omega, h3, by omega, hN⟩
          have hf3 : 3 + k / 8 < N := by omega
          go_enter Tryz.func20, Tryz.ntmps20
          go_wp2
          have hb0 : Below w.heap.size w w.drew := (Below.refl _ w).drew
          refine wp_region_noPanic ?_
          refine wp_region_held_drew (S := fun _ => True) (by kernel_rfl) trivial (fun hHeld => ?_)
          generalize w.drew = wd at *
          refine wpAnyH_take (i := 0) (v := ?_) rfl (by kernel_rfl) (by kernel_rfl) (by kernel_rfl) (fun _ _ _ h => h) (Or.inl ⟨by rfl, ?_⟩) (by assumption) ?_
          rotate_left
          · (intro W hSw; (try dsimp only at hSw); obtain _ := hSw; go_simp; try with_reducible rfl)
          try simp only [List.getElem_toArray, List.getElem_cons_zero, Act.put, List.setIfInBounds_toArray, List.set_cons_zero, List.set_cons_succ]
          refine wpAnyH_take (i := 1) (v := ?_) rfl (by kernel_rfl) (by kernel_rfl) (by kernel_rfl) (fun _ _ _ h => h) (Or.inl ⟨by rfl, ?_⟩) (by assumption) ?_
          rotate_left
          · (intro W hSw; (try dsimp only at hSw); obtain _ := hSw; go_simp; try with_reducible rfl)
          try simp only [List.getElem_toArray, List.getElem_cons_succ, List.getElem_cons_zero, Act.put, List.setIfInBounds_toArray, List.set_cons_zero, List.set_cons_succ]
          refine wpAnyH_take (i := 2) (v := ?_) rfl (by kernel_rfl) (by kernel_rfl) (by kernel_rfl) (fun _ _ _ h => h) (Or.inl ⟨by rfl, ?_⟩) (by assumption) ?_
          rotate_left
          · (intro W hSw; (try dsimp only at hSw); obtain _ := hSw; go_simp; try with_reducible rfl)
          try simp only [List.getElem_toArray, List.getElem_cons_succ, List.getElem_cons_zero, Act.put, List.setIfInBounds_toArray, List.set_cons_zero, List.set_cons_succ]
          refine wpAnyH_take (i := 4) (v := ?_) rfl (by kernel_rfl) (by kernel_rfl) (by kernel_rfl) (fun _ _ _ h => h) (Or.inl ⟨by rfl, ?_⟩) (by assumption) ?_
          rotate_left
          · (intro W hSw; (try dsimp only at hSw); obtain _ := hSw; go_simp; try with_reducible rfl)
          try simp only [List.getElem_toArray, List.getElem_cons_succ, List.getElem_cons_zero, Act.put, List.setIfInBounds_toArray, List.set_cons_zero, List.set_cons_succ]
          refine wpAnyH_ready (rs := [3, 5]) (by kernel_rfl) (by simp) (AllReadyH.cons rfl (fun K hK => ?_) (AllReadyH.cons rfl (fun K hK => ?_) AllReadyH.nil))
          · rw [if_pos (by rfl)]
            refine wp_make_bls (.tmp 32) (.tmp 32) rfl N rfl rfl hN ?_
            intro w4 hb4 ho4 hz4
            refine hK.out _ _ trivial (fun hHeld => ?_)
            clear hK K
            try simp only [List.getElem_toArray, List.getElem_cons_succ, List.getElem_cons_zero, Act.put, List.setIfInBounds_toArray, List.set_cons_zero, List.set_cons_succ]
            refine wpAnyH_ready (rs := [5]) (by kernel_rfl) (by simp) (AllReadyH.cons rfl (fun K hK => ?_) AllReadyH.nil)
            rw [if_pos (by rfl)]
            refine wp_make_bls (.tmp 34) (.tmp 34) rfl k rfl rfl (by omega) ?_
            intro w5 hb5 ho5 hz5
            refine hK.out _ _ trivial (fun hHeld => ?_)
            clear hK K
            try simp only [List.getElem_toArray, List.getElem_cons_succ, List.getElem_cons_zero, Act.put, List.setIfInBounds_toArray, List.set_cons_zero, List.set_cons_succ]
            obtain ⟨g, hg⟩ : ∃ g, g = wd.heap.size := ⟨_, rfl⟩
            obtain ⟨gi, hgi⟩ : ∃ gi, gi = w4.heap.size := ⟨_, rfl⟩
            rw [← hg] at ho4 ⊢
            rw [← hgi] at ho5 ⊢
            have HG := hid (ho4.below hb5)
            have HI := hid ho5
            have hs0 := hb0.size
            have HB5 : Hid (Below w.heap.size w w5) := (hb0.trans (hb4.mono hs0)).trans (hb5.mono (by omega))
            have HS : Hid (w.heap.size ≤ g ∧ w.heap.size ≤ gi ∧ g ≠ gi) := ⟨by omega, by omega, by omega⟩
            clear ho4 ho5 hb4 hb5 hz4 hz5 hg hgi hb0 hs0
            refine wpAnyH_take (i := 6) (v := ?_) rfl (by kernel_rfl) (by kernel_rfl) (by kernel_rfl) (fun _ _ _ h => h) (Or.inl ⟨by rfl, ?_⟩) (by assumption) ?_
            rotate_left
            · (intro W hSw; (try dsimp only at hSw); obtain _ := hSw; go_simp; try with_reducible rfl)
            try simp only [List.getElem_toArray, List.getElem_cons_succ, List.getElem_cons_zero, Act.put, List.setIfInBounds_toArray, List.set_cons_zero, List.set_cons_succ]
            refine wpAnyH_ready (rs := [7]) (by kernel_rfl) (by simp) (AllReadyH.cons rfl (fun K hK => ?_) AllReadyH.nil)
            rw [if_pos (by rfl)]
            unfold Oper.wp
            go_simp
            have hal : Below w5.heap.size w5 (w5.alloc (.cells #[.int .i64 N, .int .i64 k, .slice (some ⟨g, 0, none⟩) N N, .slice (some ⟨gi, 0, none⟩) k k] 88)) := (Below.refl _ w5).alloc (Nat.le_refl _) _
            have HM0 : Hid (MkIn w (w5.alloc (.cells #[.int .i64 N, .int .i64 k, .slice (some ⟨g, 0, none⟩) N N, .slice (some ⟨gi, 0, none⟩) k k] 88)) w5.heap.size g gi N k 0) :=
              ⟨block_new w5 _, HG.out.below hal, HI.out.below hal, HB5.out.trans (hal.mono HB5.out.size), HB5.out.size, HS.out.1, HS.out.2.1, ⟨by have := lt_of_heap HG.out; omega, by have := lt_of_heap HI.out; omega, HS.out.2.2⟩⟩
            clear hal HG HI HB5 HS
            generalize w5.alloc (.cells #[.int .i64 N, .int .i64 k, .slice (some ⟨g, 0, none⟩) N N, .slice (some ⟨gi, 0, none⟩) k k] 88) = w6 at *
            generalize w5.heap.size = r at *
            refine hK.out _ _ trivial (fun hHeld => ?_)
            clear hK K
            try simp only [List.getElem_toArray, List.getElem_cons_succ, List.getElem_cons_zero, Act.put, List.setIfInBounds_toArray, List.set_cons_zero, List.set_cons_succ]
            refine wpAnyH_take (i := 8) (v := ?_) rfl (by kernel_rfl) (by kernel_rfl) (by kernel_rfl) (fun _ _ _ h => h) (Or.inl ⟨by rfl, ?_⟩) (by assumption) ?_
            rotate_left
            · (intro W hSw; (try dsimp only at hSw); obtain _ := hSw; go_simp; try with_reducible rfl)
            try simp only [List.getElem_toArray, List.getElem_cons_succ, List.getElem_cons_zero, Act.put, List.setIfInBounds_toArray, List.set_cons_zero, List.set_cons_succ]
            refine wpAnyH_done (by kernel_rfl) ?_ _
            refine NoPanic.normal ?_
            clear hHeld
            go_wp2
            go_loopw [7] (fun nv wr => ∃ j : Nat, j ≤ 3 + k / 8 ∧ nv = .int .i64 j ∧ Hid (MkIn w wr r g gi N k j)) (fun nv _ => 3 + k / 8 - (intOf nv).toNat)
            case atStart => exact ⟨0, by omega, rfl, HM0⟩
            case round =>
              obtain ⟨j, hj, rfl, HMj⟩ := hrel
              clear HM0
              have hFi := v5First_any (HMj.out.r5 hN hk5)
              rw [length_startB] at hFi
              obtain ⟨f, hf⟩ : ∃ f, f = 3 + k / 8 := ⟨_, rfl⟩
              rw [← hf] at hFi hj hf3 ⊢
              have HFi := hid hFi
              have HFe := hid hf
              clear hFi hf
              by_cases hlt : j < f
              · have hlt' : (j : Int) < (f : Int) := by omega
                have hj0 : (0 : Int) ≤ (j : Int) := by omega
                have hjN : (j : Int) < (N : Int) := by omega
                have c2 : wr.cell? ⟨r, 2, none⟩ = some (.slice (some ⟨g, 0, none⟩) N N) := cell_of_block HMj.out.heap 2
                have c3 : wr.cell? ⟨g, j, none⟩ = some (.bool false) := by
                  rw [HMj.out.p.cell j (by rw [length_startB]; omega), startB_at]
                  congr 2; exact decide_eq_false (by omega)
                have f3 : wr.frozen? ⟨g, j, none⟩ = false := frozen_of_block HMj.out.p _
                go_wp2_with fail
                refine HFi.out.mono ?_
                clear HFi
                rintro e w7 ⟨rfl, h7⟩
                obtain rfl := h7.symm
                clear h7
                have HM2 := hid HMj.out.next
                clear HMj
                go_wp2
                exact ⟨⟨j + 1, by omega, by go_num, HM2⟩, by simp [intOf]; omega⟩
              · obtain rfl : j = f := by omega
                have hge : ¬ ((j : Int) < (j : Int)) := by omega
                have c2 : wr.cell? ⟨r, 3, none⟩ = some (.slice (some ⟨gi, 0, none⟩) k k) := cell_of_block HMj.out.heap 3
                have c3 : wr.cell? ⟨gi, 0, none⟩ = some (.bool false) := by
                  rw [HMj.out.i.cell 0 (by rw [length_startB]; omega), startB_at]
                  congr 2
                have f3 : wr.frozen? ⟨gi, 0, none⟩ = false := frozen_of_block HMj.out.i _
                have hk0 : (0 : Int) < (k : Int) := by omega
                go_wp2_with fail
                refine HFi.out.mono ?_
                clear HFi
                rintro e w7 ⟨rfl, h7⟩
                obtain rfl := h7.symm
                clear h7
                have HLs := hid HMj.out.last
                clear HMj
                go_wp2
                go_returns
                have h8 := HLs.out hN hk5
                rw [HFe.out] at h8
                exact ⟨h8.1, .inr ⟨k, r, g, gi, rfl, HMy.out, rfl, h8.2.1, h8.2.2.1, h8.2.2.2.1, h8.2.2.2.2⟩⟩
          · rw [if_pos (by rfl)]
            refine wp_make_bls (.tmp 34) (.tmp 34) rfl k rfl rfl (by omega) ?_
            intro w4 hb4 ho4 hz4
            refine hK.out _ _ trivial (fun hHeld => ?_)
            clear hK K
            try simp only [List.getElem_toArray, List.getElem_cons_succ, List.getElem_cons_zero, Act.put, List.setIfInBounds_toArray, List.set_cons_zero, List.set_cons_succ]
            refine wpAnyH_ready (rs := [3]) (by kernel_rfl) (by simp) (AllReadyH.cons rfl (fun K hK => ?_) AllReadyH.nil)
            rw [if_pos (by rfl)]
            refine wp_make_bls (.tmp 32) (.tmp 32) rfl N rfl rfl hN ?_
            intro w5 hb5 ho5 hz5
            refine hK.out _ _ trivial (fun hHeld => ?_)
            clear hK K
            try simp only [List.getElem_toArray, List.getElem_cons_succ, List.getElem_cons_zero, Act.put, List.setIfInBounds_toArray, List.set_cons_zero, List.set_cons_succ]
            obtain ⟨gi, hgi⟩ : ∃ gi, gi = wd.heap.size := ⟨_, rfl⟩
            obtain ⟨g, hg⟩ : ∃ g, g = w4.heap.size := ⟨_, rfl⟩
            rw [← hgi] at ho4 ⊢
            rw [← hg] at ho5 ⊢
            have HI := hid (ho4.below hb5)
            have HG := hid ho5
            have hs0 := hb0.size
            have HB5 : Hid (Below w.heap.size w w5) := (hb0.trans (hb4.mono hs0)).trans (hb5.mono (by omega))
            have HS : Hid (w.heap.size ≤ g ∧ w.heap.size ≤ gi ∧ g ≠ gi) := ⟨by omega, by omega, by omega⟩
            clear ho4 ho5 hb4 hb5 hz4 hz5 hg hgi hb0 hs0
            refine wpAnyH_take (i := 6) (v := ?_) rfl (by kernel_rfl) (by kernel_rfl) (by kernel_rfl) (fun _ _ _ h => h) (Or.inl ⟨by rfl, ?_⟩) (by assumption) ?_
            rotate_left
            · (intro W hSw; (try dsimp only at hSw); obtain _ := hSw; go_simp; try with_reducible rfl)
            try simp only [List.getElem_toArray, List.getElem_cons_succ, List.getElem_cons_zero, Act.put, List.setIfInBounds_toArray, List.set_cons_zero, List.set_cons_succ]
            refine wpAnyH_ready (rs := [7]) (by kernel_rfl) (by simp) (AllReadyH.cons rfl (fun K hK => ?_) AllReadyH.nil)
            rw [if_pos (by rfl)]
            unfold Oper.wp
            go_simp
            have hal : Below w5.heap.size w5 (w5.alloc (.cells #[.int .i64 N, .int .i64 k, .slice (some ⟨g, 0, none⟩) N N, .slice (some ⟨gi, 0, none⟩) k k] 88)) := (Below.refl _ w5).alloc (Nat.le_refl _) _
            have HM0 : Hid (MkIn w (w5.alloc (.cells #[.int .i64 N, .int .i64 k, .slice (some ⟨g, 0, none⟩) N N, .slice (some ⟨gi, 0, none⟩) k k] 88)) w5.heap.size g gi N k 0) :=
              ⟨block_new w5 _, HG.out.below hal, HI.out.below hal, HB5.out.trans (hal.mono HB5.out.size), HB5.out.size, HS.out.1, HS.out.2.1, ⟨by have := lt_of_heap HG.out; omega, by have := lt_of_heap HI.out; omega, HS.out.2.2⟩⟩
            clear hal HG HI HB5 HS
            generalize w5.alloc (.cells #[.int .i64 N, .int .i64 k, .slice (some ⟨g, 0, none⟩) N N, .slice (some ⟨gi, 0, none⟩) k k] 88) = w6 at *
            generalize w5.heap.size = r at *
            refine hK.out _ _ trivial (fun hHeld => ?_)
            clear hK K
            try simp only [List.getElem_toArray, List.getElem_cons_succ, List.getElem_cons_zero, Act.put, List.setIfInBounds_toArray, List.set_cons_zero, List.set_cons_succ]
            refine wpAnyH_take (i := 8) (v := ?_) rfl (by kernel_rfl) (by kernel_rfl) (by kernel_rfl) (fun _ _ _ h => h) (Or.inl ⟨by rfl, ?_⟩) (by assumption) ?_
            rotate_left
            · (intro W hSw; (try dsimp only at hSw); obtain _ := hSw; go_simp; try with_reducible rfl)
            try simp only [List.getElem_toArray, List.getElem_cons_succ, List.getElem_cons_zero, Act.put, List.setIfInBounds_toArray, List.set_cons_zero, List.set_cons_succ]
            refine wpAnyH_done (by kernel_rfl) ?_ _
            refine NoPanic.normal ?_
            clear hHeld
            go_wp2
            go_loopw [7] (fun nv wr => ∃ j : Nat, j ≤ 3 + k / 8 ∧ nv = .int .i64 j ∧ Hid (MkIn w wr r g gi N k j)) (fun nv _ => 3 + k / 8 - (intOf nv).toNat)
            case atStart => exact ⟨0, by omega, rfl, HM0⟩
            case round =>
              obtain ⟨j, hj, rfl, HMj⟩ := hrel
              clear HM0
              have hFi := v5First_any (HMj.out.r5 hN hk5)
              rw [length_startB] at hFi
              obtain ⟨f, hf⟩ : ∃ f, f = 3 + k / 8 := ⟨_, rfl⟩
              rw [← hf] at hFi hj hf3 ⊢
              have HFi := hid hFi
              have HFe := hid hf
              clear hFi hf
              by_cases hlt : j < f
              · have hlt' : (j : Int) < (f : Int) := by omega
                have hj0 : (0 : Int) ≤ (j : Int) := by omega
                have hjN : (j : Int) < (N : Int) := by omega
                have c2 : wr.cell? ⟨r, 2, none⟩ = some (.slice (some ⟨g, 0, none⟩) N N) := cell_of_block HMj.out.heap 2
                have c3 : wr.cell? ⟨g, j, none⟩ = some (.bool false) := by
                  rw [HMj.out.p.cell j (by rw [length_startB]; omega), startB_at]
                  congr 2; exact decide_eq_false (by omega)
                have f3 : wr.frozen? ⟨g, j, none⟩ = false := frozen_of_block HMj.out.p _
                go_wp2_with fail
                refine HFi.out.mono ?_
                clear HFi
                rintro e w7 ⟨rfl, h7⟩
                obtain rfl := h7.symm
                clear h7
                have HM2 := hid HMj.out.next
                clear HMj
                go_wp2
                exact ⟨⟨j + 1, by omega, by go_num, HM2⟩, by simp [intOf]; omega⟩
              · obtain rfl : j = f := by omega
                have hge : ¬ ((j : Int) < (j : Int)) := by omega
                have c2 : wr.cell? ⟨r, 3, none⟩ = some (.slice (some ⟨gi, 0, none⟩) k k) := cell_of_block HMj.out.heap 3
                have c3 : wr.cell? ⟨gi, 0, none⟩ = some (.bool false) := by
                  rw [HMj.out.i.cell 0 (by rw [length_startB]; omega), startB_at]
                  congr 2
                have f3 : wr.frozen? ⟨gi, 0, none⟩ = false := frozen_of_block HMj.out.i _
                have hk0 : (0 : Int) < (k : Int) := by omega
                go_wp2_with fail
                refine HFi.out.mono ?_
                clear HFi
                rintro e w7 ⟨rfl, h7⟩
                obtain rfl := h7.symm
                clear h7
                have HLs := hid HMj.out.last
                clear HMj
                go_wp2
                go_returns
                have h8 := HLs.out hN hk5
                rw [HFe.out] at h8
                exact ⟨h8.1, .inr ⟨k, r, g, gi, rfl, HMy.out, rfl, h8.2.1, h8.2.2.1, h8.2.2.2.1, h8.2.2.2.2⟩⟩
      · go_enter Tryz.func20, Tryz.ntmps20
        go_wp2
        go_returns
        exact ⟨Below.refl _ w, .inl ⟨fun h => by unfold mayP at h; omega, rfl⟩⟩
end Go.Proofs.YtkkmbgjlmdddoabGreat
/- A map and the reference's beside one another: each call on both. -/
namespace Go.Proofs.YtkkmbgjlmdddoabGreat
open Go.RowKit
/-- A map and the reference's that tell the same: P blocks besides, dl pages at most were written, t steps at most. -/
structure PrIn (w wr : World) (c m r : Nat) (P F : Nat → Prop) (size N k : Nat) (Lp Li : List Bool) (dl t : Nat) (g cp gi ci : Nat) (Pg Cm : Nat → List UInt8) (D : Int → Bool) (o u : Nat) : Prop where
  out : Below w.heap.size w wr
  new : ∀ i, F i → w.heap.size ≤ i
  off : ¬ F m
  map : mapB wr m c k
  pc : Pc wr c F size N Pg Cm D o u
  ref : R5In wr r g cp gi ci Lp Li
  offr : ¬ F r ∧ ¬ F g ∧ ¬ F gi
  newr : w.heap.size ≤ r
  lp : Lp.length = N
  li : Li.length = k
  b0 : Pg 0 = superL N k
  b1 : Rel (Pg 1) 1 Li
  b2 : Rel (Pg 2) (3 + k / 8) Lp
  may : mayP N k
  n5 : N ≤ 519
  dirt : (dkD N D).length ≤ dl
  ops : o ≤ 20 * t
  uses : u ≤ 10 * t
  box : ∀ i, P i → ¬ F i ∧ i ≠ r ∧ i < wr.heap.size
def PrAt (w wr : World) (c m r : Nat) (P : Nat → Prop) (size N k : Nat) (Lp Li : List Bool) (dl t : Nat) : Prop := ∃ F g cp gi ci Pg Cm D o u, PrIn w wr c m r P F size N k Lp Li dl t g cp gi ci Pg Cm D o u
/-- Blocks besides stay. -/
def PBx (P : Nat → Prop) (w w' : World) : Prop := ∀ i, P i → ∀ ob, w.heap[i]? = some ob → w'.heap[i]? = some ob
section
variable {w wr w1 w2 : World} {c m r : Nat} {P F : Nat → Prop} {size N k : Nat} {Lp Li Lp' Li' : List Bool} {dl dl' t : Nat} {g cp gi ci g' cp' gi' ci' : Nat} {Pg Cm Pg' : Nat → List UInt8} {D D' : Int → Bool} {o u u' : Nat}
theorem PrIn.step (h : PrIn w wr c m r P F size N k Lp Li dl t g cp gi ci Pg Cm D o u) (hk : Keeps F wr w1) (hk2 : Keeps (fun i => i = r) w1 w2) (hp : Pc w1 c F size N Pg' Cm D' o u') (hr : R5In w2 r g' cp' gi' ci' Lp' Li') (hg : g' = g ∨ w1.heap.size ≤ g') (hi : gi' = gi ∨ w1.heap.size ≤ gi')
    (hl : Lp'.length = Lp.length) (hli : Li'.length = Li.length) (b0 : Pg' 0 = Pg 0) (b1 : Rel (Pg' 1) 1 Li') (b2 : Rel (Pg' 2) (3 + k / 8) Lp') (hd : (dkD N D').length ≤ dl') (hu : u' ≤ u + 2) : PrIn w w2 c m r P F size N k Lp' Li' dl' (t + 1) g' cp' gi' ci' Pg' Cm D' o u' := by
  have hr1 := h.ref.keep hk h.offr.1 h.offr.2.1 h.offr.2.2
  have hm1 := h.map.keep hk h.off
  have hnew : ∀ j, w1.heap.size ≤ j → ¬ F j := fun j hj hf => by have := hp.lt j hf; omega
  have hu2 := h.uses
  have ho2 := h.ops
  refine ⟨(h.out.trans (hk.below h.out.size h.new)).trans (hk2.below (Nat.le_trans h.out.size hk.size) (fun i e => by have e' : i = r := e; have := h.newr; omega)), h.new, h.off, hm1.keep hk2 (fun e => ?_), hp.keepY hr1.off h.offr.1 hk2, hr, ⟨h.offr.1, ?_, ?_⟩, h.newr, hl.trans h.lp, hli.trans h.li, b0.trans h.b0, b1, b2, h.may, h.n5, hd, by omega, by omega, fun i hi => ?_⟩
  · have e' : m = r := e
    have h1 := hm1
    unfold mapB at h1
    rw [e', hr1.heap] at h1
    simp at h1
  · rcases hg with rfl | hg
    · exact h.offr.2.1
    · exact hnew _ hg
  · rcases hi with rfl | hi
    · exact h.offr.2.2
    · exact hnew _ hi
  · have h1 := h.box i hi
    have h2 := hk.size
    have h3 := hk2.size
    exact ⟨h1.1, h1.2.1, by omega⟩
theorem PrIn.bx (h : PrIn w wr c m r P F size N k Lp Li dl t g cp gi ci Pg Cm D o u) (hk : Keeps F wr w1) : PBx P wr w1 := fun i hi _ ho => hk.heap ho (h.box i hi).1
theorem PrIn.bx2 (h : PrIn w wr c m r P F size N k Lp Li dl t g cp gi ci Pg Cm D o u) (hk : Keeps F wr w1) (hk2 : Keeps (fun i => i = r) w1 w2) : PBx P wr w2 := fun i hi _ ho => hk2.heap (hk.heap ho (h.box i hi).1) (h.box i hi).2.1
theorem PrAt.below (h : PrAt w wr c m r P size N k Lp Li dl t) (hb : Below wr.heap.size wr w1) : PrAt w w1 c m r P size N k Lp Li dl t := by
  obtain ⟨F, g, cp, gi, ci, Pg, Cm, D, o, u, h⟩ := h
  exact ⟨F, g, cp, gi, ci, Pg, Cm, D, o, u, h.out.trans (hb.mono h.out.size), h.new, h.off, h.map.below hb, h.pc.below hb, h.ref.below hb, h.offr, h.newr, h.lp, h.li, h.b0, h.b1, h.b2, h.may, h.n5, h.dirt, h.ops, h.uses, fun i hi => ⟨(h.box i hi).1, (h.box i hi).2.1, Nat.lt_of_lt_of_le (h.box i hi).2.2 hb.size⟩⟩
theorem PrAt.more {t' : Nat} (h : PrAt w wr c m r P size N k Lp Li dl t) (hd : dl ≤ dl') (ht : t ≤ t') : PrAt w wr c m r P size N k Lp Li dl' t' := by
  obtain ⟨F, g, cp, gi, ci, Pg, Cm, D, o, u, h⟩ := h
  have h1 := h.ops
  have h2 := h.uses
  have h3 := h.dirt
  exact ⟨F, g, cp, gi, ci, Pg, Cm, D, o, u, h.out, h.new, h.off, h.map, h.pc, h.ref, h.offr, h.newr, h.lp, h.li, h.b0, h.b1, h.b2, h.may, h.n5, by omega, by omega, by omega, h.box⟩
theorem PrAt.drop (h : PrAt w wr c m r P size N k Lp Li dl t) : PrAt w wr c m r (fun _ => False) size N k Lp Li dl t := by
  obtain ⟨F, g, cp, gi, ci, Pg, Cm, D, o, u, h⟩ := h
  exact ⟨F, g, cp, gi, ci, Pg, Cm, D, o, u, h.out, h.new, h.off, h.map, h.pc, h.ref, h.offr, h.newr, h.lp, h.li, h.b0, h.b1, h.b2, h.may, h.n5, h.dirt, h.ops, h.uses, fun i hi => hi.elim⟩
theorem PrAt.boxed (h : PrAt w wr c m r (fun _ => False) size N k Lp Li dl t) (ob : Obj) : PrAt w (wr.alloc ob) c m r (fun i => i = wr.heap.size) size N k Lp Li dl t := by
  have hb : Below wr.heap.size wr (wr.alloc ob) := (Below.refl _ wr).alloc (Nat.le_refl _) ob
  obtain ⟨F, g, cp, gi, ci, Pg, Cm, D, o, u, h⟩ := h
  refine ⟨F, g, cp, gi, ci, Pg, Cm, D, o, u, h.out.trans (hb.mono h.out.size), h.new, h.off, h.map.below hb, h.pc.below hb, h.ref.below hb, h.offr, h.newr, h.lp, h.li, h.b0, h.b1, h.b2, h.may, h.n5, h.dirt, h.ops, h.uses, fun i hi => ?_⟩
  have e : i = wr.heap.size := hi
  have h1 := h.ref.lt
  exact ⟨fun hf => by have := h.pc.lt i hf; omega, by omega, by simp; omega⟩
theorem PrAt.out (h : PrAt w wr c m r P size N k Lp Li dl t) : Below w.heap.size w wr := by
  obtain ⟨F, g, cp, gi, ci, Pg, Cm, D, o, u, h⟩ := h
  exact h.out
theorem first_false : ∀ B : List Bool, (∀ j (hj : j < B.length), B[j] = true) ∨ ∃ (n : Nat) (hn : n < B.length), B[n] = false ∧ ∀ j (hj : j < n), B[j] = true
  | [] => .inl (fun j hj => by simp at hj)
  | false :: l => .inr ⟨0, by simp, rfl, fun j hj => by omega⟩
  | true :: l => by
    rcases first_false l with h | ⟨n, hn, hb, ht⟩
    · refine .inl (fun j hj => ?_)
      cases j with
      | zero => rfl
      | succ j => exact h j (by simpa using hj)
    · refine .inr ⟨n + 1, by simpa using hn, hb, fun j hj => ?_⟩
      cases j with
      | zero => rfl
      | succ j => exact ht j (by omega)
theorem first_same {B : List Bool} {n n' : Nat} (hn : n < B.length) (hn' : n' < B.length) (h1 : B[n] = false) (h2 : ∀ j (hj : j < n), B[j] = true) (h3 : B[n'] = false) (h4 : ∀ j (hj : j < n'), B[j] = true) : n = n' := by
  rcases Nat.lt_trichotomy n n' with h | h | h
  · have := h4 n h; rw [h1] at this; cases this
  · exact h
  · have := h2 n' h; rw [h3] at this; cases this
/-- What a deed leaves. -/
def PrTo (w : World) (c m r : Nat) (P : Nat → Prop) (size N k : Nat) (dl t : Nat) (w' : World) : Prop := ∃ Lp Li, PrAt w w' c m r P size N k Lp Li dl t
theorem PrAt.page (h : PrAt w wr c m r P size N k Lp Li dl t) (hd : dl + 2 ≤ min size 100) (ht : t ≤ 2000) :
    Calls Tryz.prog 7 #[.pointer (some ⟨m, 0, none⟩)] wr fun e w1 => ∃ n x : Int, e = .returned (.tuple #[.int .i64 n, .int .i64 x]) ∧ PBx P wr w1 ∧
      Calls Tryz.prog 47 #[.pointer (some ⟨r, 0, none⟩)] w1 fun e w2 => e = .returned (.tuple #[.int .i64 n, .int .i64 x]) ∧ PBx P wr w2 ∧ PrTo w c m r P size N k (dl + 2) (t + 1) w2 := by
  obtain ⟨F, g, cp, gi, ci, Pg, Cm, D, o, u, h⟩ := h
  have hu := h.uses
  have hlp := h.lp
  have hli := h.li
  have hL5 := h.n5
  have hdd := h.dirt
  have hmy := h.may
  unfold mayP at hmy
  refine (aPage_any h.map h.off (by omega) (by omega) (by omega) h.pc).mono ?_
  rintro e w1 ⟨hk, hx⟩
  have hr1 := h.ref.keep hk h.offr.1 h.offr.2.1 h.offr.2.2
  have hb2 := h.b2
  rcases first_false Lp with hall | ⟨n, hn, hbn, hlow⟩
  · have e0 := hb2.all hall
    rw [hlp] at e0
    rcases hx with ⟨-, rfl, hp⟩ | ⟨q, rest, h0, -⟩
    · refine ⟨0, 7, rfl, h.bx hk, (v5Page_any hr1).mono ?_⟩
      rintro e w2 ⟨hk2, ⟨-, rfl, hr2⟩ | ⟨n, hn, g', cp', hbn, -⟩⟩
      · exact ⟨rfl, h.bx2 hk hk2, Lp, Li, F, g, cp, gi, ci, Pg, Cm, D, o, _, h.step hk hk2 hp hr2 (.inl rfl) (.inl rfl) rfl rfl rfl h.b1 h.b2 (by omega) (by omega)⟩
      · have := hall n hn; rw [hbn] at this; cases this
    · rw [e0] at h0; cases h0
  · obtain ⟨rest0, hr0⟩ := hb2.first (by omega) n hn hbn hlow
    rw [hlp] at hr0
    rcases hx with ⟨h0, -⟩ | ⟨q, rest, h0, hx⟩
    · rw [hr0] at h0; cases h0
    obtain rfl : n = q := (List.cons.inj (hr0.symm.trans h0)).1
    have hfi := freeTo_first hr0
    have e2 : (if D 2 = true then 0 else 1) ≤ 1 := by split <;> omega
    have e3 : (if D (n : Int) = true then 0 else 1) ≤ 1 := by split <;> omega
    rcases hx with ⟨hf, -, -⟩ | ⟨-, rfl, hp⟩
    · omega
    refine ⟨n, 0, rfl, h.bx hk, (v5Page_any hr1).mono ?_⟩
    rintro e w2 ⟨hk2, ⟨hall, -, -⟩ | ⟨n', hn', g', cp', hbn', hlow', rfl, hg', hr2⟩⟩
    · have := hall n hn; rw [hbn] at this; cases this
    obtain rfl := first_same hn hn' hbn hlow hbn' hlow'
    have hf2 := hb2.flip (h.pc.len 2 (by omega)) n hn (by omega) (by omega)
    rw [hbn, Bool.not_false] at hf2
    have d1 : (dkD N (updT D 2)).length ≤ (dkD N D).length + 1 := dkD_upd1 N D 2
    have d2 := dkD_upd1 N (updT D 2) n
    refine ⟨rfl, h.bx2 hk hk2, Lp.set n true, Li, F, g', cp', gi, ci, _, Cm, _, o, _, h.step hk hk2 hp hr2 (.inr hg') (.inl rfl) List.length_set rfl ?_ ?_ ?_ (by omega) (by omega)⟩
    · unfold updP; rw [if_neg (by omega), if_neg (by omega)]
    · have e : updP (updP Pg 2 (flipL (Pg 2) n)) n (zN 512) 1 = Pg 1 := by unfold updP; rw [if_neg (by omega), if_neg (by omega)]
      rw [e]; exact h.b1
    · have e : updP (updP Pg 2 (flipL (Pg 2) n)) n (zN 512) 2 = flipL (Pg 2) n := by unfold updP; rw [if_neg (by omega), if_pos rfl]
      rw [e]; exact hf2
theorem inoC_le (Pg : Nat → List UInt8) (D : Int → Bool) (q : Nat) : inoC Pg D q ≤ 2 := by
  unfold inoC
  have a1 : (if D 1 = true then 0 else 1) ≤ 1 := by split <;> omega
  have a2 : (if inoT Pg q = Pg (3 + q / 8) then 0 else if D (3 + q / 8 : Nat) then 0 else 1) ≤ 1 := by
    split
    · omega
    · split <;> omega
  omega
theorem inoP_at (Pg : Nat → List UInt8) (q : Nat) : inoP Pg q 0 = Pg 0 ∧ inoP Pg q 1 = flipL (Pg 1) q ∧ inoP Pg q 2 = Pg 2 := by
  unfold inoP
  split
  · unfold updP
    exact ⟨by rw [if_neg (by omega)], by rw [if_pos rfl], by rw [if_neg (by omega)]⟩
  · unfold updP
    exact ⟨by rw [if_neg (by omega), if_neg (by omega)], by rw [if_neg (by omega), if_pos rfl], by rw [if_neg (by omega), if_neg (by omega)]⟩
theorem dkD_ino (N : Nat) (Pg : Nat → List UInt8) (D : Int → Bool) (q : Nat) : (dkD N (inoD Pg D q)).length ≤ (dkD N D).length + 2 := by
  have d1 : (dkD N (updT D 1)).length ≤ (dkD N D).length + 1 := dkD_upd1 N D 1
  unfold inoD
  split
  · omega
  · have d2 := dkD_upd1 N (updT D 1) (3 + q / 8)
    omega
theorem PrAt.inode (h : PrAt w wr c m r P size N k Lp Li dl t) (hd : dl + 2 ≤ min size 100) (ht : t ≤ 2000) :
    Calls Tryz.prog 8 #[.pointer (some ⟨m, 0, none⟩)] wr fun e w1 => ∃ n x : Int, e = .returned (.tuple #[.int .i64 n, .int .i64 x]) ∧ PBx P wr w1 ∧
      Calls Tryz.prog 48 #[.pointer (some ⟨r, 0, none⟩)] w1 fun e w2 => e = .returned (.tuple #[.int .i64 n, .int .i64 x]) ∧ PBx P wr w2 ∧ PrTo w c m r P size N k (dl + 2) (t + 1) w2 := by
  obtain ⟨F, g, cp, gi, ci, Pg, Cm, D, o, u, h⟩ := h
  have hu := h.uses
  have hlp := h.lp
  have hli := h.li
  have hL5 := h.n5
  have hdd := h.dirt
  have hmy := h.may
  unfold mayP at hmy
  refine (aInode_any h.map h.off (by omega) (by omega) (by omega) (by omega) (by omega) h.pc).mono ?_
  rintro e w1 ⟨hk, hx⟩
  have hr1 := h.ref.keep hk h.offr.1 h.offr.2.1 h.offr.2.2
  have hb1 := h.b1
  rcases first_false Li with hall | ⟨n, hn, hbn, hlow⟩
  · have e0 := hb1.all hall
    rw [hli] at e0
    rcases hx with ⟨-, rfl, hp⟩ | ⟨q, rest, h0, -⟩
    · refine ⟨0, 7, rfl, h.bx hk, (v5Inode_any hr1).mono ?_⟩
      rintro e w2 ⟨hk2, ⟨-, rfl, hr2⟩ | ⟨n, hn, g', cp', hbn, -⟩⟩
      · exact ⟨rfl, h.bx2 hk hk2, Lp, Li, F, g, cp, gi, ci, Pg, Cm, D, o, _, h.step hk hk2 hp hr2 (.inl rfl) (.inl rfl) rfl rfl rfl h.b1 h.b2 (by omega) (by omega)⟩
      · have := hall n hn; rw [hbn] at this; cases this
    · rw [e0] at h0; cases h0
  · obtain ⟨rest0, hr0⟩ := hb1.first (by omega) n hn hbn hlow
    rw [hli] at hr0
    rcases hx with ⟨h0, -⟩ | ⟨q, rest, h0, hx⟩
    · rw [hr0] at h0; cases h0
    obtain rfl : n = q := (List.cons.inj (hr0.symm.trans h0)).1
    have hfi := freeTo_first hr0
    have e2 := inoC_le Pg D n
    rcases hx with ⟨hf, -, -⟩ | ⟨-, rfl, hp⟩
    · omega
    refine ⟨n, 0, rfl, h.bx hk, (v5Inode_any hr1).mono ?_⟩
    rintro e w2 ⟨hk2, ⟨hall, -, -⟩ | ⟨n', hn', g', cp', hbn', hlow', rfl, hg', hr2⟩⟩
    · have := hall n hn; rw [hbn] at this; cases this
    obtain rfl := first_same hn hn' hbn hlow hbn' hlow'
    have hf2 := hb1.flip (h.pc.len 1 (by omega)) n hn (by omega) (by omega)
    rw [hbn, Bool.not_false] at hf2
    have d1 := dkD_ino N Pg D n
    obtain ⟨p0, p1, p2⟩ := inoP_at Pg n
    exact ⟨rfl, h.bx2 hk hk2, Lp, Li.set n true, F, g, cp, g', cp', _, Cm, _, o, _, h.step hk hk2 hp hr2 (.inl rfl) (.inr hg') rfl List.length_set p0 (by rw [p1]; exact hf2) (by rw [p2]; exact h.b2) (by omega) (by omega)⟩
theorem PrAt.giveP (h : PrAt w wr c m r P size N k Lp Li dl t) (n : Int) (hd : dl + 2 ≤ min size 100) (ht : t ≤ 2000) :
    Calls Tryz.prog 12 #[.pointer (some ⟨m, 0, none⟩), .int .i64 n] wr fun e w1 => ∃ x : Int, e = .returned (.int .i64 x) ∧ PBx P wr w1 ∧
      Calls Tryz.prog 49 #[.pointer (some ⟨r, 0, none⟩), .int .i64 n] w1 fun e w2 => e = .returned (.int .i64 x) ∧ PBx P wr w2 ∧ PrTo w c m r P size N k (dl + 2) (t + 1) w2 := by
  obtain ⟨F, g, cp, gi, ci, Pg, Cm, D, o, u, h⟩ := h
  have hu := h.uses
  have hlp := h.lp
  have hli := h.li
  have hL5 := h.n5
  have hdd := h.dirt
  have hmy := h.may
  unfold mayP at hmy
  have hv := fun W (hr : R5In W r g cp gi ci Lp Li) => v5GivePage_any hr n
  rw [hli] at hv
  have hb2 := h.b2
  refine (aGivePage_any h.map h.off (by omega) n (by omega) (by omega) h.pc).mono ?_
  rintro e w1 ⟨hk, hx⟩
  have hr1 := h.ref.keep hk h.offr.1 h.offr.2.1 h.offr.2.2
  have e3 : (if D ((2 : Nat) : Int) = true then 0 else 1) ≤ 1 := by split <;> omega
  rcases hx with ⟨hn, rfl, hp⟩ | ⟨hin, hbit, rfl, hp⟩ | ⟨-, -, hn, -⟩ | ⟨hin, hbit, -, rfl, hp⟩
  · refine ⟨2, rfl, h.bx hk, (hv w1 hr1).mono ?_⟩
    rintro e w2 ⟨hk2, ⟨-, rfl, hr2⟩ | ⟨q, hq, rfl, hlq, -⟩⟩
    · exact ⟨rfl, h.bx2 hk hk2, Lp, Li, F, g, cp, gi, ci, Pg, Cm, D, o, _, h.step hk hk2 hp hr2 (.inl rfl) (.inl rfl) rfl rfl rfl h.b1 h.b2 (by omega) (by omega)⟩
    · exact absurd (show _ ∧ _ from ⟨by omega, by omega⟩) hn
  · refine ⟨4, rfl, h.bx hk, (hv w1 hr1).mono ?_⟩
    rintro e w2 ⟨hk2, ⟨hn, -⟩ | ⟨q, hq, rfl, hlq, ⟨-, rfl, hr2⟩ | ⟨g', cp', hbq, -⟩⟩⟩
    · exact absurd (show _ ∧ _ from ⟨by omega, by omega⟩) hn
    · exact ⟨rfl, h.bx2 hk hk2, Lp, Li, F, g, cp, gi, ci, Pg, Cm, D, o, _, h.step hk hk2 hp hr2 (.inl rfl) (.inl rfl) rfl rfl rfl h.b1 h.b2 (by omega) (by omega)⟩
    · rw [Int.toNat_natCast, hb2.bit q hq, hbq] at hbit; cases hbit
  · omega
  · refine ⟨0, rfl, h.bx hk, (hv w1 hr1).mono ?_⟩
    rintro e w2 ⟨hk2, ⟨hn, -⟩ | ⟨q, hq, rfl, hlq, ⟨hbq, -⟩ | ⟨g', cp', hbq, rfl, hg', hr2⟩⟩⟩
    · exact absurd (show _ ∧ _ from ⟨by omega, by omega⟩) hn
    · rw [Int.toNat_natCast, hb2.bit q hq, hbq] at hbit; cases hbit
    · rw [Int.toNat_natCast] at hp
      have hf2 := hb2.flip (h.pc.len 2 (by omega)) q hq (by omega) (by omega)
      rw [hbq, Bool.not_true] at hf2
      have d1 : (dkD N (updT D ((2 : Nat) : Int))).length ≤ (dkD N D).length + 1 := dkD_upd1 N D 2
      exact ⟨rfl, h.bx2 hk hk2, Lp.set q false, Li, F, g', cp', gi, ci, _, Cm, _, o, _, h.step hk hk2 hp hr2 (.inr hg') (.inl rfl) List.length_set rfl (by unfold updP; rw [if_neg (by omega)]) (by unfold updP; rw [if_neg (by omega)]; exact h.b1) (by unfold updP; rw [if_pos rfl]; exact hf2) (by omega) (by omega)⟩
theorem PrAt.giveI (h : PrAt w wr c m r P size N k Lp Li dl t) (n : Int) (hd : dl + 2 ≤ min size 100) (ht : t ≤ 2000) :
    Calls Tryz.prog 13 #[.pointer (some ⟨m, 0, none⟩), .int .i64 n] wr fun e w1 => ∃ x : Int, e = .returned (.int .i64 x) ∧ PBx P wr w1 ∧
      Calls Tryz.prog 50 #[.pointer (some ⟨r, 0, none⟩), .int .i64 n] w1 fun e w2 => e = .returned (.int .i64 x) ∧ PBx P wr w2 ∧ PrTo w c m r P size N k (dl + 2) (t + 1) w2 := by
  obtain ⟨F, g, cp, gi, ci, Pg, Cm, D, o, u, h⟩ := h
  have hu := h.uses
  have hlp := h.lp
  have hli := h.li
  have hL5 := h.n5
  have hdd := h.dirt
  have hmy := h.may
  unfold mayP at hmy
  have hb1 := h.b1
  refine (aGiveInode_any h.map h.off (by omega) n (by omega) (by omega) h.pc).mono ?_
  rintro e w1 ⟨hk, hx⟩
  have hr1 := h.ref.keep hk h.offr.1 h.offr.2.1 h.offr.2.2
  have e3 : (if D ((1 : Nat) : Int) = true then 0 else 1) ≤ 1 := by split <;> omega
  rcases hx with ⟨hn, rfl, hp⟩ | ⟨hin, hbit, rfl, hp⟩ | ⟨-, -, hn, -⟩ | ⟨hin, hbit, -, rfl, hp⟩
  · refine ⟨2, rfl, h.bx hk, (v5GiveInode_any hr1 n).mono ?_⟩
    rintro e w2 ⟨hk2, ⟨-, rfl, hr2⟩ | ⟨q, hq, rfl, hlq, -⟩⟩
    · exact ⟨rfl, h.bx2 hk hk2, Lp, Li, F, g, cp, gi, ci, Pg, Cm, D, o, _, h.step hk hk2 hp hr2 (.inl rfl) (.inl rfl) rfl rfl rfl h.b1 h.b2 (by omega) (by omega)⟩
    · exact absurd (show _ ∧ _ from ⟨by omega, by omega⟩) hn
  · refine ⟨4, rfl, h.bx hk, (v5GiveInode_any hr1 n).mono ?_⟩
    rintro e w2 ⟨hk2, ⟨hn, -⟩ | ⟨q, hq, rfl, hlq, ⟨-, rfl, hr2⟩ | ⟨g', cp', hbq, -⟩⟩⟩
    · exact absurd (show _ ∧ _ from ⟨by omega, by omega⟩) hn
    · exact ⟨rfl, h.bx2 hk hk2, Lp, Li, F, g, cp, gi, ci, Pg, Cm, D, o, _, h.step hk hk2 hp hr2 (.inl rfl) (.inl rfl) rfl rfl rfl h.b1 h.b2 (by omega) (by omega)⟩
    · rw [Int.toNat_natCast, hb1.bit q hq, hbq] at hbit; cases hbit
  · omega
  · refine ⟨0, rfl, h.bx hk, (v5GiveInode_any hr1 n).mono ?_⟩
    rintro e w2 ⟨hk2, ⟨hn, -⟩ | ⟨q, hq, rfl, hlq, ⟨hbq, -⟩ | ⟨g', cp', hbq, rfl, hg', hr2⟩⟩⟩
    · exact absurd (show _ ∧ _ from ⟨by omega, by omega⟩) hn
    · rw [Int.toNat_natCast, hb1.bit q hq, hbq] at hbit; cases hbit
    · rw [Int.toNat_natCast] at hp
      have hf2 := hb1.flip (h.pc.len 1 (by omega)) q hq (by omega) (by omega)
      rw [hbq, Bool.not_true] at hf2
      have d1 : (dkD N (updT D ((1 : Nat) : Int))).length ≤ (dkD N D).length + 1 := dkD_upd1 N D 1
      exact ⟨rfl, h.bx2 hk hk2, Lp, Li.set q false, F, g, cp, g', cp', _, Cm, _, o, _, h.step hk hk2 hp hr2 (.inl rfl) (.inr hg') rfl List.length_set (by unfold updP; rw [if_neg (by omega)]) (by unfold updP; rw [if_pos rfl]; exact hf2) (by unfold updP; rw [if_neg (by omega)]; exact h.b2) (by omega) (by omega)⟩
theorem PrAt.commit (h : PrAt w wr c m r P size N k Lp Li dl t) (j : Nat) (hj : dl + 3 ≤ 10 * j) (ht : t ≤ 2000) :
    Calls Tryz.prog 21 #[.pointer (some ⟨c, 0, none⟩)] wr fun e w' => e = .returned (.int .i64 0) ∧ PrAt w w' c m r P size N k Lp Li 0 (t + j) := by
  obtain ⟨F, g, cp, gi, ci, Pg, Cm, D, o, u, h⟩ := h
  have hu := h.uses
  have ho := h.ops
  have hdd := h.dirt
  refine (h.pc.commitT (by omega)).mono ?_
  rintro e w' ⟨rfl, hk, F', hF1, hF2, hp⟩
  have hn : ∀ j, ¬ F j → j < wr.heap.size → ¬ F' j := fun j h1 h2 h3 => by
    rcases hF2 j h3 with h4 | h4
    · exact h1 h4
    · omega
  refine ⟨rfl, F', g, cp, gi, ci, Pg, Pg, _, _, u, h.out.trans (hk.below h.out.size h.new), fun i hi => ?_, hn m h.off h.map.lt, h.map.keep hk h.off, hp, h.ref.keep hk h.offr.1 h.offr.2.1 h.offr.2.2, ⟨hn r h.offr.1 h.ref.lt, hn g h.offr.2.1 h.ref.gp, hn gi h.offr.2.2 h.ref.gl⟩, h.newr, h.lp, h.li, h.b0, h.b1, h.b2, h.may, h.n5, by rw [dkD_none]; simp, by omega, by omega, fun i hi => ⟨hn i (h.box i hi).1 (h.box i hi).2.2, (h.box i hi).2.1, Nat.lt_of_lt_of_le (h.box i hi).2.2 hk.size⟩⟩
  rcases hF2 i hi with h' | h'
  · exact h.new i h'
  · exact Nat.le_trans h.out.size h'
theorem PrAt.read {f : Nat} {args : Array Value} {E : Ending} (h : PrAt w wr c m r P size N k Lp Li dl t)
    (kk : ∀ F Pg Cm D o u, Pc wr c F size N Pg Cm D o u → ¬ F m → mapB wr m c k → Rel (Pg 1) 1 Li → Rel (Pg 2) (3 + k / 8) Lp → u ≤ 10 * t → Calls Tryz.prog f args wr fun e w' => e = E ∧ Keeps F wr w' ∧ ∃ u', u' ≤ u + 2 ∧ Pc w' c F size N Pg Cm D o u') :
    Calls Tryz.prog f args wr fun e w' => e = E ∧ PrAt w w' c m r P size N k Lp Li dl (t + 1) := by
  obtain ⟨F, g, cp, gi, ci, Pg, Cm, D, o, u, h⟩ := h
  refine (kk F Pg Cm D o u h.pc h.off h.map h.b1 h.b2 h.uses).mono ?_
  rintro e w' ⟨rfl, hk, u', hu', hp⟩
  have hr1 := h.ref.keep hk h.offr.1 h.offr.2.1 h.offr.2.2
  exact ⟨rfl, F, g, cp, gi, ci, Pg, Cm, D, o, u', h.step hk (Keeps.refl _ _) hp hr1 (.inl rfl) (.inl rfl) rfl rfl rfl h.b1 h.b2 h.dirt hu'⟩
theorem PrAt.dims (h : PrAt w wr c m r P size N k Lp Li dl t) : Lp.length = N ∧ Li.length = k ∧ mayP N k ∧ N ≤ 519 := by
  obtain ⟨F, g, cp, gi, ci, Pg, Cm, D, o, u, h⟩ := h
  exact ⟨h.lp, h.li, h.may, h.n5⟩
theorem PrAt.used (h : PrAt w wr c m r P size N k Lp Li dl t) (n : Int) (ht : t ≤ 2000) :
    Calls Tryz.prog 14 #[.pointer (some ⟨m, 0, none⟩), .int .i64 n] wr fun e w' => e = .returned (.bool (usedB Lp n)) ∧ PrAt w w' c m r P size N k Lp Li dl (t + 1) := by
  obtain ⟨hlp, hli, hmy, hn5⟩ := h.dims
  unfold mayP at hmy
  refine h.read (fun F Pg Cm D o u hp hF hm h1 h2 hu => (aUsed_any hm hF (by omega) n (by omega) (by omega) hp).mono ?_)
  rintro e w' ⟨rfl, hk, hp'⟩
  refine ⟨?_, hk, _, by omega, hp'⟩
  have e1 := h2.taken (by omega) n
  rw [hlp] at e1
  rw [e1]
theorem PrAt.usedI (h : PrAt w wr c m r P size N k Lp Li dl t) (n : Int) (ht : t ≤ 2000) :
    Calls Tryz.prog 15 #[.pointer (some ⟨m, 0, none⟩), .int .i64 n] wr fun e w' => e = .returned (.bool (usedB Li n)) ∧ PrAt w w' c m r P size N k Lp Li dl (t + 1) := by
  obtain ⟨hlp, hli, hmy, hn5⟩ := h.dims
  unfold mayP at hmy
  refine h.read (fun F Pg Cm D o u hp hF hm h1 h2 hu => (aUsedInode_any hm hF (by omega) n (by omega) (by omega) hp).mono ?_)
  rintro e w' ⟨rfl, hk, hp'⟩
  refine ⟨?_, hk, _, by omega, hp'⟩
  have e1 := h1.taken (by omega) n
  rw [hli] at e1
  rw [e1]
theorem PrAt.free (h : PrAt w wr c m r P size N k Lp Li dl t) (ht : t ≤ 2000) :
    Calls Tryz.prog 10 #[.pointer (some ⟨m, 0, none⟩)] wr fun e w' => e = .returned (.tuple #[.int .i64 (freeB Lp : Nat), .int .i64 (freeB Li : Nat)]) ∧ PrAt w w' c m r P size N k Lp Li dl (t + 1) := by
  obtain ⟨hlp, hli, hmy, hn5⟩ := h.dims
  unfold mayP at hmy
  refine h.read (fun F Pg Cm D o u hp hF hm h1 h2 hu => (aFree_any hm hF (by omega) (by omega) (by omega) (by omega) hp).mono ?_)
  rintro e w' ⟨rfl, hk, hp'⟩
  refine ⟨?_, hk, _, by omega, hp'⟩
  have e1 := h1.count (by omega)
  have e2 := h2.count (by omega)
  rw [hli] at e1
  rw [hlp] at e2
  rw [e1, e2]
theorem PrAt.ref {f : Nat} {args : Array Value} {E : Ending} (h : PrAt w wr c m r P size N k Lp Li dl t) (kk : ∀ g cp gi ci, R5In wr r g cp gi ci Lp Li → Calls Tryz.prog f args wr fun e w' => e = E ∧ w' = wr) : Calls Tryz.prog f args wr fun e w' => e = E ∧ w' = wr := by
  obtain ⟨F, g, cp, gi, ci, Pg, Cm, D, o, u, h⟩ := h
  exact kk g cp gi ci h.ref
theorem PrAt.mapAt (h : PrAt w wr c m r P size N k Lp Li dl t) : mapB wr m c k := by
  obtain ⟨F, g, cp, gi, ci, Pg, Cm, D, o, u, h⟩ := h
  exact h.map
theorem PrAt.firstM (h : PrAt w wr c m r P size N k Lp Li dl t) : Calls Tryz.prog 16 #[.pointer (some ⟨m, 0, none⟩)] wr fun e w' => e = .returned (.int .i64 (3 + k / 8 : Nat)) ∧ w' = wr := by
  have hmy := h.dims.2.2.1
  unfold mayP at hmy
  exact amFirst_any h.mapAt (by omega)
end
end Go.Proofs.YtkkmbgjlmdddoabGreat
/- A map and the reference's as they are made. -/
namespace Go.Proofs.YtkkmbgjlmdddoabGreat
open Go.RowKit
theorem PrAt.start {w w1 w2 w3 : World} {c m r g gi : Nat} {F : Nat → Prop} {size N k : Nat} {Cm : Nat → List UInt8} (hB1 : Below w.heap.size w w1) (hF : ∀ i, F i → w.heap.size ≤ i) (hk2 : Keeps F w1 w2) (hmF : ¬ F m) (hm : mapB w2 m c k)
    (hp : Pc w2 c F size N (putL (fun _ => zN 512) (empK N k (k / 8))) Cm (putLD (fun _ => false) (empK N k (k / 8))) 0 0) (hb3 : Below w2.heap.size w2 w3) (hr : w2.heap.size ≤ r) (hg : w2.heap.size ≤ g) (hi : w2.heap.size ≤ gi) (hR : R5In w3 r g N gi k (startB (3 + k / 8) N) (startB 1 k)) (hmy : mayP N k) (hN : N ≤ 519) :
    PrAt w w3 c m r (fun _ => False) size N k (startB (3 + k / 8) N) (startB 1 k) (3 + k / 8) 0 := by
  have hB2 : Below w.heap.size w w2 := hB1.trans (hk2.below hB1.size hF)
  obtain ⟨m0, m1, m2⟩ := made_at N k (k / 8) (fun _ => zN 512)
  have hnF : ∀ j, w2.heap.size ≤ j → ¬ F j := fun j hj hf => by have := hp.lt j hf; omega
  have hs := hB2.size
  unfold mayP at hmy
  have hd := dkD_putLD N (empK N k (k / 8)) (fun _ => false)
  rw [dkD_none, length_empK] at hd
  refine ⟨F, g, N, gi, k, _, Cm, _, 0, 0, hB2.trans (hb3.mono hs), hF, hmF, hm.below hb3, hp.below hb3, hR, ⟨hnF r hr, hnF g hg, hnF gi hi⟩, by omega, length_startB _ _, length_startB _ _, m0, ?_, ?_, ?_, hN, ?_, by omega, by omega, fun i hi => hi.elim⟩
  · rw [m1]; exact Rel.start 1 k (by omega)
  · rw [m2]; exact Rel.start (3 + k / 8) N (by omega)
  · unfold mayP; omega
  · simpa using hd
end Go.Proofs.YtkkmbgjlmdddoabGreat
/- law05's do: a deed on both, and a Commit. -/
namespace Go.Proofs.YtkkmbgjlmdddoabGreat
open Go.RowKit
section
variable {w wr w2 : World} {c m r : Nat} {P : Nat → Prop} {size N k : Nat} {Lp Li : List Bool} {dl t : Nat}
theorem PrTo.ends (h : PrTo w c m r P size N k dl t w2) (hs : dl ≤ 7) (ht : t ≤ 2000) :
    Calls Tryz.prog 18 #[.pointer (some ⟨m, 0, none⟩)] w2 fun e w3 => e = .returned (.pointer (some ⟨c, 0, none⟩)) ∧
      Calls Tryz.prog 21 #[.pointer (some ⟨c, 0, none⟩)] w3 fun e w4 => e = .returned (.int .i64 0) ∧ PrTo w c m r (fun _ => False) size N k 0 (t + 1) w4 := by
  obtain ⟨Lp, Li, h⟩ := h
  refine (amCache_any h.mapAt).mono ?_
  rintro e w3 ⟨rfl, rfl⟩
  refine ⟨rfl, (h.commit 1 (by omega) ht).mono ?_⟩
  rintro e w4 ⟨rfl, h4⟩
  exact ⟨rfl, Lp, Li, h4.drop⟩
set_option maxRecDepth 100000 in
set_option maxHeartbeats 2000000 in
theorem l5do_any (h : PrAt w wr c m r (fun _ => False) size N k Lp Li dl t) (kd n : Int) (hd : dl + 2 ≤ min size 100) (hs : dl ≤ 5) (ht : t ≤ 1990) :
    Calls Tryz.prog 22 #[.pointer (some ⟨m, 0, none⟩), .pointer (some ⟨r, 0, none⟩), .agg #[.int .i64 kd, .int .i64 n]] wr fun e w' => e = .returned (.bool true) ∧ PrTo w c m r (fun _ => False) size N k 0 (t + 2) w' := by
  have HJ := hid (h.boxed (.cells #[.int .i64 kd, .int .i64 n] 47))
  have hbox : (wr.alloc (.cells #[.int .i64 kd, .int .i64 n] 47)).heap[wr.heap.size]? = some (.cells #[.int .i64 kd, .int .i64 n] 47) := block_new wr _
  have HBx := hid hbox
  have HE : Hid (∀ W, PrTo w c m r (fun i => i = wr.heap.size) size N k (dl + 2) (t + 1) W → Calls Tryz.prog 18 #[.pointer (some ⟨m, 0, none⟩)] W fun e w3 => e = .returned (.pointer (some ⟨c, 0, none⟩)) ∧
      Calls Tryz.prog 21 #[.pointer (some ⟨c, 0, none⟩)] w3 fun e w4 => e = .returned (.int .i64 0) ∧ PrTo w c m r (fun _ => False) size N k 0 (t + 2) w4) := fun W hW => hW.ends (by omega) (by omega)
  clear h hbox
  by_cases hk0 : kd = 0
  · subst hk0
    have HPa := hid (HJ.out.page hd (by omega))
    clear HJ hd hs
    go_enter Tryz.func22, Tryz.ntmps22
    go_wp2_with fail
    refine HPa.out.mono ?_
    clear HPa
    rintro e w1 ⟨q, x, rfl, -, hc⟩
    have HC := hid hc
    clear hc
    go_wp2_with fail
    refine HC.out.mono ?_
    clear HC
    rintro e w2 ⟨rfl, -, hp⟩
    have HCa := hid (HE.out w2 hp)
    have hee : (q == q) = true := beq_self_eq_true _
    have hxx : (x == x) = true := beq_self_eq_true _
    clear hp HE
    go_wp2_with fail
    refine HCa.out.mono ?_
    clear HCa
    rintro e w3 ⟨rfl, hc3⟩
    have HC3 := hid hc3
    clear hc3
    go_wp2_with fail
    refine HC3.out.mono ?_
    clear HC3
    rintro e w4 ⟨rfl, h4⟩
    have H4 := hid h4
    clear h4
    go_wp2
    go_ret
    exact ⟨rfl, H4.out⟩
  · have hk0b : (kd == 0) = false := beq_eq_false_iff_ne.2 hk0
    by_cases hk1 : kd = 1
    · subst hk1
      have HPa := hid (HJ.out.inode hd (by omega))
      clear HJ hd hs hk0
      go_enter Tryz.func22, Tryz.ntmps22
      go_wp2_with fail
      refine HPa.out.mono ?_
      clear HPa
      rintro e w1 ⟨q, x, rfl, -, hc⟩
      have HC := hid hc
      clear hc
      go_wp2_with fail
      refine HC.out.mono ?_
      clear HC
      rintro e w2 ⟨rfl, -, hp⟩
      have HCa := hid (HE.out w2 hp)
      have hee : (q == q) = true := beq_self_eq_true _
      have hxx : (x == x) = true := beq_self_eq_true _
      clear hp HE
      go_wp2_with fail
      refine HCa.out.mono ?_
      clear HCa
      rintro e w3 ⟨rfl, hc3⟩
      have HC3 := hid hc3
      clear hc3
      go_wp2_with fail
      refine HC3.out.mono ?_
      clear HC3
      rintro e w4 ⟨rfl, h4⟩
      have H4 := hid h4
      clear h4
      go_wp2
      go_ret
      exact ⟨rfl, H4.out⟩
    · have hk1b : (kd == 1) = false := beq_eq_false_iff_ne.2 hk1
      by_cases hk2 : kd = 2
      · subst hk2
        have hbw : Below (wr.alloc (.cells #[.int .i64 2, .int .i64 n] 47)).heap.size (wr.alloc (.cells #[.int .i64 2, .int .i64 n] 47)) (wr.alloc (.cells #[.int .i64 2, .int .i64 n] 47)).drew := (Below.refl _ _).drew
        have HPa := hid ((HJ.out.below hbw).giveP n hd (by omega))
        have HBd := hid (below_block hbw HBx.out (lt_of_heap HBx.out))
        have c0 : (wr.alloc (.cells #[.int .i64 2, .int .i64 n] 47)).cell? ⟨wr.heap.size, 1, none⟩ = some (.int .i64 n) := cell_of_block HBx.out 1
        clear HJ hd hs hbw hk0 hk1
        go_enter Tryz.func22, Tryz.ntmps22
        go_wp2
        refine wp_region_noPanic ?_
        refine wp_region_held_drew (S := fun W => W.cell? ⟨wr.heap.size, 1, none⟩ = some (.int .i64 n)) (by kernel_rfl) c0 (fun hHeld => ?_)
        generalize (wr.alloc (.cells #[.int .i64 2, .int .i64 n] 47)).drew = wa at *
        generalize wr.heap.size = bx at *
        refine wpAnyH_take (i := 0) (v := ?_) rfl (by kernel_rfl) (by kernel_rfl) (by kernel_rfl) (fun _ _ _ h => h) (Or.inl ⟨by rfl, ?_⟩) (by assumption) ?_
        rotate_left
        · (intro W hSw; (try dsimp only at hSw); obtain s0 := hSw; go_simp; try with_reducible rfl)
        try simp only [List.getElem_toArray, List.getElem_cons_zero, Act.put, List.setIfInBounds_toArray, List.set_cons_zero, List.set_cons_succ]
        refine wpAnyH_take (i := 1) (v := ?_) rfl (by kernel_rfl) (by kernel_rfl) (by kernel_rfl) (fun _ _ _ h => h) (Or.inl ⟨by rfl, ?_⟩) (by assumption) ?_
        rotate_left
        · (intro W hSw; (try dsimp only at hSw); obtain s0 := hSw; go_simp; try with_reducible rfl)
        try simp only [List.getElem_toArray, List.getElem_cons_succ, List.getElem_cons_zero, Act.put, List.setIfInBounds_toArray, List.set_cons_zero, List.set_cons_succ]
        refine wpAnyH_take (i := 2) (v := ?_) rfl (by kernel_rfl) (by kernel_rfl) (by kernel_rfl) (fun _ _ _ h => h) (Or.inl ⟨by rfl, ?_⟩) (by assumption) ?_
        rotate_left
        · (intro W hSw; (try dsimp only at hSw); obtain s0 := hSw; go_simp; try with_reducible rfl)
        try simp only [List.getElem_toArray, List.getElem_cons_succ, List.getElem_cons_zero, Act.put, List.setIfInBounds_toArray, List.set_cons_zero, List.set_cons_succ]
        refine wpAnyH_take (i := 4) (v := ?_) rfl (by kernel_rfl) (by kernel_rfl) (by kernel_rfl) (fun _ _ _ h => h) (Or.inl ⟨by rfl, ?_⟩) (by assumption) ?_
        rotate_left
        · (intro W hSw; (try dsimp only at hSw); obtain s0 := hSw; go_simp; try with_reducible rfl)
        try simp only [List.getElem_toArray, List.getElem_cons_succ, List.getElem_cons_zero, Act.put, List.setIfInBounds_toArray, List.set_cons_zero, List.set_cons_succ]
        refine wpAnyH_take (i := 5) (v := ?_) rfl (by kernel_rfl) (by kernel_rfl) (by kernel_rfl) (fun _ _ _ h => h) (Or.inl ⟨by rfl, ?_⟩) (by assumption) ?_
        rotate_left
        · (intro W hSw; (try dsimp only at hSw); obtain s0 := hSw; go_simp; try with_reducible rfl)
        try simp only [List.getElem_toArray, List.getElem_cons_succ, List.getElem_cons_zero, Act.put, List.setIfInBounds_toArray, List.set_cons_zero, List.set_cons_succ]
        refine wpAnyH_take (i := 6) (v := ?_) rfl (by kernel_rfl) (by kernel_rfl) (by kernel_rfl) (fun _ _ _ h => h) (Or.inl ⟨by rfl, ?_⟩) (by assumption) ?_
        rotate_left
        · (intro W hSw; (try dsimp only at hSw); obtain s0 := hSw; go_simp; try with_reducible rfl)
        try simp only [List.getElem_toArray, List.getElem_cons_succ, List.getElem_cons_zero, Act.put, List.setIfInBounds_toArray, List.set_cons_zero, List.set_cons_succ]
        refine wpAnyH_ready (rs := [3]) (by kernel_rfl) (by simp) (AllReadyH.cons rfl (fun K hK => ?_) AllReadyH.nil)
        rw [if_pos (by rfl)]
        go_simp
        refine HPa.out.mono ?_
        clear HPa
        rintro e w1 ⟨x, rfl, hb1, hc⟩
        have d1 : w1.cell? ⟨bx, 1, none⟩ = some (.int .i64 n) := cell_of_block (hb1 bx rfl _ HBd.out) 1
        have HC := hid hc
        clear hc hb1
        go_wp2_with fail
        refine hK.out _ _ d1 (fun hHeld => ?_)
        clear hK K
        try simp only [List.getElem_toArray, List.getElem_cons_succ, List.getElem_cons_zero, Act.put, List.setIfInBounds_toArray, List.set_cons_zero, List.set_cons_succ]
        refine wpAnyH_ready (rs := [7]) (by kernel_rfl) (by simp) (AllReadyH.cons rfl (fun K hK => ?_) AllReadyH.nil)
        rw [if_pos (by rfl)]
        go_simp
        refine HC.out.mono ?_
        clear HC
        rintro e w2 ⟨rfl, hb2, hp⟩
        have d2 : w2.cell? ⟨bx, 1, none⟩ = some (.int .i64 n) := cell_of_block (hb2 bx rfl _ HBd.out) 1
        have HCa := hid (HE.out w2 hp)
        have hxx : (x == x) = true := beq_self_eq_true _
        clear hp HE hb2 HBd
        go_wp2_with fail
        refine hK.out _ _ d2 (fun hHeld => ?_)
        clear hK K
        try simp only [List.getElem_toArray, List.getElem_cons_succ, List.getElem_cons_zero, Act.put, List.setIfInBounds_toArray, List.set_cons_zero, List.set_cons_succ]
        refine wpAnyH_take (i := 8) (v := ?_) rfl (by kernel_rfl) (by kernel_rfl) (by kernel_rfl) (fun _ _ _ h => h) (Or.inl ⟨by rfl, ?_⟩) (by assumption) ?_
        rotate_left
        · (intro W hSw; (try dsimp only at hSw); obtain s0 := hSw; go_simp; try with_reducible rfl)
        try simp only [List.getElem_toArray, List.getElem_cons_succ, List.getElem_cons_zero, Act.put, List.setIfInBounds_toArray, List.set_cons_zero, List.set_cons_succ]
        refine wpAnyH_take (i := 9) (v := ?_) rfl (by kernel_rfl) (by kernel_rfl) (by kernel_rfl) (fun _ _ _ h => h) (Or.inl ⟨by rfl, ?_⟩) (by assumption) ?_
        rotate_left
        · (intro W hSw; (try dsimp only at hSw); obtain s0 := hSw; go_simp; try with_reducible rfl)
        try simp only [List.getElem_toArray, List.getElem_cons_succ, List.getElem_cons_zero, Act.put, List.setIfInBounds_toArray, List.set_cons_zero, List.set_cons_succ]
        refine wpAnyH_done (by kernel_rfl) ?_ _
        refine NoPanic.normal ?_
        clear hHeld d1 d2
        go_wp2_with fail
        refine HCa.out.mono ?_
        clear HCa
        rintro e w3 ⟨rfl, hc3⟩
        have HC3 := hid hc3
        clear hc3
        go_wp2_with fail
        refine HC3.out.mono ?_
        clear HC3
        rintro e w4 ⟨rfl, h4⟩
        have H4 := hid h4
        clear h4
        go_wp2
        go_ret
        exact ⟨rfl, H4.out⟩
      · have hk2b : (kd == 2) = false := beq_eq_false_iff_ne.2 hk2
        by_cases hk3 : kd = 3
        · subst hk3
          have hbw : Below (wr.alloc (.cells #[.int .i64 3, .int .i64 n] 47)).heap.size (wr.alloc (.cells #[.int .i64 3, .int .i64 n] 47)) (wr.alloc (.cells #[.int .i64 3, .int .i64 n] 47)).drew := (Below.refl _ _).drew
          have HPa := hid ((HJ.out.below hbw).giveI n hd (by omega))
          have HBd := hid (below_block hbw HBx.out (lt_of_heap HBx.out))
          have c0 : (wr.alloc (.cells #[.int .i64 3, .int .i64 n] 47)).cell? ⟨wr.heap.size, 1, none⟩ = some (.int .i64 n) := cell_of_block HBx.out 1
          clear HJ hd hs hbw hk0 hk1 hk2
          go_enter Tryz.func22, Tryz.ntmps22
          go_wp2
          refine wp_region_noPanic ?_
          refine wp_region_held_drew (S := fun W => W.cell? ⟨wr.heap.size, 1, none⟩ = some (.int .i64 n)) (by kernel_rfl) c0 (fun hHeld => ?_)
          generalize (wr.alloc (.cells #[.int .i64 3, .int .i64 n] 47)).drew = wa at *
          generalize wr.heap.size = bx at *
          refine wpAnyH_take (i := 0) (v := ?_) rfl (by kernel_rfl) (by kernel_rfl) (by kernel_rfl) (fun _ _ _ h => h) (Or.inl ⟨by rfl, ?_⟩) (by assumption) ?_
          rotate_left
          · (intro W hSw; (try dsimp only at hSw); obtain s0 := hSw; go_simp; try with_reducible rfl)
          try simp only [List.getElem_toArray, List.getElem_cons_zero, Act.put, List.setIfInBounds_toArray, List.set_cons_zero, List.set_cons_succ]
          refine wpAnyH_take (i := 1) (v := ?_) rfl (by kernel_rfl) (by kernel_rfl) (by kernel_rfl) (fun _ _ _ h => h) (Or.inl ⟨by rfl, ?_⟩) (by assumption) ?_
          rotate_left
          · (intro W hSw; (try dsimp only at hSw); obtain s0 := hSw; go_simp; try with_reducible rfl)
          try simp only [List.getElem_toArray, List.getElem_cons_succ, List.getElem_cons_zero, Act.put, List.setIfInBounds_toArray, List.set_cons_zero, List.set_cons_succ]
          refine wpAnyH_take (i := 2) (v := ?_) rfl (by kernel_rfl) (by kernel_rfl) (by kernel_rfl) (fun _ _ _ h => h) (Or.inl ⟨by rfl, ?_⟩) (by assumption) ?_
          rotate_left
          · (intro W hSw; (try dsimp only at hSw); obtain s0 := hSw; go_simp; try with_reducible rfl)
          try simp only [List.getElem_toArray, List.getElem_cons_succ, List.getElem_cons_zero, Act.put, List.setIfInBounds_toArray, List.set_cons_zero, List.set_cons_succ]
          refine wpAnyH_take (i := 4) (v := ?_) rfl (by kernel_rfl) (by kernel_rfl) (by kernel_rfl) (fun _ _ _ h => h) (Or.inl ⟨by rfl, ?_⟩) (by assumption) ?_
          rotate_left
          · (intro W hSw; (try dsimp only at hSw); obtain s0 := hSw; go_simp; try with_reducible rfl)
          try simp only [List.getElem_toArray, List.getElem_cons_succ, List.getElem_cons_zero, Act.put, List.setIfInBounds_toArray, List.set_cons_zero, List.set_cons_succ]
          refine wpAnyH_take (i := 5) (v := ?_) rfl (by kernel_rfl) (by kernel_rfl) (by kernel_rfl) (fun _ _ _ h => h) (Or.inl ⟨by rfl, ?_⟩) (by assumption) ?_
          rotate_left
          · (intro W hSw; (try dsimp only at hSw); obtain s0 := hSw; go_simp; try with_reducible rfl)
          try simp only [List.getElem_toArray, List.getElem_cons_succ, List.getElem_cons_zero, Act.put, List.setIfInBounds_toArray, List.set_cons_zero, List.set_cons_succ]
          refine wpAnyH_take (i := 6) (v := ?_) rfl (by kernel_rfl) (by kernel_rfl) (by kernel_rfl) (fun _ _ _ h => h) (Or.inl ⟨by rfl, ?_⟩) (by assumption) ?_
          rotate_left
          · (intro W hSw; (try dsimp only at hSw); obtain s0 := hSw; go_simp; try with_reducible rfl)
          try simp only [List.getElem_toArray, List.getElem_cons_succ, List.getElem_cons_zero, Act.put, List.setIfInBounds_toArray, List.set_cons_zero, List.set_cons_succ]
          refine wpAnyH_ready (rs := [3]) (by kernel_rfl) (by simp) (AllReadyH.cons rfl (fun K hK => ?_) AllReadyH.nil)
          rw [if_pos (by rfl)]
          go_simp
          refine HPa.out.mono ?_
          clear HPa
          rintro e w1 ⟨x, rfl, hb1, hc⟩
          have d1 : w1.cell? ⟨bx, 1, none⟩ = some (.int .i64 n) := cell_of_block (hb1 bx rfl _ HBd.out) 1
          have HC := hid hc
          clear hc hb1
          go_wp2_with fail
          refine hK.out _ _ d1 (fun hHeld => ?_)
          clear hK K
          try simp only [List.getElem_toArray, List.getElem_cons_succ, List.getElem_cons_zero, Act.put, List.setIfInBounds_toArray, List.set_cons_zero, List.set_cons_succ]
          refine wpAnyH_ready (rs := [7]) (by kernel_rfl) (by simp) (AllReadyH.cons rfl (fun K hK => ?_) AllReadyH.nil)
          rw [if_pos (by rfl)]
          go_simp
          refine HC.out.mono ?_
          clear HC
          rintro e w2 ⟨rfl, hb2, hp⟩
          have d2 : w2.cell? ⟨bx, 1, none⟩ = some (.int .i64 n) := cell_of_block (hb2 bx rfl _ HBd.out) 1
          have HCa := hid (HE.out w2 hp)
          have hxx : (x == x) = true := beq_self_eq_true _
          clear hp HE hb2 HBd
          go_wp2_with fail
          refine hK.out _ _ d2 (fun hHeld => ?_)
          clear hK K
          try simp only [List.getElem_toArray, List.getElem_cons_succ, List.getElem_cons_zero, Act.put, List.setIfInBounds_toArray, List.set_cons_zero, List.set_cons_succ]
          refine wpAnyH_take (i := 8) (v := ?_) rfl (by kernel_rfl) (by kernel_rfl) (by kernel_rfl) (fun _ _ _ h => h) (Or.inl ⟨by rfl, ?_⟩) (by assumption) ?_
          rotate_left
          · (intro W hSw; (try dsimp only at hSw); obtain s0 := hSw; go_simp; try with_reducible rfl)
          try simp only [List.getElem_toArray, List.getElem_cons_succ, List.getElem_cons_zero, Act.put, List.setIfInBounds_toArray, List.set_cons_zero, List.set_cons_succ]
          refine wpAnyH_take (i := 9) (v := ?_) rfl (by kernel_rfl) (by kernel_rfl) (by kernel_rfl) (fun _ _ _ h => h) (Or.inl ⟨by rfl, ?_⟩) (by assumption) ?_
          rotate_left
          · (intro W hSw; (try dsimp only at hSw); obtain s0 := hSw; go_simp; try with_reducible rfl)
          try simp only [List.getElem_toArray, List.getElem_cons_succ, List.getElem_cons_zero, Act.put, List.setIfInBounds_toArray, List.set_cons_zero, List.set_cons_succ]
          refine wpAnyH_done (by kernel_rfl) ?_ _
          refine NoPanic.normal ?_
          clear hHeld d1 d2
          go_wp2_with fail
          refine HCa.out.mono ?_
          clear HCa
          rintro e w3 ⟨rfl, hc3⟩
          have HC3 := hid hc3
          clear hc3
          go_wp2_with fail
          refine HC3.out.mono ?_
          clear HC3
          rintro e w4 ⟨rfl, h4⟩
          have H4 := hid h4
          clear h4
          go_wp2
          go_ret
          exact ⟨rfl, H4.out⟩
        · have hk3b : (kd == 3) = false := beq_eq_false_iff_ne.2 hk3
          have HCa := hid (HE.out _ ⟨Lp, Li, HJ.out.more (by omega) (by omega)⟩)
          clear HJ hd hs hk0 hk1 hk2 hk3
          go_enter Tryz.func22, Tryz.ntmps22
          go_wp2_with fail
          refine HCa.out.mono ?_
          clear HCa
          rintro e w3 ⟨rfl, hc3⟩
          have HC3 := hid hc3
          clear hc3
          go_wp2_with fail
          refine HC3.out.mono ?_
          clear HC3
          rintro e w4 ⟨rfl, h4⟩
          have H4 := hid h4
          clear h4
          go_wp2
          go_ret
          exact ⟨rfl, H4.out⟩
end
end Go.Proofs.YtkkmbgjlmdddoabGreat
/- law05's same: both tell the same. -/
namespace Go.Proofs.YtkkmbgjlmdddoabGreat
open Go.RowKit
section
variable {w wr : World} {c m r : Nat} {P : Nat → Prop} {size N k : Nat} {Lp Li : List Bool} {dl t : Nat}
end
end Go.Proofs.YtkkmbgjlmdddoabGreat
