/- Two caches over disks that are alike: what each call does to both. -/
import Derived.Test.YtjgclmlclkfgpaaGreatBSameP
import Derived.Test.YtjgclmlclkfgpaaGreatBCached
namespace Go.Proofs.YtjgclmlclkfgpaaGreat
open Go.RowKit Go.Maps
theorem filtZ_le (p q : Int → Bool) (h : ∀ k, q k = true → p k = true) : ∀ l : List Int, (l.filter q).length ≤ (l.filter p).length
  | [] => Nat.le_refl _
  | k :: l => by
    have ih := filtZ_le p q h l
    rw [List.filter_cons, List.filter_cons]
    by_cases hq : q k = true
    · rw [if_pos hq, if_pos (h k hq)]; simpa using ih
    · rw [if_neg hq]
      split
      · exact Nat.le_succ_of_le ih
      · exact ih
theorem filtZ_lt (p q : Int → Bool) (h : ∀ k, q k = true → p k = true) (x : Int) (hp : p x = true) (hq : ¬ q x = true) : ∀ l : List Int, x ∈ l → (l.filter q).length < (l.filter p).length
  | [], hx => by cases hx
  | k :: l, hx => by
    have ih := filtZ_le p q h l
    rw [List.filter_cons, List.filter_cons]
    rcases List.mem_cons.1 hx with rfl | hx
    · rw [if_neg hq, if_pos hp]; exact Nat.lt_succ_of_le ih
    · have ih2 := filtZ_lt p q h x hp hq l hx
      by_cases hk : q k = true
      · rw [if_pos hk, if_pos (h k hk)]; simpa using ih2
      · rw [if_neg hk]
        split
        · exact Nat.lt_succ_of_lt ih2
        · exact ih2
theorem usedV_isSome (u : Int → Option Nat) (k : Int) : (usedV u k).isSome = (u k).isSome := by unfold usedV; cases u k <;> rfl
theorem count_upd (u : Int → Option Nat) (n : Int) (k N : Nat) : usedCount (updN u n k) N ≤ usedCount u N + 1 := by
  unfold usedCount grpKeys
  exact filt_upd _ _ n (fun j e => by simp only [usedV_isSome, updN, if_neg e]) _ (range_sorted N)
theorem count_del (u : Int → Option Nat) (x : Int) (N : Nat) : usedCount (delN u x) N ≤ usedCount u N := by
  unfold usedCount grpKeys
  refine filtZ_le _ _ (fun j e => ?_) _
  simp only [usedV_isSome, delN] at e ⊢
  split at e
  · cases e
  · exact e
theorem count_del_lt (u : Int → Option Nat) (x : Int) (N : Nat) (h0 : 0 ≤ x) (h1 : x < N) (hx : (u x).isSome = true) : usedCount (delN u x) N < usedCount u N := by
  unfold usedCount grpKeys
  refine filtZ_lt _ _ (fun j e => ?_) x (by rw [usedV_isSome]; exact hx) (by simp [usedV_isSome, delN]) _ ?_
  · simp only [usedV_isSome, delN] at e ⊢
    split at e
    · cases e
    · exact e
  · exact List.mem_map.2 ⟨x.toNat, List.mem_range.2 (by omega), by omega⟩
theorem UseTo.count {u u' : Int → Option Nat} {most N k : Nat} {n : Int} (h : UseTo u most N k n u') (hd : ∀ y j, u y = some j → 0 ≤ y ∧ y < (N : Int)) (hn : 0 ≤ n ∧ n < (N : Int)) (hc : usedCount u N ≤ most) : usedCount u' N ≤ most := by
  rcases h with ⟨h1, rfl⟩ | ⟨h1, x, ⟨j, hx, -⟩, rfl⟩
  · exact h1
  · have h2 := count_upd u n k N
    have hr : 0 ≤ x ∧ x < (N : Int) := by
      have hx' := hx
      unfold updN at hx'
      split at hx'
      · rename_i e; rw [e]; exact hn
      · exact hd x j hx'
    have h3 := count_del_lt (updN u n k) x N hr.1 hr.2 (by rw [hx]; rfl)
    omega
/-- One of the two. -/
structure Side (w0 w : World) (c : Nat) (L : CLay) (C : CS) (most o u : Nat) : Prop where
  at_ : CacheAt w c L C
  two : TwoAt w L.d C.S L.F
  size : C.size = 6
  N : C.N = 11
  made : Made C.S
  ops : C.S.ops.length ≤ o
  room : C.dirtyKeys.length ≤ 6
  uses : C.uses ≤ u
  count : usedCount C.used 11 ≤ most
  mostEq : C.most = most
  new : ∀ i, L.foot c i → w0.heap.size ≤ i
  fv : ∀ i, L.d.fv.ownBlock = some i → i < w.heap.size
section
variable {w0 w w' : World} {c : Nat} {L : CLay} {C : CS} {most o u : Nat} {G : Nat → Prop}
theorem Side.keep (h : Side w0 w c L C most o u) (k : Keeps G w w') (ho : Off L c G) : Side w0 w' c L C most o u := by
  obtain ⟨h1, h2⟩ := h.at_.keepT h.two k ho
  exact ⟨h1, h2, h.size, h.N, h.made, h.ops, h.room, h.uses, h.count, h.mostEq, h.new, fun i hi => Nat.lt_of_lt_of_le (h.fv i hi) k.size⟩
theorem Side.below (h : Side w0 w c L C most o u) (hb : Below w.heap.size w w') : Side w0 w' c L C most o u := h.keep (G := fun _ => False) (Keeps.of_below hb) ⟨fun _ _ h => h, fun h => h, fun _ _ h => h, fun _ _ _ _ h => h⟩
theorem Side.more {o' u' : Nat} (h : Side w0 w c L C most o u) (ho : o ≤ o') (hu : u ≤ u') : Side w0 w c L C most o' u' := ⟨h.at_, h.two, h.size, h.N, h.made, Nat.le_trans h.ops ho, h.room, Nat.le_trans h.uses hu, h.count, h.mostEq, h.new, h.fv⟩
theorem Side.rowLt (h : Side w0 w c L C most o u) {n : Int} {g cap : Nat} (hn : L.dv n = some (.slice (some ⟨g, 0, none⟩) 512 cap)) : g < w.heap.size := by
  obtain ⟨g2, cap2, bs, -, e2, hby, hbl, -⟩ := h.at_.bytes n _ hn
  simp only [Value.slice.injEq, Option.some.injEq, Addr.mk.injEq] at e2
  have h0 := hby 0 (by omega)
  have := World.block_lt_of_cell? w _ h0
  rw [Addr.add_mid] at this
  have h1 : g2 < w.heap.size := this
  omega
/-- What is made later is off what is there. -/
theorem Side.offMore {G' : Nat → Prop} (h : Side w0 w c L C most o u) (ho : Off L c G) (hG : ∀ i, G' i → G i ∨ w.heap.size ≤ i) : Off L c G' where
  foot := fun i hi hg => (hG i hg).elim (ho.foot i hi) (fun h1 => by have := h.at_.footLt i hi; omega)
  p := fun hg => (hG _ hg).elim ho.p (fun h1 => by have := lt_of_heap h.at_.log.heap; omega)
  fv := fun i hi hg => (hG i hg).elim (ho.fv i hi) (fun h1 => by have := h.fv i hi; omega)
  rows := fun n g cap hn hg => (hG g hg).elim (ho.rows n g cap hn) (fun h1 => by have := h.rowLt hn; omega)
/-- A side that has gone on is off what was there besides. -/
theorem Off.next {L' : CLay} {K : Nat} (ho : Off L c G) (hG : ∀ i, G i → i < K) (hf : ∀ i, L'.foot c i → L.foot c i ∨ K ≤ i) (hp : L'.p = L.p) (hv : L'.d.fv = L.d.fv) (hr : ∀ n g cap, L'.dv n = some (.slice (some ⟨g, 0, none⟩) 512 cap) → L.dv n = some (.slice (some ⟨g, 0, none⟩) 512 cap) ∨ K ≤ g) : Off L' c G where
  foot := fun i hi hg => (hf i hi).elim (fun h => ho.foot i h hg) (fun h => by have := hG i hg; omega)
  p := by rw [hp]; exact ho.p
  fv := by rw [hv]; exact ho.fv
  rows := fun n g cap hn hg => (hr n g cap hn).elim (fun h => ho.rows n g cap h hg) (fun h => by have := hG g hg; omega)
end
/-- Both: alike in what they hold. -/
def SmAt (w0 w : World) (c d mx my o u : Nat) : Prop := Below w0.heap.size w0 w ∧ ∃ L C M D, Side w0 w c L C mx o u ∧ Side w0 w d M D my o u ∧ Off L c (M.foot d) ∧ Off M d (L.foot c) ∧ C.S = D.S ∧ C.dirty = D.dirty
section
variable {w0 w w' : World} {c d mx my o u : Nat}
theorem SmAt.below (h : SmAt w0 w c d mx my o u) (hb : Below w.heap.size w w') : SmAt w0 w' c d mx my o u := by
  obtain ⟨h1, L, C, M, D, h2, h3, h4⟩ := h
  exact ⟨h1.trans (hb.mono h1.size), L, C, M, D, h2.below hb, h3.below hb, h4⟩
theorem SmAt.more {o' u' : Nat} (h : SmAt w0 w c d mx my o u) (ho : o ≤ o') (hu : u ≤ u') : SmAt w0 w c d mx my o' u' := by
  obtain ⟨h1, L, C, M, D, h2, h3, h4⟩ := h
  exact ⟨h1, L, C, M, D, h2.more ho hu, h3.more ho hu, h4⟩
end
/-- One side has gone on from w to w1, the other one stays. -/
structure Went (w0 w w1 : World) (c : Nat) (L : CLay) (C : CS) (L1 : CLay) (C1 : CS) (most o u : Nat) : Prop where
  side : Side w0 w1 c L1 C1 most o u
  keeps : Keeps (fun i => L.foot c i) w w1
  foot : ∀ i, L1.foot c i → L.foot c i ∨ w.heap.size ≤ i
  p : L1.p = L.p
  fv : L1.d.fv = L.d.fv
  rows : ∀ n g cap, L1.dv n = some (.slice (some ⟨g, 0, none⟩) 512 cap) → L.dv n = some (.slice (some ⟨g, 0, none⟩) 512 cap) ∨ w.heap.size ≤ g
section
variable {w0 w w1 : World} {c d : Nat} {L L1 M : CLay} {C C1 D : CS} {mx my o u o' u' : Nat}
/-- The other side, behind it. -/
theorem Went.other (g : Went w0 w w1 c L C L1 C1 mx o' u') (hy : Side w0 w d M D my o u) (o1 : Off L c (M.foot d)) (o2 : Off M d (L.foot c)) : Side w0 w1 d M D my o u ∧ Off L1 c (M.foot d) ∧ Off M d (L1.foot c) :=
  ⟨hy.keep g.keeps o2, o1.next (K := w.heap.size) (fun i hi => hy.at_.footLt i hi) g.foot g.p g.fv g.rows, hy.offMore o2 g.foot⟩
theorem Went.bel (g : Went w0 w w1 c L C L1 C1 mx o' u') (hx : Side w0 w c L C mx o u) (hb : Below w0.heap.size w0 w) : Below w0.heap.size w0 w1 := hb.trans (g.keeps.below hb.size hx.new)
theorem Went.same (hx : Side w0 w c L C mx o u) (hb : Below w.heap.size w w1) : Went w0 w w1 c L C L C mx o u :=
  ⟨hx.below hb, (Keeps.of_below (F := fun _ => False) hb).mono (fun _ h => h.elim), fun _ h => .inl h, rfl, rfl, fun _ _ _ h => .inl h⟩
end
end Go.Proofs.YtjgclmlclkfgpaaGreat
