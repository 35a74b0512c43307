/- The first free page and the first free inode. -/
import Derived.Test.YtkkmbgjlmdddoabGreatBaseH
namespace Go.Proofs.YtkkmbgjlmdddoabGreat
open Go.RowKit
/-- The search for the first one that is free ended at n. -/
def EndAt5 (L : List Bool) (n : Nat) : Prop := (n = L.length ∧ ∀ j (hj : j < L.length), L[j] = true) ∨ ∃ hn : n < L.length, L[n] = false ∧ ∀ j (hj : j < n), L[j] = true
section
variable {w wr : World} {c m r : Nat} {P : Nat → Prop} {size N k : Nat} {Lp Li : List Bool} {dl t : Nat}
theorem PrAt.low (h : PrAt w wr c m r P size N k Lp Li dl t) : (∀ j (hj : j < Lp.length), j < 3 + k / 8 → Lp[j] = true) ∧ ∀ j (hj : j < Li.length), j < 1 → Li[j] = true := by
  obtain ⟨F, g, cp, gi, ci, Pg, Cm, D, o, u, h⟩ := h
  exact ⟨h.b2.low, h.b1.low⟩
/-- Page, then Inode: where the search ended. -/
theorem PrAt.take2 (h : PrAt w wr c m r P size N k Lp Li dl t) (hd : dl + 4 ≤ min size 100) (ht : t ≤ 2000) (n i : Nat) (hn : EndAt5 Lp n) (hi : EndAt5 Li i) :
    Calls Tryz.prog 7 #[.pointer (some ⟨m, 0, none⟩)] wr fun e w1 => ∃ a x : Int, e = .returned (.tuple #[.int .i64 a, .int .i64 x]) ∧ ((n = N ∧ x = 7) ∨ (n < N ∧ a = n ∧ x = 0)) ∧
      Calls Tryz.prog 8 #[.pointer (some ⟨m, 0, none⟩)] w1 fun e w2 => ∃ b y : Int, e = .returned (.tuple #[.int .i64 b, .int .i64 y]) ∧ ((i = k ∧ y = 7) ∨ (i < k ∧ b = i ∧ y = 0)) ∧ Below w.heap.size w w2 := by
  obtain ⟨F, g, cp, gi, ci, Pg, Cm, D, o, u, h⟩ := h
  have hu := h.uses
  have hlp := h.lp
  have hli := h.li
  have hL5 := h.n5
  have hdd := h.dirt
  have hmy := h.may
  unfold mayP at hmy
  have hb1 := h.b1
  have hb2 := h.b2
  have hIn : ∀ (w1 : World) (Pg' : Nat → List UInt8) (D' : Int → Bool) (u' : Nat), Keeps F wr w1 → Pg' 1 = Pg 1 → (dkD N D').length ≤ dl + 2 → u' ≤ u + 1 → Pc w1 c F size N Pg' Cm D' o u' →
      Calls Tryz.prog 8 #[.pointer (some ⟨m, 0, none⟩)] w1 fun e w2 => ∃ b y : Int, e = .returned (.tuple #[.int .i64 b, .int .i64 y]) ∧ ((i = k ∧ y = 7) ∨ (i < k ∧ b = i ∧ y = 0)) ∧ Below w.heap.size w w2 := by
    intro w1 Pg' D' u' hk e1 hd' hu' hp
    have hb1' := hb1
    rw [← e1] at hb1'
    refine (aInode_any (h.map.keep hk h.off) h.off (by omega) (by omega) (by omega) (by omega) (by omega) hp).mono ?_
    rintro e w2 ⟨hk2, hx⟩
    have hB : Below w.heap.size w w2 := (h.out.trans (hk.below h.out.size h.new)).trans (hk2.below (Nat.le_trans h.out.size hk.size) h.new)
    rcases hi with ⟨hin, hall⟩ | ⟨hin, hbn, hlow⟩
    · have e0 := hb1'.all hall
      rw [hli] at e0
      rcases hx with ⟨-, rfl, -⟩ | ⟨q, rest, h0, -⟩
      · exact ⟨0, 7, rfl, .inl ⟨by omega, rfl⟩, hB⟩
      · rw [e0] at h0; cases h0
    · obtain ⟨rest0, hr0⟩ := hb1'.first (by omega) i hin hbn hlow
      rw [hli] at hr0
      rcases hx with ⟨h0, -⟩ | ⟨q, rest, h0, hx⟩
      · rw [hr0] at h0; cases h0
      obtain rfl : i = q := (List.cons.inj (hr0.symm.trans h0)).1
      have e2 := inoC_le Pg' D' i
      rcases hx with ⟨hf, -, -⟩ | ⟨-, rfl, -⟩
      · omega
      · exact ⟨i, 0, rfl, .inr ⟨by omega, rfl, rfl⟩, hB⟩
  refine (aPage_any h.map h.off (by omega) (by omega) (by omega) h.pc).mono ?_
  rintro e w1 ⟨hk, hx⟩
  rcases hn with ⟨hnn, hall⟩ | ⟨hnn, hbn, hlow⟩
  · have e0 := hb2.all hall
    rw [hlp] at e0
    rcases hx with ⟨-, rfl, hp⟩ | ⟨q, rest, h0, -⟩
    · exact ⟨0, 7, rfl, .inl ⟨by omega, rfl⟩, hIn w1 _ _ _ hk rfl (by omega) (Nat.le_refl _) hp⟩
    · rw [e0] at h0; cases h0
  · obtain ⟨rest0, hr0⟩ := hb2.first (by omega) n hnn hbn hlow
    rw [hlp] at hr0
    rcases hx with ⟨h0, -⟩ | ⟨q, rest, h0, hx⟩
    · rw [hr0] at h0; cases h0
    obtain rfl : n = q := (List.cons.inj (hr0.symm.trans h0)).1
    have hfi := freeTo_first hr0
    have e2 : (if D 2 = true then 0 else 1) ≤ 1 := by split <;> omega
    have e3 : (if D (n : Int) = true then 0 else 1) ≤ 1 := by split <;> omega
    rcases hx with ⟨hf, -, -⟩ | ⟨-, rfl, hp⟩
    · omega
    have d1 : (dkD N (updT D 2)).length ≤ (dkD N D).length + 1 := dkD_upd1 N D 2
    have d2 := dkD_upd1 N (updT D 2) n
    exact ⟨n, 0, rfl, .inr ⟨by omega, rfl, rfl⟩, hIn w1 _ _ _ hk (by unfold updP; rw [if_neg (by omega), if_neg (by omega)]) (by omega) (Nat.le_refl _) hp⟩
theorem usedB_in {B : List Bool} {n : Nat} (hn : n < B.length) : usedB B (n : Int) = B[n] := by
  unfold usedB
  rw [decide_eq_true (by omega), Int.toNat_natCast, getD_in hn, Bool.true_and]
end
end Go.Proofs.YtkkmbgjlmdddoabGreat
