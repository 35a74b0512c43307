/- A map of 120 pages and 24 inodes, of which a stretch is taken. -/
import Derived.Test.YtkkmbgjlmdddoaaGreatAlInode
import Derived.Test.YtkkmbgjlmdddoaaGreatAlLive
namespace Go.Proofs.YtkkmbgjlmdddoaaGreat
open Go.RowKit
/-- Bits: those ahead of a, and those from l to h. -/
def BitsIn (L : List UInt8) (a l h : Nat) : Prop := ∀ n, n < 4096 → bitL L n = decide (n < a ∨ (l ≤ n ∧ n < h))
theorem BitsIn.start (a : Nat) (ha : a ≤ 4096) : BitsIn (bitsTo a) a a a := fun n _ => by
  rw [bitL_bitsTo a n ha]
  apply decide_eq_decide.2
  omega
theorem BitsIn.next {L : List UInt8} {a h : Nat} (hb : BitsIn L a a h) (hL : L.length = 512) (ha : a ≤ h) (hh : h < 4096) : BitsIn (flipL L h) a a (h + 1) := fun n hn => by
  rw [bitL_flipL L h n (by omega), hb h hh, hb n hn]
  by_cases e : n = h
  · rw [if_pos e, decide_eq_false (fun h => by omega), decide_eq_true (by omega)]; rfl
  · rw [if_neg e]
    apply decide_eq_decide.2
    omega
theorem BitsIn.drop {L : List UInt8} {a l h : Nat} (hb : BitsIn L a l h) (hL : L.length = 512) (ha : a ≤ l) (hl : l < h) (hh : l < 4096) : BitsIn (flipL L l) a (l + 1) h := fun n hn => by
  rw [bitL_flipL L l n (by omega), hb l hh, hb n hn]
  by_cases e : n = l
  · rw [if_pos e, decide_eq_true (by omega), decide_eq_false (fun h => by omega)]; rfl
  · rw [if_neg e]
    apply decide_eq_decide.2
    omega
theorem BitsIn.free {L : List UInt8} {a l h z : Nat} (hb : BitsIn L a l h) (n : Nat) (hn : n < 4096) : isFree L a z n = decide (a ≤ n ∧ n < z ∧ ¬ (l ≤ n ∧ n < h)) := by
  unfold isFree
  rw [hb n hn]
  by_cases h1 : n < a ∨ (l ≤ n ∧ n < h)
  · rw [decide_eq_true h1, decide_eq_false (p := a ≤ n ∧ n < z ∧ ¬ (l ≤ n ∧ n < h)) (fun hh => by omega)]; simp
  · rw [decide_eq_false h1]
    simp only [Bool.not_false, Bool.and_true]
    apply decide_eq_decide.2
    omega
theorem BitsIn.first {L : List UInt8} {a h z : Nat} (hb : BitsIn L a a h) (ha : a ≤ h) (hz : h < z) (hh : h < 4096) : ∃ rest, freeTo L a z 4096 = h :: rest :=
  freeTo_is (fun j hj => by rw [hb.free j (by omega)]; exact decide_eq_false (fun h => by omega)) (by rw [hb.free h hh]; exact decide_eq_true (by omega)) hh
theorem BitsIn.to {L : List UInt8} {a l h z : Nat} (hb : BitsIn L a l h) (h1 : a ≤ l) (h2 : l ≤ h) (h3 : h ≤ z) : ∀ k, k ≤ 4096 → (freeTo L a z k).length = (min k z - a) - (min k h - min k l)
  | 0, _ => by rw [freeTo_zero]; simp
  | k + 1, hk => by
    have ih := hb.to h1 h2 h3 k (by omega)
    have hf := hb.free (z := z) k (by omega)
    by_cases e : a ≤ k ∧ k < z ∧ ¬ (l ≤ k ∧ k < h)
    · rw [decide_eq_true e] at hf
      rw [freeTo_yes hf, List.length_append, ih]
      simp
      omega
    · rw [decide_eq_false e] at hf
      rw [freeTo_no hf, ih]
      omega
theorem BitsIn.count {L : List UInt8} {a l h z : Nat} (hb : BitsIn L a l h) (h1 : a ≤ l) (h2 : l ≤ h) (h3 : h ≤ z) (hz : z ≤ 4096) : (freeTo L a z 4096).length = (z - a) - (h - l) := by
  rw [hb.to h1 h2 h3 4096 (Nat.le_refl _)]
  omega
/-- Few pages were written. -/
def Few (D : Int → Bool) : Prop := ∀ k, D k = true → 1 ≤ k ∧ k ≤ 5
theorem Few.len {D : Int → Bool} (h : Few D) : (dkD 120 D).length ≤ 5 := by
  have e : dkD 120 D = (((List.range 120).map (fun k : Nat => (k : Int))).filter (fun k => decide (1 ≤ k ∧ k ≤ 5))).filter D := by
    unfold dkD
    rw [List.filter_filter]
    refine List.filter_congr (fun k _ => ?_)
    cases hk : D k with
    | false => simp
    | true => simp [h k hk]
  rw [e]
  refine Nat.le_trans (List.length_filter_le _ _) ?_
  decide +kernel
theorem Few.upd {D : Int → Bool} (h : Few D) (n : Int) (h1 : 1 ≤ n) (h5 : n ≤ 5) : Few (updT D n) := fun k hk => by
  unfold updT at hk
  by_cases e : k = n
  · omega
  · rw [if_neg e] at hk; exact h k hk
theorem Few.none : Few (fun _ => false) := fun _ h => by cases h
/-- The map: inodes l1 to h1 and pages l2 to h2 are taken; sm: few pages were written since the last Commit; t steps at most. -/
structure BkIn (w wr : World) (c m : Nat) (F : Nat → Prop) (l1 h1 l2 h2 : Nat) (sm : Bool) (t : Nat) (Pg Cm : Nat → List UInt8) (D : Int → Bool) (o u : Nat) : Prop where
  out : Below w.heap.size w wr
  new : ∀ i, F i → w.heap.size ≤ i
  off : ¬ F m
  map : mapB wr m c 24
  pc : Pc wr c F 110 120 Pg Cm D o u
  b1 : BitsIn (Pg 1) 1 l1 h1
  b2 : BitsIn (Pg 2) 6 l2 h2
  i1 : 1 ≤ l1 ∧ l1 ≤ h1 ∧ h1 ≤ 24
  i2 : 6 ≤ l2 ∧ l2 ≤ h2 ∧ h2 ≤ 120
  few : sm = true → Few D
  ops : o ≤ 300 * t
  uses : u ≤ 10 * t
def BkAt (w wr : World) (c m : Nat) (F : Nat → Prop) (l1 h1 l2 h2 : Nat) (sm : Bool) (t : Nat) : Prop := ∃ Pg Cm D o u, BkIn w wr c m F l1 h1 l2 h2 sm t Pg Cm D o u
section
variable {w wr w' : World} {c m : Nat} {F : Nat → Prop} {l1 h1 l2 h2 : Nat} {sm : Bool} {t : Nat}
theorem BkAt.below (h : BkAt w wr c m F l1 h1 l2 h2 sm t) (hb : Below wr.heap.size wr w') : BkAt w w' c m F l1 h1 l2 h2 sm t := by
  obtain ⟨Pg, Cm, D, o, u, h⟩ := h
  exact ⟨Pg, Cm, D, o, u, h.out.trans (hb.mono h.out.size), h.new, h.off, h.map.below hb, h.pc.below hb, h.b1, h.b2, h.i1, h.i2, h.few, h.ops, h.uses⟩
theorem BkAt.page (h : BkAt w wr c m F l1 h1 6 h2 true t) (hh : h2 < 120) (ht : t ≤ 2000) :
    Calls Tryz.prog 24 #[.pointer (some ⟨m, 0, none⟩)] wr fun e w' => e = .returned (.tuple #[.int .i64 h2, .int .i64 0]) ∧ Keeps F wr w' ∧ BkAt w w' c m F l1 h1 6 (h2 + 1) false (t + 1) := by
  obtain ⟨Pg, Cm, D, o, u, h⟩ := h
  have hf5 := (h.few rfl).len
  have hu := h.uses
  have ho := h.ops
  have h6 := h.i2
  refine (aPage_any h.map h.off (by omega) (by omega) (by omega) h.pc).mono ?_
  rintro e w' ⟨hk, hx⟩
  obtain ⟨rest0, hr0⟩ := h.b2.first (z := 120) (by omega) hh (by omega)
  rcases hx with ⟨h0, -⟩ | ⟨q, rest, h0, hx⟩
  · rw [hr0] at h0; cases h0
  obtain rfl : h2 = q := (List.cons.inj (hr0.symm.trans h0)).1
  have e2 : (if D 2 = true then 0 else 1) ≤ 1 := by split <;> omega
  have e3 : (if D (h2 : Int) = true then 0 else 1) ≤ 1 := by split <;> omega
  rcases hx with ⟨hf, -, -⟩ | ⟨-, rfl, hp'⟩
  · omega
  refine ⟨rfl, hk, _, Cm, _, o, _, h.out.trans (hk.below h.out.size h.new), h.new, h.off, h.map.keep hk h.off, hp', ?_, ?_, h.i1, ⟨by omega, by omega, by omega⟩, (fun h => absurd h (by decide)), by omega, by omega⟩
  · have e : updP (updP Pg 2 (flipL (Pg 2) h2)) h2 (zN 512) 1 = Pg 1 := by unfold updP; rw [if_neg (by omega), if_neg (by omega)]
    rw [e]; exact h.b1
  · have e : updP (updP Pg 2 (flipL (Pg 2) h2)) h2 (zN 512) 2 = flipL (Pg 2) h2 := by unfold updP; rw [if_neg (by omega), if_pos rfl]
    rw [e]; exact h.b2.next (h.pc.len 2 (by omega)) (by omega) (by omega)
theorem BkAt.inode (h : BkAt w wr c m F 1 h1 l2 h2 true t) (hh : h1 < 24) (ht : t ≤ 2000) :
    Calls Tryz.prog 26 #[.pointer (some ⟨m, 0, none⟩)] wr fun e w' => e = .returned (.tuple #[.int .i64 h1, .int .i64 0]) ∧ Keeps F wr w' ∧ BkAt w w' c m F 1 (h1 + 1) l2 h2 true (t + 1) := by
  obtain ⟨Pg, Cm, D, o, u, h⟩ := h
  have hf5 := (h.few rfl).len
  have hu := h.uses
  have ho := h.ops
  have h6 := h.i1
  refine (aInode_any h.map h.off (by omega) (by omega) (by omega) (by omega) (by omega) h.pc).mono ?_
  rintro e w' ⟨hk, hx⟩
  obtain ⟨rest0, hr0⟩ := h.b1.first (z := 24) (by omega) hh (by omega)
  rcases hx with ⟨h0, -⟩ | ⟨q, rest, h0, hx⟩
  · rw [hr0] at h0; cases h0
  obtain rfl : h1 = q := (List.cons.inj (hr0.symm.trans h0)).1
  have e2 : inoC Pg D h1 ≤ 2 := by
    unfold inoC
    have a1 : (if D 1 = true then 0 else 1) ≤ 1 := by split <;> omega
    have a2 : (if inoT Pg h1 = Pg (3 + h1 / 8) then 0 else if D (3 + h1 / 8 : Nat) then 0 else 1) ≤ 1 := by
      split
      · omega
      · split <;> omega
    omega
  rcases hx with ⟨hf, -, -⟩ | ⟨-, rfl, hp'⟩
  · omega
  have ep1 : inoP Pg h1 1 = flipL (Pg 1) h1 := by
    unfold inoP
    split
    · unfold updP; rw [if_pos rfl]
    · unfold updP; rw [if_neg (by omega), if_pos rfl]
  have ep2 : inoP Pg h1 2 = Pg 2 := by
    unfold inoP
    split
    · unfold updP; rw [if_neg (by omega)]
    · unfold updP; rw [if_neg (by omega), if_neg (by omega)]
  refine ⟨rfl, hk, _, Cm, _, o, _, h.out.trans (hk.below h.out.size h.new), h.new, h.off, h.map.keep hk h.off, hp', ?_, ?_, ⟨by omega, by omega, by omega⟩, h.i2, fun _ => ?_, by omega, by omega⟩
  · rw [ep1]; exact h.b1.next (h.pc.len 1 (by omega)) (by omega) (by omega)
  · rw [ep2]; exact h.b2
  · unfold inoD
    split
    · exact (h.few rfl).upd 1 (by omega) (by omega)
    · exact ((h.few rfl).upd 1 (by omega) (by omega)).upd _ (by omega) (by omega)
theorem BkAt.giveP (h : BkAt w wr c m F l1 h1 l2 h2 true t) (hh : l2 < h2) (ht : t ≤ 2000) :
    Calls Tryz.prog 27 #[.pointer (some ⟨m, 0, none⟩), .int .i64 l2] wr fun e w' => e = .returned (.int .i64 0) ∧ Keeps F wr w' ∧ BkAt w w' c m F l1 h1 (l2 + 1) h2 true (t + 1) := by
  obtain ⟨Pg, Cm, D, o, u, h⟩ := h
  have hf5 := (h.few rfl).len
  have hu := h.uses
  have ho := h.ops
  have h6 := h.i2
  refine (aGivePage_any h.map h.off (by omega) l2 (by omega) (by omega) h.pc).mono ?_
  rintro e w' ⟨hk, hx⟩
  have hin : ((3 + 24 / 8 : Nat) : Int) ≤ (l2 : Int) ∧ (l2 : Int) < ((120 : Nat) : Int) := by omega
  have htt : (l2 : Int).toNat = l2 := by omega
  rw [htt, h.b2 l2 (by omega), decide_eq_true (by omega)] at hx
  have e3 : (if D ((2 : Nat) : Int) = true then 0 else 1) ≤ 1 := by split <;> omega
  rcases hx with ⟨hn, -⟩ | ⟨-, hn, -⟩ | ⟨-, -, hn, -⟩ | ⟨-, -, -, rfl, hp⟩
  · exact absurd hin hn
  · cases hn
  · omega
  refine ⟨rfl, hk, _, Cm, _, o, _, h.out.trans (hk.below h.out.size h.new), h.new, h.off, h.map.keep hk h.off, hp, ?_, ?_, h.i1, ⟨by omega, by omega, by omega⟩, fun _ => (h.few rfl).upd _ (by omega) (by omega), by omega, by omega⟩
  · have e : updP Pg 2 (flipL (Pg 2) l2) 1 = Pg 1 := by unfold updP; rw [if_neg (by omega)]
    rw [e]; exact h.b1
  · have e : updP Pg 2 (flipL (Pg 2) l2) 2 = flipL (Pg 2) l2 := by unfold updP; rw [if_pos rfl]
    rw [e]; exact h.b2.drop (h.pc.len 2 (by omega)) (by omega) hh (by omega)
theorem BkAt.givePNo (h : BkAt w wr c m F l1 h1 l2 h2 sm t) (n : Nat) (hn6 : 6 ≤ n) (hn : n < l2) (ht : t ≤ 2000) :
    Calls Tryz.prog 27 #[.pointer (some ⟨m, 0, none⟩), .int .i64 n] wr fun e w' => e = .returned (.int .i64 4) ∧ Keeps F wr w' ∧ BkAt w w' c m F l1 h1 l2 h2 sm (t + 1) := by
  obtain ⟨Pg, Cm, D, o, u, h⟩ := h
  have hu := h.uses
  have ho := h.ops
  have h6 := h.i2
  refine (aGivePage_any h.map h.off (by omega) n (by omega) (by omega) h.pc).mono ?_
  rintro e w' ⟨hk, hx⟩
  have hin : ((3 + 24 / 8 : Nat) : Int) ≤ (n : Int) ∧ (n : Int) < ((120 : Nat) : Int) := by omega
  have htt : (n : Int).toNat = n := by omega
  rw [htt, h.b2 n (by omega), decide_eq_false (fun h => by omega)] at hx
  rcases hx with ⟨hn, -⟩ | ⟨-, -, rfl, hp⟩ | ⟨-, hn, -⟩ | ⟨-, hn, -⟩
  · exact absurd hin hn
  · exact ⟨rfl, hk, _, Cm, _, o, _, h.out.trans (hk.below h.out.size h.new), h.new, h.off, h.map.keep hk h.off, hp, h.b1, h.b2, h.i1, h.i2, h.few, by omega, by omega⟩
  · cases hn
  · cases hn
theorem BkAt.giveI (h : BkAt w wr c m F l1 h1 l2 h2 true t) (hh : l1 < h1) (ht : t ≤ 2000) :
    Calls Tryz.prog 28 #[.pointer (some ⟨m, 0, none⟩), .int .i64 l1] wr fun e w' => e = .returned (.int .i64 0) ∧ Keeps F wr w' ∧ BkAt w w' c m F (l1 + 1) h1 l2 h2 true (t + 1) := by
  obtain ⟨Pg, Cm, D, o, u, h⟩ := h
  have hf5 := (h.few rfl).len
  have hu := h.uses
  have ho := h.ops
  have h6 := h.i1
  refine (aGiveInode_any h.map h.off (by omega) l1 (by omega) (by omega) h.pc).mono ?_
  rintro e w' ⟨hk, hx⟩
  have hin : ((1 : Nat) : Int) ≤ (l1 : Int) ∧ (l1 : Int) < ((24 : Nat) : Int) := by omega
  have htt : (l1 : Int).toNat = l1 := by omega
  rw [htt, h.b1 l1 (by omega), decide_eq_true (by omega)] at hx
  have e3 : (if D ((1 : Nat) : Int) = true then 0 else 1) ≤ 1 := by split <;> omega
  rcases hx with ⟨hn, -⟩ | ⟨-, hn, -⟩ | ⟨-, -, hn, -⟩ | ⟨-, -, -, rfl, hp⟩
  · exact absurd hin hn
  · cases hn
  · omega
  refine ⟨rfl, hk, _, Cm, _, o, _, h.out.trans (hk.below h.out.size h.new), h.new, h.off, h.map.keep hk h.off, hp, ?_, ?_, ⟨by omega, by omega, by omega⟩, h.i2, fun _ => (h.few rfl).upd _ (by omega) (by omega), by omega, by omega⟩
  · have e : updP Pg 1 (flipL (Pg 1) l1) 1 = flipL (Pg 1) l1 := by unfold updP; rw [if_pos rfl]
    rw [e]; exact h.b1.drop (h.pc.len 1 (by omega)) (by omega) hh (by omega)
  · have e : updP Pg 1 (flipL (Pg 1) l1) 2 = Pg 2 := by unfold updP; rw [if_neg (by omega)]
    rw [e]; exact h.b2
theorem BkAt.free (h : BkAt w wr c m F l1 h1 l2 h2 sm t) (ht : t ≤ 2000) :
    Calls Tryz.prog 23 #[.pointer (some ⟨m, 0, none⟩)] wr fun e w' => e = .returned (.tuple #[.int .i64 (114 - (h2 - l2) : Nat), .int .i64 (23 - (h1 - l1) : Nat)]) ∧ Keeps F wr w' ∧ BkAt w w' c m F l1 h1 l2 h2 sm (t + 1) := by
  obtain ⟨Pg, Cm, D, o, u, h⟩ := h
  have hu := h.uses
  have ho := h.ops
  have h61 := h.i1
  have h62 := h.i2
  refine (aFree_any h.map h.off (by omega) (by omega) (by omega) (by omega) h.pc).mono ?_
  rintro e w' ⟨rfl, hk, hp⟩
  have c1 := h.b1.count (z := 24) (by omega) (by omega) (by omega) (by omega)
  have c2 := h.b2.count (z := 120) (by omega) (by omega) (by omega) (by omega)
  refine ⟨?_, hk, _, Cm, _, o, _, h.out.trans (hk.below h.out.size h.new), h.new, h.off, h.map.keep hk h.off, hp, h.b1, h.b2, h.i1, h.i2, h.few, by omega, by omega⟩
  rw [show 3 + 24 / 8 = 6 from rfl, c1, c2]
theorem BkAt.commit (h : BkAt w wr c m F l1 h1 l2 h2 sm t) (ht : t ≤ 2000) :
    Calls Tryz.prog 13 #[.pointer (some ⟨c, 0, none⟩)] wr fun e w' => e = .returned (.int .i64 0) ∧ Keeps F wr w' ∧ ∃ F', (∀ i, F' i → F i ∨ wr.heap.size ≤ i) ∧ BkAt w w' c m F' l1 h1 l2 h2 true (t + 1) := by
  obtain ⟨Pg, Cm, D, o, u, h⟩ := h
  have hu := h.uses
  have ho := h.ops
  refine (h.pc.commit (by omega)).mono ?_
  rintro e w' ⟨rfl, hk, F', hF1, hF2, hp⟩
  refine ⟨rfl, hk, F', hF2, _, _, _, _, u, h.out.trans (hk.below h.out.size h.new), fun i hi => ?_, fun hf => ?_, h.map.keep hk h.off, hp, h.b1, h.b2, h.i1, h.i2, fun _ => Few.none, by omega, by omega⟩
  · rcases hF2 i hi with h' | h'
    · exact h.new i h'
    · exact Nat.le_trans h.out.size h'
  · rcases hF2 m hf with h' | h'
    · exact h.off h'
    · exact absurd h.map.lt (by omega)
theorem BkAt.first (h : BkAt w wr c m F l1 h1 l2 h2 sm t) : Calls Tryz.prog 25 #[.pointer (some ⟨m, 0, none⟩)] wr fun e w' => e = .returned (.int .i64 6) ∧ w' = wr := by
  obtain ⟨Pg, Cm, D, o, u, h⟩ := h
  exact amFirst_any h.map (by omega)
end
end Go.Proofs.YtkkmbgjlmdddoaaGreat
