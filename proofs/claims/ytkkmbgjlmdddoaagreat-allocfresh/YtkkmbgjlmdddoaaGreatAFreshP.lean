/- A map of 60 pages, of which the first ones are taken. -/
import Derived.Test.YtkkmbgjlmdddoaaGreatAlLive
namespace Go.Proofs.YtkkmbgjlmdddoaaGreat
open Go.RowKit
theorem flipL_flipL (l : List UInt8) (n : Nat) (hn : n / 8 < l.length) : flipL (flipL l n) n = l := by
  unfold flipL
  rw [List.set_set]
  simp only [List.getD_eq_getElem?_getD, List.getElem?_set_self hn, List.getElem?_eq_getElem hn, Option.getD_some]
  rw [UInt8.xor_assoc, UInt8.xor_self, UInt8.xor_zero, List.set_getElem_self]
theorem bitsTo_back (k : Nat) (hk : k < 4096) : flipL (bitsTo (k + 1)) k = bitsTo k := flipL_flipL (bitsTo k) k (by rw [length_bitsTo]; omega)
/-- A map of 60 pages and of ino inodes; the pages as they are read; at most d were written, or read. -/
def FrAt (w wr : World) (c m : Nat) (Pg : Nat → List UInt8) (d : Nat) : Prop :=
  Below w.heap.size w wr ∧ ∃ F Cm D o u, (∀ i, F i → w.heap.size ≤ i) ∧ ¬ F m ∧ mapB wr m c 8 ∧ Pc wr c F 50 60 Pg Cm D o u ∧ (dkD 60 D).length ≤ d ∧ u ≤ d
section
variable {w wr w' : World} {c m : Nat} {Pg : Nat → List UInt8} {d : Nat}
theorem FrAt.below (h : FrAt w wr c m Pg d) (hb : Below wr.heap.size wr w') : FrAt w w' c m Pg d := by
  obtain ⟨h0, F, Cm, D, o, u, hF, hm, hM, hP, h1, h2⟩ := h
  exact ⟨h0.trans (hb.mono h0.size), F, Cm, D, o, u, hF, hm, hM.below hb, hP.below hb, h1, h2⟩
theorem FrAt.page (h : FrAt w wr c m Pg d) (t : Nat) (ht : Pg 2 = bitsTo t) (h4 : 4 ≤ t) (h6 : t < 60) (hd : d ≤ 48) :
    Calls Tryz.prog 24 #[.pointer (some ⟨m, 0, none⟩)] wr fun e w' => e = .returned (.tuple #[.int .i64 t, .int .i64 0]) ∧ FrAt w w' c m (updP (updP Pg 2 (bitsTo (t + 1))) t (zN 512)) (d + 2) := by
  obtain ⟨h0, F, Cm, D, o, u, hF, hm, hM, hP, h1, h2⟩ := h
  refine (aPage_bits t hM hm (by omega) (by omega) (by omega) hP ht (by omega) h6 (by omega)).mono ?_
  rintro e w' ⟨rfl, hk, hp⟩
  refine ⟨rfl, h0.trans (hk.below h0.size hF), F, Cm, _, o, _, hF, hm, hM.keep hk hm, hp, ?_, by omega⟩
  have e1 := dkD_upd1 60 (updT D 2) t
  have e2 : (dkD 60 (updT D 2)).length ≤ (dkD 60 D).length + 1 := dkD_upd1 60 D 2
  omega
theorem FrAt.write (h : FrAt w wr c m Pg d) (n : Nat) (hn : n < 60) (hd : d ≤ 49) (l : List UInt8) (hl : l.length = 512) (ad : Addr) (cp : Nat) (hb : bytesAt wr ad l) :
    Calls Tryz.prog 29 #[.pointer (some ⟨c, 0, none⟩), .int .i64 n, .slice (some ad) 512 cp] wr fun e w' => e = .returned (.int .i64 0) ∧ FrAt w w' c m (updP Pg n l) (d + 1) := by
  obtain ⟨h0, F, Cm, D, o, u, hF, hm, hM, hP, h1, h2⟩ := h
  refine (hP.write n hn l hl ad cp hb (.inr (by omega))).mono ?_
  rintro e w' ⟨rfl, hk, hp⟩
  refine ⟨rfl, h0.trans (hk.below h0.size hF), F, Cm, _, o, _, hF, hm, hM.keep hk hm, hp, ?_, by omega⟩
  have e1 := dkD_upd1 60 D n
  omega
theorem FrAt.give (h : FrAt w wr c m Pg d) (t : Nat) (ht : Pg 2 = bitsTo (t + 1)) (h4 : 4 ≤ t) (h6 : t < 60) (hd : d ≤ 48) :
    Calls Tryz.prog 27 #[.pointer (some ⟨m, 0, none⟩), .int .i64 t] wr fun e w' => e = .returned (.int .i64 0) ∧ FrAt w w' c m (updP Pg 2 (bitsTo t)) (d + 1) := by
  obtain ⟨h0, F, Cm, D, o, u, hF, hm, hM, hP, h1, h2⟩ := h
  refine (aGivePage_any hM hm (by omega) t (by omega) (by omega) hP).mono ?_
  rintro e w' ⟨hk, hx⟩
  have hin : ((3 + 8 / 8 : Nat) : Int) ≤ (t : Int) ∧ (t : Int) < ((60 : Nat) : Int) := by omega
  have htt : (t : Int).toNat = t := by omega
  rw [htt, ht, bitsTo_back t (by omega), bitL_bitsTo _ _ (by omega), decide_eq_true (show t < t + 1 by omega)] at hx
  have h3 : (if D ((2 : Nat) : Int) = true then 0 else 1) ≤ 1 := by split <;> omega
  rcases hx with ⟨hn, -⟩ | ⟨-, hn, -⟩ | ⟨-, -, hn, -⟩ | ⟨-, -, -, rfl, hp⟩
  · exact absurd hin hn
  · cases hn
  · omega
  refine ⟨rfl, h0.trans (hk.below h0.size hF), F, Cm, _, o, _, hF, hm, hM.keep hk hm, hp, ?_, by omega⟩
  have e1 := dkD_upd1 60 D 2
  omega
theorem FrAt.read (h : FrAt w wr c m Pg d) (n : Nat) (hn : n < 60) (hd : d ≤ 100) :
    Calls Tryz.prog 30 #[.pointer (some ⟨c, 0, none⟩), .int .i64 n] wr fun e w' => ∃ g cap, e = .returned (.tuple #[.slice (some ⟨g, 0, none⟩) 512 cap, .int .i64 0]) ∧ rowU w' g (Pg n) ∧ FrAt w w' c m Pg (d + 1) := by
  obtain ⟨h0, F, Cm, D, o, u, hF, hm, hM, hP, h1, h2⟩ := h
  refine (hP.read (Below.refl _ _) n hn (by omega)).mono ?_
  rintro e w' ⟨g, cap, rfl, -, -, hr, hk, hp⟩
  exact ⟨g, cap, rfl, hr, h0.trans (hk.below h0.size hF), F, Cm, D, o, _, hF, hm, hM.keep hk hm, hp w' (Keeps.refl _ _), by omega, by omega⟩
theorem FrAt.commit (h : FrAt w wr c m Pg d) (ho : ∃ F Cm D o u, (∀ i, F i → w.heap.size ≤ i) ∧ ¬ F m ∧ mapB wr m c 8 ∧ Pc wr c F 50 60 Pg Cm D o u ∧ o ≤ 800000 ∧ u ≤ d) :
    Calls Tryz.prog 13 #[.pointer (some ⟨c, 0, none⟩)] wr fun e w' => e = .returned (.int .i64 0) ∧ FrAt w w' c m Pg d := by
  obtain ⟨h0, -⟩ := h
  obtain ⟨F, Cm, D, o, u, hF, hm, hM, hP, h1, h2⟩ := ho
  refine (hP.commit h1).mono ?_
  rintro e w' ⟨rfl, hk, F', hF1, hF2, hp⟩
  refine ⟨rfl, h0.trans (hk.below h0.size hF), F', Pg, fun _ => false, _, u, fun i hi => ?_, fun hf => ?_, hM.keep hk hm, hp, by rw [dkD_none]; simp, h2⟩
  · rcases hF2 i hi with h | h
    · exact hF i h
    · exact Nat.le_trans h0.size h
  · rcases hF2 m hf with h | h
    · exact hm h
    · exact absurd hM.lt (by omega)
end
end Go.Proofs.YtkkmbgjlmdddoaaGreat
