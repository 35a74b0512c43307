/- A map of which what is not committed is forgotten. -/
import Derived.Test.YtkkmbgjlmdddoaaGreatBaseH
namespace Go.Proofs.YtkkmbgjlmdddoaaGreat
open Go.RowKit
/-- Pages of which none is written are as they were committed. -/
theorem Pc.clean {w : World} {c : Nat} {F : Nat → Prop} {size N : Nat} {Pg Cm : Nat → List UInt8} {D : Int → Bool} {o u : Nat} (h : Pc w c F size N Pg Cm D o u) (hd : (dkD N D).length ≤ 0) (n : Nat) (hn : n < N) : Cm n = Pg n := by
  obtain ⟨L, C, h⟩ := h
  have hk : C.dirtyKeys = [] := by rw [h.keys]; exact List.length_eq_zero_iff.1 (by omega)
  have h1 := h.at_.comSee (by rw [hk]; simp) n (by rw [h.nn]; exact hn)
  unfold CS.com at h1
  rw [if_pos hk, h.pg n hn, h.sz, h.cm n hn] at h1
  exact h1
/-- A map whose committed pages tell what the reference tells. -/
structure Ab5In (w wr : World) (c m r : Nat) (F : Nat → Prop) (size N k : Nat) (Lp Li : List Bool) (t : Nat) (g cp gi ci : Nat) (Pg Cm : Nat → List UInt8) (D : Int → Bool) (o u : Nat) : Prop where
  out : Below w.heap.size w wr
  new : ∀ i, F i → w.heap.size ≤ i
  off : ¬ F m
  map : mapB wr m c k
  pc : Pc wr c F size N Pg Cm D o u
  ref : R5In wr r g cp gi ci Lp Li
  offr : ¬ F r ∧ ¬ F g ∧ ¬ F gi
  newr : w.heap.size ≤ r
  lp : Lp.length = N
  li : Li.length = k
  b0 : Cm 0 = superL N k
  b1 : Rel (Cm 1) 1 Li
  b2 : Rel (Cm 2) (3 + k / 8) Lp
  may : mayP N k
  n5 : N ≤ 519
  ops : o ≤ 20 * t
  uses : u ≤ 10 * t
def Ab5 (w wr : World) (c m r : Nat) (size N k t : Nat) : Prop := ∃ Lp Li F g cp gi ci Pg Cm D o u, Ab5In w wr c m r F size N k Lp Li t g cp gi ci Pg Cm D o u
section
variable {w wr w1 : World} {c m r : Nat} {P F : Nat → Prop} {size N k : Nat} {Lp Li : List Bool} {t g cp gi ci : Nat} {Pg Cm Pg' : Nat → List UInt8} {D D' : Int → Bool} {o u u' : Nat}
theorem PrTo.ab (h : PrTo w c m r P size N k 0 t wr) : Ab5 w wr c m r size N k t := by
  obtain ⟨Lp, Li, F, g, cp, gi, ci, Pg, Cm, D, o, u, h⟩ := h
  have hmy := h.may
  unfold mayP at hmy
  have hc := fun n hn => h.pc.clean h.dirt n hn
  exact ⟨Lp, Li, F, g, cp, gi, ci, Pg, Cm, D, o, u, h.out, h.new, h.off, h.map, h.pc, h.ref, h.offr, h.newr, h.lp, h.li, by rw [hc 0 (by omega)]; exact h.b0, by rw [hc 1 (by omega)]; exact h.b1, by rw [hc 2 (by omega)]; exact h.b2, h.may, h.n5, h.ops, h.uses⟩
theorem Ab5.out (h : Ab5 w wr c m r size N k t) : Below w.heap.size w wr := by
  obtain ⟨Lp, Li, F, g, cp, gi, ci, Pg, Cm, D, o, u, h⟩ := h
  exact h.out
theorem Ab5.more {t' : Nat} (h : Ab5 w wr c m r size N k t) (ht : t ≤ t') : Ab5 w wr c m r size N k t' := by
  obtain ⟨Lp, Li, F, g, cp, gi, ci, Pg, Cm, D, o, u, h⟩ := h
  have h1 := h.ops
  have h2 := h.uses
  exact ⟨Lp, Li, F, g, cp, gi, ci, Pg, Cm, D, o, u, h.out, h.new, h.off, h.map, h.pc, h.ref, h.offr, h.newr, h.lp, h.li, h.b0, h.b1, h.b2, h.may, h.n5, by omega, by omega⟩
theorem Ab5In.step (h : Ab5In w wr c m r F size N k Lp Li t g cp gi ci Pg Cm D o u) (hk : Keeps F wr w1) (hp : Pc w1 c F size N Pg' Cm D' o u') (hu : u' ≤ u + 2) : Ab5 w w1 c m r size N k (t + 1) := by
  have h1 := h.ops
  have h2 := h.uses
  exact ⟨Lp, Li, F, g, cp, gi, ci, Pg', Cm, D', o, u', h.out.trans (hk.below h.out.size h.new), h.new, h.off, h.map.keep hk h.off, hp, h.ref.keep hk h.offr.1 h.offr.2.1 h.offr.2.2, h.offr, h.newr, h.lp, h.li, h.b0, h.b1, h.b2, h.may, h.n5, by omega, by omega⟩
theorem Ab5.page (h : Ab5 w wr c m r size N k t) (ht : t ≤ 2000) : Calls Tryz.prog 24 #[.pointer (some ⟨m, 0, none⟩)] wr fun e w1 => ∃ n x : Int, e = .returned (.tuple #[.int .i64 n, .int .i64 x]) ∧ Ab5 w w1 c m r size N k (t + 1) := by
  obtain ⟨Lp, Li, F, g, cp, gi, ci, Pg, Cm, D, o, u, h⟩ := h
  have hmy := h.may
  have hu := h.uses
  unfold mayP at hmy
  refine (aPage_any h.map h.off (by omega) (by omega) (by omega) h.pc).mono ?_
  rintro e w1 ⟨hk, ⟨-, rfl, hp⟩ | ⟨q, rest, -, ⟨-, rfl, hp⟩ | ⟨-, rfl, hp⟩⟩⟩
  · exact ⟨_, _, rfl, h.step hk hp (by omega)⟩
  · exact ⟨_, _, rfl, h.step hk hp (by omega)⟩
  · exact ⟨_, _, rfl, h.step hk hp (by omega)⟩
theorem Ab5.inode (h : Ab5 w wr c m r size N k t) (ht : t ≤ 2000) : Calls Tryz.prog 26 #[.pointer (some ⟨m, 0, none⟩)] wr fun e w1 => ∃ n x : Int, e = .returned (.tuple #[.int .i64 n, .int .i64 x]) ∧ Ab5 w w1 c m r size N k (t + 1) := by
  obtain ⟨Lp, Li, F, g, cp, gi, ci, Pg, Cm, D, o, u, h⟩ := h
  have hmy := h.may
  have hu := h.uses
  unfold mayP at hmy
  refine (aInode_any h.map h.off (by omega) (by omega) (by omega) (by omega) (by omega) h.pc).mono ?_
  rintro e w1 ⟨hk, ⟨-, rfl, hp⟩ | ⟨q, rest, -, ⟨-, rfl, hp⟩ | ⟨-, rfl, hp⟩⟩⟩
  · exact ⟨_, _, rfl, h.step hk hp (by omega)⟩
  · exact ⟨_, _, rfl, h.step hk hp (by omega)⟩
  · exact ⟨_, _, rfl, h.step hk hp (by omega)⟩
theorem Ab5.giveP (h : Ab5 w wr c m r size N k t) (n : Int) (ht : t ≤ 2000) : Calls Tryz.prog 27 #[.pointer (some ⟨m, 0, none⟩), .int .i64 n] wr fun e w1 => ∃ x : Int, e = .returned (.int .i64 x) ∧ Ab5 w w1 c m r size N k (t + 1) := by
  obtain ⟨Lp, Li, F, g, cp, gi, ci, Pg, Cm, D, o, u, h⟩ := h
  have hmy := h.may
  have hu := h.uses
  unfold mayP at hmy
  refine (aGivePage_any h.map h.off (by omega) n (by omega) (by omega) h.pc).mono ?_
  rintro e w1 ⟨hk, ⟨-, rfl, hp⟩ | ⟨-, -, rfl, hp⟩ | ⟨-, -, -, rfl, hp⟩ | ⟨-, -, -, rfl, hp⟩⟩
  · exact ⟨_, rfl, h.step hk hp (by omega)⟩
  · exact ⟨_, rfl, h.step hk hp (by omega)⟩
  · exact ⟨_, rfl, h.step hk hp (by omega)⟩
  · exact ⟨_, rfl, h.step hk hp (by omega)⟩
theorem Ab5.giveI (h : Ab5 w wr c m r size N k t) (n : Int) (ht : t ≤ 2000) : Calls Tryz.prog 28 #[.pointer (some ⟨m, 0, none⟩), .int .i64 n] wr fun e w1 => ∃ x : Int, e = .returned (.int .i64 x) ∧ Ab5 w w1 c m r size N k (t + 1) := by
  obtain ⟨Lp, Li, F, g, cp, gi, ci, Pg, Cm, D, o, u, h⟩ := h
  have hmy := h.may
  have hu := h.uses
  unfold mayP at hmy
  refine (aGiveInode_any h.map h.off (by omega) n (by omega) (by omega) h.pc).mono ?_
  rintro e w1 ⟨hk, ⟨-, rfl, hp⟩ | ⟨-, -, rfl, hp⟩ | ⟨-, -, -, rfl, hp⟩ | ⟨-, -, -, rfl, hp⟩⟩
  · exact ⟨_, rfl, h.step hk hp (by omega)⟩
  · exact ⟨_, rfl, h.step hk hp (by omega)⟩
  · exact ⟨_, rfl, h.step hk hp (by omega)⟩
  · exact ⟨_, rfl, h.step hk hp (by omega)⟩
theorem Ab5.abort (h : Ab5 w wr c m r size N k t) : Calls Tryz.prog 31 #[.pointer (some ⟨c, 0, none⟩)] wr fun e w1 => (∃ v, e = .returned v) ∧ PrTo w c m r (fun _ => False) size N k 0 t w1 := by
  obtain ⟨Lp, Li, F, g, cp, gi, ci, Pg, Cm, D, o, u, h⟩ := h
  refine h.pc.abort.mono ?_
  rintro e w1 ⟨hv, hk, hp⟩
  exact ⟨hv, Lp, Li, F, g, cp, gi, ci, Cm, Cm, _, o, u, h.out.trans (hk.below h.out.size h.new), h.new, h.off, h.map.keep hk h.off, hp, h.ref.keep hk h.offr.1 h.offr.2.1 h.offr.2.2, h.offr, h.newr, h.lp, h.li, h.b0, h.b1, h.b2, h.may, h.n5, by rw [dkD_none]; simp, h.ops, h.uses, fun i hi => hi.elim⟩
end
end Go.Proofs.YtkkmbgjlmdddoaaGreat
