/- A cache and the reference's beside it, in the midst of deeds. -/
import Derived.Test.YtjgclmlclkfgpaaGreatBaseF
import Derived.Test.YtjgclmlclkfgpaaGreatBSameR
namespace Go.Proofs.YtjgclmlclkfgpaaGreat
open Go.RowKit Go.Maps
structure Jn (w0 w : World) (c q : Nat) (L : CLay) (C : CS) (m r : Nat) (fv lv : Value) (vs : List Value) (Rd B : Nat → Prop) (R : R4) (o u : Nat) : Prop where
  at_ : CacheAt w c L C
  two : TwoAt w L.d C.S L.F
  r4 : R4In w q m B R
  rl : RLogIn w m r fv lv vs Rd (refOf C.S) C.size 0
  like : BLike C R
  made : Made C.S
  ops : C.S.ops.length ≤ o
  uses : C.uses ≤ u
  room : C.dirtyKeys.length ≤ min C.size 100
  most : 1 ≤ C.most ∧ C.most ≤ 64
  off : Off L c (fun i => i = r ∨ i = q)
  apart : ∀ i, L.foot c i → i ≠ m ∧ ¬ B i ∧ ¬ Rd i
  qr : q ≠ r
  Br : ¬ B r
  Rq : ¬ Rd q
  new : ∀ i, L.foot c i → w0.heap.size ≤ i
  newq : w0.heap.size ≤ q ∧ w0.heap.size ≤ r
  fvl : ∀ i, L.d.fv.ownBlock = some i → i < w.heap.size
  bel : Below w0.heap.size w0 w
section
variable {w0 w w' : World} {c q : Nat} {L : CLay} {C : CS} {m r : Nat} {fv lv : Value} {vs : List Value} {Rd B : Nat → Prop} {R : R4} {o u : Nat}
theorem Jn.below (h : Jn w0 w c q L C m r fv lv vs Rd B R o u) (hb : Below w.heap.size w w') : Jn w0 w' c q L C m r fv lv vs Rd B R o u :=
  ⟨h.at_.below hb, h.two.below hb, h.r4.below hb, h.rl.below hb, h.like, h.made, h.ops, h.uses, h.room, h.most, h.off, h.apart, h.qr, h.Br, h.Rq, h.new, h.newq, fun i hi => Nat.lt_of_lt_of_le (h.fvl i hi) hb.size, h.bel.trans (hb.mono h.bel.size)⟩
theorem Jn.more {o' u' : Nat} (h : Jn w0 w c q L C m r fv lv vs Rd B R o u) (ho : o ≤ o') (hu : u ≤ u') : Jn w0 w c q L C m r fv lv vs Rd B R o' u' :=
  ⟨h.at_, h.two, h.r4, h.rl, h.like, h.made, Nat.le_trans h.ops ho, Nat.le_trans h.uses hu, h.room, h.most, h.off, h.apart, h.qr, h.Br, h.Rq, h.new, h.newq, h.fvl, h.bel⟩
/-- The reference behind a call of the cache. -/
theorem Jn.ref (h : Jn w0 w c q L C m r fv lv vs Rd B R o u) (k : Keeps (fun i => L.foot c i) w w') : R4In w' q m B R ∧ RLogIn w' m r fv lv vs Rd (refOf C.S) C.size 0 :=
  ⟨h.r4.keep k (fun hq => h.off.foot q hq (.inr rfl)) (fun i hi hf => (h.apart i hf).2.1 hi), h.rl.keepG k (fun hm => (h.apart m hm).1 rfl) (fun hr => h.off.foot r hr (.inl rfl)) (fun i hi hf => (h.apart i hf).2.2 hi)⟩
/-- The cache behind a call of the reference. -/
theorem Jn.own (h : Jn w0 w c q L C m r fv lv vs Rd B R o u) (k : Keeps (fun i => i = r ∨ i = q) w w') : CacheAt w' c L C ∧ TwoAt w' L.d C.S L.F := h.at_.keepT h.two k h.off
theorem refOf_lenB (S : DiskS) : (refOf S).l.length = S.ops.length := by simp [refOf]
theorem Jn.pages (h : Jn w0 w c q L C m r fv lv vs Rd B R o u) : pagesR (refOf C.S) C.size = C.N := by rw [h.made.pagesR, h.at_.pages]
theorem Jn.firstLen (h : Jn w0 w c q L C m r fv lv vs Rd B R o u) : (refOf C.S).first.length = C.S.safe.length := by
  show (bytesOf C.S.first).length = _
  rw [length_bytesOf, ← h.made.len]
end
end Go.Proofs.YtjgclmlclkfgpaaGreat
