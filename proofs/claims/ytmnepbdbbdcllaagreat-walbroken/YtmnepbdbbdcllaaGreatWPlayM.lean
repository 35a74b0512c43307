/- A log and the reference, in the midst of deeds. -/
import Derived.Test.YtmnepbdbbdcllaaGreatWPlayO
import Derived.Test.YtmnepbdbbdcllaaGreatRCommit
import Derived.Test.YtmnepbdbbdcllaaGreatKeepB
namespace Go.Proofs.YtmnepbdbbdcllaaGreat
open Go.RowKit
theorem TwoAt.mono {w : World} {d : DL} {S : DiskS} {F G : Nat → Prop} (h : TwoAt w d S F) (hG : ∀ i, F i → G i) : TwoAt w d S G := by
  rcases h with ⟨h, ho, hf⟩ | ⟨h, hf⟩
  · exact .inl ⟨h, ho, fun i hi => hG i (hf i hi)⟩
  · exact .inr ⟨h, fun i hi => hG i (hf i hi)⟩
theorem refOf_len (S : DiskS) : (refOf S).l.length = S.ops.length := by simp [refOf]
/-- A log and the reference beside it, in the midst of deeds. -/
structure Pl (w0 w : World) (p : Nat) (d : DL) (S : DiskS) (size n k : Nat) (F : Nat → Prop) (q r : Nat) (fv lv : Value) (vs : List Value) (Rd : Nat → Prop) : Prop where
  mid : Mid w0 w p d S size n k F
  two : TwoAt w d S F
  fvp : ∀ i, d.fv.ownBlock = some i → i < p
  rlog : RLogIn w q r fv lv vs Rd (refOf S) size 0
  apart : ∀ i, F i → ¬ Rd i
  Fq : ∀ i, F i → i ≠ q ∧ i ≠ r
  pq : p < q ∧ p < r
  new : w0.heap.size ≤ p
section
variable {w0 w w' : World} {p : Nat} {d : DL} {S : DiskS} {size n k : Nat} {F : Nat → Prop} {q r : Nat} {fv lv : Value} {vs : List Value} {Rd : Nat → Prop}
theorem Pl.keepG {G : Nat → Prop} (h : Pl w0 w p d S size n k F q r fv lv vs Rd) (hK : Keeps G w w') (hF : ∀ i, F i → ¬ G i) (hR : ∀ i, Rd i → ¬ G i) (hp : ¬ G p) (hq : ¬ G q) (hr : ¬ G r) (hv : ∀ i, d.fv.ownBlock = some i → ¬ G i) (hG : ∀ i, G i → w0.heap.size ≤ i) : Pl w0 w' p d S size n k F q r fv lv vs Rd := by
  have h2 := h.two.keepF hK hF hv
  have hm := h.mid
  exact ⟨⟨⟨hK.heap hm.log.heap hp, h2.any, hm.log.off⟩, fun i hi => Nat.lt_of_lt_of_le (hm.lt i hi) hK.size, hm.new, hm.len, hm.waits, hm.ops, hm.made, hm.fits, hm.head, hm.below.trans (hK.below hm.below.size hG)⟩, h2, h.fvp, h.rlog.keepG hK hq hr hR, h.apart, h.Fq, h.pq, h.new⟩
theorem Pl.next (h : Pl w0 w p d S size n k F q r fv lv vs Rd) (hb : Below w.heap.size w w') : Pl w0 w' p d S size n k F q r fv lv vs Rd :=
  h.keepG (G := fun _ => False) (Keeps.of_below hb) (fun _ _ h => h) (fun _ _ h => h) (fun h => h) (fun h => h) (fun h => h) (fun _ _ h => h) (fun _ h => h.elim)
theorem Pl.okR (h : Pl w0 w p d S size n k F q r fv lv vs Rd) : okR (refOf S) := h.mid.made.alike.ok
theorem Pl.flen (h : Pl w0 w p d S size n k F q r fv lv vs Rd) : (refOf S).first.length = n := by
  show (bytesOf S.first).length = n
  rw [length_bytesOf, ← h.mid.made.len, h.mid.len]
/-- The reference's log stays behind the log's own Commit. -/
theorem Pl.ref5 (h : Pl w0 w p d S size n k F q r fv lv vs Rd) (hK : Keeps F w w') : RLogIn w' q r fv lv vs Rd (refOf S) size 0 :=
  h.rlog.keepG hK (fun e => (h.Fq q e).1 rfl) (fun e => (h.Fq r e).2 rfl) (fun i hi e => h.apart i e hi)
/-- Behind a Commit of both. -/
theorem Pl.round {w5 w6 w7 : World} {d' : DL} {lv' : Value} {vs' : List Value} (h : Pl w0 w p d S size n k F q r fv lv vs Rd) (hn : 0 < n) {ps qs : List PageS} (hl : LikeP ps qs) (bl : Nat → List UInt8) (hbl : ∀ j, (bl j).length = 512)
    (hd : d'.fv = d.fv ∧ ((d' = d ∧ comS S size ps bl = S ∧ Below w.heap.size w w5) ∨ OwnAt w5 d' (comS S size ps bl) (fun i => F i ∨ (w.heap.size ≤ i ∧ i < w5.heap.size)))) (hL : LogIn w5 p d' (comS S size ps bl) size 0 (fun i => F i ∨ (w.heap.size ≤ i ∧ i < w5.heap.size))) (hK : Keeps F w w5)
    (hb : Below w5.heap.size w5 w6) (hR : RLogIn w7 q r fv lv' vs' (moreOf Rd w6 w7) (rcomR (refOf S) size qs bl) size 0) (hK7 : Keeps (fun i => i = r) w6 w7) :
    Pl w0 w7 p d' (comS S size ps bl) size n (k + 1) (fun i => F i ∨ (w.heap.size ≤ i ∧ i < w5.heap.size)) q r fv lv' vs' (moreOf Rd w6 w7) := by
  have hq := lt_of_heap h.rlog.heap
  have hr := lt_of_heap h.rlog.disk.heap
  have hm5 := h.mid.com hn ps bl hbl hL hK
  have hm6 := hm5.next hb
  have hpq := h.pq
  have ht5 : TwoAt w5 d' (comS S size ps bl) (fun i => F i ∨ (w.heap.size ≤ i ∧ i < w5.heap.size)) := by
    rcases hd.2 with ⟨rfl, e, hb5⟩ | ho
    · rw [e]; exact (h.two.below hb5).mono (fun _ hi => .inl hi)
    · exact .inr ho
  have hF7 : ∀ i, (F i ∨ (w.heap.size ≤ i ∧ i < w5.heap.size)) → ¬ i = r := fun i hi e => by
    subst e
    rcases hi with hi | hi
    · exact (h.Fq _ hi).2 rfl
    · omega
  have hv7 : ∀ i, d'.fv.ownBlock = some i → i < p := fun i hi => by rw [hd.1] at hi; exact h.fvp i hi
  have ht7 := (ht5.below hb).keepF hK7 hF7 (fun i hi e => by have := hv7 i hi; omega)
  have hs5 := hb.size
  rw [rcom_of h.mid.made size hl bl] at hR
  have hnew := h.new
  refine ⟨⟨⟨hK7.heap hm6.log.heap (fun e => by omega), ht7.any, hm6.log.off⟩, fun i hi => Nat.lt_of_lt_of_le (hm6.lt i hi) hK7.size, hm6.new, hm6.len, hm6.waits, hm6.ops, hm6.made, hm6.fits, hm6.head, hm6.below.trans (hK7.below hm6.below.size (fun i e => by omega))⟩, ht7, hv7, hR, fun i hi e => ?_, fun i hi => ⟨fun e => ?_, hF7 i hi⟩, h.pq, h.new⟩
  · rcases e with e | e
    · rcases hi with hi | hi
      · exact h.apart i hi e
      · have := h.rlog.rd i e; omega
    · have := hm5.lt i hi; omega
  · subst e
    rcases hi with hi | hi
    · exact (h.Fq _ hi).1 rfl
    · omega
end
section
variable {p : Nat} {d : DL} {S : DiskS} {size rec : Nat} {F : Nat → Prop}
set_option maxRecDepth 100000 in
set_option maxHeartbeats 1000000 in
theorem log_read_no (n : Int) (w : World) (h : LogIn w p d S size rec F) (hs : size + 1 ≤ S.safe.length) (hn : ¬ (0 ≤ n ∧ n < (pagesS S size : Nat))) :
    Calls Tryz.prog 12 #[.pointer (some ⟨p, 0, none⟩), .int .i64 n] w fun e w' => e = .returned (.tuple #[.slice none 0 0, .int .i64 2]) ∧ Below w.heap.size w w' := by
  have hh := lay_has d S size n w h.disk.rd hs
  rw [decide_eq_false hn] at hh
  have HH := hid hh
  unfold layV at HH
  have c0 : w.cell? ⟨p, 0, none⟩ = some (.pointer (some ⟨d.p, 0, none⟩)) := cell_of_block h.heap 0
  have c1 : w.cell? ⟨p, 1, none⟩ = some (.int .i64 size) := cell_of_block h.heap 1
  clear h hh hn
  go_enter Tryz.func12, Tryz.ntmps12
  go_wp2_with fail
  refine HH.out.mono ?_
  clear HH
  rintro e w1 ⟨rfl, hb1⟩
  have HB1 := hid hb1
  clear hb1 c0 c1
  go_wp2
  go_returns
  exact ⟨rfl, HB1.out⟩
/-- Commit of a deed's pages, and where all lies then. -/
theorem commit_deed_fv (s : Bool) (ns : List Int) (m : Nat) (x : UInt8) (bs : Nat → Nat) (pa : Option Addr) (pc : Nat) (w : World) (K : Nat) (h : LogIn w p d S size rec F) (hF : ∀ i, F i → i < K) (hK : K ≤ w.heap.size) (hs : size + 1 ≤ S.safe.length) (hp : pagesAt w pa (deedPs s ns bs m))
    (hb : ∀ j, j < m → K ≤ bs j ∧ ownB w (bs j) (rowX x j)) (ho : S.ops.length ≤ 800000) :
    Calls Tryz.prog 9 #[.pointer (some ⟨p, 0, none⟩), .slice pa m pc] w fun e w' => e = .returned (.int .i64 (comErr (pagesS S size) size (deedPs s ns bs m))) ∧ ∃ d', (d'.fv = d.fv ∧ ((d' = d ∧ comS S size (deedPs s ns bs m) (rowX x) = S ∧ Below w.heap.size w w') ∨ OwnAt w' d' (comS S size (deedPs s ns bs m) (rowX x)) (fun i => F i ∨ (w.heap.size ≤ i ∧ i < w'.heap.size)))) ∧ LogIn w' p d' (comS S size (deedPs s ns bs m) (rowX x)) size rec (fun i => F i ∨ (w.heap.size ≤ i ∧ i < w'.heap.size)) ∧ Keeps F w w' := by
  have := commit_any_fv (deedPs s ns bs m) pa pc (rowX x) w h (fun i hi => Nat.lt_of_lt_of_le (hF i hi) hK) hs hp (fun j hj _ => by
    rw [deedPs_at]
    rw [length_deedPs] at hj
    obtain ⟨h1, h2⟩ := hb j hj
    exact ⟨⟨bs j, 0, none⟩, rfl, h2.at, length_rowX x j, fun hf => by have : bs j < K := hF _ hf; omega⟩) ho
  rw [length_deedPs] at this
  exact this
end
/-- The reference's Commit of a deed's pages. -/
theorem rcommit_deed {q r : Nat} {fv lv : Value} {vs : List Value} {Rd : Nat → Prop} {R : RefS} {size rec : Nat} (s : Bool) (ns : List Int) (m : Nat) (x : UInt8) (bs : Nat → Nat) (pa : Option Addr) (pc : Nat) (w : World) (K : Nat) (h : RLogIn w q r fv lv vs Rd R size rec) (hr : r < K) (hR : okR R) (hm : R.l.length ≤ 700000) (hs : size + 1 ≤ R.first.length) (hp : pagesAt w pa (deedPs s ns bs m))
    (hb : ∀ j, j < m → K ≤ bs j ∧ ownB w (bs j) (rowX x j)) :
    Calls Tryz.prog 10 #[.pointer (some ⟨q, 0, none⟩), .slice pa m pc] w fun e w' => e = .returned (.int .i64 (comErr (pagesR R size) size (deedPs s ns bs m))) ∧ ∃ lv' vs', RLogIn w' q r fv lv' vs' (moreOf Rd w w') (rcomR R size (deedPs s ns bs m) (rowX x)) size rec ∧ Keeps (fun i => i = r) w w' := by
  have := rcommit_any (deedPs s ns bs m) pa pc (rowX x) w h hR hm hs hp (fun j hj _ => by
    rw [deedPs_at]
    rw [length_deedPs] at hj
    obtain ⟨h1, h2⟩ := hb j hj
    exact ⟨⟨bs j, 0, none⟩, rfl, h2.at, length_rowX x j, fun hf => by have : bs j = r := hf; omega⟩)
  rw [length_deedPs] at this
  exact this
theorem pagesAt.keepB {w w' : World} {pa : Option Addr} {ps : List PageS} {G : Nat → Prop} (h : pagesAt w pa ps) (k : Keeps G w w') (hG : ∀ i, G i → ∃ L, ownB w i L) : pagesAt w' pa ps := fun j hj => by
  obtain ⟨b, o, e, hc⟩ := h j hj
  refine ⟨b, o, e, fun i hi => ?_⟩
  obtain ⟨h1, h2⟩ := hc i hi
  have hb : ¬ G b := fun hg => by
    obtain ⟨L, hL⟩ := hG b hg
    exact hL.not h1 (fun n => by simp) rfl
  exact ⟨k.cell (ad := ⟨b, o + i * 2, none⟩) h1 hb, k.cell (ad := ⟨b, o + i * 2 + 1, none⟩) h2 hb⟩
/-- Blocks of bytes. -/
def ownAll (w : World) (bs : Nat → Nat) (m : Nat) : Prop := ∀ j, j < m → ∃ L, L.length = 512 ∧ ownB w (bs j) L
theorem ownAll.set {w : World} {bs : Nat → Nat} {m : Nat} (h : ownAll w bs m) (b t : Nat) : ownAll (w.setCell ⟨b, t, none⟩ (.int .u8 99)) bs m := fun j hj => by
  obtain ⟨L, hl, hL⟩ := h j hj
  by_cases e : bs j = b
  · have := hL.set t 99
    rw [e] at this ⊢
    exact ⟨L.set t 99, by rw [List.length_set]; exact hl, this⟩
  · exact ⟨L, hl, hL.keep (F := fun i => i = b) ((Keeps.refl _ _).grown (grown_setCell (grown_refl _ _) _ _) (fun i e => .inl (Option.some.inj e).symm)) e⟩
theorem ownAll.below {w w' : World} {bs : Nat → Nat} {m : Nat} (h : ownAll w bs m) (k : Below w.heap.size w w') : ownAll w' bs m := fun j hj => by
  obtain ⟨L, hl, hL⟩ := h j hj
  exact ⟨L, hl, hL.below k⟩
theorem ownAll.keep {w w' : World} {bs : Nat → Nat} {m : Nat} {F : Nat → Prop} (h : ownAll w bs m) (k : Keeps F w w') (hF : ∀ j, j < m → ¬ F (bs j)) : ownAll w' bs m := fun j hj => by
  obtain ⟨L, hl, hL⟩ := h j hj
  exact ⟨L, hl, hL.keep k (hF j hj)⟩
end Go.Proofs.YtmnepbdbbdcllaaGreat
