/- A cache as its pages: as they are read, and as they were committed. -/
import Derived.Test.YtkkmbgjlmdddoabGreatAlRow
import Derived.Test.YtkkmbgjlmdddoabGreatBCrashP
namespace Go.Proofs.YtkkmbgjlmdddoabGreat
open Go.RowKit Go.Maps
/-- The pages that were written, rising. -/
def dkD (N : Nat) (D : Int → Bool) : List Int := ((List.range N).map (fun k : Nat => (k : Int))).filter D
structure PcIn (w : World) (c : Nat) (F : Nat → Prop) (size N : Nat) (Pg Cm : Nat → List UInt8) (D : Int → Bool) (o u : Nat) (L : CLay) (C : CS) : Prop where
  at_ : CacheAt w c L C
  sz : C.size = size
  nn : C.N = N
  made : Made C.S
  ops : C.S.ops.length ≤ o
  uses : C.uses ≤ u
  pg : ∀ n, n < N → C.see n = Pg n
  cm : ∀ n, n < N → secL C.S (1 + size + n) = Cm n
  dirty : ∀ n : Int, (C.dirty n).isSome = D n
  room : C.dirtyKeys.length ≤ min size 100
  foot : ∀ i, L.foot c i → F i
  lt : ∀ i, F i → i < w.heap.size
  p0 : L.p < w.heap.size
  quiet : C.S.waits = (fun _ => []) ∧ headOk C.S
/-- A cache: all that it writes lies in F. -/
def Pc (w : World) (c : Nat) (F : Nat → Prop) (size N : Nat) (Pg Cm : Nat → List UInt8) (D : Int → Bool) (o u : Nat) : Prop := ∃ L C, PcIn w c F size N Pg Cm D o u L C
theorem PcIn.keys {w : World} {c : Nat} {F : Nat → Prop} {size N : Nat} {Pg Cm : Nat → List UInt8} {D : Int → Bool} {o u : Nat} {L : CLay} {C : CS} (h : PcIn w c F size N Pg Cm D o u L C) : C.dirtyKeys = dkD N D := by
  unfold CS.dirtyKeys dkD
  rw [h.nn]
  exact List.filter_congr (fun k _ => h.dirty k)
section
variable {w w' : World} {c : Nat} {F : Nat → Prop} {size N : Nat} {Pg Cm : Nat → List UInt8} {D : Int → Bool} {o u : Nat}
theorem Pc.below (h : Pc w c F size N Pg Cm D o u) (hb : Below w.heap.size w w') : Pc w' c F size N Pg Cm D o u := by
  obtain ⟨L, C, h⟩ := h
  exact ⟨L, C, h.at_.below hb, h.sz, h.nn, h.made, h.ops, h.uses, h.pg, h.cm, h.dirty, h.room, h.foot, fun i hi => Nat.lt_of_lt_of_le (h.lt i hi) hb.size, Nat.lt_of_lt_of_le h.p0 hb.size, h.quiet⟩
theorem Pc.more {o' u' : Nat} (h : Pc w c F size N Pg Cm D o u) (ho : o ≤ o') (hu : u ≤ u') : Pc w c F size N Pg Cm D o' u' := by
  obtain ⟨L, C, h⟩ := h
  exact ⟨L, C, h.at_, h.sz, h.nn, h.made, Nat.le_trans h.ops ho, Nat.le_trans h.uses hu, h.pg, h.cm, h.dirty, h.room, h.foot, h.lt, h.p0, h.quiet⟩
theorem Pc.lt (h : Pc w c F size N Pg Cm D o u) (i : Nat) (hi : F i) : i < w.heap.size := by obtain ⟨L, C, h⟩ := h; exact h.lt i hi
theorem Pc.len (h : Pc w c F size N Pg Cm D o u) (n : Nat) (hn : n < N) : (Pg n).length = 512 := by
  obtain ⟨L, C, h⟩ := h
  rw [← h.pg n hn]
  unfold CS.see
  cases hd : C.dirty (n : Int) with
  | some bs => exact (h.at_.dom hd).2.2
  | none =>
    have hp := h.at_.pages
    have h5 := h.at_.fits
    have hN := h.nn
    exact h.made.sec _ (by unfold pagesS at hp; omega)
theorem Pc.keysLen (h : Pc w c F size N Pg Cm D o u) : (dkD N D).length ≤ min size 100 := by obtain ⟨L, C, h⟩ := h; rw [← h.keys]; exact h.room
theorem Pc.four (h : Pc w c F size N Pg Cm D o u) : N ≤ 4096 := by obtain ⟨L, C, h⟩ := h; have := h.at_.pagesLe; rw [h.nn] at this; exact this
theorem Pc.read {w0 : World} (h : Pc w0 c F size N Pg Cm D o u) (hw : Below w0.heap.size w0 w) (n : Nat) (hn : n < N) (hu : u < 1000000) :
    Calls Tryz.prog 29 #[.pointer (some ⟨c, 0, none⟩), .int .i64 n] w fun e w' => ∃ g cap, e = .returned (.tuple #[.slice (some ⟨g, 0, none⟩) 512 cap, .int .i64 0]) ∧ 512 ≤ cap ∧ w.heap.size ≤ g ∧ rowU w' g (Pg n) ∧ Keeps F w w' ∧ ∀ W, Keeps (fun i => w0.heap.size ≤ i) w' W → Pc W c F size N Pg Cm D o (u + 1) := by
  obtain ⟨L, C, h⟩ := h
  refine (bread_row n w h.at_ hw h.made (by have := h.uses; omega) (by rw [h.nn]; exact hn)).mono ?_
  rintro e w' ⟨g, cap, D', u', k, rfl, hc, hg, hr, hk, hW, hK⟩
  have hf : ∀ i, (i = c ∨ i = L.um) → F i := fun i hi => h.foot i (hi.elim (fun e => .inr (.inl e)) (fun e => .inr (.inr (.inr e))))
  refine ⟨g, cap, rfl, hc, hg, by rw [← h.pg n hn]; exact hr, hK.mono hf, fun W hWk => ⟨_, _, hW W hWk, h.sz, h.nn, h.made, h.ops, by show C.uses + k ≤ u + 1; have := h.uses; omega, h.pg, h.cm, h.dirty, h.room, h.foot, fun i hi => ?_, ?_, h.quiet⟩⟩
  · exact Nat.lt_of_lt_of_le (h.lt i hi) (Nat.le_trans hw.size (Nat.le_trans hK.size hWk.size))
  · exact Nat.lt_of_lt_of_le h.p0 (Nat.le_trans hw.size (Nat.le_trans hK.size hWk.size))
/-- Pages with one that is another. -/
def updP (Pg : Nat → List UInt8) (n : Nat) (l : List UInt8) : Nat → List UInt8 := fun k => if k = n then l else Pg k
def updT (D : Int → Bool) (n : Int) : Int → Bool := fun k => if k = n then true else D k
theorem Pc.write (h : Pc w c F size N Pg Cm D o u) (n : Nat) (hn : n < N) (l : List UInt8) (hl : l.length = 512) (ad : Addr) (cp : Nat) (hb : bytesAt w ad l) (hr : D n = true ∨ (dkD N D).length < min size 100) :
    Calls Tryz.prog 54 #[.pointer (some ⟨c, 0, none⟩), .int .i64 n, .slice (some ad) 512 cp] w fun e w' => e = .returned (.int .i64 0) ∧ Keeps F w w' ∧ Pc w' c F size N (updP Pg n l) Cm (updT D n) o u := by
  obtain ⟨L, C, h⟩ := h
  have hr' : (C.dirty n).isSome ∨ C.dirtyKeys.length < min C.size 100 := by
    rw [h.keys, h.sz, h.dirty]; exact hr
  refine (bwrite_ok n l ad cp w h.at_ (by rw [h.nn]; exact hn) hl hb hr').mono ?_
  rintro e w' ⟨rfl, g, cap, Dd, Du, hg, hC, hK⟩
  have hf : ∀ i, (i = L.dm ∨ i = L.um) → F i := fun i hi => h.foot i (hi.elim (fun e => .inr (.inr (.inl e))) (fun e => .inr (.inr (.inr e))))
  refine ⟨rfl, hK.mono hf, _, _, hC, h.sz, h.nn, h.made, h.ops, h.uses, fun k hk => ?_, h.cm, fun k => ?_, ?_, h.foot, fun i hi => Nat.lt_of_lt_of_le (h.lt i hi) hK.size, Nat.lt_of_lt_of_le h.p0 hK.size, h.quiet⟩
  · show (updD C.dirty n l k).getD (secL C.S (1 + C.size + k)) = updP Pg n l k
    unfold updD updP
    by_cases e : k = n
    · rw [if_pos (by omega), if_pos e]; rfl
    · rw [if_neg (by omega), if_neg e, ← h.pg k hk]; rfl
  · show (updD C.dirty n l k).isSome = updT D n k
    unfold updD updT
    by_cases e : k = (n : Int)
    · rw [if_pos e, if_pos e]; rfl
    · rw [if_neg e, if_neg e]; exact h.dirty k
  · have := keys_upd C n l (delN C.used n) (min size 100) h.room (by rw [h.sz] at hr'; exact hr')
    exact this
theorem Pc.dirtyRow (h : Pc w c F size N Pg Cm D o u) :
    Calls Tryz.prog 45 #[.pointer (some ⟨c, 0, none⟩)] w fun e w' => ∃ v, e = .returned v ∧ w'.ownsRow w.heap.size 3 1 v (dkD N D).length ((dkD N D).map encZ) ∧ Below w.heap.size w w' := by
  obtain ⟨L, C, h⟩ := h
  have hk := h.keys
  refine (bdirty_any w h.at_).mono ?_
  rintro e w' ⟨v, rfl, hrow, -, hb⟩
  rw [hk] at hrow
  exact ⟨v, rfl, hrow, hb⟩
theorem Pc.roomC (h : Pc w c F size N Pg Cm D o u) :
    Calls Tryz.prog 26 #[.pointer (some ⟨c, 0, none⟩)] w fun e w' => e = .returned (.int .i64 (((min size 100 : Nat) : Int) - ((dkD N D).length : Int))) ∧ Below w.heap.size w w' := by
  obtain ⟨L, C, h⟩ := h
  have := broom_any w h.at_
  rw [h.keys, h.sz] at this
  exact this
/-- Log, and Pages of it. -/
theorem Pc.logPages (h : Pc w c F size N Pg Cm D o u) : ∃ p, (Calls Tryz.prog 24 #[.pointer (some ⟨c, 0, none⟩)] w fun e w' => e = .returned (.pointer (some ⟨p, 0, none⟩)) ∧ w' = w) ∧
    (Calls Tryz.prog 25 #[.pointer (some ⟨p, 0, none⟩)] w fun e w' => e = .returned (.int .i64 (N : Nat)) ∧ Below w.heap.size w w') := by
  obtain ⟨L, C, h⟩ := h
  refine ⟨L.p, blog_any w h.at_, ?_⟩
  have := log_pages w h.at_.log h.at_.fits
  rwa [← h.at_.pages, h.nn] at this
theorem dkD_none (N : Nat) : dkD N (fun _ => false) = [] := by simp [dkD]
theorem Pc.commitT (h : Pc w c F size N Pg Cm D o u) (ho : o ≤ 800000) :
    Calls Tryz.prog 21 #[.pointer (some ⟨c, 0, none⟩)] w fun e w' => e = .returned (.int .i64 0) ∧ Keeps F w w' ∧ ∃ F', (∀ i, F i → F' i) ∧ (∀ i, F' i → F i ∨ w.heap.size ≤ i) ∧ Pc w' c F' size N Pg Pg (fun _ => false) (o + (2 * (dkD N D).length + 6)) u := by
  obtain ⟨L, C, h⟩ := h
  have hr : C.dirtyKeys.length ≤ min C.size 100 := by rw [h.sz]; exact h.room
  have hmd := h.at_.comMade h.made hr
  have hco : C.com.ops.length ≤ C.S.ops.length + (2 * (dkD N D).length + 6) := by
    have := comS_ops C.S C.size (L.ps C.dirtyKeys) (fun j => (C.dirty (C.dirtyKeys.getD j 0)).getD [])
    rw [(h.at_.com hr).2] at this
    have hpl : (L.ps C.dirtyKeys).length = C.dirtyKeys.length := by simp [CLay.ps]
    rw [hpl, h.keys] at this
    split at this <;> omega
  have hse := h.at_.comSee hr
  refine (bcommit_any w h.at_ hr (by have := h.ops; omega)).mono ?_
  rintro e w' ⟨rfl, d', F', hF1, hF2, hC, hK⟩
  have hft : ∀ i, L.F i ∨ i = L.dm → F i := fun i hi => h.foot i (hi.elim .inl (fun e => .inr (.inr (.inl e))))
  refine ⟨rfl, hK.mono hft, fun i => F i ∨ (F' i ∧ w.heap.size ≤ i), fun i hi => .inl hi, fun i hi => hi.imp id (fun h => h.2), _, _, hC, h.sz, h.nn, hmd, ?_, h.uses, fun n hn => ?_, fun n hn => ?_, fun n => rfl, ?_, fun i hi => ?_, fun i hi => ?_, Nat.lt_of_lt_of_le h.p0 hK.size, ⟨h.at_.comWaits hr h.quiet.1, h.at_.comHead hr h.quiet.2⟩⟩
  · show C.com.ops.length ≤ _
    have := h.ops
    omega
  · have h1 := hse n (by rw [h.nn]; exact hn)
    rw [h.pg n hn] at h1
    exact h1
  · have h1 := hse n (by rw [h.nn]; exact hn)
    rw [h.pg n hn, h.sz] at h1
    exact h1
  · rw [CS.dirtyKeys_none rfl]; simp
  · rcases hi with hi | hi | hi | hi
    · rcases hF2 i hi with h1 | h1
      · exact .inl (h.foot i (.inl h1))
      · exact .inr ⟨hi, h1⟩
    · exact .inl (h.foot i (.inr (.inl hi)))
    · exact .inl (h.foot i (.inr (.inr (.inl hi))))
    · exact .inl (h.foot i (.inr (.inr (.inr hi))))
  · rcases hi with hi | hi
    · exact Nat.lt_of_lt_of_le (h.lt i hi) hK.size
    · exact hC.lt i hi.1
theorem Pc.commit (h : Pc w c F size N Pg Cm D o u) (ho : o ≤ 800000) :
    Calls Tryz.prog 21 #[.pointer (some ⟨c, 0, none⟩)] w fun e w' => e = .returned (.int .i64 0) ∧ Keeps F w w' ∧ ∃ F', (∀ i, F i → F' i) ∧ (∀ i, F' i → F i ∨ w.heap.size ≤ i) ∧ Pc w' c F' size N Pg Pg (fun _ => false) (o + (2 * size + 6)) u := by
  have hl := h.keysLen
  refine (h.commitT ho).mono ?_
  rintro e w' ⟨rfl, hk, F', h1, h2, hp⟩
  exact ⟨rfl, hk, F', h1, h2, hp.more (by omega) (Nat.le_refl _)⟩
end
end Go.Proofs.YtkkmbgjlmdddoabGreat
