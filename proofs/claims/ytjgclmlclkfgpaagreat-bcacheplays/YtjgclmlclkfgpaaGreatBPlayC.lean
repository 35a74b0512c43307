/- A cache and the reference's: Read, Write, Commit, Abort of both. -/
import Derived.Test.YtjgclmlclkfgpaaGreatBPlayJ
namespace Go.Proofs.YtjgclmlclkfgpaaGreat
open Go.RowKit Go.Maps
/-- Both, whatever lies where. -/
def Bx (P : Nat → Prop) (w w' : World) : Prop := ∀ i, P i → ∀ ob, w.heap[i]? = some ob → w'.heap[i]? = some ob
theorem Bx.trans {P : Nat → Prop} {w w1 w2 : World} (h : Bx P w w1) (h2 : Bx P w1 w2) : Bx P w w2 := fun i hi ob ho => h2 i hi ob (h i hi ob ho)
theorem Bx.of_below {P : Nat → Prop} {w w' : World} (h : Below w.heap.size w w') : Bx P w w' := fun _ _ _ ho => below_block h ho (lt_of_heap ho)
theorem Bx.of_keeps {P G : Nat → Prop} {w w' : World} (k : Keeps G w w') (h : ∀ i, P i → ¬ G i) : Bx P w w' := fun i hi _ ho => k.heap ho (h i hi)
def JAt (w0 w : World) (c q size N o u : Nat) (P : Nat → Prop) : Prop := ∃ L C m r fv lv vs Rd B R, Jn w0 w c q L C m r fv lv vs Rd B R o u ∧ C.size = size ∧ C.N = N ∧ ∀ i, P i → ¬ L.foot c i ∧ i ≠ q ∧ i ≠ r ∧ i < w.heap.size
section
variable {w0 w w' : World} {c q size N o u : Nat} {P : Nat → Prop}
theorem JAt.below (h : JAt w0 w c q size N o u P) (hb : Below w.heap.size w w') : JAt w0 w' c q size N o u P := by
  obtain ⟨L, C, m, r, fv, lv, vs, Rd, B, R, h1, h2, h3, h4⟩ := h
  exact ⟨L, C, m, r, fv, lv, vs, Rd, B, R, h1.below hb, h2, h3, fun i hi => ⟨(h4 i hi).1, (h4 i hi).2.1, (h4 i hi).2.2.1, Nat.lt_of_lt_of_le (h4 i hi).2.2.2 hb.size⟩⟩
theorem JAt.more {o' u' : Nat} (h : JAt w0 w c q size N o u P) (ho : o ≤ o') (hu : u ≤ u') : JAt w0 w c q size N o' u' P := by
  obtain ⟨L, C, m, r, fv, lv, vs, Rd, B, R, h1, h2⟩ := h
  exact ⟨L, C, m, r, fv, lv, vs, Rd, B, R, h1.more ho hu, h2⟩
theorem JAt.bel (h : JAt w0 w c q size N o u P) : Below w0.heap.size w0 w := by
  obtain ⟨L, C, m, r, fv, lv, vs, Rd, B, R, h1, h2⟩ := h
  exact h1.bel
theorem JAt.read (h : JAt w0 w c q size N o u P) (n : Int) (hn0 : -9223372036854775808 ≤ n) (hn1 : n < 9223372036854775808) (hu : u ≤ 1000) (ho : o ≤ 100000) :
    Calls Tryz.prog 25 #[.pointer (some ⟨c, 0, none⟩), .int .i64 n] w fun e w1 => ∃ a l cp er, e = .returned (.tuple #[.slice a (l : Nat) cp, .int .i64 er]) ∧ Below w0.heap.size w0 w1 ∧ Bx P w w1 ∧
      Calls Tryz.prog 43 #[.pointer (some ⟨q, 0, none⟩), .int .i64 n] w1 fun e2 w2 => ∃ a2 cp2, e2 = .returned (.tuple #[.slice a2 l cp2, .int .i64 er]) ∧ JAt w0 w2 c q size N o (u + 1) P ∧
        Calls Tryz.prog 26 #[.slice a l cp, .slice a2 l cp2] w2 fun e3 w3 => e3 = .returned (.bool true) ∧ Below w2.heap.size w2 w3 := by
  obtain ⟨L, C, m, r, fv, lv, vs, Rd, B, R, h, hsz, hN, hP⟩ := h
  have hpg := h.pages
  have hfl := h.firstLen
  have hf4 : (refOf C.S).first.length ≤ 4096 := by rw [hfl]; exact h.at_.four
  have hfs : C.size + 1 ≤ (refOf C.S).first.length := by rw [hfl]; exact h.at_.fits
  refine (bread_any n hn0 hn1 w h.at_ h.made (by have := h.uses; omega)).mono ?_
  rintro e w1 (⟨h1, h2, rfl, hb⟩ | ⟨bs, h1, h2, g, cap, rfl, hg, hby, hb⟩ | ⟨h1, h2, h3, g, cap, rfl, hg, hby, u', D', hU, hC, hK⟩)
  · have hj := h.below hb
    refine ⟨none, 0, 0, 2, rfl, hj.bel, .of_below hb, (r4read_no n w1 hj.r4 hj.rl hf4 hfs (by rw [hpg]; exact h1)).mono ?_⟩
    rintro e w2 ⟨rfl, hb2⟩
    refine ⟨none, 0, rfl, ⟨L, C, m, r, fv, lv, vs, Rd, B, R, (hj.below hb2).more (Nat.le_refl _) (Nat.le_succ _), hsz, hN, fun i hi => ⟨(hP i hi).1, (hP i hi).2.1, (hP i hi).2.2.1, by have := (hP i hi).2.2.2; have := Nat.le_trans hb.size hb2.size; omega⟩⟩, ?_⟩
    have := same_bytes [] [] none none 0 0 w2 (fun j hj => by simp at hj) (fun j hj => by simp at hj) (by simp)
    rw [decide_eq_true rfl] at this
    exact this
  · have hj := h.below hb
    have hd := h.at_.dom h1
    have hmem : n ∈ R.ps.map PageS.n := by
      have := h.like.dirty n
      rw [h1] at this
      by_cases hm : n ∈ R.ps.map PageS.n
      · exact hm
      · rw [if_neg hm] at this; cases this
    have hbs : R.by_ n = bs := by
      have := h.like.dirty n
      rw [h1, if_pos hmem] at this
      exact (Option.some.inj this).symm
    obtain ⟨j, hjl, hp, hpn⟩ := posP_some n R.ps 0 hmem
    refine ⟨some ⟨g, 0, none⟩, 512, cap, 0, rfl, hj.bel, .of_below hb, (r4read_dirty n w1 hj.r4 hj.rl hf4 hfs (by rw [hpg]; exact ⟨hd.1, hd.2.1⟩) j hjl (by rw [hp, Nat.zero_add]) hpn).mono ?_⟩
    rintro e w2 ⟨hb2, g2, cap2, rfl, hby2⟩
    rw [hbs] at hby2
    refine ⟨some ⟨g2, 0, none⟩, cap2, rfl, ⟨L, C, m, r, fv, lv, vs, Rd, B, R, (hj.below hb2).more (Nat.le_refl _) (Nat.le_succ _), hsz, hN, fun i hi => ⟨(hP i hi).1, (hP i hi).2.1, (hP i hi).2.2.1, by have := (hP i hi).2.2.2; have := Nat.le_trans hb.size hb2.size; omega⟩⟩, ?_⟩
    have hby' : bytesAt w2 ⟨g, 0, none⟩ bs := fun i hi => (hb2.cell (World.block_lt_of_cell? w1 _ (hby i hi))).trans (hby i hi)
    have := same_bytes bs bs (some ⟨g, 0, none⟩) (some ⟨g2, 0, none⟩) cap cap2 w2 (bytesIn_of_at hby') hby2 (by rw [h2]; omega)
    rw [decide_eq_true rfl, h2] at this
    exact this
  · obtain ⟨n, rfl⟩ : ∃ k : Nat, n = (k : Int) := ⟨n.toNat, by omega⟩
    have hnN : n < C.N := by omega
    have hG : ∀ i, (i = c ∨ i = L.um) → i = c ∨ i = L.dm ∨ i = L.um := fun i hi => hi.imp id .inr
    have ht := h.at_.twoKeep h.two hG hK
    have hkf : Keeps (fun i => L.foot c i) w w1 := hK.mono (fun i hi => hi.elim (fun e => .inr (.inl e)) (fun e => .inr (.inr (.inr e))))
    obtain ⟨r4', rl'⟩ := h.ref hkf
    have hsec : (secL C.S (1 + C.size + n)).length = 512 := h.made.sec _ (by have h5 := h.at_.pages; unfold pagesS at h5; have := h.at_.fits; omega)
    have hnm : (n : Int) ∉ R.ps.map PageS.n := fun hm => by
      have := h.like.dirty (n : Int)
      rw [if_pos hm, h3] at this
      cases this
    have hby1 : bytesAt w1 ⟨g, 0, none⟩ (secL C.S (1 + C.size + n)) := hby
    have hw1 : Below w0.heap.size w0 w1 := h.bel.trans (hK.below h.bel.size (fun i hi => h.new i (hi.elim (fun e => .inr (.inl e)) (fun e => .inr (.inr (.inr e))))))
    have hcs : R.cs.length ≤ 64 := by have h8 := h.like.few; have h9 := h.like.most; have := h.most.2; omega
    refine ⟨some ⟨g, 0, none⟩, 512, cap, 0, rfl, hw1, .of_keeps hkf (fun i hi => (hP i hi).1), (r4read_clean n (secL C.S (1 + C.size + n)) w1 r4' rl' h.made.alike.ok (by rw [refOf_lenB]; have := h.ops; omega) hfs (by rw [hpg]; exact hnN) (by
      rw [show C.size + 1 + n = 1 + C.size + n by omega]
      exact img_atP h.made (1 + C.size + n) (by have h5 := h.at_.pages; unfold pagesS at h5; have := h.at_.fits; omega)) hsec (posP_none _ _ 0 hnm) hcs h.qr h.Rq).mono ?_⟩
    rintro e w2 ⟨g2, cap2, B', rfl, hby2, r42, hB', hK2⟩
    have hgl : g < w1.heap.size := bytesAt_lt hby1 (by omega)
    have hkr : Keeps (fun i => i = r ∨ i = q) w1 w2 := hK2.mono (fun i e => .inr e)
    have hoff1 : Off { L with Du := D' } c (fun i => i = r ∨ i = q) := ⟨h.off.foot, h.off.p, h.off.fv, h.off.rows⟩
    obtain ⟨at2, two2⟩ := hC.keepT ht hkr hoff1
    have hmq : m ≠ q := fun e => by
      have h9 := rl'.heap
      obtain ⟨pa9, pc9, ca9, cc9, hh9, -⟩ := r4'.heap
      rw [e, hh9] at h9
      simp at h9
    have rl2 := rl'.keepG hK2 hmq (fun e => h.qr e.symm) (fun i hi e => h.Rq (by have e' : i = q := e; rw [← e']; exact hi))
    have hqg : ¬ g = q := fun e => by have h9 : q < w.heap.size := by { obtain ⟨pa9, pc9, ca9, cc9, hh9, -⟩ := h.r4.heap; exact lt_of_heap hh9 }; omega
    have hsw := hK.size
    refine ⟨some ⟨g2, 0, none⟩, cap2, rfl, ⟨_, _, m, r, fv, lv, vs, Rd, B', _, ⟨at2, two2, r42, rl2, h.like.used (n : Int) ⟨by omega, by omega⟩ h.at_.ub hU, h.made, h.ops, by show C.uses + 1 ≤ u + 1; have := h.uses; omega, h.room, h.most, hoff1, fun i hi => ⟨(h.apart i hi).1, fun hb9 => ?_, (h.apart i hi).2.2⟩, h.qr, fun hb9 => ?_, h.Rq, h.new, h.newq, fun i hi => Nat.lt_of_lt_of_le (h.fvl i hi) (Nat.le_trans hsw hK2.size), hw1.trans (hK2.below hw1.size (fun i e => by have e' : i = q := e; rw [e']; exact h.newq.1))⟩, hsz, hN, fun i hi => ⟨(hP i hi).1, (hP i hi).2.1, (hP i hi).2.2.1, by have := (hP i hi).2.2.2; have := Nat.le_trans hsw hK2.size; omega⟩⟩, ?_⟩
    · rcases hB' i hb9 with h9 | h9
      · exact (h.apart i hi).2.1 h9
      · have := h.at_.footLt i hi
        omega
    · rcases hB' r hb9 with h9 | h9
      · exact h.Br h9
      · have := lt_of_heap h.rl.disk.heap
        omega
    · have hby' : bytesAt w2 ⟨g, 0, none⟩ (secL C.S (1 + C.size + n)) := fun i hi => hK2.cell (hby1 i hi) (by rw [add_block]; exact hqg)
      have := same_bytes _ _ (some ⟨g, 0, none⟩) (some ⟨g2, 0, none⟩) cap cap2 w2 (bytesIn_of_at hby') hby2 (by rw [hsec]; omega)
      rw [decide_eq_true rfl, hsec] at this
      exact this
theorem JAt.write (h : JAt w0 w c q size N o u P) (n : Int) (s : Bool) (l : List UInt8) (ad : Addr) (cp : Nat) (hl : l.length = dlen s) (hb : bytesAt w ad l) :
    Calls Tryz.prog 27 #[.pointer (some ⟨c, 0, none⟩), .int .i64 n, .slice (some ad) (dlen s) cp] w fun e w1 => ∃ er, e = .returned (.int .i64 er) ∧ Below w0.heap.size w0 w1 ∧ Bx P w w1 ∧ ∀ W, Below w1.heap.size w1 W → ∀ b2 cp2, bytesAt W ⟨b2, 0, none⟩ l →
      Calls Tryz.prog 44 #[.pointer (some ⟨q, 0, none⟩), .int .i64 n, .slice (some ⟨b2, 0, none⟩) (dlen s) cp2] W fun e2 w2 => e2 = .returned (.int .i64 er) ∧ JAt w0 w2 c q size N o u P ∧ Bx P W w2 := by
  obtain ⟨L, C, m, r, fv, lv, vs, Rd, B, R, h, hsz, hN, hP⟩ := h
  have hpg := h.pages
  have hfl := h.firstLen
  have hf4 : (refOf C.S).first.length ≤ 4096 := by rw [hfl]; exact h.at_.four
  have hfs : C.size + 1 ≤ (refOf C.S).first.length := by rw [hfl]; exact h.at_.fits
  have hlen := h.like.len
  have hroom := h.room
  have done : ∀ w1 er, Below w.heap.size w w1 → (∀ W, Below w1.heap.size w1 W → ∀ b2 cp2, bytesAt W ⟨b2, 0, none⟩ l → Calls Tryz.prog 44 #[.pointer (some ⟨q, 0, none⟩), .int .i64 n, .slice (some ⟨b2, 0, none⟩) (dlen s) cp2] W fun e2 w2 => e2 = .returned (.int .i64 er) ∧ Below W.heap.size W w2) → ∀ W, Below w1.heap.size w1 W → ∀ b2 cp2, bytesAt W ⟨b2, 0, none⟩ l →
      Calls Tryz.prog 44 #[.pointer (some ⟨q, 0, none⟩), .int .i64 n, .slice (some ⟨b2, 0, none⟩) (dlen s) cp2] W fun e2 w2 => e2 = .returned (.int .i64 er) ∧ JAt w0 w2 c q size N o u P ∧ Bx P W w2 := fun w1 er hb1 hf W hW b2 cp2 hb2 => by
    refine (hf W hW b2 cp2 hb2).mono ?_
    rintro e w2 ⟨rfl, hb3⟩
    exact ⟨rfl, ⟨L, C, m, r, fv, lv, vs, Rd, B, R, ((h.below hb1).below hW).below hb3, hsz, hN, fun i hi => ⟨(hP i hi).1, (hP i hi).2.1, (hP i hi).2.2.1, by have := (hP i hi).2.2.2; have := Nat.le_trans hb1.size (Nat.le_trans hW.size hb3.size); omega⟩⟩, .of_below hb3⟩
  by_cases hin : 0 ≤ n ∧ n < (C.N : Int)
  · obtain ⟨hi0, hi1⟩ := hin
    obtain ⟨n, rfl⟩ : ∃ m : Nat, n = (m : Int) := ⟨n.toNat, by omega⟩
    have hn : n < C.N := by omega
    cases s with
    | true =>
      refine (bwrite_form n (some ad) 511 cp w h.at_ hn (by omega)).mono ?_
      rintro e w1 ⟨rfl, hb1⟩
      refine ⟨3, rfl, (h.below hb1).bel, .of_below hb1, done w1 3 hb1 (fun W hW b2 cp2 _ => ?_)⟩
      have hj := (h.below hb1).below hW
      exact r4write_form (n : Int) (some ⟨b2, 0, none⟩) 511 cp2 W hj.r4 hj.rl hf4 hfs (by rw [hpg]; exact ⟨hi0, hi1⟩) (by omega)
    | false =>
      by_cases hr : C.dirty n = none ∧ C.dirtyKeys.length = min C.size 100
      · have hnm : (n : Int) ∉ R.ps.map PageS.n := fun hm => by
          have := h.like.dirty (n : Int)
          rw [if_pos hm, hr.1] at this
          cases this
        refine (bwrite_full n (some ad) cp w h.at_ hn hr.1 hr.2).mono ?_
        rintro e w1 ⟨rfl, hb1⟩
        refine ⟨7, rfl, (h.below hb1).bel, .of_below hb1, done w1 7 hb1 (fun W hW b2 cp2 _ => ?_)⟩
        have hj := (h.below hb1).below hW
        exact r4write_full (n : Int) (some ⟨b2, 0, none⟩) cp2 W hj.r4 hj.rl hf4 hfs (by rw [hpg]; exact ⟨hi0, hi1⟩) (posP_none _ _ 0 hnm) (by omega)
      · have hr' : (C.dirty n).isSome ∨ C.dirtyKeys.length < min C.size 100 := by
          cases hd : C.dirty n with
          | some b => exact .inl rfl
          | none =>
            have h2 : ¬ C.dirtyKeys.length = min C.size 100 := fun hh => hr ⟨hd, hh⟩
            exact .inr (by omega)
        have hpr : 0 ≤ posP (n : Int) R.ps 0 ∨ (posP (n : Int) R.ps 0 = -1 ∧ R.ps.length < min C.size 100) := by
          by_cases hm : (n : Int) ∈ R.ps.map PageS.n
          · exact .inl ((posP_iff _ _).2 hm)
          · refine .inr ⟨posP_none _ _ 0 hm, ?_⟩
            have h3 := h.like.dirty (n : Int)
            rw [if_neg hm] at h3
            rcases hr' with h4 | h4
            · rw [h3] at h4; cases h4
            · omega
        refine (bwrite_ok n l ad cp w h.at_ hn hl hb hr').mono ?_
        rintro e w1 ⟨rfl, g, cap, Dd, Du, hg, hC, hK⟩
        have hG : ∀ i, (i = L.dm ∨ i = L.um) → i = c ∨ i = L.dm ∨ i = L.um := fun i hi => .inr hi
        have ht := h.at_.twoKeep h.two hG hK
        have hfo : ∀ i, (i = L.dm ∨ i = L.um) → L.foot c i := fun i hi => hi.elim (fun e => .inr (.inr (.inl e))) (fun e => .inr (.inr (.inr e)))
        obtain ⟨r4', rl'⟩ := h.ref (hK.mono hfo)
        have hw1 : Below w0.heap.size w0 w1 := h.bel.trans (hK.below h.bel.size (fun i hi => h.new i (hfo i hi)))
        refine ⟨0, rfl, hw1, .of_keeps (hK.mono hfo) (fun i hi => (hP i hi).1), fun W hW b2 cp2 hb2 => ?_⟩
        have hw2 := hw1.trans (hW.mono hw1.size)
        refine (r4write_ok (n : Int) l (some ⟨b2, 0, none⟩) cp2 W (r4'.below hW) (rl'.below hW) hf4 hfs (by rw [hpg]; exact ⟨hi0, hi1⟩) hpr hl (bytesIn_of_at hb2) (by have h8 := h.like.few; have h9 := h.like.most; have := h.most.2; omega) (by omega)).mono ?_
        rintro e w2 ⟨rfl, B', g2, cap2, r42, hB', hK2⟩
        have hql : q < w.heap.size := by
          obtain ⟨pa9, pc9, ca9, cc9, hh9, -⟩ := h.r4.heap
          exact lt_of_heap hh9
        have hrl : r < w.heap.size := lt_of_heap h.rl.disk.heap
        have hoff1 : Off { L with dv := updV L.dv n (.slice (some ⟨g, 0, none⟩) 512 cap), Dd := Dd, Du := Du } c (fun i => i = r ∨ i = q) := ⟨h.off.foot, h.off.p, h.off.fv, fun k g' cap' hk => by
          have hk' : updV L.dv n (.slice (some ⟨g, 0, none⟩) 512 cap) k = some (.slice (some ⟨g', 0, none⟩) 512 cap') := hk
          unfold updV at hk'
          by_cases e : k = (n : Int)
          · rw [if_pos e] at hk'
            simp only [Option.some.injEq, Value.slice.injEq, Addr.mk.injEq] at hk'
            rintro (e9 | e9) <;> omega
          · rw [if_neg e] at hk'
            exact h.off.rows k g' cap' hk'⟩
        have hkr : Keeps (fun i => i = r ∨ i = q) W w2 := hK2.mono (fun i e => .inr e)
        obtain ⟨at2, two2⟩ := (hC.below hW).keepT (ht.below hW) hkr hoff1
        have hmq : m ≠ q := fun e => by
          have h9 := rl'.heap
          obtain ⟨pa9, pc9, ca9, cc9, hh9, -⟩ := r4'.heap
          rw [e, hh9] at h9
          simp at h9
        have rl2 := (rl'.below hW).keepG hK2 hmq (fun e => h.qr e.symm) (fun i hi e => h.Rq (by have e' : i = q := e; rw [← e']; exact hi))
        have hs1 := hK.size
        have hs2 := hW.size
        refine ⟨rfl, ⟨_, _, m, r, fv, lv, vs, Rd, B', _, ⟨at2, two2, r42, rl2, h.like.wrote (n : Int) ⟨hi0, hi1⟩ l g2 cap2, h.made, h.ops, h.uses, keys_upd C n l _ _ hroom hr', h.most, hoff1, fun i hi => ⟨(h.apart i hi).1, fun hb9 => ?_, (h.apart i hi).2.2⟩, h.qr, fun hb9 => ?_, h.Rq, h.new, h.newq, fun i hi => Nat.lt_of_lt_of_le (h.fvl i hi) (Nat.le_trans hs1 (Nat.le_trans hs2 hK2.size)), hw2.trans (hK2.below hw2.size (fun i e => by have e' : i = q := e; rw [e']; exact h.newq.1))⟩, hsz, hN, fun i hi => ⟨(hP i hi).1, (hP i hi).2.1, (hP i hi).2.2.1, by have := (hP i hi).2.2.2; have := Nat.le_trans hs1 (Nat.le_trans hs2 hK2.size); omega⟩⟩, .of_keeps hK2 (fun i hi => (hP i hi).2.1)⟩
        · rcases hB' i hb9 with h9 | h9
          · exact (h.apart i hi).2.1 h9
          · have := h.at_.footLt i hi
            omega
        · rcases hB' r hb9 with h9 | h9
          · exact h.Br h9
          · omega
  · refine (bwrite_range n _ w h.at_ hin).mono ?_
    rintro e w1 ⟨rfl, hb1⟩
    refine ⟨2, rfl, (h.below hb1).bel, .of_below hb1, done w1 2 hb1 (fun W hW b2 cp2 _ => ?_)⟩
    have hj := (h.below hb1).below hW
    exact r4write_range n _ W hj.r4 hj.rl hf4 hfs (by rw [hpg]; exact hin)
theorem JAt.commit (h : JAt w0 w c q size N o u P) (ho : o ≤ 100000) :
    Calls Tryz.prog 29 #[.pointer (some ⟨c, 0, none⟩)] w fun e w1 => e = .returned (.int .i64 0) ∧ Calls Tryz.prog 45 #[.pointer (some ⟨q, 0, none⟩)] w1 fun e2 w2 => e2 = .returned (.int .i64 0) ∧ JAt w0 w2 c q size N (o + (2 * size + 6)) u P := by
  obtain ⟨L, C, m, r, fv, lv, vs, Rd, B, R, h, hsz, hN, hP⟩ := h
  have hfl := h.firstLen
  have hfs : C.size + 1 ≤ (refOf C.S).first.length := by rw [hfl]; exact h.at_.fits
  have hlen := h.like.len
  have hroom := h.room
  have hco := (h.at_.comOps hroom).1
  obtain ⟨hce, hcom⟩ := h.like.rcom h.made h.at_.pages (fun p hp => (h.r4.rows p hp).1) (by omega)
  refine (bcommit_two w h.at_ h.two hroom (by have := h.ops; omega)).mono ?_
  rintro e w1 ⟨rfl, d', F', hfv, ht, hF1, hF2, hC, hK⟩
  have hft : ∀ i, L.F i ∨ i = L.dm → L.foot c i := fun i hi => hi.elim .inl (fun e => .inr (.inr (.inl e)))
  have hfo : ∀ i, ({ L with d := d', F := F', Dd := .map [], dv := fun _ => none } : CLay).foot c i → L.foot c i ∨ w.heap.size ≤ i := fun i hi => by
    rcases hi with hi | hi | hi | hi
    · exact (hF2 i hi).imp .inl id
    · exact .inl (.inr (.inl hi))
    · exact .inl (.inr (.inr (.inl hi)))
    · exact .inl (.inr (.inr (.inr hi)))
  obtain ⟨r4', rl'⟩ := h.ref (hK.mono hft)
  have hw1 : Below w0.heap.size w0 w1 := h.bel.trans (hK.below h.bel.size (fun i hi => h.new i (hft i hi)))
  have hql : q < w.heap.size := by
    obtain ⟨pa9, pc9, ca9, cc9, hh9, -⟩ := h.r4.heap
    exact lt_of_heap hh9
  have hrl : r < w.heap.size := lt_of_heap h.rl.disk.heap
  have hml : m < w.heap.size := lt_of_heap h.rl.heap
  refine ⟨rfl, (r4commit_any w1 r4' rl' h.made.alike.ok (by rw [refOf_lenB]; have := h.ops; omega) hfs h.qr h.Br h.Rq hce).mono ?_⟩
  rintro e w2 ⟨rfl, r42, lv', vs', Rd', rl2, hRd', hK2⟩
  rw [hcom] at rl2
  have hoff1 : Off ({ L with d := d', F := F', Dd := .map [], dv := fun _ => none } : CLay) c (fun i => i = r ∨ i = q) := ⟨fun i hi hg => (hfo i hi).elim (fun h9 => h.off.foot i h9 hg) (fun h9 => by rcases hg with e9 | e9 <;> omega), h.off.p, by show ∀ i, d'.fv.ownBlock = some i → _; rw [hfv]; exact h.off.fv, fun k g' cap' hk => by cases hk⟩
  obtain ⟨at2, two2⟩ := hC.keepT ht hK2 hoff1
  have hs1 := hK.size
  refine ⟨rfl, _, _, m, r, fv, lv', vs', Rd', B, _, ⟨at2, two2, r42, rl2, h.like.cleared C.com, h.at_.comMade h.made hroom, by show C.com.ops.length ≤ _; have := h.ops; rw [hsz] at hco; omega, h.uses, by rw [CS.dirtyKeys_none rfl]; simp, h.most, hoff1, fun i hi => ?_, h.qr, h.Br, fun hq9 => ?_, fun i hi => (hfo i hi).elim (h.new i) (fun h9 => Nat.le_trans h.bel.size h9), h.newq, fun i hi => ?_, hw1.trans (hK2.below hw1.size (fun i e => by rcases e with e | e <;> rw [e]; exact h.newq.2; exact h.newq.1))⟩, hsz, hN, fun i hi => ⟨fun hf => (hfo i hf).elim (hP i hi).1 (fun h9 => by have := (hP i hi).2.2.2; omega), (hP i hi).2.1, (hP i hi).2.2.1, by have := (hP i hi).2.2.2; have := Nat.le_trans hs1 hK2.size; omega⟩⟩
  · have hlt := hC.footLt i hi
    refine ⟨fun e => ?_, fun hb9 => ?_, fun hd9 => ?_⟩
    · rcases hfo i hi with h9 | h9
      · exact (h.apart i h9).1 e
      · omega
    · rcases hfo i hi with h9 | h9
      · exact (h.apart i h9).2.1 hb9
      · have := h.r4.lt i hb9
        omega
    · rcases hRd' i hd9 with h8 | h8
      · rcases hfo i hi with h9 | h9
        · exact (h.apart i h9).2.2 h8
        · have := h.rl.rd i h8
          omega
      · omega
  · rcases hRd' q hq9 with h8 | h8
    · exact h.Rq h8
    · omega
  · have hi' : d'.fv.ownBlock = some i := hi
    rw [hfv] at hi'
    exact Nat.lt_of_lt_of_le (h.fvl i hi') (Nat.le_trans hs1 hK2.size)
theorem JAt.abort (h : JAt w0 w c q size N o u P) :
    Calls Tryz.prog 30 #[.pointer (some ⟨c, 0, none⟩)] w fun e w1 => ∃ k : Nat, k ≤ 100 ∧ e = .returned (.int .i64 (k : Int)) ∧ Calls Tryz.prog 46 #[.pointer (some ⟨q, 0, none⟩)] w1 fun e2 w2 => e2 = .returned (.int .i64 (k : Int)) ∧ JAt w0 w2 c q size N o u P := by
  obtain ⟨L, C, m, r, fv, lv, vs, Rd, B, R, h, hsz, hN, hP⟩ := h
  have hlen := h.like.len
  have hroom := h.room
  refine (babort_any w h.at_).mono ?_
  rintro e w1 ⟨rfl, hC, hK⟩
  have hG : ∀ i, i = L.dm → i = c ∨ i = L.dm ∨ i = L.um := fun i hi => .inr (.inl hi)
  have ht := h.at_.twoKeep h.two hG hK
  have hfo : ∀ i, i = L.dm → L.foot c i := fun i hi => .inr (.inr (.inl hi))
  obtain ⟨r4', rl'⟩ := h.ref (hK.mono hfo)
  have hw1 : Below w0.heap.size w0 w1 := h.bel.trans (hK.below h.bel.size (fun i hi => h.new i (hfo i hi)))
  refine ⟨C.dirtyKeys.length, by omega, rfl, (r4abort_any w1 r4').mono ?_⟩
  rintro e w2 ⟨rfl, r42, hK2⟩
  have hoff1 : Off ({ L with Dd := .map [], dv := fun _ => none } : CLay) c (fun i => i = r ∨ i = q) := ⟨h.off.foot, h.off.p, h.off.fv, fun k g' cap' hk => by cases hk⟩
  have hkr : Keeps (fun i => i = r ∨ i = q) w1 w2 := hK2.mono (fun i e => .inr e)
  obtain ⟨at2, two2⟩ := hC.keepT ht hkr hoff1
  have hmq : m ≠ q := fun e => by
    have h9 := rl'.heap
    obtain ⟨pa9, pc9, ca9, cc9, hh9, -⟩ := r4'.heap
    rw [e, hh9] at h9
    simp at h9
  have rl2 := rl'.keepG hK2 hmq (fun e => h.qr e.symm) (fun i hi e => h.Rq (by have e' : i = q := e; rw [← e']; exact hi))
  exact ⟨by rw [hlen], _, _, m, r, fv, lv, vs, Rd, B, _, ⟨at2, two2, r42, rl2, h.like.cleared C.S, h.made, h.ops, h.uses, by rw [CS.dirtyKeys_none rfl]; simp, h.most, hoff1, h.apart, h.qr, h.Br, h.Rq, h.new, h.newq, fun i hi => Nat.lt_of_lt_of_le (h.fvl i hi) (Nat.le_trans hK.size hK2.size), hw1.trans (hK2.below hw1.size (fun i e => by have e' : i = q := e; rw [e']; exact h.newq.1))⟩, hsz, hN, fun i hi => ⟨(hP i hi).1, (hP i hi).2.1, (hP i hi).2.2.1, by have := (hP i hi).2.2.2; have := Nat.le_trans hK.size hK2.size; omega⟩⟩
end
end Go.Proofs.YtjgclmlclkfgpaaGreat
