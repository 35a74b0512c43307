/- Two caches over disks that are alike: the calls. -/
import Derived.Test.YtjgclmlclkfgpaaGreatBSameQ
namespace Go.Proofs.YtjgclmlclkfgpaaGreat
open Go.RowKit Go.Maps
section
variable {w0 w w' : World} {c : Nat} {L : CLay} {C : CS} {most o u : Nat} {G : Nat → Prop}
theorem CacheAt.fvOff (h : CacheAt w c L C) (ht : TwoAt w L.d C.S L.F) (hG : ∀ i, G i → i = c ∨ i = L.dm ∨ i = L.um) : ∀ i, L.d.fv.ownBlock = some i → ¬ G i := fun i hi hg => by
  obtain ⟨ad, c2, e4, e5, hfl⟩ : ∃ ad c2, L.d.fv = .slice (some ad) C.S.first.length c2 ∧ (∀ j s, C.S.first[j]? = some s → w.cell? (ad.add j) = some (.string s)) ∧ C.S.first.length = C.S.safe.length := by
    rcases ht with ⟨q1, -, -⟩ | q
    · obtain ⟨ad, c2, e4, e5, -⟩ := q1.first; exact ⟨ad, c2, e4, e5, q1.flen⟩
    · obtain ⟨ad, c2, e4, e5, -⟩ := q.1.first; exact ⟨ad, c2, e4, e5, q.1.flen⟩
  have hfit := h.fits
  have hpos : 0 < C.S.first.length := by omega
  have hc0 := e5 0 _ (List.getElem?_eq_getElem hpos)
  have h1 := h.out hG hc0 (fun x hx => by cases hx) (fun x hx => by cases hx) (fun x hx => by cases hx)
  rw [add_block] at h1
  rw [e4] at hi
  have e6 : ad.block = i := Option.some.inj hi
  rw [e6] at h1
  exact h1 hg
theorem CacheAt.twoKeep (h : CacheAt w c L C) (ht : TwoAt w L.d C.S L.F) (hG : ∀ i, G i → i = c ∨ i = L.dm ∨ i = L.um) (k : Keeps G w w') : TwoAt w' L.d C.S L.F :=
  ht.keepF k (fun i hi hg => by
    rcases hG i hg with e | e | e
    · exact h.offc (e ▸ hi)
    · exact h.offd (e ▸ hi)
    · exact h.offu (e ▸ hi)) (h.fvOff ht hG)
/-- What Read tells. -/
def RdRes (K : Nat) (w1 : World) (S : DiskS) (dirty : Int → Option (List UInt8)) (n : Int) (e : Ending) : Prop :=
  (¬ (0 ≤ n ∧ n < 11) ∧ dirty n = none ∧ e = .returned (.tuple #[.slice none 0 0, .int .i64 2])) ∨
  ∃ bs g cap, bs.length = 512 ∧ bs = (dirty n).getD (secL S (7 + n.toNat)) ∧ ((dirty n).isSome = true ∨ (0 ≤ n ∧ n < 11)) ∧ e = .returned (.tuple #[.slice (some ⟨g, 0, none⟩) 512 cap, .int .i64 0]) ∧ K ≤ g ∧ g < w1.heap.size ∧ bytesAt w1 ⟨g, 0, none⟩ bs
theorem bytesAt_lt {g : Nat} {bs : List UInt8} (h : bytesAt w ⟨g, 0, none⟩ bs) (hp : 0 < bs.length) : g < w.heap.size := by
  have := World.block_lt_of_cell? w _ (h 0 hp)
  rw [Addr.add_mid] at this
  exact this
theorem Side.read (h : Side w0 w c L C most o u) (n : Int) (hn0 : -9223372036854775808 ≤ n) (hn1 : n < 9223372036854775808) (hu : u ≤ 1000) :
    Calls Tryz.prog 25 #[.pointer (some ⟨c, 0, none⟩), .int .i64 n] w fun e w1 => RdRes w.heap.size w1 C.S C.dirty n e ∧ ∃ L1 C1, Went w0 w w1 c L C L1 C1 most o (u + 1) ∧ C1.S = C.S ∧ C1.dirty = C.dirty := by
  have hmore : Side w0 w c L C most o (u + 1) := h.more (Nat.le_refl _) (Nat.le_succ _)
  have hN := h.N
  have hsz := h.size
  refine (bread_any n hn0 hn1 w h.at_ h.made (by have := h.uses; omega)).mono ?_
  rintro e w1 (⟨h1, h2, rfl, hb⟩ | ⟨bs, h1, h2, g, cap, rfl, hg, hby, hb⟩ | ⟨h1, h2, h3, g, cap, rfl, hg, hby, u', D', hU, hC, hK⟩)
  · exact ⟨.inl ⟨fun hh => h1 (by rw [hN]; omega), h2, rfl⟩, L, C, Went.same hmore hb, rfl, rfl⟩
  · exact ⟨.inr ⟨bs, g, cap, h2, by rw [h1]; rfl, .inl (by rw [h1]; rfl), rfl, hg, bytesAt_lt hby (by omega), hby⟩, L, C, Went.same hmore hb, rfl, rfl⟩
  · rw [hN] at h2
    have hsec : (secL C.S (1 + C.size + n.toNat)).length = 512 := h.made.sec _ (by have h5 := h.at_.pages; unfold pagesS at h5; have := h.at_.fits; omega)
    have e7 : 1 + C.size + n.toNat = 7 + n.toNat := by omega
    rw [e7] at hsec hby
    have hG : ∀ i, (i = c ∨ i = L.um) → i = c ∨ i = L.dm ∨ i = L.um := fun i hi => hi.imp id .inr
    have ht := h.at_.twoKeep h.two hG hK
    refine ⟨.inr ⟨_, g, cap, hsec, by rw [h3]; rfl, .inr ⟨h1, by omega⟩, rfl, hg, bytesAt_lt hby (by omega), hby⟩, _, _, ⟨⟨hC, ht, hsz, hN, h.made, h.ops, h.room, by show C.uses + 1 ≤ u + 1; have := h.uses; omega, ?_, h.mostEq, h.new, fun i hi => Nat.lt_of_lt_of_le (h.fv i hi) hK.size⟩, hK.mono (fun i hi => hi.elim (fun e => .inr (.inl e)) (fun e => .inr (.inr (.inr e)))), fun i hi => .inl hi, rfl, rfl, fun _ _ _ hh => .inl hh⟩, rfl, rfl⟩
    show usedCount u' 11 ≤ most
    rw [h.mostEq, hN] at hU
    refine hU.count (fun y j hy => ?_) ⟨h1, by omega⟩ h.count
    have := h.at_.used.dom y (.int .i64 (j : Int)) (by unfold usedV; rw [hy]; rfl)
    rw [hN] at this
    exact this
/-- The error of a Write. -/
def wrErr (C : CS) (n : Int) (s : Bool) : Int := if ¬ (0 ≤ n ∧ n < 11) then 2 else if s = true then 3 else if C.dirty n = none ∧ C.dirtyKeys.length = 6 then 7 else 0
def wrD (C : CS) (n : Int) (s : Bool) (l : List UInt8) : Int → Option (List UInt8) := if wrErr C n s = 0 then updD C.dirty n l else C.dirty
theorem Side.write (h : Side w0 w c L C most o u) (n : Int) (s : Bool) (l : List UInt8) (ad : Addr) (cp : Nat) (hl : l.length = dlen s) (hb : bytesAt w ad l) :
    Calls Tryz.prog 27 #[.pointer (some ⟨c, 0, none⟩), .int .i64 n, .slice (some ad) (dlen s) cp] w fun e w1 => e = .returned (.int .i64 (wrErr C n s)) ∧ ∃ L1 C1, Went w0 w w1 c L C L1 C1 most o u ∧ C1.S = C.S ∧ C1.dirty = wrD C n s l := by
  have hN := h.N
  have hsz := h.size
  by_cases hin : 0 ≤ n ∧ n < 11
  · obtain ⟨hi0, hi1⟩ := hin
    obtain ⟨n, rfl⟩ : ∃ m : Nat, n = (m : Int) := ⟨n.toNat, by omega⟩
    have hn : n < C.N := by omega
    cases s with
    | true =>
      have e1 : wrErr C n true = 3 := by unfold wrErr; rw [if_neg (fun hh => hh ⟨hi0, hi1⟩), if_pos rfl]
      have e2 : wrD C n true l = C.dirty := by unfold wrD; rw [e1, if_neg (by decide)]
      rw [e1, e2]
      refine (bwrite_form n (some ad) 511 cp w h.at_ hn (by omega)).mono ?_
      rintro e w' ⟨rfl, hb⟩
      exact ⟨rfl, L, C, Went.same h hb, rfl, rfl⟩
    | false =>
      by_cases hr : C.dirty n = none ∧ C.dirtyKeys.length = 6
      · have e1 : wrErr C n false = 7 := by unfold wrErr; rw [if_neg (fun hh => hh ⟨hi0, hi1⟩), if_neg (by decide), if_pos hr]
        have e2 : wrD C n false l = C.dirty := by unfold wrD; rw [e1, if_neg (by decide)]
        rw [e1, e2]
        refine (bwrite_full n (some ad) cp w h.at_ hn hr.1 (by rw [hsz, hr.2]; rfl)).mono ?_
        rintro e w' ⟨rfl, hb⟩
        exact ⟨rfl, L, C, Went.same h hb, rfl, rfl⟩
      · have e1 : wrErr C n false = 0 := by unfold wrErr; rw [if_neg (fun hh => hh ⟨hi0, hi1⟩), if_neg (by decide), if_neg hr]
        have e2 : wrD C n false l = updD C.dirty n l := by unfold wrD; rw [e1, if_pos rfl]
        rw [e1, e2]
        have hr' : (C.dirty n).isSome ∨ C.dirtyKeys.length < min C.size 100 := by
          cases hd : C.dirty n with
          | some b => exact .inl rfl
          | none =>
            have h1 := h.room
            have h2 : ¬ C.dirtyKeys.length = 6 := fun hh => hr ⟨hd, hh⟩
            exact .inr (by rw [hsz]; omega)
        refine (bwrite_ok n l ad cp w h.at_ hn hl hb hr').mono ?_
        rintro e w' ⟨rfl, g, cap, Dd, Du, hg, hC, hK⟩
        have hG : ∀ i, (i = L.dm ∨ i = L.um) → i = c ∨ i = L.dm ∨ i = L.um := fun i hi => .inr hi
        have ht := h.at_.twoKeep h.two hG hK
        refine ⟨rfl, _, _, ⟨⟨hC, ht, hsz, hN, h.made, h.ops, ?_, h.uses, ?_, h.mostEq, h.new, fun i hi => Nat.lt_of_lt_of_le (h.fv i hi) hK.size⟩, hK.mono (fun i hi => hi.elim (fun e => .inr (.inr (.inl e))) (fun e => .inr (.inr (.inr e)))), fun i hi => .inl hi, rfl, rfl, fun m g' cap' hm => ?_⟩, rfl, rfl⟩
        · refine keys_upd C n l _ 6 h.room (hr'.imp id (fun hh => ?_))
          rw [hsz] at hh; omega
        · exact Nat.le_trans (count_del C.used n 11) h.count
        · have hm' : updV L.dv n (.slice (some ⟨g, 0, none⟩) 512 cap) m = some (.slice (some ⟨g', 0, none⟩) 512 cap') := hm
          unfold updV at hm'
          by_cases e : m = (n : Int)
          · rw [if_pos e] at hm'
            simp only [Option.some.injEq, Value.slice.injEq, Addr.mk.injEq] at hm'
            exact .inr (by omega)
          · rw [if_neg e] at hm'
            exact .inl hm'
  · have e1 : wrErr C n s = 2 := by unfold wrErr; rw [if_pos hin]
    have e2 : wrD C n s l = C.dirty := by unfold wrD; rw [e1, if_neg (by decide)]
    rw [e1, e2]
    refine (bwrite_range n _ w h.at_ (by rw [hN]; exact hin)).mono ?_
    rintro e w' ⟨rfl, hb⟩
    exact ⟨rfl, L, C, Went.same h hb, rfl, rfl⟩
theorem Side.commit (h : Side w0 w c L C most o u) (hw : w0.heap.size ≤ w.heap.size) (ho : o ≤ 3000) :
    Calls Tryz.prog 29 #[.pointer (some ⟨c, 0, none⟩)] w fun e w1 => e = .returned (.int .i64 0) ∧ ∃ L1 C1, Went w0 w w1 c L C L1 C1 most (o + 18) u ∧ C1.S = C.com ∧ C1.dirty = (fun _ => none) := by
  have hsz := h.size
  have hr : C.dirtyKeys.length ≤ min C.size 100 := by rw [hsz]; have := h.room; omega
  have hco := (h.at_.comOps hr).1
  refine (bcommit_two w h.at_ h.two hr (by have := h.ops; omega)).mono ?_
  rintro e w' ⟨rfl, d', F', hfv, ht, hF1, hF2, hC, hK⟩
  have hft : ∀ i, L.F i ∨ i = L.dm → L.foot c i := fun i hi => hi.elim .inl (fun e => .inr (.inr (.inl e)))
  have hfo : ∀ i, ({ L with d := d', F := F', Dd := .map [], dv := fun _ => none } : CLay).foot c i → L.foot c i ∨ w.heap.size ≤ i := fun i hi => by
    rcases hi with hi | hi | hi | hi
    · exact (hF2 i hi).imp .inl id
    · exact .inl (.inr (.inl hi))
    · exact .inl (.inr (.inr (.inl hi)))
    · exact .inl (.inr (.inr (.inr hi)))
  refine ⟨rfl, _, _, ⟨⟨hC, ht, hsz, h.N, h.at_.comMade h.made hr, by show C.com.ops.length ≤ o + 18; have := h.ops; omega, by rw [CS.dirtyKeys_none rfl]; simp, h.uses, h.count, h.mostEq, fun i hi => ?_, fun i hi => ?_⟩, hK.mono hft, hfo, rfl, hfv, fun m g cap hm => by cases hm⟩, rfl, rfl⟩
  · exact (hfo i hi).elim (h.new i) (fun h1 => Nat.le_trans hw h1)
  · have hi' : d'.fv.ownBlock = some i := hi
    rw [hfv] at hi'
    exact Nat.lt_of_lt_of_le (h.fv i hi') hK.size
theorem Side.abort (h : Side w0 w c L C most o u) :
    Calls Tryz.prog 30 #[.pointer (some ⟨c, 0, none⟩)] w fun e w1 => e = .returned (.int .i64 (C.dirtyKeys.length : Int)) ∧ ∃ L1 C1, Went w0 w w1 c L C L1 C1 most o u ∧ C1.S = C.S ∧ C1.dirty = (fun _ => none) := by
  refine (babort_any w h.at_).mono ?_
  rintro e w' ⟨rfl, hC, hK⟩
  have hG : ∀ i, i = L.dm → i = c ∨ i = L.dm ∨ i = L.um := fun i hi => .inr (.inl hi)
  have ht := h.at_.twoKeep h.two hG hK
  exact ⟨rfl, _, _, ⟨⟨hC, ht, h.size, h.N, h.made, h.ops, by rw [CS.dirtyKeys_none rfl]; simp, h.uses, h.count, h.mostEq, h.new, fun i hi => Nat.lt_of_lt_of_le (h.fv i hi) hK.size⟩, hK.mono (fun i hi => .inr (.inr (.inl hi))), fun i hi => .inl hi, rfl, rfl, fun m g cap hm => by cases hm⟩, rfl, rfl⟩
theorem Side.cached (h : Side w0 w c L C most o u) : Calls Tryz.prog 11 #[.pointer (some ⟨c, 0, none⟩)] w fun e w1 => ∃ a k cp, e = .returned (.slice a k cp) ∧ k ≤ most ∧ Below w.heap.size w w1 := by
  refine (bcached_any w h.at_).mono ?_
  rintro e w1 ⟨v, ts, rfl, hp, -, hrow, hb⟩
  obtain ⟨a, cp, rfl⟩ : ∃ a cp, v = .slice a ts.length cp := by
    rcases hrow.2 with ⟨rfl, hh⟩ | ⟨g, cap, cur, rfl, _⟩
    · exact ⟨none, 0, by rw [hh]⟩
    · exact ⟨_, _, rfl⟩
  refine ⟨a, ts.length, cp, rfl, ?_, hb⟩
  rw [hp.length_eq, h.N]
  exact h.count
end
end Go.Proofs.YtjgclmlclkfgpaaGreat
