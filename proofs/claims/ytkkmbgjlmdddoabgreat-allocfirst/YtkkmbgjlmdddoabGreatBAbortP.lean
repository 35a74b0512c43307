/- A cache in the midst of deeds, and the pages as they were at the last Commit. -/
import Derived.Test.YtkkmbgjlmdddoabGreatBaseE
import Derived.Test.YtkkmbgjlmdddoabGreatBAll
import Derived.Test.YtkkmbgjlmdddoabGreatBDeeds
namespace Go.Proofs.YtkkmbgjlmdddoabGreat
open Go.RowKit
theorem filt_upd (p q : Int → Bool) (n : Int) (h : ∀ k, k ≠ n → q k = p k) : ∀ l : List Int, l.Pairwise (fun a b => a < b) → (l.filter q).length ≤ (l.filter p).length + 1
  | [], _ => by simp
  | k :: l, hp => by
    obtain ⟨h1, h2⟩ := List.pairwise_cons.1 hp
    by_cases e : k = n
    · have : l.filter q = l.filter p := List.filter_congr (fun x hx => h x (by have := h1 x hx; omega))
      simp only [List.filter_cons, this]
      split <;> split <;> (try simp only [List.length_cons]) <;> omega
    · simp only [List.filter_cons, h k e]
      have := filt_upd p q n h l h2
      split <;> (try simp only [List.length_cons]) <;> omega
theorem range_sorted (N : Nat) : ((List.range N).map (fun k : Nat => (k : Int))).Pairwise (fun a b => a < b) := by
  rw [List.pairwise_map]
  exact List.pairwise_lt_range.imp (fun h => by omega)
theorem keys_upd (C : CS) (n : Int) (l : List UInt8) (u : Int → Option Nat) (m : Nat) (hm : C.dirtyKeys.length ≤ m) (h : (C.dirty n).isSome ∨ C.dirtyKeys.length < m) : ({ C with dirty := updD C.dirty n l, used := u } : CS).dirtyKeys.length ≤ m := by
  unfold CS.dirtyKeys at hm h ⊢
  rcases h with h | h
  · have : ∀ k, ((updD C.dirty n l) k).isSome = (C.dirty k).isSome := fun k => by
      unfold updD
      by_cases e : k = n
      · rw [if_pos e, e, h]; rfl
      · rw [if_neg e]
    have e : (((List.range C.N).map (fun k : Nat => (k : Int))).filter (fun k => ((updD C.dirty n l) k).isSome)) = ((List.range C.N).map (fun k : Nat => (k : Int))).filter (fun k => (C.dirty k).isSome) := List.filter_congr (fun k _ => this k)
    show (((List.range C.N).map (fun k : Nat => (k : Int))).filter (fun k => ((updD C.dirty n l) k).isSome)).length ≤ m
    rw [e]; exact hm
  · have := filt_upd (fun k => (C.dirty k).isSome) (fun k => ((updD C.dirty n l) k).isSome) n (fun k e => by simp only [updD, if_neg e]) _ (range_sorted C.N)
    show (((List.range C.N).map (fun k : Nat => (k : Int))).filter (fun k => ((updD C.dirty n l) k).isSome)).length ≤ m
    omega
/-- A cache over a log of ten, behind k deeds; its pages as they were at the last Commit lie at a. -/
def AbAt (w0 w : World) (c k : Nat) (a : Option Addr) : Prop := Below w0.heap.size w0 w ∧ ∃ L C lo, CacheAt w c L C ∧ C.size = 10 ∧ C.N = 11 ∧ Made C.S ∧ C.S.ops.length ≤ 300 * k ∧ C.dirtyKeys.length ≤ 10 ∧ C.uses = 0 ∧ (∀ i, L.foot c i → w0.heap.size ≤ i ∧ i < lo) ∧ lo ≤ w.heap.size ∧ rowsFrom w lo a (allL C.S 10)
section
variable {w0 w w' : World} {c k : Nat} {a : Option Addr}
theorem AbAt.below (h : AbAt w0 w c k a) (hb : Below w.heap.size w w') : AbAt w0 w' c k a := by
  obtain ⟨h2, L, C, lo, h3, h4, h5, h6, h7, h8, hu, h9, h10, h11⟩ := h
  exact ⟨h2.trans (hb.mono h2.size), L, C, lo, h3.below hb, h4, h5, h6, h7, h8, hu, h9, Nat.le_trans h10 hb.size, h11.below hb⟩
theorem AbAt.more (h : AbAt w0 w c k a) : AbAt w0 w c (k + 1) a := by
  obtain ⟨h2, L, C, lo, h3, h4, h5, h6, h7, h8, hu, h9, h10, h11⟩ := h
  exact ⟨h2, L, C, lo, h3, h4, h5, h6, by omega, h8, hu, h9, h10, h11⟩
theorem AbAt.write (h : AbAt w0 w c k a) (n : Int) (s : Bool) (l : List UInt8) (ad : Addr) (cp : Nat) (hl : l.length = dlen s) (hb : bytesAt w ad l) :
    Calls Tryz.prog 54 #[.pointer (some ⟨c, 0, none⟩), .int .i64 n, .slice (some ad) (dlen s) cp] w fun e w' => ∃ v, e = .returned v ∧ AbAt w0 w' c k a := by
  have h' := h
  obtain ⟨h2, L, C, lo, h3, h4, h5, h6, h7, h8, hu, h9, h10, h11⟩ := h
  by_cases hin : 0 ≤ n ∧ n < (C.N : Int)
  · obtain ⟨hi0, hi1⟩ := hin
    obtain ⟨n, rfl⟩ : ∃ m : Nat, n = (m : Int) := ⟨n.toNat, by omega⟩
    have hn : n < C.N := by omega
    cases s with
    | true =>
      refine (bwrite_form n (some ad) 511 cp w h3 hn (by omega)).mono ?_
      rintro e w' ⟨rfl, hb⟩
      exact ⟨_, rfl, h'.below hb⟩
    | false =>
      by_cases hr : (C.dirty n).isSome ∨ C.dirtyKeys.length < min C.size 100
      · refine (bwrite_ok n l ad cp w h3 hn hl hb hr).mono ?_
        rintro e w' ⟨rfl, g, cap, Dd, Du, hg, hC, hK⟩
        have hf : ∀ i, (i = L.dm ∨ i = L.um) → w0.heap.size ≤ i ∧ i < lo := fun i hi => h9 i (hi.elim (fun e => .inr (.inr (.inl e))) (fun e => .inr (.inr (.inr e))))
        refine ⟨_, rfl, h2.trans (hK.below h2.size (fun i hi => (hf i hi).1)), _, _, lo, hC, h4, h5, h6, h7, keys_upd C n l _ 10 h8 ?_, hu, h9, Nat.le_trans h10 hK.size, h11.keep hK (fun i hi => (hf i hi).2)⟩
        rw [h4] at hr
        exact hr.imp id (fun h => by omega)
      · have hd : C.dirty n = none := by
          cases hd : C.dirty n with
          | none => rfl
          | some b => exact absurd (.inl (by rw [hd]; rfl)) hr
        have hk : ¬ C.dirtyKeys.length < min C.size 100 := fun h => hr (.inr h)
        refine (bwrite_full n (some ad) cp w h3 hn hd (by rw [h4] at hk ⊢; omega)).mono ?_
        rintro e w' ⟨rfl, hb⟩
        exact ⟨_, rfl, h'.below hb⟩
  · refine (bwrite_range n _ w h3 hin).mono ?_
    rintro e w' ⟨rfl, hb⟩
    exact ⟨_, rfl, h'.below hb⟩
/-- Behind Abort: nothing was written. -/
def EndAt (w0 w : World) (c : Nat) (a : Option Addr) (S : DiskS) (j : Nat) : Prop := Below w0.heap.size w0 w ∧ ∃ L C lo, CacheAt w c L C ∧ C.size = 10 ∧ C.N = 11 ∧ Made C.S ∧ C.S = S ∧ C.dirty = (fun _ => none) ∧ C.uses = j ∧ (∀ i, L.foot c i → w0.heap.size ≤ i ∧ i < lo) ∧ lo ≤ w.heap.size ∧ rowsFrom w lo a (allL S 10)
theorem EndAt.below {S : DiskS} {j : Nat} (h : EndAt w0 w c a S j) (hb : Below w.heap.size w w') : EndAt w0 w' c a S j := by
  obtain ⟨h2, L, C, lo, h3, h4, h5, h6, h7, h8, hu, h9, h10, h11⟩ := h
  exact ⟨h2.trans (hb.mono h2.size), L, C, lo, h3.below hb, h4, h5, h6, h7, h8, hu, h9, Nat.le_trans h10 hb.size, h11.below hb⟩
section
variable {S : DiskS} {j : Nat}
theorem EndAt.dirty (h : EndAt w0 w c a S j) : Calls Tryz.prog 45 #[.pointer (some ⟨c, 0, none⟩)] w fun e w' => e = .returned (.slice none 0 0) ∧ EndAt w0 w' c a S j := by
  have h' := h
  obtain ⟨h2, L, C, lo, h3, h4, h5, h6, h7, h8, hu, h9, h10, h11⟩ := h
  refine (bdirty_any w h3).mono ?_
  rintro e w' ⟨v, rfl, -, hnil, hb⟩
  rw [hnil.2 (CS.dirtyKeys_none h8)]
  exact ⟨rfl, h'.below hb⟩
theorem EndAt.room (h : EndAt w0 w c a S j) : Calls Tryz.prog 26 #[.pointer (some ⟨c, 0, none⟩)] w fun e w' => e = .returned (.int .i64 10) ∧ EndAt w0 w' c a S j := by
  have h' := h
  obtain ⟨h2, L, C, lo, h3, h4, h5, h6, h7, h8, hu, h9, h10, h11⟩ := h
  have := broom_any w h3
  rw [CS.dirtyKeys_none h8, h4] at this
  refine this.mono ?_
  rintro e w' ⟨rfl, hb⟩
  exact ⟨rfl, h'.below hb⟩
end
end
end Go.Proofs.YtkkmbgjlmdddoabGreat
