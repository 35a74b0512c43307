/- A cache in the midst of deeds, and the pages as they were at the last Commit. -/
import Derived.Test.YtjgclmlclkfgpaaGreatBaseE
import Derived.Test.YtjgclmlclkfgpaaGreatBAll
import Derived.Test.YtjgclmlclkfgpaaGreatBDeeds
namespace Go.Proofs.YtjgclmlclkfgpaaGreat
open Go.RowKit
theorem filt_upd (p q : Int → Bool) (n : Int) (h : ∀ k, k ≠ n → q k = p k) : ∀ l : List Int, l.Pairwise (fun a b => a < b) → (l.filter q).length ≤ (l.filter p).length + 1
  | [], _ => by simp
  | k :: l, hp => by
    obtain ⟨h1, h2⟩ := List.pairwise_cons.1 hp
    by_cases e : k = n
    · have : l.filter q = l.filter p := List.filter_congr (fun x hx => h x (by have := h1 x hx; omega))
      simp only [List.filter_cons, this]
      split <;> split <;> (try simp only [List.length_cons]) <;> omega
    · simp only [List.filter_cons, h k e]
      have := filt_upd p q n h l h2
      split <;> (try simp only [List.length_cons]) <;> omega
theorem range_sorted (N : Nat) : ((List.range N).map (fun k : Nat => (k : Int))).Pairwise (fun a b => a < b) := by
  rw [List.pairwise_map]
  exact List.pairwise_lt_range.imp (fun h => by omega)
theorem keys_upd (C : CS) (n : Int) (l : List UInt8) (u : Int → Option Nat) (m : Nat) (hm : C.dirtyKeys.length ≤ m) (h : (C.dirty n).isSome ∨ C.dirtyKeys.length < m) : ({ C with dirty := updD C.dirty n l, used := u } : CS).dirtyKeys.length ≤ m := by
  unfold CS.dirtyKeys at hm h ⊢
  rcases h with h | h
  · have : ∀ k, ((updD C.dirty n l) k).isSome = (C.dirty k).isSome := fun k => by
      unfold updD
      by_cases e : k = n
      · rw [if_pos e, e, h]; rfl
      · rw [if_neg e]
    have e : (((List.range C.N).map (fun k : Nat => (k : Int))).filter (fun k => ((updD C.dirty n l) k).isSome)) = ((List.range C.N).map (fun k : Nat => (k : Int))).filter (fun k => (C.dirty k).isSome) := List.filter_congr (fun k _ => this k)
    show (((List.range C.N).map (fun k : Nat => (k : Int))).filter (fun k => ((updD C.dirty n l) k).isSome)).length ≤ m
    rw [e]; exact hm
  · have := filt_upd (fun k => (C.dirty k).isSome) (fun k => ((updD C.dirty n l) k).isSome) n (fun k e => by simp only [updD, if_neg e]) _ (range_sorted C.N)
    show (((List.range C.N).map (fun k : Nat => (k : Int))).filter (fun k => ((updD C.dirty n l) k).isSome)).length ≤ m
    omega
/-- A cache over a log of ten, behind k deeds; its pages as they were at the last Commit lie at a. -/
def AbAt (w0 w : World) (c k : Nat) (a : Option Addr) : Prop := Below w0.heap.size w0 w ∧ ∃ L C lo, CacheAt w c L C ∧ C.size = 10 ∧ C.N = 11 ∧ Made C.S ∧ C.S.ops.length ≤ 300 * k ∧ C.dirtyKeys.length ≤ 10 ∧ C.uses = 0 ∧ (∀ i, L.foot c i → w0.heap.size ≤ i ∧ i < lo) ∧ lo ≤ w.heap.size ∧ rowsFrom w lo a (allL C.S 10)
section
variable {w0 w w' : World} {c k : Nat} {a : Option Addr}
theorem AbAt.below (h : AbAt w0 w c k a) (hb : Below w.heap.size w w') : AbAt w0 w' c k a := by
  obtain ⟨h2, L, C, lo, h3, h4, h5, h6, h7, h8, hu, h9, h10, h11⟩ := h
  exact ⟨h2.trans (hb.mono h2.size), L, C, lo, h3.below hb, h4, h5, h6, h7, h8, hu, h9, Nat.le_trans h10 hb.size, h11.below hb⟩
theorem AbAt.more (h : AbAt w0 w c k a) : AbAt w0 w c (k + 1) a := by
  obtain ⟨h2, L, C, lo, h3, h4, h5, h6, h7, h8, hu, h9, h10, h11⟩ := h
  exact ⟨h2, L, C, lo, h3, h4, h5, h6, by omega, h8, hu, h9, h10, h11⟩
theorem AbAt.write (h : AbAt w0 w c k a) (n : Int) (s : Bool) (l : List UInt8) (ad : Addr) (cp : Nat) (hl : l.length = dlen s) (hb : bytesAt w ad l) :
    Calls Tryz.prog 27 #[.pointer (some ⟨c, 0, none⟩), .int .i64 n, .slice (some ad) (dlen s) cp] w fun e w' => ∃ v, e = .returned v ∧ AbAt w0 w' c k a := by
  have h' := h
  obtain ⟨h2, L, C, lo, h3, h4, h5, h6, h7, h8, hu, h9, h10, h11⟩ := h
  by_cases hin : 0 ≤ n ∧ n < (C.N : Int)
  · obtain ⟨hi0, hi1⟩ := hin
    obtain ⟨n, rfl⟩ : ∃ m : Nat, n = (m : Int) := ⟨n.toNat, by omega⟩
    have hn : n < C.N := by omega
    cases s with
    | true =>
      refine (bwrite_form n (some ad) 511 cp w h3 hn (by omega)).mono ?_
      rintro e w' ⟨rfl, hb⟩
      exact ⟨_, rfl, h'.below hb⟩
    | false =>
      by_cases hr : (C.dirty n).isSome ∨ C.dirtyKeys.length < min C.size 100
      · refine (bwrite_ok n l ad cp w h3 hn hl hb hr).mono ?_
        rintro e w' ⟨rfl, g, cap, Dd, Du, hg, hC, hK⟩
        have hf : ∀ i, (i = L.dm ∨ i = L.um) → w0.heap.size ≤ i ∧ i < lo := fun i hi => h9 i (hi.elim (fun e => .inr (.inr (.inl e))) (fun e => .inr (.inr (.inr e))))
        refine ⟨_, rfl, h2.trans (hK.below h2.size (fun i hi => (hf i hi).1)), _, _, lo, hC, h4, h5, h6, h7, keys_upd C n l _ 10 h8 ?_, hu, h9, Nat.le_trans h10 hK.size, h11.keep hK (fun i hi => (hf i hi).2)⟩
        rw [h4] at hr
        exact hr.imp id (fun h => by omega)
      · have hd : C.dirty n = none := by
          cases hd : C.dirty n with
          | none => rfl
          | some b => exact absurd (.inl (by rw [hd]; rfl)) hr
        have hk : ¬ C.dirtyKeys.length < min C.size 100 := fun h => hr (.inr h)
        refine (bwrite_full n (some ad) cp w h3 hn hd (by rw [h4] at hk ⊢; omega)).mono ?_
        rintro e w' ⟨rfl, hb⟩
        exact ⟨_, rfl, h'.below hb⟩
  · refine (bwrite_range n _ w h3 hin).mono ?_
    rintro e w' ⟨rfl, hb⟩
    exact ⟨_, rfl, h'.below hb⟩
/-- Commit, Log and all behind it. -/
theorem AbAt.commit (h : AbAt w0 w c k a) (hk : k ≤ 1000) :
    Calls Tryz.prog 29 #[.pointer (some ⟨c, 0, none⟩)] w fun e w' => e = .returned (.int .i64 0) ∧ ∃ p, Calls Tryz.prog 18 #[.pointer (some ⟨c, 0, none⟩)] w' (fun e w2 => e = .returned (.pointer (some ⟨p, 0, none⟩)) ∧ w2 = w') ∧
      Calls Tryz.prog 32 #[.pointer (some ⟨p, 0, none⟩)] w' fun e w2 => ∃ a2 ac, e = .returned (.slice a2 11 ac) ∧ AbAt w0 w2 c (k + 1) a2 := by
  obtain ⟨h2, L, C, lo, h3, h4, h5, h6, h7, h8, hu, h9, h10, h11⟩ := h
  have hr : C.dirtyKeys.length ≤ min C.size 100 := by rw [h4]; omega
  have hmd := h3.comMade h6 hr
  have hcl := h3.comLen hr
  have hol : C.com.ops.length ≤ 300 * (k + 1) := by
    have := comS_ops_le C.S C.size (L.ps C.dirtyKeys) (fun j => (C.dirty (C.dirtyKeys.getD j 0)).getD [])
    rw [(h3.com hr).2] at this
    have hpl : (L.ps C.dirtyKeys).length = C.dirtyKeys.length := by simp [CLay.ps]
    omega
  refine (bcommit_any w h3 hr (by omega)).mono ?_
  rintro e w' ⟨rfl, d', F', hF1, hF2, hC, hK⟩
  refine ⟨rfl, _, blog_any w' hC, ?_⟩
  have hk2 : Below w0.heap.size w0 w' := h2.trans (hK.below h2.size (fun i hi => (h9 i (hi.elim .inl (fun e => .inr (.inr (.inl e))))).1))
  have hall := b4all_any w' hC.log hC.fits (fun n hn => hmd.sec n hn)
  have hpg : pagesS C.com C.size = 11 := by
    have := hC.pages
    exact this.symm.trans h5
  have hal : (allL C.com C.size).length = 11 := by rw [length_allL, hpg]; rfl
  refine hall.mono ?_
  rintro e w2 ⟨hb2, a2, ac, rfl, hrows⟩
  refine ⟨a2, ac, ?_, hk2.trans (hb2.mono hk2.size), _, _, w'.heap.size, hC.below hb2, h4, h5, hmd, hol, by rw [CS.dirtyKeys_none rfl]; simp, hu, fun i hi => ?_, hb2.size, ?_⟩
  · exact congrArg (fun n => Ending.returned (.slice a2 n ac)) hal
  · obtain ⟨es, kk, hm⟩ := h3.dmap
    obtain ⟨es', kk', hm'⟩ := h3.umap
    have hs := hK.size
    have hlo : ∀ j, L.foot c j → w0.heap.size ≤ j ∧ j < w'.heap.size := fun j hj => ⟨(h9 j hj).1, by have := (h9 j hj).2; omega⟩
    rcases hi with hi | hi | hi | hi
    · refine ⟨?_, hC.lt i hi⟩
      rcases hF2 i hi with h | h
      · exact (h9 i (.inl h)).1
      · exact Nat.le_trans h2.size h
    · exact hlo i (.inr (.inl hi))
    · exact hlo i (.inr (.inr (.inl hi)))
    · exact hlo i (.inr (.inr (.inr hi)))
  · rw [← h4]; exact hrows
/-- Behind Abort: nothing was written. -/
def EndAt (w0 w : World) (c : Nat) (a : Option Addr) (S : DiskS) (j : Nat) : Prop := Below w0.heap.size w0 w ∧ ∃ L C lo, CacheAt w c L C ∧ C.size = 10 ∧ C.N = 11 ∧ Made C.S ∧ C.S = S ∧ C.dirty = (fun _ => none) ∧ C.uses = j ∧ (∀ i, L.foot c i → w0.heap.size ≤ i ∧ i < lo) ∧ lo ≤ w.heap.size ∧ rowsFrom w lo a (allL S 10)
theorem EndAt.below {S : DiskS} {j : Nat} (h : EndAt w0 w c a S j) (hb : Below w.heap.size w w') : EndAt w0 w' c a S j := by
  obtain ⟨h2, L, C, lo, h3, h4, h5, h6, h7, h8, hu, h9, h10, h11⟩ := h
  exact ⟨h2.trans (hb.mono h2.size), L, C, lo, h3.below hb, h4, h5, h6, h7, h8, hu, h9, Nat.le_trans h10 hb.size, h11.below hb⟩
theorem AbAt.ends (h : AbAt w0 w c k a) : ∃ n : Nat, n ≤ 10 ∧ ∃ S, Calls Tryz.prog 13 #[.pointer (some ⟨c, 0, none⟩)] w fun e w' => ∃ va vc, e = .returned (.slice va n vc) ∧ Calls Tryz.prog 30 #[.pointer (some ⟨c, 0, none⟩)] w' fun e w2 => e = .returned (.int .i64 (n : Int)) ∧ EndAt w0 w2 c a S 0 := by
  obtain ⟨h2, L, C, lo, h3, h4, h5, h6, h7, h8, hu, h9, h10, h11⟩ := h
  refine ⟨C.dirtyKeys.length, h8, C.S, (bdirty_any w h3).mono ?_⟩
  rintro e w' ⟨v, rfl, hrow, -, hb⟩
  obtain ⟨va, vc, rfl, -⟩ := row_slice hrow
  refine ⟨va, vc, rfl, (babort_any w' (h3.below hb)).mono ?_⟩
  rintro e w2 ⟨rfl, hC, hK⟩
  have hf : ∀ i, i = L.dm → w0.heap.size ≤ i ∧ i < lo := fun i hi => h9 i (.inr (.inr (.inl hi)))
  have hb' := h2.trans (hb.mono h2.size)
  exact ⟨rfl, hb'.trans (hK.below hb'.size (fun i hi => (hf i hi).1)), _, _, lo, hC, h4, h5, h6, rfl, rfl, hu, h9, Nat.le_trans h10 (Nat.le_trans hb.size hK.size), (h11.below hb).keep hK (fun i hi => (hf i hi).2)⟩
section
variable {S : DiskS} {j : Nat}
theorem EndAt.dirty (h : EndAt w0 w c a S j) : Calls Tryz.prog 13 #[.pointer (some ⟨c, 0, none⟩)] w fun e w' => e = .returned (.slice none 0 0) ∧ EndAt w0 w' c a S j := by
  have h' := h
  obtain ⟨h2, L, C, lo, h3, h4, h5, h6, h7, h8, hu, h9, h10, h11⟩ := h
  refine (bdirty_any w h3).mono ?_
  rintro e w' ⟨v, rfl, -, hnil, hb⟩
  rw [hnil.2 (CS.dirtyKeys_none h8)]
  exact ⟨rfl, h'.below hb⟩
theorem EndAt.room (h : EndAt w0 w c a S j) : Calls Tryz.prog 15 #[.pointer (some ⟨c, 0, none⟩)] w fun e w' => e = .returned (.int .i64 10) ∧ EndAt w0 w' c a S j := by
  have h' := h
  obtain ⟨h2, L, C, lo, h3, h4, h5, h6, h7, h8, hu, h9, h10, h11⟩ := h
  have := broom_any w h3
  rw [CS.dirtyKeys_none h8, h4] at this
  refine this.mono ?_
  rintro e w' ⟨rfl, hb⟩
  exact ⟨rfl, h'.below hb⟩
theorem EndAt.abort (h : EndAt w0 w c a S j) : Calls Tryz.prog 30 #[.pointer (some ⟨c, 0, none⟩)] w fun e w' => e = .returned (.int .i64 0) ∧ Below w0.heap.size w0 w' := by
  obtain ⟨h2, L, C, lo, h3, h4, h5, h6, h7, h8, hu, h9, h10, h11⟩ := h
  refine (babort_any w h3).mono ?_
  rintro e w2 ⟨rfl, hC, hK⟩
  rw [CS.dirtyKeys_none h8]
  exact ⟨rfl, h2.trans (hK.below h2.size (fun i hi => (h9 i (.inr (.inr (.inl hi)))).1))⟩
/-- Read, and what stands for the page among those of before. -/
theorem EndAt.read (h : EndAt w0 w c a S j) (hj : j ≤ 1000) (i : Nat) (hi : i < 11) : Calls Tryz.prog 25 #[.pointer (some ⟨c, 0, none⟩), .int .i64 i] w fun e w' => ∃ g cap b o a' c', e = .returned (.tuple #[.slice (some ⟨g, 0, none⟩) 512 cap, .int .i64 0]) ∧ EndAt w0 w' c a S (j + 1) ∧ a = some ⟨b, o, none⟩ ∧ w'.cell? ⟨b, o + i, none⟩ = some (.slice a' 512 c') ∧
      Calls Tryz.prog 26 #[.slice (some ⟨g, 0, none⟩) 512 cap, .slice a' 512 c'] w' fun e w2 => e = .returned (.bool true) ∧ Below w'.heap.size w' w2 := by
  obtain ⟨h2, L, C, lo, h3, h4, h5, h6, h7, h8, hu, h9, h10, h11⟩ := h
  subst h7
  refine (bread_any (i : Int) (by omega) (by omega) w h3 h6 (by omega)).mono ?_
  rintro e w' (⟨h, -⟩ | ⟨bs, h, -⟩ | ⟨-, -, -, g, cap, rfl, hg, hby, u', D', hU, hC, hK⟩)
  · exact absurd (show (0 : Int) ≤ (i : Int) ∧ (i : Int) < (C.N : Int) by rw [h5]; omega) h
  · rw [h8] at h; cases h
  have hf : ∀ i, (i = c ∨ i = L.um) → w0.heap.size ≤ i ∧ i < lo := fun i hi => h9 i (hi.elim (fun e => .inr (.inl e)) (fun e => .inr (.inr (.inr e))))
  have hp := h3.pages
  rw [h4] at hp
  have hal : (allL C.S 10).length = 11 := by rw [length_allL, ← hp, h5]; rfl
  have hrw := h11.keep hK (fun i hi => (hf i hi).2)
  obtain ⟨b, o, e1, -, hc⟩ := hrw i (by omega)
  obtain ⟨a', c', hc1, hc2, -⟩ := hc i (by omega)
  have hlen : (allL C.S 10)[i]'(by omega) = secL C.S (1 + 10 + i) := allL_at _ _ _ _
  have hs5 : (secL C.S (1 + 10 + i)).length = 512 := h6.sec _ (by unfold pagesS at hp; omega)
  rw [hlen] at hc1 hc2
  rw [hs5] at hc1
  have hby' : bytesAt w' ⟨g, 0, none⟩ (secL C.S (1 + 10 + i)) := by
    rw [h4] at hby
    exact hby
  have hSm := same_bytes (secL C.S (1 + 10 + i)) (secL C.S (1 + 10 + i)) (some ⟨g, 0, none⟩) a' cap c' w' (bytesIn_of_at hby') hc2 (by rw [hs5]; omega)
  rw [hs5, decide_eq_true rfl] at hSm
  refine ⟨g, cap, b, o, a', c', rfl, ⟨h2.trans (hK.below h2.size (fun i hi => (hf i hi).1)), _, _, lo, hC, h4, h5, h6, rfl, h8, by rw [← hu], h9, Nat.le_trans h10 hK.size, hrw⟩, e1, hc1, hSm⟩
end
end
end Go.Proofs.YtjgclmlclkfgpaaGreat
