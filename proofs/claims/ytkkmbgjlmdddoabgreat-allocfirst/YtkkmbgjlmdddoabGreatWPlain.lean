/- How the disk stands behind a Commit: plain facts. -/
import Derived.Test.YtkkmbgjlmdddoabGreatCommitA
import Derived.Test.YtkkmbgjlmdddoabGreatBaseD
namespace Go.Proofs.YtkkmbgjlmdddoabGreat
open Go.RowKit
def seenAt (S : DiskS) (n : Nat) : ByteArray := seenS S.safe S.waits (n : Int)
theorem seenAt_flushed (S : DiskS) (n : Nat) (h : n < S.safe.length) : seenAt S.flushed n = seenAt S n := seen_flushed S n h
theorem seenAt_other (S : DiskS) (n : Nat) (k : Int) (s : ByteArray) (h : (n : Int) ≠ k) : seenAt (S.wrote k s) n = seenAt S n := seen_other S _ k s h
theorem seenAt_same (S : DiskS) (n : Nat) (k : Int) (s : ByteArray) (h : (n : Int) = k) : seenAt (S.wrote k s) n = s := by
  subst h; exact seen_same S _ s
theorem len_flushed (S : DiskS) : S.flushed.safe.length = S.safe.length := length_imgS S
theorem len_wrote (S : DiskS) (k : Int) (s : ByteArray) : (S.wrote k s).safe.length = S.safe.length := rfl
theorem seen_homeTo (size : Nat) (l : Int → List UInt8) (n : Nat) : ∀ (ks : List Int) (S : DiskS), (∀ k ∈ ks, 0 ≤ k) → seenAt (homeTo S size l ks) n = if size < n ∧ ((n : Int) - 1 - (size : Int)) ∈ ks then ⟨(l ((n : Int) - 1 - (size : Int))).toArray⟩ else seenAt S n
  | [], S, _ => by simp [homeTo]
  | k :: ks, S, h => by
    have ih := seen_homeTo size l n ks (S.wrote (1 + (size : Int) + k) ⟨(l k).toArray⟩) (fun q hq => h q (List.mem_cons_of_mem _ hq))
    have hk := h k List.mem_cons_self
    show seenAt (homeTo (S.wrote (1 + (size : Int) + k) ⟨(l k).toArray⟩) size l ks) n = _
    rw [ih]
    by_cases e : (n : Int) = 1 + (size : Int) + k
    · have e2 : (n : Int) - 1 - (size : Int) = k := by omega
      have hn : size < n := by omega
      rw [e2]
      rw [if_pos (c := size < n ∧ k ∈ k :: ks) ⟨hn, List.mem_cons_self⟩]
      split
      · rfl
      · exact seenAt_same S n _ _ e
    · have e2 : (n : Int) - 1 - (size : Int) ≠ k := by omega
      rw [seenAt_other S n _ _ e]
      simp only [List.mem_cons, e2, false_or]
theorem seen_logTo (S : DiskS) (l : Int → List UInt8) (ks : List Int) (n : Nat) : ∀ j, (n = 0 ∨ j < n) → seenAt (logTo S l ks j) n = seenAt S n
  | 0, _ => rfl
  | j + 1, h => by
    have ih := seen_logTo S l ks n j (by omega)
    rw [show logTo S l ks (j + 1) = (logTo S l ks j).wrote (1 + (j : Int)) ⟨(l (ks.getD j 0)).toArray⟩ by simp [logTo, List.range_succ, List.foldl_append], seenAt_other _ n _ _ (by omega)]
    exact ih
theorem homeS_len (S : DiskS) (size : Nat) (l : Int → List UInt8) (ks : List Int) : (homeS S size l ks).safe.length = S.safe.length := by
  rw [homeS, len_flushed, len_wrote, len_flushed, (homeTo_facts size l ks S).1]
theorem homeS_ops (S : DiskS) (size : Nat) (l : Int → List UInt8) (ks : List Int) : (homeS S size l ks).ops.length = S.ops.length + ks.length + 3 := by
  rw [homeS]
  simp only [DiskS.flushed, DiskS.wrote, List.length_append, List.length_singleton, (homeTo_facts size l ks S).2]
theorem homeS_waits (S : DiskS) (size : Nat) (l : Int → List UInt8) (ks : List Int) : (homeS S size l ks).waits = fun _ => [] := rfl
theorem seen_homeS (S : DiskS) (size : Nat) (l : Int → List UInt8) (ks : List Int) (n : Nat) (hn : n < S.safe.length) (hk : ∀ k ∈ ks, 0 ≤ k) : seenAt (homeS S size l ks) n = if n = 0 then ⟨(headS []).toArray⟩ else if size < n ∧ ((n : Int) - 1 - (size : Int)) ∈ ks then ⟨(l ((n : Int) - 1 - (size : Int))).toArray⟩ else seenAt S n := by
  have hl1 : (homeTo S size l ks).safe.length = S.safe.length := by rw [(homeTo_facts size l ks S).1]
  rw [homeS, seenAt_flushed _ n (by rw [len_wrote, len_flushed, hl1]; exact hn)]
  by_cases e : n = 0
  · subst e
    rw [if_pos rfl]
    exact seenAt_same _ 0 0 _ rfl
  · rw [if_neg e, seenAt_other _ n _ _ (by omega), seenAt_flushed _ n (by rw [hl1]; exact hn), seen_homeTo size l n ks S hk]
theorem writtenS_len (S : DiskS) (size : Nat) (l : Int → List UInt8) (ks : List Int) : (writtenS S size l ks).safe.length = S.safe.length := by
  rw [writtenS, homeS_len, len_flushed, len_wrote, len_flushed, (logTo_facts _ _ _ _).1]
theorem writtenS_ops (S : DiskS) (size : Nat) (l : Int → List UInt8) (ks : List Int) : (writtenS S size l ks).ops.length = S.ops.length + 2 * ks.length + 6 := by
  rw [writtenS, homeS_ops]
  simp only [DiskS.flushed, DiskS.wrote, List.length_append, List.length_singleton, (logTo_facts S l ks _).2]
  omega
theorem seen_writtenS (S : DiskS) (size : Nat) (l : Int → List UInt8) (ks : List Int) (n : Nat) (hn : n < S.safe.length) (hk : ∀ k ∈ ks, 0 ≤ k) (hks : ks.length ≤ size) (h : n = 0 ∨ size < n) : seenAt (writtenS S size l ks) n = if n = 0 then ⟨(headS []).toArray⟩ else if ((n : Int) - 1 - (size : Int)) ∈ ks then ⟨(l ((n : Int) - 1 - (size : Int))).toArray⟩ else seenAt S n := by
  have hl1 : (logTo S l ks ks.length).safe.length = S.safe.length := by rw [(logTo_facts _ _ _ _).1]
  rw [writtenS, seen_homeS _ size l ks n (by rw [len_flushed, len_wrote, len_flushed, hl1]; exact hn) hk]
  by_cases e : n = 0
  · rw [if_pos e, if_pos e]
  · rw [if_neg e, if_neg e]
    have hs : size < n := by omega
    rw [seenAt_flushed _ n (by rw [len_wrote, len_flushed, hl1]; exact hn), seenAt_other _ n _ _ (by omega), seenAt_flushed _ n (by rw [hl1]; exact hn), seen_logTo S l ks n ks.length (by omega)]
    simp only [hs, true_and]
/-- What a Commit does to the disk. -/
theorem comS_len (S : DiskS) (size : Nat) (ps : List PageS) (bl : Nat → List UInt8) : (comS S size ps bl).safe.length = S.safe.length := by
  unfold comS; split
  · exact writtenS_len _ _ _ _
  · rfl
theorem comS_pages (S : DiskS) (size : Nat) (ps : List PageS) (bl : Nat → List UInt8) : pagesS (comS S size ps bl) size = pagesS S size := by unfold pagesS; rw [comS_len]
theorem comS_waits (S : DiskS) (size : Nat) (ps : List PageS) (bl : Nat → List UInt8) (h : S.waits = fun _ => []) : (comS S size ps bl).waits = fun _ => [] := by
  unfold comS; split
  · rfl
  · exact h
theorem comErr_ok {N size : Nat} {ps : List PageS} (h : comErr N size ps = 0 ∧ ps.length ≠ 0) : ps.length ≤ min size 100 ∧ inPages N ps = true ∧ grpErr ps ps.length = 0 := by
  obtain ⟨h1, h2⟩ := h
  unfold comErr at h1
  rw [if_neg h2] at h1
  split at h1
  · cases h1
  · split at h1
    · rename_i a b; exact ⟨by omega, b, h1⟩
    · cases h1
theorem comS_ops (S : DiskS) (size : Nat) (ps : List PageS) (bl : Nat → List UInt8) : (comS S size ps bl).ops.length = S.ops.length + if comErr (pagesS S size) size ps = 0 ∧ ps.length ≠ 0 then 2 * ps.length + 6 else 0 := by
  unfold comS; split
  · rename_i h
    obtain ⟨h1, h2, h3⟩ := comErr_ok h
    rw [writtenS_ops, grpKeys_len ps _ (inPages_iff.1 h2) ps.length (Nat.le_refl _) h3]
    omega
  · rfl
theorem comS_ops_le (S : DiskS) (size : Nat) (ps : List PageS) (bl : Nat → List UInt8) : (comS S size ps bl).ops.length ≤ S.ops.length + 206 := by
  rw [comS_ops]
  split
  · rename_i h
    have := (comErr_ok h).1
    omega
  · omega
/-- The head: noughts, or of no pages. -/
def headOk (S : DiskS) : Prop := (seenAt S 0).data.toList = zN 512 ∨ seenAt S 0 = ⟨(headS []).toArray⟩
theorem headOk_com (S : DiskS) (size : Nat) (ps : List PageS) (bl : Nat → List UInt8) (h : headOk S) (hs : 0 < S.safe.length) : headOk (comS S size ps bl) := by
  unfold comS; split
  · rename_i h
    obtain ⟨h1, h2, h3⟩ := comErr_ok h
    refine .inr ?_
    rw [seen_writtenS S size _ _ 0 hs (fun k hk => (mem_grpKeys.1 hk).1) (by rw [grpKeys_len ps _ (inPages_iff.1 h2) ps.length (Nat.le_refl _) h3]; omega) (.inl rfl), if_pos rfl]
  · exact h
/-- A page at its home behind a Commit. -/
theorem comS_home (S : DiskS) (size : Nat) (ps : List PageS) (bl : Nat → List UInt8) (n : Nat) (hn : 1 + size + n < S.safe.length) : seenAt (comS S size ps bl) (1 + size + n) = if (comErr (pagesS S size) size ps = 0 ∧ ps.length ≠ 0) ∧ (grpVal ps ps.length (n : Int)).isSome then ⟨(grpL ps bl ps.length (n : Int)).toArray⟩ else seenAt S (1 + size + n) := by
  unfold comS
  by_cases h : comErr (pagesS S size) size ps = 0 ∧ ps.length ≠ 0
  · rw [if_pos h]
    obtain ⟨h1, h2, h3⟩ := comErr_ok h
    have e : ((1 + size + n : Nat) : Int) - 1 - (size : Int) = (n : Int) := by omega
    rw [seen_writtenS S size _ _ (1 + size + n) hn (fun k hk => (mem_grpKeys.1 hk).1) (by rw [grpKeys_len ps _ (inPages_iff.1 h2) ps.length (Nat.le_refl _) h3]; omega) (.inr (by omega)), if_neg (by omega), e]
    by_cases h4 : (grpVal ps ps.length (n : Int)).isSome
    · rw [if_pos (mem_grpKeys.2 ⟨by omega, by unfold pagesS; omega, h4⟩), if_pos ⟨h, h4⟩]
    · rw [if_neg (fun hm => h4 (mem_grpKeys.1 hm).2.2), if_neg (fun hm => h4 hm.2)]
  · rw [if_neg h, if_neg (fun hm => h hm.1)]
end Go.Proofs.YtkkmbgjlmdddoabGreat
