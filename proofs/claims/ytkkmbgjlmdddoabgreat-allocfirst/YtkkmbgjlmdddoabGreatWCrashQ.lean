/- A log that is opened behind a crash within a Commit: plain facts. -/
import Derived.Test.YtkkmbgjlmdddoabGreatWCrashP
import Derived.Test.YtkkmbgjlmdddoabGreatWCrashed
namespace Go.Proofs.YtkkmbgjlmdddoabGreat
open Go.RowKit
theorem cut_more {S : DiskS} (h : Made S) (l : List OpS) (r : Nat) : cutS (doOps S l) (S.ops.length + r) = doOps S (l.take r) := by
  obtain ⟨h1, _, h3⟩ := doOps_facts S l
  unfold cutS
  rw [h1, h3, List.take_append, Nat.add_sub_cancel_left, List.take_of_length_le (by omega), doOps_append, ← h.made]
theorem crashed_left (S : DiskS) (q : Nat) (ch : List UInt8) : Left (cutS S q) (crashedS S q ch) := left_crash _ _ (good_keepL ch _ _)
theorem left_512 {C X : DiskS} (h : Left C X) (hC : okS C) (n : Nat) (hn : n < X.safe.length) : (seenAt X n).size = 512 := by
  rw [h.len] at hn
  rcases h.cand n hn with h1 | h1
  · exact hC.1 _ (List.mem_of_getElem? h1)
  · exact hC.2 _ _ h1
theorem left_sec {C X : DiskS} (h : Left C X) (hC : okS C) (n : Nat) (hn : n < X.safe.length) : (secL X n).length = 512 := by
  have := left_512 h hC n hn
  unfold secL
  simpa [seenAt] using this
theorem Made.cut {S : DiskS} (h : Made S) (q : Nat) : Made (cutS S q) := by
  obtain ⟨h1, h2, h3⟩ := cutS_facts S q
  refine ⟨?_, ?_, by rw [h1]; exact h.most, by rw [h1]; exact h.size⟩
  · rw [h1, h3]; rfl
  · rw [h1, h3]; exact fun o ho => h.ok o (List.mem_of_mem_take ho)
theorem crashed_sec {S : DiskS} (h : Made S) (q : Nat) (ch : List UInt8) (n : Nat) (hn : n < (crashedS S q ch).safe.length) : (secL (crashedS S q ch) n).length = 512 := left_sec (crashed_left S q ch) (h.cut q).okS n hn
theorem crashed_len {S : DiskS} (h : Made S) (q : Nat) (ch : List UInt8) : (crashedS S q ch).safe.length = S.safe.length := by
  rw [(crashed_left S q ch).len, (cutS_facts S q).2.1, h.len]
theorem crashed_made {S : DiskS} (h : Made S) (q : Nat) (ch : List UInt8) : Made (crashedS S q ch) := by
  refine made_fresh _ ?_ ?_
  · show (crashedS S q ch).safe.length ≤ 4096
    rw [crashed_len h q ch, h.len]; exact h.most
  · intro s hs
    obtain ⟨n, hn, rfl⟩ := List.mem_iff_getElem.1 hs
    have h1 := left_512 (crashed_left S q ch) (h.cut q).okS n hn
    have e := seenAt_fresh _ n hn
    unfold crashedS at h1
    rw [e] at h1
    exact h1
theorem openS_len (S : DiskS) (size : Nat) (ns : List Nat) : (openS S size ns).safe.length = S.safe.length := by
  unfold openS
  split
  · rfl
  · exact homeS_len _ _ _ _
/-- The group of a Commit that is not refused. -/
theorem com_group {S : DiskS} {size : Nat} {ps : List PageS} (hs : size + 1 ≤ S.safe.length) (h4 : S.safe.length ≤ 4096) (h : comErr (pagesS S size) size ps = 0 ∧ ps.length ≠ 0) : Group S size (grpKeys (grpVal ps ps.length) (pagesS S size)) := by
  obtain ⟨h1, h2, h3⟩ := comErr_ok h
  have hl := grpKeys_len ps _ (inPages_iff.1 h2) ps.length (Nat.le_refl _) h3
  exact ⟨sorted_grpKeys _ _, by rw [hl]; exact h1, by rw [hl]; omega, fun k hk => ⟨(mem_grpKeys.1 hk).1, (mem_grpKeys.1 hk).2.1⟩, hs, h4⟩
theorem crash_opens {S : DiskS} (hM : Made S) (hw : S.waits = fun _ => []) (hh : headOk S) (size : Nat) (ps : List PageS) (bl : Nat → List UInt8) (hs : size + 1 ≤ S.safe.length) (h4 : S.safe.length ≤ 4096) (r : Nat) (hr : S.ops.length + r ≤ (comS S size ps bl).ops.length) (ch : List UInt8) :
    ∃ P, Opens (crashedS (comS S size ps bl) (S.ops.length + r) ch) size P ∧ (r = 0 → P = allL S size) ∧ (S.ops.length + r = (comS S size ps bl).ops.length → P = allL (comS S size ps bl) size) ∧ (P = allL S size ∨ P = allL (comS S size ps bl) size) := by
  have hL := crashed_left (comS S size ps bl) (S.ops.length + r) ch
  generalize crashedS (comS S size ps bl) (S.ops.length + r) ch = X at *
  have hops := comS_ops S size ps bl
  by_cases hc : comErr (pagesS S size) size ps = 0 ∧ ps.length ≠ 0
  · have hg := com_group hs h4 hc
    have hl : (grpKeys (grpVal ps ps.length) (pagesS S size)).length = ps.length := grpKeys_len ps _ (inPages_iff.1 (comErr_ok hc).2.1) ps.length (Nat.le_refl _) (comErr_ok hc).2.2
    have e : comS S size ps bl = writtenS S size (grpL ps bl ps.length) (grpKeys (grpVal ps ps.length) (pagesS S size)) := by unfold comS; rw [if_pos hc]
    rw [if_pos hc] at hops
    rw [e] at hL hr hops ⊢
    generalize grpL ps bl ps.length = l at *
    generalize grpKeys (grpVal ps ps.length) (pagesS S size) = ks at *
    rw [writtenS_doOps, cut_more hM] at hL
    have hnew : allL (writtenS S size l ks) size = pagesBy S.safe.length size (newAt S size l ks) := by
      rw [allL_by (writtenS S size l ks) size (newAt S size l ks) (fun n a b => by
        rw [writtenS_len] at b
        rw [seen_writtenS S size l ks n b (fun k hk => (hg.pages k hk).1) (by have := hg.le; omega) (.inr a), if_neg (by omega)]; rfl), writtenS_len]
    rw [hnew]
    rcases com_crash hg hw hh r X hL with ⟨h1, h2⟩ | ⟨h1, h2⟩
    · exact ⟨_, h2, fun _ => rfl, fun h => by omega, .inl rfl⟩
    · exact ⟨_, h2, fun h => by omega, fun _ => rfl, .inr rfl⟩
  · have e : comS S size ps bl = S := by unfold comS; rw [if_neg hc]
    rw [if_neg hc] at hops
    rw [e] at hL hr hops ⊢
    obtain rfl : r = 0 := by omega
    have hcut : cutS S (S.ops.length + 0) = S := by
      have := cut_more hM [] 0
      exact this
    rw [hcut] at hL
    have hq : ∀ n, n < S.safe.length → seenAt X n = seenAt S n := fun n hn => cand_quiet hw (hL.cand n hn)
    refine ⟨allL S size, ?_, fun _ => rfl, fun _ => rfl, .inl rfl⟩
    have := opens_ok (X := X) (size := size) (headOk_congr hh (hq 0 (by omega))) (by rw [hL.len]; exact h4)
    rw [allL_by X size (seenAt S) (fun n a b => by rw [hL.len] at b; exact hq n b), hL.len, ← allL_by S size (seenAt S) (fun _ _ _ => rfl)] at this
    exact this
end Go.Proofs.YtkkmbgjlmdddoabGreat
