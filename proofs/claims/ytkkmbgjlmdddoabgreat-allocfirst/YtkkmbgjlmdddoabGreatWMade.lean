/- A disk is what its ops made of its first sectors; a Commit and an Open are rows of ops. -/
import Derived.Test.YtkkmbgjlmdddoabGreatWPlain
import Derived.Test.YtkkmbgjlmdddoabGreatBaseB
import Derived.Test.YtkkmbgjlmdddoabGreatOpenA
namespace Go.Proofs.YtkkmbgjlmdddoabGreat
open Go.RowKit
/-- A disk is what its ops made. -/
structure Made (S : DiskS) : Prop where
  made : S = doOps (freshS S.first) S.ops
  ok : ∀ o ∈ S.ops, okOp S.first.length o
  most : S.first.length ≤ 4096
  size : ∀ s ∈ S.first, s.size = 512
theorem Made.len {S : DiskS} (h : Made S) : S.safe.length = S.first.length := by
  have := (doOps_facts (freshS S.first) S.ops).2.1
  rw [← h.made] at this
  exact this
theorem doOps_append (S : DiskS) (l m : List OpS) : doOps S (l ++ m) = doOps (doOps S l) m := by simp [doOps, List.foldl_append]
theorem Made.more {S : DiskS} (h : Made S) (l : List OpS) (hl : ∀ o ∈ l, okOp S.first.length o) : Made (doOps S l) := by
  obtain ⟨h1, h2, h3⟩ := doOps_facts S l
  refine ⟨?_, ?_, by rw [h1]; exact h.most, by rw [h1]; exact h.size⟩
  · rw [h1, h3, doOps_append, ← h.made]
  · rw [h1, h3]
    intro o ho
    rcases List.mem_append.1 ho with ho | ho
    · exact h.ok o ho
    · exact hl o ho
theorem made_fresh (xs : List ByteArray) (h1 : xs.length ≤ 4096) (h2 : ∀ s ∈ xs, s.size = 512) : Made (freshS xs) := ⟨rfl, fun o ho => by simp [freshS] at ho, h1, h2⟩
theorem ok_doOp {S : DiskS} {o : OpS} {N : Nat} (h : okS S) (ho : okOp N o) : okS (doOp S o) := by
  cases o with
  | write n s =>
    refine ⟨h.1, fun m t ht => ?_⟩
    by_cases e : m = n
    · subst e
      rw [show (doOp S (.write m s)).waits m = S.waits m ++ [s] by simp [doOp, DiskS.wrote, upd]] at ht
      rcases List.mem_append.1 ht with ht | ht
      · exact h.2 m t ht
      · rw [List.mem_singleton.1 ht]; exact ho.2.2
    · rw [show (doOp S (.write n s)).waits m = S.waits m by simp [doOp, DiskS.wrote, upd, e]] at ht
      exact h.2 m t ht
  | flush =>
    refine ⟨fun s hs => ?_, fun m t ht => by simp [doOp, DiskS.flushed] at ht⟩
    obtain ⟨k, hk, rfl⟩ := List.mem_map.1 hs
    exact ok_seen h k (List.mem_range.1 hk)
theorem ok_doOps {N : Nat} : ∀ (l : List OpS) (S : DiskS), okS S → (∀ o ∈ l, okOp N o) → okS (doOps S l)
  | [], _, h, _ => h
  | o :: l, S, h, hl => ok_doOps l (doOp S o) (ok_doOp h (hl o (by simp))) (fun o' ho => hl o' (by simp [ho]))
theorem Made.okS {S : DiskS} (h : Made S) : okS S := by
  rw [h.made]
  exact ok_doOps S.ops _ ⟨h.size, fun n s hs => by simp [freshS] at hs⟩ h.ok
theorem Made.sec {S : DiskS} (h : Made S) (n : Nat) (hn : n < S.safe.length) : (secL S n).length = 512 := by
  have := ok_seen h.okS n hn
  unfold secL
  simpa using this
theorem Made.seen {S : DiskS} (h : Made S) (n : Nat) (hn : n < S.safe.length) : (seenAt S n).size = 512 := ok_seen h.okS n hn
def logOps (l : Int → List UInt8) (ks : List Int) (j : Nat) : List OpS := (List.range j).map (fun i : Nat => .write (1 + (i : Int)) ⟨(l (ks.getD i 0)).toArray⟩)
def homeOps (size : Nat) (l : Int → List UInt8) (ks : List Int) : List OpS := ks.map (fun n => .write (1 + (size : Int) + n) ⟨(l n).toArray⟩) ++ [.flush, .write 0 ⟨(headS []).toArray⟩, .flush]
def comOps (size : Nat) (l : Int → List UInt8) (ks : List Int) : List OpS := logOps l ks ks.length ++ ([.flush, .write 0 ⟨(headS (ks.map Int.toNat)).toArray⟩, .flush] ++ homeOps size l ks)
theorem logTo_ops (S : DiskS) (l : Int → List UInt8) (ks : List Int) : ∀ j, logTo S l ks j = doOps S (logOps l ks j)
  | 0 => rfl
  | j + 1 => by
    have ih := logTo_ops S l ks j
    rw [show logTo S l ks (j + 1) = (logTo S l ks j).wrote (1 + (j : Int)) ⟨(l (ks.getD j 0)).toArray⟩ by simp [logTo, List.range_succ, List.foldl_append], ih, logOps, logOps, List.range_succ, List.map_append, doOps_append]
    rfl
theorem homeTo_ops (size : Nat) (l : Int → List UInt8) : ∀ (ks : List Int) (S : DiskS), homeTo S size l ks = doOps S (ks.map (fun n => .write (1 + (size : Int) + n) ⟨(l n).toArray⟩))
  | [], _ => rfl
  | k :: ks, S => by
    show homeTo (S.wrote (1 + (size : Int) + k) ⟨(l k).toArray⟩) size l ks = _
    rw [homeTo_ops size l ks]; rfl
theorem homeS_doOps (S : DiskS) (size : Nat) (l : Int → List UInt8) (ks : List Int) : homeS S size l ks = doOps S (homeOps size l ks) := by
  rw [homeS, homeOps, doOps_append, ← homeTo_ops]; rfl
theorem writtenS_doOps (S : DiskS) (size : Nat) (l : Int → List UInt8) (ks : List Int) : writtenS S size l ks = doOps S (comOps size l ks) := by
  rw [writtenS, comOps, doOps_append, ← logTo_ops, doOps_append, ← homeS_doOps]; rfl
theorem size_bytes (l : List UInt8) (h : l.length = 512) : (⟨l.toArray⟩ : ByteArray).size = 512 := by
  show l.toArray.size = 512
  simpa using h
theorem head_size (ns : List Nat) (h : ns.length ≤ 254) : (⟨(headS ns).toArray⟩ : ByteArray).size = 512 := size_bytes _ (length_headTo _ _ (Nat.le_refl _) h)
theorem ok_homeOps (size N : Nat) (l : Int → List UInt8) (ks : List Int) (hN : 0 < N) (h : ∀ k ∈ ks, 0 ≤ k ∧ 1 + (size : Int) + k < N ∧ (l k).length = 512) : ∀ o ∈ homeOps size l ks, okOp N o := by
  intro o ho
  rcases List.mem_append.1 ho with ho | ho
  · obtain ⟨k, hk, rfl⟩ := List.mem_map.1 ho
    obtain ⟨h0, h1, h2⟩ := h k hk
    exact ⟨by omega, h1, size_bytes _ h2⟩
  · simp only [List.mem_cons, List.mem_nil_iff, or_false] at ho
    rcases ho with rfl | rfl | rfl
    · trivial
    · exact ⟨by decide, by omega, head_size [] (by simp)⟩
    · trivial
theorem ok_comOps (size N : Nat) (l : Int → List UInt8) (ks : List Int) (hN : ks.length < N) (hk : ks.length ≤ 254) (h : ∀ k ∈ ks, 0 ≤ k ∧ 1 + (size : Int) + k < N ∧ (l k).length = 512) : ∀ o ∈ comOps size l ks, okOp N o := by
  intro o ho
  rcases List.mem_append.1 ho with ho | ho
  · obtain ⟨i, hi, rfl⟩ := List.mem_map.1 ho
    have hi' := List.mem_range.1 hi
    refine ⟨by omega, by omega, size_bytes _ ?_⟩
    rw [List.getD_eq_getElem?_getD, List.getElem?_eq_getElem hi', Option.getD_some]
    exact (h _ (List.getElem_mem hi')).2.2
  · rcases List.mem_append.1 ho with ho | ho
    · simp only [List.mem_cons, List.mem_nil_iff, or_false] at ho
      rcases ho with rfl | rfl | rfl
      · trivial
      · exact ⟨by decide, by omega, head_size _ (by simpa using hk)⟩
      · trivial
    · exact ok_homeOps size N l ks (by omega) h o ho
/-- The keys of a group that is right, and their bytes. -/
theorem key_facts {S : DiskS} {size : Nat} {ps : List PageS} {bl : Nat → List UInt8} (h : comErr (pagesS S size) size ps = 0 ∧ ps.length ≠ 0) (hb : ∀ j, (bl j).length = 512) (hs : size + 1 ≤ S.safe.length) :
    (grpKeys (grpVal ps ps.length) (pagesS S size)).length = ps.length ∧ ps.length ≤ size ∧ ps.length ≤ 100 ∧ ∀ k ∈ grpKeys (grpVal ps ps.length) (pagesS S size), 0 ≤ k ∧ 1 + (size : Int) + k < S.safe.length ∧ (grpL ps bl ps.length k).length = 512 := by
  obtain ⟨h1, h2, h3⟩ := comErr_ok h
  refine ⟨grpKeys_len ps _ (inPages_iff.1 h2) ps.length (Nat.le_refl _) h3, by omega, by omega, fun k hk => ?_⟩
  obtain ⟨a, b, c⟩ := mem_grpKeys.1 hk
  obtain ⟨v, hv⟩ := Option.isSome_iff_exists.1 c
  obtain ⟨j, _, _, _, _, e⟩ := grpVal_some ps bl k v ps.length hv
  refine ⟨a, by unfold pagesS at b; omega, by rw [e]; exact hb j⟩
theorem Made.com {S : DiskS} (h : Made S) (size : Nat) (ps : List PageS) (bl : Nat → List UInt8) (hb : ∀ j, (bl j).length = 512) (hs : size + 1 ≤ S.safe.length) : Made (comS S size ps bl) := by
  unfold comS
  split
  · rename_i hc
    obtain ⟨h1, h2, h3, h4⟩ := key_facts (bl := bl) hc hb hs
    rw [writtenS_doOps]
    rw [h.len] at hs h4
    exact h.more _ (ok_comOps size _ _ _ (by omega) (by omega) h4)
  · exact h
theorem Made.opened {S : DiskS} (h : Made S) (size : Nat) (ns : List Nat) (hn : ns.length ≤ size) (hns : ns.Pairwise (fun a b => a < b)) (hN : ∀ n ∈ ns, n < pagesS S size) (hs : size + 1 ≤ S.safe.length) : Made (openS S size ns) := by
  unfold openS
  split
  · exact h
  · rw [homeS_doOps]
    refine h.more _ (ok_homeOps size _ _ _ (by rw [← h.len]; omega) (fun k hk => ?_))
    obtain ⟨n, hn1, rfl⟩ := List.mem_map.1 hk
    have h3 := hN n hn1
    obtain ⟨j, hj, rfl⟩ := List.mem_iff_getElem.1 hn1
    rw [← h.len]
    refine ⟨by omega, by unfold pagesS at h3; omega, ?_⟩
    rw [logL_at S ns hns j hj ns.length hj (Nat.le_refl _)]
    exact h.sec _ (by omega)
end Go.Proofs.YtkkmbgjlmdddoabGreat
