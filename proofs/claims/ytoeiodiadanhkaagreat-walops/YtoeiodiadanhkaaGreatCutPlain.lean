/- A disk is what its ops made of its first sectors; the same of the first k of them. Plain facts. -/
import Derived.Test.YtoeiodiadanhkaaGreatPlaysPlain
namespace Go.Proofs.YtoeiodiadanhkaaGreat
open Go.RowKit
/-- One op. -/
def doOp (S : DiskS) : OpS → DiskS
  | .write n s => S.wrote n s
  | .flush => S.flushed
/-- An op as the reference has it. -/
def ropOf : OpS → ROp
  | .write n s => ⟨false, n, s.data.toList⟩
  | .flush => ⟨true, 0, []⟩
/-- A write within N sectors, of 512 bytes. -/
def okOp (N : Nat) : OpS → Prop
  | .write n s => 0 ≤ n ∧ n < N ∧ s.size = 512
  | .flush => True
def doOps (S : DiskS) (l : List OpS) : DiskS := l.foldl doOp S
theorem doOps_snoc (S : DiskS) (l : List OpS) (o : OpS) : doOps S (l ++ [o]) = doOp (doOps S l) o := by simp [doOps]
theorem doOp_first (S : DiskS) (o : OpS) : (doOp S o).first = S.first := by cases o <;> rfl
theorem doOp_len (S : DiskS) (o : OpS) : (doOp S o).safe.length = S.safe.length := by cases o <;> simp [doOp, DiskS.wrote, DiskS.flushed, length_imgS]
theorem doOp_ops (S : DiskS) (o : OpS) : (doOp S o).ops = S.ops ++ [o] := by cases o <;> rfl
theorem doOps_facts (S : DiskS) : ∀ l : List OpS, (doOps S l).first = S.first ∧ (doOps S l).safe.length = S.safe.length ∧ (doOps S l).ops = S.ops ++ l := by
  intro l
  induction l generalizing S with
  | nil => simp [doOps]
  | cons o l ih =>
    obtain ⟨h1, h2, h3⟩ := ih (doOp S o)
    refine ⟨by rw [show doOps S (o :: l) = doOps (doOp S o) l from rfl, h1, doOp_first], by rw [show doOps S (o :: l) = doOps (doOp S o) l from rfl, h2, doOp_len], ?_⟩
    rw [show doOps S (o :: l) = doOps (doOp S o) l from rfl, h3, doOp_ops]; simp
/-- A disk is what its ops made. -/
structure Told (S : DiskS) (R : RefS) : Prop where
  made : S = doOps (freshS S.first) S.ops
  ops : R.l = S.ops.map ropOf
  first : R.first = bytesOf S.first
  ok : ∀ o ∈ S.ops, okOp S.first.length o
  most : S.first.length ≤ 4096
  size : ∀ s ∈ S.first, s.size = 512
/-- The disk behind the first k ops. -/
def cutS (S : DiskS) (k : Nat) : DiskS := doOps (freshS S.first) (S.ops.take k)
def cutR (R : RefS) (k : Nat) : RefS := ⟨R.first, R.l.take k⟩
theorem cutS_facts (S : DiskS) (k : Nat) : (cutS S k).first = S.first ∧ (cutS S k).safe.length = S.first.length ∧ (cutS S k).ops = S.ops.take k := by
  obtain ⟨h1, h2, h3⟩ := doOps_facts (freshS S.first) (S.ops.take k)
  exact ⟨h1, h2, h3.trans (List.nil_append _)⟩
theorem cutS_step (S : DiskS) (k : Nat) (h : k < S.ops.length) : cutS S (k + 1) = doOp (cutS S k) S.ops[k] := by
  unfold cutS; rw [List.take_succ_eq_append_getElem h, doOps_snoc]
theorem doOps_alike (F : List ByteArray) (hF : F.length ≤ 4096) (hs : ∀ s ∈ F, s.size = 512) (l : List OpS) (hl : ∀ o ∈ l, okOp F.length o) : Alike (doOps (freshS F) l) ⟨bytesOf F, l.map ropOf⟩ := by
  have key : ∀ k, k ≤ l.length → Alike (doOps (freshS F) (l.take k)) ⟨bytesOf F, (l.take k).map ropOf⟩ := by
    intro k
    induction k with
    | zero =>
      intro _
      refine ⟨by simp [doOps, freshS, length_bytesOf], ⟨by simpa [length_bytesOf] using hF, fun b hb => ?_, fun o ho => by simp at ho⟩, ?_, ?_, fun m => rfl, rfl⟩
      · obtain ⟨s, h1, rfl⟩ := List.mem_map.1 hb
        simpa using hs s h1
      · show bytesOf (imgS (freshS F)) = bytesOf F
        rw [imgS_fresh]
      · rfl
    | succ k ih =>
      intro hk
      have ih := ih (by omega)
      rw [List.take_succ_eq_append_getElem (by omega), doOps_snoc, List.map_append]
      have ho := hl l[k] (List.getElem_mem (by omega))
      generalize l[k] = o at *
      generalize doOps (freshS F) (l.take k) = S at *
      cases o with
      | write n s =>
        obtain ⟨h0, h1, h2⟩ := ho
        have := ih.write (n := n) (b := s.data.toList) h0 (by simpa [length_bytesOf] using h1) (by simpa using h2)
        exact this
      | flush => exact ih.flush
  have := key l.length (Nat.le_refl _)
  rwa [List.take_length] at this
theorem Told.alike {S : DiskS} {R : RefS} (h : Told S R) : Alike S R := by
  have := doOps_alike S.first h.most h.size S.ops h.ok
  rw [← h.made, ← h.first, ← h.ops] at this
  exact this
theorem Told.cut {S : DiskS} {R : RefS} (h : Told S R) (k : Nat) : Told (cutS S k) (cutR R k) := by
  obtain ⟨h1, h2, h3⟩ := cutS_facts S k
  refine ⟨by rw [h1, h3]; rfl, by rw [h3, List.map_take, ← h.ops]; rfl, by rw [h1]; exact h.first, fun o ho => ?_, by rw [h1]; exact h.most, by rw [h1]; exact h.size⟩
  rw [h3] at ho
  rw [h1]
  exact h.ok o (List.mem_of_mem_take ho)
theorem Told.op {S : DiskS} {R : RefS} (h : Told S R) (o : OpS) (ho : okOp S.first.length o) : Told (doOp S o) (R.did (ropOf o)) := by
  refine ⟨?_, ?_, by rw [doOp_first]; exact h.first, fun o' ho' => ?_, by rw [doOp_first]; exact h.most, by rw [doOp_first]; exact h.size⟩
  · rw [doOp_first, doOp_ops, doOps_snoc, ← h.made]
  · rw [doOp_ops, List.map_append, ← h.ops]; rfl
  · rw [doOp_first]
    rw [doOp_ops, List.mem_append] at ho'
    rcases ho' with h1 | h1
    · exact h.ok o' h1
    · rw [List.mem_singleton.1 h1]; exact ho
theorem Told.step {S : DiskS} {R : RefS} (h : Told S R) (D : DeedS) : Told (stepS S D) (stepR R D) := by
  have hl : S.safe.length = R.first.length := h.alike.len
  have hf : S.first.length = R.first.length := by rw [h.first, length_bytesOf]
  unfold stepS stepR
  split
  · exact h.op .flush trivial
  · have e := err_same hl D.n D.bytes
    unfold DiskS.put RefS.put
    rw [e]
    by_cases h0 : errR R D.n D.bytes = 0
    · rw [if_pos h0, if_pos h0]
      unfold errR at h0
      by_cases h1 : 0 ≤ D.n ∧ D.n < R.first.length
      · rw [if_neg (fun h => h h1)] at h0
        by_cases h2 : D.bytes.length = 512
        · exact h.op (.write D.n ⟨D.bytes.toArray⟩) ⟨h1.1, by rw [hf]; exact h1.2, by show D.bytes.toArray.size = 512; simpa using h2⟩
        · rw [if_pos h2] at h0; cases h0
      · rw [if_pos h1] at h0; cases h0
    · rw [if_neg h0, if_neg h0]; exact h
theorem told_play (n : Nat) (hn : n ≤ 4096) (ds : List DeedS) : ∀ k, k ≤ ds.length → Told (playS n ds k) (playR n ds k)
  | 0, _ => by
    have hb : bytesOf (List.replicate n blankS) = List.replicate n zeros := by rw [bytesOf, List.map_replicate, blank_zeros]
    exact ⟨rfl, rfl, hb.symm, fun o ho => by simp [playS, freshS] at ho, by simp [playS, freshS]; exact hn, fun s hs => by
      have : s ∈ List.replicate n blankS := hs
      rw [List.eq_of_mem_replicate this]; exact blank_size⟩
  | k + 1, h => by rw [playS_step n ds k (by omega), playR_step n ds k (by omega)]; exact (told_play n hn ds k (by omega)).step _
end Go.Proofs.YtoeiodiadanhkaaGreat
