/- The disk and the reference tell the same, whatever was done on both: plain facts. -/
import Derived.Test.YtoeiodiadanhkaaGreatRImage
import Derived.Test.YtoeiodiadanhkaaGreatRWaiting
import Derived.Test.YtoeiodiadanhkaaGreatAlonePlain
import Derived.Test.YtoeiodiadanhkaaGreatCrashesPlain
namespace Go.Proofs.YtoeiodiadanhkaaGreat
open Go.RowKit
theorem atL_succ (R : RefS) (k : Nat) : atL R (k + 1) = match R.l[k]? with | some o => if o.flush then atL R k else (atL R k).set o.n.toNat o.b | none => atL R k := by
  rw [atL]
  split
  · rename_i h; rw [List.getElem?_eq_getElem h]
  · rename_i h; rw [List.getElem?_eq_none (by omega)]
theorem flushedTo_succ (l : List ROp) (k : Nat) : flushedTo l (k + 1) = match l[k]? with | some o => if o.flush then k + 1 else flushedTo l k | none => flushedTo l k := by
  rw [flushedTo]
  split
  · rename_i h; rw [List.getElem?_eq_getElem h]
  · rename_i h; rw [List.getElem?_eq_none (by omega)]
/-- Those of the ops from f to k that are of sector n: their bytes. -/
def waitsL (l : List ROp) (n : Int) (f : Nat) : Nat → List (List UInt8)
  | 0 => []
  | k + 1 => match l[k]? with | some o => if f ≤ k ∧ o.n = n then waitsL l n f k ++ [o.b] else waitsL l n f k | none => waitsL l n f k
theorem length_waitsL (l : List ROp) (n : Int) (f : Nat) : ∀ k, (waitsL l n f k).length = waitsIn l n f k
  | 0 => rfl
  | k + 1 => by
    have ih := length_waitsL l n f k
    rw [waitsL, waitsIn]
    by_cases h : k < l.length
    · rw [List.getElem?_eq_getElem h, dif_pos h]
      by_cases h2 : f ≤ k ∧ l[k].n = n
      · simp only [if_pos h2, List.length_append, List.length_cons, List.length_nil, ih]
      · simp only [if_neg h2, ih]
    · rw [List.getElem?_eq_none (by omega), dif_neg h]; exact ih
theorem waitsL_low (l : List ROp) (n : Int) (f : Nat) : ∀ k, k ≤ f → waitsL l n f k = []
  | 0, _ => rfl
  | k + 1, h => by
    have ih := waitsL_low l n f k (by omega)
    rw [waitsL]
    split
    · rw [if_neg (by omega)]; exact ih
    · exact ih
/-- Only the ops ahead count. -/
theorem atL_congr (R R' : RefS) (hf : R.first = R'.first) : ∀ k, (∀ i, i < k → R.l[i]? = R'.l[i]?) → atL R k = atL R' k
  | 0, _ => hf
  | k + 1, h => by rw [atL_succ, atL_succ, h k (by omega), atL_congr R R' hf k (fun i hi => h i (by omega))]
theorem flushedTo_congr (l l' : List ROp) : ∀ k, (∀ i, i < k → l[i]? = l'[i]?) → flushedTo l k = flushedTo l' k
  | 0, _ => rfl
  | k + 1, h => by rw [flushedTo_succ, flushedTo_succ, h k (by omega), flushedTo_congr l l' k (fun i hi => h i (by omega))]
theorem waitsL_congr (l l' : List ROp) (n : Int) (f : Nat) : ∀ k, (∀ i, i < k → l[i]? = l'[i]?) → waitsL l n f k = waitsL l' n f k
  | 0, _ => rfl
  | k + 1, h => by rw [waitsL, waitsL, h k (by omega), waitsL_congr l l' n f k (fun i hi => h i (by omega))]
theorem snoc_low (l : List ROp) (o : ROp) (i : Nat) (h : i < l.length) : (l ++ [o])[i]? = l[i]? := List.getElem?_append_left h
/-- The disk and the reference tell the same. -/
structure Alike (S : DiskS) (R : RefS) : Prop where
  len : S.safe.length = R.first.length
  ok : okR R
  img : bytesOf (imgS S) = atL R R.l.length
  safe : bytesOf S.safe = atL R (flushedTo R.l R.l.length)
  waits : ∀ n : Int, bytesOf (S.waits n) = waitsL R.l n (flushedTo R.l R.l.length) R.l.length
  ops : S.ops.length = R.l.length
theorem bytesOf_set (L : List ByteArray) (i : Nat) (s : ByteArray) : bytesOf (L.set i s) = (bytesOf L).set i s.data.toList := by simp [bytesOf, List.map_set]
theorem imgS_wrote (S : DiskS) (n : Int) (s : ByteArray) (h0 : 0 ≤ n) : imgS (S.wrote n s) = (imgS S).set n.toNat s := by
  apply List.ext_getElem (by simp [length_imgS, DiskS.wrote])
  intro k h1 h2
  have h3 : k < (imgS S).length := by simpa using h2
  rw [imgS_at, List.getElem_set]
  by_cases e : n.toNat = k
  · have e2 : (k : Int) = n := by omega
    rw [if_pos e, e2]
    simp [seenS, DiskS.wrote, upd_same]
  · have e2 : (k : Int) ≠ n := by omega
    rw [if_neg e, imgS_at S k h3]
    simp [seenS, DiskS.wrote, upd_other _ _ e2]
theorem Alike.write {S : DiskS} {R : RefS} (h : Alike S R) {n : Int} {b : List UInt8} (h0 : 0 ≤ n) (h1 : n < R.first.length) (hb : b.length = 512) : Alike (S.wrote n ⟨b.toArray⟩) (R.did ⟨false, n, b⟩) := by
  have hlen : (R.did ⟨false, n, b⟩).l.length = R.l.length + 1 := by simp [RefS.did]
  have hat : (R.did ⟨false, n, b⟩).l[R.l.length]? = some ⟨false, n, b⟩ := by simp [RefS.did]
  have hlow : ∀ i, i < R.l.length → (R.did ⟨false, n, b⟩).l[i]? = R.l[i]? := fun i hi => snoc_low _ _ _ hi
  have hfl : flushedTo (R.did ⟨false, n, b⟩).l (R.did ⟨false, n, b⟩).l.length = flushedTo R.l R.l.length := by
    rw [hlen, flushedTo_succ, hat]; exact flushedTo_congr _ _ _ hlow
  have hle := flushedTo_le R.l R.l.length
  refine ⟨h.len, ⟨h.ok.1, h.ok.2.1, fun o ho hf => ?_⟩, ?_, ?_, fun m => ?_, by rw [hlen, ← h.ops]; simp [DiskS.wrote]⟩
  · rcases List.mem_append.1 ho with ho | ho
    · exact h.ok.2.2 o ho hf
    · rw [List.mem_singleton.1 ho]; exact ⟨h0, h1, hb⟩
  · rw [hlen, atL_succ, hat, imgS_wrote S n _ h0, bytesOf_set, h.img, atL_congr (R.did ⟨false, n, b⟩) R rfl R.l.length hlow]
    rfl
  · rw [hfl, atL_congr (R.did ⟨false, n, b⟩) R rfl _ (fun i hi => hlow i (by omega))]
    exact h.safe
  · rw [hfl, hlen, waitsL, hat, waitsL_congr _ _ _ _ _ hlow, ← h.waits m]
    by_cases e : m = n
    · subst e
      simp [DiskS.wrote, upd_same, hle, bytesOf]
    · have e2 : ¬ (flushedTo R.l R.l.length ≤ R.l.length ∧ n = m) := fun h => e h.2.symm
      simp only [if_neg e2]
      simp [DiskS.wrote, upd_other _ _ e]
theorem Alike.flush {S : DiskS} {R : RefS} (h : Alike S R) : Alike S.flushed (R.did ⟨true, 0, []⟩) := by
  have hlen : (R.did ⟨true, 0, []⟩).l.length = R.l.length + 1 := by simp [RefS.did]
  have hat : (R.did ⟨true, 0, []⟩).l[R.l.length]? = some ⟨true, 0, []⟩ := by simp [RefS.did]
  have hlow : ∀ i, i < R.l.length → (R.did ⟨true, 0, []⟩).l[i]? = R.l[i]? := fun i hi => snoc_low _ _ _ hi
  have hfl : flushedTo (R.did ⟨true, 0, []⟩).l (R.did ⟨true, 0, []⟩).l.length = R.l.length + 1 := by
    rw [hlen, flushedTo_succ, hat]; rfl
  have him : atL (R.did ⟨true, 0, []⟩) (R.l.length + 1) = atL R R.l.length := by
    rw [atL_succ, hat]
    exact atL_congr (R.did ⟨true, 0, []⟩) R rfl R.l.length hlow
  refine ⟨by simpa [DiskS.flushed, length_imgS, RefS.did] using h.len, ⟨h.ok.1, h.ok.2.1, fun o ho hf => ?_⟩, ?_, ?_, fun m => ?_, by rw [hlen, ← h.ops]; simp [DiskS.flushed]⟩
  · rcases List.mem_append.1 ho with ho | ho
    · exact h.ok.2.2 o ho hf
    · rw [List.mem_singleton.1 ho] at hf; cases hf
  · rw [hlen, him, imgS_flushed, h.img]
  · rw [hfl, him, ← h.img]; rfl
  · rw [hfl, hlen, waitsL_low _ _ _ _ (Nat.le_refl _)]; rfl
theorem Alike.put {S : DiskS} {R : RefS} (h : Alike S R) (n : Int) (b : List UInt8) : Alike (S.put n b) (R.put n b) := by
  have e := err_same h.len n b
  unfold DiskS.put RefS.put
  rw [e]
  by_cases h0 : errR R n b = 0
  · rw [if_pos h0, if_pos h0]
    unfold errR at h0
    by_cases h1 : 0 ≤ n ∧ n < R.first.length
    · rw [if_neg (fun h => h h1)] at h0
      by_cases h2 : b.length = 512
      · exact h.write h1.1 h1.2 h2
      · rw [if_pos h2] at h0; cases h0
    · rw [if_pos h1] at h0; cases h0
  · rw [if_neg h0, if_neg h0]; exact h
theorem Alike.step {S : DiskS} {R : RefS} (h : Alike S R) (D : DeedS) : Alike (stepS S D) (stepR R D) := by
  unfold stepS stepR
  split
  · exact h.flush
  · exact h.put _ _
theorem blank_zeros : blankS.data.toList = zeros := by
  show (Lib.repeatL [0] 512).toArray.toList = List.replicate 512 0
  decide +kernel
theorem alike_fresh (n : Nat) (hn : n ≤ 4096) : Alike (freshS (List.replicate n blankS)) (rfresh n) := by
  have hb : bytesOf (List.replicate n blankS) = List.replicate n zeros := by rw [bytesOf, List.map_replicate, blank_zeros]
  refine ⟨by simp [freshS, rfresh], ⟨by rw [rfresh_length]; exact hn, fun l hl => by rw [List.eq_of_mem_replicate hl]; exact length_zeros, fun o ho => by simp [rfresh] at ho⟩, ?_, ?_, fun m => rfl, rfl⟩
  · rw [imgS_fresh]; exact hb
  · exact hb
theorem alike_play (n : Nat) (hn : n ≤ 4096) (ds : List DeedS) : ∀ k, k ≤ ds.length → Alike (playS n ds k) (playR n ds k)
  | 0, _ => alike_fresh n hn
  | k + 1, h => by rw [playS_step n ds k (by omega), playR_step n ds k (by omega)]; exact (alike_play n hn ds k (by omega)).step _
/-- What waits is told alike. -/
theorem Alike.count {S : DiskS} {R : RefS} (h : Alike S R) (n : Nat) : (S.waits n).length = rWait R n := by
  have := congrArg List.length (h.waits n)
  rw [length_bytesOf, length_waitsL] at this
  exact this
theorem Alike.keys {S : DiskS} {R : RefS} (h : Alike S R) : waitKeys S.waits S.safe.length = rKeys (rWait R) R.first.length := by
  unfold waitKeys rKeys
  rw [h.len, List.filter_map]
  congr 1
  apply List.filter_congr
  intro n _
  have := h.count n
  simp only [Function.comp]
  cases hw : S.waits n with
  | nil => rw [hw] at this; simp at this; simp [← this]
  | cons a l => rw [hw] at this; simp at this; simp [← this]
theorem Alike.counts {S : DiskS} {R : RefS} (h : Alike S R) : waitCounts S.waits S.safe.length = rCounts (rWait R) R.first.length := by
  unfold waitCounts
  rw [h.keys]
  unfold rKeys rCounts
  rw [List.map_map]
  apply List.map_congr_left
  intro n _
  simp only [Function.comp]
  rw [h.count n]
theorem Alike.read {S : DiskS} {R : RefS} (h : Alike S R) (n : Nat) (hn : n < R.first.length) : (atL R R.l.length)[n]? = some (seenS S.safe S.waits n).data.toList := by
  have h1 : n < (imgS S).length := by rw [length_imgS, h.len]; exact hn
  rw [← h.img, bytesOf, List.getElem?_map, List.getElem?_eq_getElem h1, imgS_at S n h1]
  rfl
end Go.Proofs.YtoeiodiadanhkaaGreat
