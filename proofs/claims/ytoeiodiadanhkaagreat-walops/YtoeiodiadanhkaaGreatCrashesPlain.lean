/- What DiskCrashes needs: a crash that keeps all, and one that keeps some. Plain facts. -/
import Derived.Test.YtoeiodiadanhkaaGreatAlonePlain
import Derived.Test.YtoeiodiadanhkaaGreatSameAll
import Derived.Test.YtoeiodiadanhkaaGreatJoined1
namespace Go.Proofs.YtoeiodiadanhkaaGreat
open Go.RowKit
/-- A crash that keeps all writes of the sectors named, each of them but once. -/
theorem crashL_all (waits : Int → List ByteArray) : ∀ (ks : List Int) (left : List ByteArray) (n : Nat), (∀ k ∈ ks, 0 ≤ k ∧ waits k ≠ []) → ks.Pairwise (fun a b => a < b) → n < left.length →
    (crashL waits left (ks.zip (ks.map (fun k => ((waits k).length : Int)))))[n]? = if (n : Int) ∈ ks then some ((waits n).getLastD ⟨#[]⟩) else left[n]?
  | [], left, n, _, _, _ => by simp [crashL]
  | k :: ks, left, n, h, hp, hn => by
    obtain ⟨hk0, hk1⟩ := h k (by simp)
    have hl : 0 < (waits k).length := List.length_pos_iff.2 hk1
    have ih := crashL_all waits ks (left.set k.toNat ((waits k).getD ((waits k).length - 1) ⟨#[]⟩)) n (fun x hx => h x (by simp [hx])) (List.pairwise_cons.1 hp).2 (by simpa using hn)
    have e : crashL waits left ((k :: ks).zip ((k :: ks).map (fun k => ((waits k).length : Int)))) = crashL waits (left.set k.toNat ((waits k).getD ((waits k).length - 1) ⟨#[]⟩)) (ks.zip (ks.map (fun k => ((waits k).length : Int)))) := by
      simp [crashL, hl]
    rw [e, ih]
    by_cases hm : (n : Int) ∈ ks
    · rw [if_pos hm, if_pos (by simp [hm])]
    · rw [if_neg hm]
      by_cases he : (n : Int) = k
      · rw [if_pos (by simp [he])]
        subst he
        have hnn : ((n : Int)).toNat = n := by omega
        rw [hnn, List.getElem?_set_self hn, List.getLastD_eq_getLast?, List.getLast?_eq_getElem?, List.getD_eq_getElem?_getD]
      · rw [if_neg (by simp [he, hm]), List.getElem?_set_ne (by omega)]
/-- All kept: what was read. -/
theorem crash_all (S : DiskS) : crashL S.waits S.safe ((waitKeys S.waits S.safe.length).zip (waitCounts S.waits S.safe.length)) = imgS S := by
  apply List.ext_getElem?
  intro n
  by_cases hn : n < S.safe.length
  · unfold waitCounts
    rw [crashL_all S.waits _ S.safe n (fun k hk => ⟨(mem_waitKeys.1 hk).1, (mem_waitKeys.1 hk).2.2⟩) (sorted_waitKeys _ _) hn]
    have hi : n < (imgS S).length := by rw [length_imgS]; exact hn
    rw [List.getElem?_eq_getElem hi, imgS_at S n hi]
    by_cases hm : (n : Int) ∈ waitKeys S.waits S.safe.length
    · have hne := (mem_waitKeys.1 hm).2.2
      rw [if_pos hm]
      simp [seenS, hne]
      
    · have hne : S.waits n = [] := by
        refine Classical.byContradiction fun hne => hm (mem_waitKeys.2 ⟨by omega, by omega, hne⟩)
      rw [if_neg hm]
      simp [seenS, hne, hn]
  · rw [List.getElem?_eq_none (by rw [length_crashL]; omega), List.getElem?_eq_none (by rw [length_imgS]; omega)]
/-- A sector that does not wait, or of which none is kept. -/
theorem crash_some (waits : Int → List ByteArray) (safe : List ByteArray) (N : Nat) (keep : List Int) (n : Nat) (h : ∀ j (hj : j < (waitKeys waits N).length) (hj' : j < keep.length), (waitKeys waits N)[j] = (n : Int) → keep[j] = 0) :
    (crashL waits safe ((waitKeys waits N).zip keep))[n]? = safe[n]? := by
  refine crashL_at waits _ _ safe n (fun j hj e => ?_)
  rw [List.getElem_zip] at e ⊢
  simp only [List.length_zip] at hj
  have hm := (mem_waitKeys.1 (List.getElem_mem (show j < (waitKeys waits N).length by omega))).1
  simp only at e ⊢
  rw [h j (by omega) (by omega) (by omega)]
  exact Int.le_refl _
theorem good_counts (waits : Int → List ByteArray) (N : Nat) : goodKeep waits N (waitCounts waits N) := by
  rw [goodKeep_iff]
  refine ⟨by simp [waitCounts], fun j hj hj' => ?_⟩
  simp [waitCounts]
theorem good_nil (waits : Int → List ByteArray) (N : Nat) : goodKeep waits N [] := by
  rw [goodKeep_iff]
  exact ⟨by simp, fun j hj => by simp at hj⟩
/-- What DiskCrashes keeps of the sector at j. -/
def keepAt (choice : List UInt8) (cs : List Int) (j : Nat) : Int := if h : j < choice.length then (choice[j].toNat : Int) % (cs.getD j 0 + 1) else 0
def keepL (choice : List UInt8) (cs : List Int) : List Int := (List.range cs.length).map (keepAt choice cs)
theorem length_keepL (choice : List UInt8) (cs : List Int) : (keepL choice cs).length = cs.length := by simp [keepL]
theorem keepL_at (choice : List UInt8) (cs : List Int) (j : Nat) (h : j < (keepL choice cs).length) : (keepL choice cs)[j] = keepAt choice cs j := by simp [keepL]
theorem keepL_step (choice : List UInt8) (cs : List Int) (k : Nat) (hk : k < cs.length) : ((keepL choice cs).take k).map encZ ++ [.int .i64 (keepAt choice cs k)] = ((keepL choice cs).take (k + 1)).map encZ := by
  have hk' : k < (keepL choice cs).length := by rw [length_keepL]; exact hk
  rw [List.take_succ_eq_append_getElem hk', keepL_at]
  simp
theorem good_keepL (choice : List UInt8) (waits : Int → List ByteArray) (N : Nat) : goodKeep waits N (keepL choice (waitCounts waits N)) := by
  rw [goodKeep_iff]
  have hl : (waitCounts waits N).length = (waitKeys waits N).length := by simp [waitCounts]
  refine ⟨by rw [length_keepL, hl]; exact Nat.le_refl _, fun j hj hj' => ?_⟩
  rw [keepL_at]
  unfold keepAt
  split
  · have e : (waitCounts waits N).getD j 0 = ((waits (waitKeys waits N)[j]).length : Int) := by
      simp [waitCounts, hj']
    rw [e]
    have h0 := Int.emod_nonneg (choice[j].toNat : Int) (show ((waits (waitKeys waits N)[j]).length : Int) + 1 ≠ 0 by omega)
    have h1 := Int.emod_lt_of_pos (choice[j].toNat : Int) (show (0 : Int) < ((waits (waitKeys waits N)[j]).length : Int) + 1 by omega)
    exact ⟨h0, by omega⟩
  · exact ⟨Int.le_refl _, by omega⟩
theorem imgS_flushed (S : DiskS) : imgS S.flushed = imgS S := by
  apply List.ext_getElem (by simp [length_imgS, DiskS.flushed])
  intro n h1 h2
  rw [imgS_at]
  simp [seenS, DiskS.flushed, h2]
theorem keys_none (N : Nat) : waitKeys (fun _ => []) N = [] := by simp [waitKeys]
/-- Where the next sector that waits is. -/
theorem at_hit {ks : List Int} (hs : ks.Pairwise (fun a b => a < b)) {t : Nat} {j : Int} (hi : ∀ m (hm : m < ks.length), m < t ↔ ks[m] < j) (ht : t < ks.length) (he : ks[t] = j) :
    (∀ m (hm : m < ks.length), m < t + 1 ↔ ks[m] < j + 1) ∧ ∀ m (hm : m < ks.length), ks[m] = j → m = t := by
  have lt := List.pairwise_iff_getElem.1 hs
  constructor
  · intro m hm
    have h1 := hi m hm
    rcases Nat.lt_trichotomy m t with h | h | h
    · have := h1.1 h; constructor <;> intro _ <;> omega
    · subst h; constructor <;> intro _ <;> omega
    · have := lt t m ht hm h; constructor <;> intro _ <;> omega
  · intro m hm e
    have h1 := hi m hm
    rcases Nat.lt_trichotomy m t with h | h | h
    · have := h1.1 h; omega
    · exact h
    · have := lt t m ht hm h; omega
theorem at_miss {ks : List Int} (hs : ks.Pairwise (fun a b => a < b)) {t : Nat} {j : Int} (hi : ∀ m (hm : m < ks.length), m < t ↔ ks[m] < j) (hn : ∀ ht : t < ks.length, ks[t] ≠ j) :
    (∀ m (hm : m < ks.length), m < t ↔ ks[m] < j + 1) ∧ ∀ m (hm : m < ks.length), ks[m] ≠ j := by
  have lt := List.pairwise_iff_getElem.1 hs
  have ne : ∀ m (hm : m < ks.length), ks[m] ≠ j := fun m hm e => by
    have h1 := hi m hm
    rcases Nat.lt_trichotomy m t with h | h | h
    · have := h1.1 h; omega
    · subst h; exact hn hm e
    · have h2 := lt t m (by omega) hm h
      have := (hi t (by omega)).2 (by omega)
      omega
  refine ⟨fun m hm => ?_, ne⟩
  have h1 := hi m hm
  have h2 := ne m hm
  constructor
  · intro h; have := h1.1 h; omega
  · intro h; exact h1.2 (by omega)
end Go.Proofs.YtoeiodiadanhkaaGreat
