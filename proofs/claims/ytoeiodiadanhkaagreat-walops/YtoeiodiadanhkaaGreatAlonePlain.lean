/- A crash that keeps more of one sector: plain facts. -/
import Derived.Test.YtoeiodiadanhkaaGreatPlay
namespace Go.Proofs.YtoeiodiadanhkaaGreat
open Go.RowKit
theorem crashL_zeros (waits : Int → List ByteArray) (left : List ByteArray) : ∀ (ks : List Int) (n : Nat), crashL waits left (ks.zip (List.replicate n 0)) = left
  | [], n => by simp [crashL]
  | k :: ks, 0 => by simp [crashL]
  | k :: ks, n + 1 => by
    have := crashL_zeros waits left ks n
    simpa [crashL, List.replicate_succ] using this
/-- Only the one sector changes. -/
theorem crashL_at (waits : Int → List ByteArray) : ∀ (ks keep : List Int) (left : List ByteArray) (n : Nat), (∀ j (h : j < (ks.zip keep).length), (ks.zip keep)[j].1.toNat = n → (ks.zip keep)[j].2 ≤ 0) → (crashL waits left (ks.zip keep))[n]? = left[n]?
  | [], _, left, n, _ => by simp [crashL]
  | k :: ks, [], left, n, _ => by simp [crashL]
  | k :: ks, x :: xs, left, n, h => by
    have ih := crashL_at waits ks xs (if 0 < x then left.set k.toNat ((waits k).getD (x.toNat - 1) ⟨#[]⟩) else left) n (fun j hj => by
      have := h (j + 1) (by simpa using hj)
      simpa using this)
    have e : crashL waits left ((k :: ks).zip (x :: xs)) = crashL waits (if 0 < x then left.set k.toNat ((waits k).getD (x.toNat - 1) ⟨#[]⟩) else left) (ks.zip xs) := rfl
    rw [e, ih]
    have h0 := h 0 (by simp)
    simp only [List.zip_cons_cons, List.getElem_cons_zero] at h0
    by_cases hx : 0 < x
    · rw [if_pos hx]
      have hne : k.toNat ≠ n := fun e => by have := h0 e; omega
      rw [List.getElem?_set_ne hne]
    · rw [if_neg hx]
theorem good_zeros (waits : Int → List ByteArray) (N : Nat) : goodKeep waits N (List.replicate (waitKeys waits N).length 0) := by
  rw [goodKeep_iff]
  refine ⟨by simp, fun j hj hj' => ?_⟩
  simp
theorem good_one (waits : Int → List ByteArray) (N at' : Nat) (x : Int) (h : at' < (waitKeys waits N).length) (h0 : 0 ≤ x) (h1 : x ≤ (waits (waitKeys waits N)[at']).length) : goodKeep waits N ((List.replicate (waitKeys waits N).length 0).set at' x) := by
  rw [goodKeep_iff]
  refine ⟨by simp, fun j hj hj' => ?_⟩
  rw [List.getElem_set]
  split
  · rename_i e; subst e; exact ⟨h0, h1⟩
  · simp
/-- All sectors but the one are as they were. -/
theorem crash_alone (waits : Int → List ByteArray) (safe : List ByteArray) (N at' : Nat) (x : Int) (h : at' < (waitKeys waits N).length) (n : Nat) (hn : (n : Int) ≠ (waitKeys waits N)[at']) :
    (crashL waits safe ((waitKeys waits N).zip ((List.replicate (waitKeys waits N).length 0).set at' x)))[n]? = safe[n]? := by
  refine crashL_at waits _ _ safe n (fun j hj e => ?_)
  rw [List.getElem_zip] at e ⊢
  have hjl : j < (waitKeys waits N).length := by simp at hj; omega
  have hm := (mem_waitKeys.1 (List.getElem_mem hjl)).1
  simp only at e ⊢
  rw [List.getElem_set]
  split
  · rename_i e2; subst e2; exact absurd (by omega) hn
  · simp
/-- All sectors have 512 bytes. -/
def okS (S : DiskS) : Prop := (∀ s ∈ S.safe, s.size = 512) ∧ ∀ n, ∀ s ∈ S.waits n, s.size = 512
theorem blank_size : blankS.size = 512 := by
  show (Lib.repeatL [0] 512).toArray.size = 512
  decide +kernel
theorem ok_seen {S : DiskS} (h : okS S) (k : Nat) (hk : k < S.safe.length) : (seenS S.safe S.waits (k : Int)).size = 512 := by
  unfold seenS
  split
  · rw [Int.toNat_natCast, List.getD_eq_getElem?_getD, List.getElem?_eq_getElem hk]
    exact h.1 _ (List.getElem_mem hk)
  · rename_i hne
    refine h.2 (k : Int) _ ?_
    rw [List.getLastD_eq_getLast?, List.getLast?_eq_some_getLast hne]
    exact List.getLast_mem hne
theorem ok_step {S : DiskS} (h : okS S) (D : DeedS) : okS (stepS S D) := by
  unfold stepS
  split
  · refine ⟨fun s hs => ?_, fun n s hs => by simp [DiskS.flushed] at hs⟩
    obtain ⟨k, hk, rfl⟩ := List.mem_map.1 hs
    exact ok_seen h k (List.mem_range.1 hk)
  · unfold DiskS.put
    split
    · rename_i e
      refine ⟨h.1, fun n s hs => ?_⟩
      have hl : D.bytes.length = 512 := by
        unfold errW at e
        split at e
        · cases e
        · split at e
          · cases e
          · rename_i h2; exact Decidable.of_not_not h2
      simp only [DiskS.wrote] at hs
      by_cases hn : n = D.n
      · subst hn
        rw [upd_same, List.mem_append] at hs
        rcases hs with hs | hs
        · exact h.2 _ _ hs
        · rw [List.mem_singleton.1 hs]; show D.bytes.toArray.size = 512; simpa using hl
      · rw [upd_other _ _ hn] at hs; exact h.2 n s hs
    · exact h
theorem ok_play (n : Nat) (ds : List DeedS) : ∀ k, k ≤ ds.length → okS (playS n ds k)
  | 0, _ => ⟨fun s hs => by
      have : s ∈ List.replicate n blankS := by simpa [playS, freshS] using hs
      rw [List.eq_of_mem_replicate this]; exact blank_size, fun m s hs => by simp [playS, freshS] at hs⟩
  | k + 1, h => by rw [playS_step n ds k (by omega)]; exact ok_step (ok_play n ds k (by omega)) _
theorem imgS_fresh (xs : List ByteArray) : imgS (freshS xs) = xs := by
  apply List.ext_getElem (by simp [imgS, freshS])
  intro n h1 h2
  simp [imgS, freshS, seenS, h2]
theorem infoIntZ (n : Nat) : madeCells (Value.int .i64 0).cells (n * 1) = (List.replicate n (Value.int .i64 0)).toArray := by
  apply Array.ext
  · simp [madeCells]
  · intro i h1 h2
    simp [madeCells, Value.cells, Nat.mod_one]
theorem wpList_make_ints {w : World} {ops : Array Oper} {rest : List Oper} {o : Oper} {a : Act} {Q : Exit → Act → World → Prop} (hg : o.guard = none) (l c : Operand) (hop : o.op = Op.makeSlice 30 l c)
    (n : Nat) (hl : a.eval l = .int .i64 n) (hc : a.eval c = .int .i64 n) (hm : n ≤ 4096)
    (h : ∀ w1 : World, Below w.heap.size w w1 → w1.heap[w.heap.size]? = some (.cells (List.replicate n (Value.int .i64 0)).toArray 3 (0, 0)) → w1.heap.size = w.heap.size + 1 →
      wpList Tryz.prog ops Q rest (a.put o.dst (.slice (some ⟨w.heap.size, 0, none⟩) n n)) w1) : wpList Tryz.prog ops Q (o :: rest) a w := by
  obtain ⟨i, hi, hz, hs, hb⟩ := info_parts infoInt
  refine wpList_plain hg fun K hK' => ?_
  have hrun := run_make (P := Tryz.prog) w 30 3 i (.int .i64 0) Tryz.underlying30 hi hz .i64 .i64 n n (by omega) (by omega) (by rw [hb]; omega) (by omega)
  unfold Oper.wp
  simp only [Int.toNat_natCast, hs, infoIntZ] at hrun
  generalize (List.replicate n (Value.int .i64 0)).toArray = Z at *
  simp [execOp, hop, hl, hc, hrun, Result.andThen]
  exact hK' _ _ (h _ ((Below.refl _ _).alloc (Nat.le_refl _) _) (block_new _ _) (by simp))
/-- Numbers that fill a block. -/
theorem ints_of_block {w : World} {b : Nat} {xs : List Int} {t : TypeId} {fr : Nat × Nat} (h : w.heap[b]? = some (.cells (xs.map encZ).toArray t fr)) : intsAt w (some ⟨b, 0, none⟩) xs := fun j hj => ⟨b, 0, rfl, fun i hi => by
  rw [Nat.zero_add, cell_of_block h]; simp [hi]⟩
end Go.Proofs.YtoeiodiadanhkaaGreat
