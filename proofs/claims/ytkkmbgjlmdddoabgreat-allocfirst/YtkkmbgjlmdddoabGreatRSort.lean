/- Pages sorted by insertion, as the reference does it, are the group's pages in the order of its keys. -/
import Derived.Test.YtkkmbgjlmdddoabGreatCommitA
namespace Go.Proofs.YtkkmbgjlmdddoabGreat
open Go.RowKit
/-- How many of the first k pages lie ahead of number x, asked from the last one. -/
def atFrom (l : List PageS) (x : Int) : Nat → Nat
  | 0 => 0
  | k + 1 => if x < ((l[k]?).map PageS.n).getD x then atFrom l x k else k + 1
def atP (l : List PageS) (p : PageS) : Nat := atFrom l p.n l.length
def insP (l : List PageS) (p : PageS) : List PageS := l.take (atP l p) ++ p :: l.drop (atP l p)
def Asc (l : List PageS) : Prop := l.Pairwise (fun a b => a.n < b.n)
theorem atFrom_le (l : List PageS) (x : Int) : ∀ k, atFrom l x k ≤ k
  | 0 => Nat.le_refl _
  | k + 1 => by
    rw [atFrom]
    split
    · exact Nat.le_succ_of_le (atFrom_le l x k)
    · exact Nat.le_refl _
theorem atP_le (l : List PageS) (p : PageS) : atP l p ≤ l.length := atFrom_le _ _ _
theorem atFrom_above (l : List PageS) (x : Int) : ∀ k, ∀ i (hi : i < l.length), atFrom l x k ≤ i → i < k → x < l[i].n
  | 0, _, _, _, h => by omega
  | k + 1, i, hi, h1, h2 => by
    rw [atFrom] at h1
    split at h1
    · rename_i hx
      by_cases e : i = k
      · subst e; simpa [hi] using hx
      · exact atFrom_above l x k i hi h1 (by omega)
    · omega
theorem atFrom_top (l : List PageS) (x : Int) : ∀ k, k ≤ l.length → ∀ a (ha : a < l.length), atFrom l x k = a + 1 → l[a].n ≤ x
  | 0, _, a, _, h => by cases h
  | k + 1, hk, a, ha, h => by
    rw [atFrom] at h
    split at h
    · exact atFrom_top l x k (by omega) a ha h
    · rename_i hx
      obtain rfl : k = a := by omega
      simp [ha] at hx
      exact hx
theorem Asc.lt {l : List PageS} (h : Asc l) {i j : Nat} (hij : i < j) (hj : j < l.length) : (l[i]'(by omega)).n < l[j].n := List.pairwise_iff_getElem.1 h i j (by omega) hj hij
theorem atP_below {l : List PageS} (h : Asc l) (p : PageS) (i : Nat) (hi : i < atP l p) : (l[i]'(by have := atP_le l p; omega)).n ≤ p.n := by
  have hle := atP_le l p
  obtain ⟨a, ha⟩ : ∃ a, atP l p = a + 1 := ⟨atP l p - 1, by omega⟩
  have ht := atFrom_top l p.n l.length (Nat.le_refl _) a (by omega) ha
  by_cases e : i = a
  · subst e; exact ht
  · have := h.lt (i := i) (j := a) (by omega) (by omega)
    omega
theorem atP_above (l : List PageS) (p : PageS) (i : Nat) (hi : i < l.length) (h : atP l p ≤ i) : p.n < l[i].n := atFrom_above l p.n l.length i hi h hi
theorem dup_iff {l : List PageS} (h : Asc l) (p : PageS) : (∃ a, atP l p = a + 1 ∧ ((l[a]?).map PageS.n) = some p.n) ↔ ∃ q ∈ l, q.n = p.n := by
  have hle := atP_le l p
  constructor
  · rintro ⟨a, h1, h2⟩
    have ha : a < l.length := by omega
    rw [List.getElem?_eq_getElem ha] at h2
    exact ⟨l[a], List.getElem_mem ha, by simpa using h2⟩
  · rintro ⟨q, hq, e⟩
    obtain ⟨i, hi, rfl⟩ := List.mem_iff_getElem.1 hq
    have h1 : i < atP l p := by
      by_cases h1 : i < atP l p
      · exact h1
      · have := atP_above l p i hi (by omega); omega
    obtain ⟨a, ha⟩ : ∃ a, atP l p = a + 1 := ⟨atP l p - 1, by omega⟩
    refine ⟨a, ha, ?_⟩
    have hal : a < l.length := by omega
    rw [List.getElem?_eq_getElem hal]
    have h2 := atP_below h p a (by omega)
    by_cases e2 : i = a
    · subst e2; simpa using e
    · have := h.lt (i := i) (j := a) (by omega) hal
      omega
theorem insP_length (l : List PageS) (p : PageS) : (insP l p).length = l.length + 1 := by
  have := atP_le l p
  rw [insP, List.length_append, List.length_cons, List.length_take, List.length_drop]; omega
theorem mem_insP (l : List PageS) (p q : PageS) : q ∈ insP l p ↔ q = p ∨ q ∈ l := by
  rw [insP, List.mem_append, List.mem_cons]
  conv => rhs; rw [← List.take_append_drop (atP l p) l, List.mem_append]
  constructor
  · rintro (h | h | h)
    · exact .inr (.inl h)
    · exact .inl h
    · exact .inr (.inr h)
  · rintro (h | h | h)
    · exact .inr (.inl h)
    · exact .inl h
    · exact .inr (.inr h)
theorem insP_asc {l : List PageS} (h : Asc l) (p : PageS) (hd : ∀ q ∈ l, q.n ≠ p.n) : Asc (insP l p) := by
  have hle := atP_le l p
  unfold Asc insP
  rw [List.pairwise_append, List.pairwise_cons]
  refine ⟨List.Pairwise.sublist (List.take_sublist _ _) h, ⟨fun q hq => ?_, List.Pairwise.sublist (List.drop_sublist _ _) h⟩, fun a ha b hb => ?_⟩
  · obtain ⟨i, hi, rfl⟩ := List.mem_iff_getElem.1 hq
    rw [List.length_drop] at hi
    rw [List.getElem_drop]
    exact atP_above l p _ (by omega) (by omega)
  · obtain ⟨i, hi, rfl⟩ := List.mem_iff_getElem.1 ha
    rw [List.length_take] at hi
    rw [List.getElem_take]
    have h1 := atP_below h p i (by omega)
    have h2 := hd _ (List.getElem_mem (l := l) (n := i) (by omega))
    rcases List.mem_cons.1 hb with rfl | hb
    · omega
    · obtain ⟨k, hk, rfl⟩ := List.mem_iff_getElem.1 hb
      rw [List.length_drop] at hk
      rw [List.getElem_drop]
      have := atP_above l p (atP l p + k) (by omega) (by omega)
      omega
/-- The first k pages, sorted. -/
def srt (ps : List PageS) : Nat → List PageS
  | 0 => []
  | k + 1 => match ps[k]? with
    | some p => insP (srt ps k) p
    | none => srt ps k
theorem srt_succ (ps : List PageS) (k : Nat) (h : k < ps.length) : srt ps (k + 1) = insP (srt ps k) ps[k] := by rw [srt, List.getElem?_eq_getElem h]
theorem srt_length (ps : List PageS) : ∀ k, k ≤ ps.length → (srt ps k).length = k
  | 0, _ => rfl
  | k + 1, h => by rw [srt_succ ps k (by omega), insP_length, srt_length ps k (by omega)]
theorem grpVal_succ (ps : List PageS) (k : Nat) (h : k < ps.length) : grpVal ps (k + 1) = updV (grpVal ps k) ps[k].n ps[k].val := by rw [grpVal, List.getElem?_eq_getElem h]
theorem srt_facts (ps : List PageS) : ∀ k, k ≤ ps.length → grpErr ps k = 0 → Asc (srt ps k) ∧ (∀ q ∈ srt ps k, grpVal ps k q.n = some q.val) ∧ (∀ n, (grpVal ps k n).isSome → ∃ q ∈ srt ps k, q.n = n)
  | 0, _, _ => ⟨List.Pairwise.nil, fun q hq => by simp [srt] at hq, fun n hn => by simp [grpVal] at hn⟩
  | k + 1, hk, he => by
    obtain ⟨h1, h2, h3⟩ := grpErr_step (by omega) he
    obtain ⟨i1, i2, i3⟩ := srt_facts ps k (by omega) h1
    rw [srt_succ ps k (by omega), grpVal_succ ps k (by omega)]
    refine ⟨insP_asc i1 _ (fun q hq e => ?_), fun q hq => ?_, fun n hn => ?_⟩
    · have := i2 q hq
      rw [e, h2] at this
      cases this
    · rcases (mem_insP _ _ _).1 hq with rfl | hq
      · simp [updV]
      · have := i2 q hq
        have hne : q.n ≠ ps[k].n := fun e => by rw [e, h2] at this; cases this
        simp [updV, hne, this]
    · by_cases e : n = ps[k].n
      · exact ⟨ps[k], (mem_insP _ _ _).2 (.inl rfl), e.symm⟩
      · obtain ⟨q, hq, hn⟩ := i3 n (by simpa [updV, e] using hn)
        exact ⟨q, (mem_insP _ _ _).2 (.inr hq), hn⟩
/-- What is wrong with the next page: it is there already, or has not all its bytes. -/
theorem srt_dup (ps : List PageS) (k : Nat) (hk : k < ps.length) (he : grpErr ps k = 0) : (∃ a, atP (srt ps k) ps[k] = a + 1 ∧ (((srt ps k)[a]?).map PageS.n) = some ps[k].n) ↔ (grpVal ps k ps[k].n).isSome := by
  obtain ⟨i1, i2, i3⟩ := srt_facts ps k (by omega) he
  rw [dup_iff i1]
  constructor
  · rintro ⟨q, hq, e⟩
    have := i2 q hq
    rw [e] at this
    rw [this]; rfl
  · intro h
    exact i3 _ h
theorem asc_unique : ∀ (l m : List Int), l.Pairwise (· < ·) → m.Pairwise (· < ·) → (∀ x, x ∈ l ↔ x ∈ m) → l = m
  | [], [], _, _, _ => rfl
  | [], b :: m, _, _, h => by have := (h b).2 (by simp); simp at this
  | a :: l, [], _, _, h => by have := (h a).1 (by simp); simp at this
  | a :: l, b :: m, hl, hm, h => by
    obtain ⟨l1, l2⟩ := List.pairwise_cons.1 hl
    obtain ⟨m1, m2⟩ := List.pairwise_cons.1 hm
    have hab : a = b := by
      rcases List.mem_cons.1 ((h a).1 (by simp)) with e | e
      · exact e
      · rcases List.mem_cons.1 ((h b).2 (by simp)) with e2 | e2
        · exact e2.symm
        · have := m1 a e; have := l1 b e2; omega
    subst hab
    rw [asc_unique l m l2 m2 (fun x => ?_)]
    constructor
    · intro hx
      rcases List.mem_cons.1 ((h x).1 (by simp [hx])) with e | e
      · subst e; have := l1 x hx; omega
      · exact e
    · intro hx
      rcases List.mem_cons.1 ((h x).2 (by simp [hx])) with e | e
      · subst e; have := m1 x hx; omega
      · exact e
theorem grpKeys_asc (val : Int → Option Value) (N : Nat) : (grpKeys val N).Pairwise (· < ·) := by
  unfold grpKeys
  refine List.Pairwise.filter _ ?_
  exact List.pairwise_map.2 (List.pairwise_lt_range.imp (fun h => by omega))
theorem srt_keys (ps : List PageS) (N : Nat) (hin : inPages N ps = true) (he : grpErr ps ps.length = 0) : (srt ps ps.length).map PageS.n = grpKeys (grpVal ps ps.length) N := by
  obtain ⟨i1, i2, i3⟩ := srt_facts ps ps.length (Nat.le_refl _) he
  refine asc_unique _ _ (List.pairwise_map.2 i1) (grpKeys_asc _ _) (fun x => ?_)
  rw [mem_grpKeys, List.mem_map]
  constructor
  · rintro ⟨q, hq, rfl⟩
    have h := i2 q hq
    obtain ⟨j, _, hj, e, _, _⟩ := grpVal_some ps (fun _ => []) q.n q.val ps.length h
    have := inPages_iff.1 hin j hj
    rw [e] at this
    exact ⟨this.1, this.2, by rw [h]; rfl⟩
  · rintro ⟨_, _, h⟩
    obtain ⟨q, hq, e⟩ := i3 x h
    exact ⟨q, hq, e⟩
theorem grpErr_three (ps : List PageS) : ∀ k, grpErr ps k = 0 ∨ grpErr ps k = 3
  | 0 => .inl rfl
  | k + 1 => by
    rw [grpErr]
    split
    · split
      · exact .inr rfl
      · exact grpErr_three ps k
    · exact grpErr_three ps k
end Go.Proofs.YtkkmbgjlmdddoabGreat
