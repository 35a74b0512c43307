/- Manifests as bytes, plainly: when one is right, its bytes, and what bytes tell. -/
namespace Go.Proofs.YtkmmeokccmppbaaDoor
def okByte (c : UInt8) : Bool := (decide (97 ≤ c.toNat) && decide (c.toNat ≤ 122)) || ((decide (48 ≤ c.toNat) && decide (c.toNat ≤ 57)) || decide (c.toNat = 45))
def wordOk (s : List UInt8) : Bool := (decide (1 ≤ s.length) && decide (s.length ≤ 24)) && s.all okByte
structure MS where
  os : List UInt8
  arch : List UInt8
  ls : List (List UInt8)
def MS.err (m : MS) : Int := if (wordOk m.os && wordOk m.arch) = true then (if 8 < m.ls.length then 6 else 0) else 8
/-- Each layer has 32 bytes. -/
def MS.of32 (m : MS) : Prop := ∀ l ∈ m.ls, l.length = 32
def MS.none : MS := ⟨[], [], []⟩
def wordB (s : List UInt8) : List UInt8 := UInt8.ofNat s.length :: s
def enc (m : MS) : List UInt8 := [68, 77, 1] ++ (wordB m.os ++ (wordB m.arch ++ (UInt8.ofNat m.ls.length :: m.ls.flatten)))
def pWord : List UInt8 → Option (List UInt8 × List UInt8)
  | [] => none
  | n :: t => if n.toNat ≤ t.length then some (t.take n.toNat, t.drop n.toNat) else none
def chunks : Nat → List UInt8 → List (List UInt8)
  | 0, _ => []
  | k + 1, t => t.take 32 :: chunks k (t.drop 32)
def pLayers : List UInt8 → Option (List (List UInt8))
  | [] => none
  | n :: t => if t.length = 32 * n.toNat then some (chunks n.toNat t) else none
def pRead (b : List UInt8) : Option MS :=
  if b.take 3 = [68, 77, 1] then
    match pWord (b.drop 3) with
    | none => none
    | some (os, b1) =>
      match pWord b1 with
      | none => none
      | some (ar, b2) =>
        match pLayers b2 with
        | none => none
        | some ls => some ⟨os, ar, ls⟩
  else none
def dec (b : List UInt8) : Option MS :=
  match pRead b with
  | none => none
  | some m => if m.err = 0 then some m else none
theorem err_zero {m : MS} (h : m.err = 0) : wordOk m.os = true ∧ wordOk m.arch = true ∧ m.ls.length ≤ 8 := by
  unfold MS.err at h
  split at h
  · next hw =>
    split at h
    · simp at h
    · simp only [Bool.and_eq_true] at hw
      exact ⟨hw.1, hw.2, by omega⟩
  · simp at h
theorem word_len {s : List UInt8} (h : wordOk s = true) : 1 ≤ s.length ∧ s.length ≤ 24 := by
  unfold wordOk at h
  simp only [Bool.and_eq_true, decide_eq_true_eq] at h
  exact h.1
theorem pWord_word {s : List UInt8} (h : wordOk s = true) (t : List UInt8) : pWord (wordB s ++ t) = some (s, t) := by
  have := word_len h
  have e : (UInt8.ofNat s.length).toNat = s.length := by rw [UInt8.toNat_ofNat']; omega
  simp [wordB, pWord, e]
theorem chunks_flatten : ∀ (ls : List (List UInt8)), (∀ l ∈ ls, l.length = 32) → ls.flatten.length = 32 * ls.length ∧ chunks ls.length ls.flatten = ls
  | [], _ => ⟨rfl, rfl⟩
  | l :: ls, h => by
    have h0 := h l (by simp)
    have ⟨h1, h2⟩ := chunks_flatten ls (fun x hx => h x (by simp [hx]))
    refine ⟨by simp [h0] at *; omega, ?_⟩
    simp only [List.length_cons, chunks, List.flatten_cons]
    rw [List.take_append_of_le_length (by omega), List.take_of_length_le (by omega), List.drop_append, h0, List.drop_of_length_le (by omega)]
    simp [h2]
theorem flatten_chunks : ∀ (k : Nat) (t : List UInt8), t.length = 32 * k → (chunks k t).flatten = t ∧ (chunks k t).length = k ∧ ∀ l ∈ chunks k t, l.length = 32
  | 0, t, h => by
    have : t = [] := List.length_eq_zero_iff.1 (by omega)
    subst this
    simp [chunks]
  | k + 1, t, h => by
    have ⟨h1, h2, h3⟩ := flatten_chunks k (t.drop 32) (by simp; omega)
    refine ⟨by simp [chunks, h1], by simp [chunks, h2], fun l hl => ?_⟩
    rcases List.mem_cons.1 hl with rfl | hl
    · simp; omega
    · exact h3 l hl
/-- What is read of a right manifest's bytes and more: the manifest, and nothing may come behind. -/
theorem pRead_enc {m : MS} (h : m.err = 0) (h32 : m.of32) (t : List UInt8) : pRead (enc m ++ t) = if t = [] then some m else none := by
  obtain ⟨h1, h2, h3⟩ := err_zero h
  obtain ⟨e1, e2⟩ := chunks_flatten m.ls h32
  have e : (UInt8.ofNat m.ls.length).toNat = m.ls.length := by rw [UInt8.toNat_ofNat']; omega
  unfold pRead enc
  rw [if_pos (by simp)]
  have d : ([68, 77, 1] ++ (wordB m.os ++ (wordB m.arch ++ (UInt8.ofNat m.ls.length :: m.ls.flatten))) ++ t).drop 3 = wordB m.os ++ (wordB m.arch ++ (UInt8.ofNat m.ls.length :: (m.ls.flatten ++ t))) := by simp
  rw [d, pWord_word h1]
  simp only []
  rw [pWord_word h2]
  simp only [pLayers, e]
  by_cases ht : t = []
  · subst ht
    rw [if_pos rfl, if_pos (by simpa using e1), List.append_nil, e2]
  · have : t.length ≠ 0 := fun x => ht (List.length_eq_zero_iff.1 x)
    rw [if_neg (by rw [List.length_append]; omega), if_neg ht]
theorem dec_enc {m : MS} (h : m.err = 0) (h32 : m.of32) : dec (enc m) = some m := by
  have := pRead_enc h h32 []
  rw [List.append_nil, if_pos rfl] at this
  unfold dec
  rw [this]
  simp [h]
theorem dec_more {m : MS} (h : m.err = 0) (h32 : m.of32) {t : List UInt8} (ht : t ≠ []) : dec (enc m ++ t) = none := by
  unfold dec
  rw [pRead_enc h h32, if_neg ht]
theorem pWord_some {b s t : List UInt8} (h : pWord b = some (s, t)) : b = wordB s ++ t := by
  cases b with
  | nil => simp [pWord] at h
  | cons n b =>
    simp only [pWord] at h
    split at h
    · next hn =>
      simp only [Option.some.injEq, Prod.mk.injEq] at h
      obtain ⟨rfl, rfl⟩ := h
      simp [wordB, Nat.min_eq_left hn]
    · simp at h
theorem pRead_some {b : List UInt8} {m : MS} (h : pRead b = some m) : enc m = b ∧ m.of32 := by
  unfold pRead at h
  split at h
  · next h3 =>
    split at h
    · simp at h
    · next os b1 h1 =>
      split at h
      · simp at h
      · next ar b2 h2 =>
        split at h
        · simp at h
        · next ls hl =>
          simp only [Option.some.injEq] at h
          subst h
          have e1 := pWord_some h1
          have e2 := pWord_some h2
          cases b2 with
          | nil => simp [pLayers] at hl
          | cons n t =>
            simp only [pLayers] at hl
            split at hl
            · next ht =>
              simp only [Option.some.injEq] at hl
              obtain ⟨f1, f2, f3⟩ := flatten_chunks n.toNat t ht
              subst hl
              refine ⟨?_, f3⟩
              rw [← List.take_append_drop 3 b, h3, e1, e2]
              unfold enc
              simp only [f1, f2]
              simp
            · simp at hl
  · simp at h
theorem dec_some {b : List UInt8} {m : MS} (h : dec b = some m) : enc m = b ∧ m.of32 ∧ m.err = 0 := by
  unfold dec at h
  split at h
  · simp at h
  · next m' hm =>
    split at h
    · next he =>
      simp only [Option.some.injEq] at h
      subst h
      exact ⟨(pRead_some hm).1, (pRead_some hm).2, he⟩
    · simp at h
/-- Bytes that are cut are no manifest. -/
theorem dec_cut {m : MS} (h : m.err = 0) (h32 : m.of32) {k : Nat} (hk : k < (enc m).length) : dec ((enc m).take k) = none := by
  cases hd : dec ((enc m).take k) with
  | none => rfl
  | some m' =>
    obtain ⟨e, h32', h'⟩ := dec_some hd
    have ht : (enc m).drop k ≠ [] := fun x => by
      have := congrArg List.length x
      simp at this
      omega
    have := dec_more h' h32' ht
    rw [e, List.take_append_drop, dec_enc h h32] at this
    simp at this
theorem enc_inj {m n : MS} (hm : m.err = 0) (hm32 : m.of32) (hn : n.err = 0) (hn32 : n.of32) (h : enc m = enc n) : m = n := by
  have := dec_enc hm hm32
  rw [h, dec_enc hn hn32] at this
  simpa using this.symm
theorem ba_size (bs : ByteArray) : bs.data.toList.length = bs.size := by simp
theorem ba_loop (bs : ByteArray) : ∀ (n i : Nat) (r : List UInt8), bs.size - i = n → ByteArray.toList.loop bs i r = r.reverse ++ bs.data.toList.drop i := by
  intro n
  induction n with
  | zero =>
    intro i r h
    rw [ByteArray.toList.loop, if_neg (by omega), List.drop_of_length_le (by rw [ba_size]; omega), List.append_nil]
  | succ n ih =>
    intro i r h
    have hi : i < bs.size := by omega
    have hl : i < bs.data.toList.length := by rw [ba_size]; exact hi
    rw [ByteArray.toList.loop, if_pos hi, ih (i + 1) _ (by omega), List.drop_eq_getElem_cons hl]
    have e : bs.get! i = bs.data.toList[i] := by
      simp [ByteArray.get!, hi]
    rw [e]
    simp
theorem ba_toList (bs : ByteArray) : bs.toList = bs.data.toList := by
  have := ba_loop bs _ 0 [] rfl
  simpa [ByteArray.toList] using this
theorem str_beq (a b : List UInt8) : ((⟨a.toArray⟩ : ByteArray).toList == (⟨b.toArray⟩ : ByteArray).toList) = decide (a = b) := by
  rw [ba_toList, ba_toList, Bool.eq_iff_iff]
  simp
end Go.Proofs.YtkmmeokccmppbaaDoor
