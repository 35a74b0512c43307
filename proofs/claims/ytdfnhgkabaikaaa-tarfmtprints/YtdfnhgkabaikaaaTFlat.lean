/- Bytes over bytes, field by field; digits and texts read back. -/
import Derived.Test.YtdfnhgkabaikaaaTPrint
namespace Go.Proofs.Ytdfnhgkabaikaaa
theorem wrt_at {L s : List UInt8} {a : Nat} (ha : a + s.length ≤ L.length) (i : Nat) : (wrt L a s)[i]? = if i < a then L[i]? else if i < a + s.length then s[i - a]? else L[i]? := by
  unfold wrt
  rw [List.append_assoc]
  have hl : (L.take a).length = a := by rw [List.length_take]; omega
  split
  · rename_i h
    rw [List.getElem?_append_left (by omega), List.getElem?_take_of_lt h]
  · rename_i h
    rw [List.getElem?_append_right (by omega), hl]
    split
    · rename_i h2
      rw [List.getElem?_append_left (by omega)]
    · rename_i h2
      rw [List.getElem?_append_right (by omega), List.getElem?_drop]
      congr 1
      omega
theorem fld_at (L : List UInt8) (o n j : Nat) : (fld L o n)[j]? = if j < n then L[o + j]? else none := by
  unfold fld
  rw [List.getElem?_take]
  split
  · rw [List.getElem?_drop]
  · rfl
theorem fld_wrt_ne {L s : List UInt8} {a o n : Nat} (ha : a + s.length ≤ L.length) (h : a + s.length ≤ o ∨ o + n ≤ a) : fld (wrt L a s) o n = fld L o n := by
  apply List.ext_getElem?
  intro j
  rw [fld_at, fld_at]
  split
  · rw [wrt_at ha]
    split
    · rfl
    · split
      · omega
      · rfl
  · rfl
theorem fld_wrt_pre {L s : List UInt8} {a n : Nat} (ha : a + s.length ≤ L.length) (h : s.length ≤ n) : fld (wrt L a s) a n = s ++ fld L (a + s.length) (n - s.length) := by
  apply List.ext_getElem?
  intro j
  rw [fld_at]
  by_cases h1 : j < s.length
  · rw [if_pos (by omega), wrt_at ha, if_neg (by omega), if_pos (by omega), List.getElem?_append_left h1]
    congr 1; omega
  · rw [List.getElem?_append_right (by omega), fld_at]
    split
    · rw [wrt_at ha, if_neg (by omega), if_neg (by omega), if_pos (by omega)]
      congr 1; omega
    · rw [if_neg (by omega)]
theorem fld_wrt_eq {L s : List UInt8} {a n : Nat} (ha : a + s.length ≤ L.length) (h : n = s.length) : fld (wrt L a s) a n = s := by
  rw [fld_wrt_pre ha (by omega), h, Nat.sub_self]
  simp [fld]
theorem fld_wrt_in {L s : List UInt8} {a o n : Nat} (ha : a + s.length ≤ L.length) (h1 : o ≤ a) (h2 : a + s.length ≤ o + n) (hl : o + n ≤ L.length) : fld (wrt L a s) o n = wrt (fld L o n) (a - o) s := by
  have hf := length_fld L o n hl
  apply List.ext_getElem?
  intro j
  rw [fld_at, wrt_at (L := fld L o n) (by omega), fld_at]
  by_cases hj : j < n
  · rw [if_pos hj, if_pos hj, wrt_at ha]
    by_cases c1 : o + j < a
    · rw [if_pos c1, if_pos (show j < a - o by omega)]
    · rw [if_neg c1, if_neg (show ¬ j < a - o by omega)]
      by_cases c2 : o + j < a + s.length
      · rw [if_pos c2, if_pos (show j < a - o + s.length by omega)]
        congr 1; omega
      · rw [if_neg c2, if_neg (show ¬ j < a - o + s.length by omega)]
  · rw [if_neg hj, if_neg hj, if_neg (show ¬ j < a - o by omega), if_neg (show ¬ j < a - o + s.length by omega)]
theorem fld_fld {L : List UInt8} {o n a m : Nat} (h : a + m ≤ n) : fld (fld L o n) a m = fld L (o + a) m := by
  apply List.ext_getElem?
  intro j
  rw [fld_at, fld_at, fld_at]
  split
  · rw [if_pos (by omega)]; congr 1; omega
  · rfl
theorem fld_zero (N o n : Nat) (h : o + n ≤ N) : fld (List.replicate N 0) o n = List.replicate n 0 := by
  unfold fld
  rw [List.drop_replicate, List.take_replicate, Nat.min_eq_left (by omega)]
theorem total_wrt (h s : List UInt8) (a : Nat) : total (wrt h a s) + total (fld h a s.length) = total h + total s := by
  have h1 : h = h.take a ++ (fld h a s.length ++ h.drop (a + s.length)) := by
    unfold fld
    rw [← List.drop_drop, List.take_append_drop, List.take_append_drop]
  have h2 : total h = total (h.take a) + (total (fld h a s.length) + total (h.drop (a + s.length))) := by
    conv => lhs; rw [h1]
    rw [total_append, total_append]
  unfold wrt
  rw [total_append, total_append, h2]
  omega
/-- The sum's own field plays no part. -/
theorem sumH_wrt {h s : List UInt8} (hl : h.length = 512) (hs : s.length = 8) : sumH (wrt h 148 s) = sumH h := by
  have h1 := total_wrt h s 148
  unfold sumH
  rw [fld_wrt_eq (by omega) hs.symm]
  rw [hs] at h1
  omega
theorem val_oct : ∀ (k n : Nat), val (oct n k) = n % 8 ^ k
  | 0, n => by simp [oct, val, Nat.mod_one]
  | k + 1, n => by
    rw [oct, val_snoc, val_oct k, UInt8.toNat_ofNat']
    have h1 : (48 + n % 8) % 256 = 48 + n % 8 := by omega
    rw [h1, Nat.add_sub_cancel_left, Nat.pow_succ, Nat.mul_comm (8 ^ k) 8, Nat.mod_mul]
    omega
theorem dig_oct : ∀ (k n : Nat), (oct n k).all isDig = true
  | 0, n => rfl
  | k + 1, n => by
    rw [oct, List.all_append, dig_oct k]
    simp [isDig]
    omega
theorem numF_oct (n k : Nat) (h : n < 8 ^ k) : numF (oct n k ++ [0]) = (n, true) := by
  unfold numF
  rw [List.dropLast_concat]
  have : (oct n k ++ [0]).getLastD 0 = 0 := by simp
  rw [this]
  unfold numP
  rw [if_pos (dig_oct k n), val_oct, Nat.mod_eq_of_lt h]
  rfl
theorem sumF_oct (n : Nat) (h : n < 8 ^ 7) : sumF (oct n 7 ++ [0]) = (n, true) := by
  unfold sumF
  have h1 : (oct n 7 ++ [0]).getD 7 0 = 0 := by
    rw [List.getD_eq_getElem?_getD, List.getElem?_append_right (by rw [length_oct]; omega), length_oct]
    rfl
  rw [if_neg (by rw [h1]; intro hh; exact absurd hh.1 (by decide)), numF_oct n 7 h]
theorem noughts_rep (n : Nat) : noughts (List.replicate n 0) = true := by
  unfold noughts
  rw [List.all_eq_true]
  intro x hx
  rw [(List.mem_replicate.1 hx).2]
  rfl
theorem textF_pad {r : List UInt8} (n : Nat) (h : noZ r = true) : textF (r ++ List.replicate n 0) = (r, true) := by
  have hr : ∀ x ∈ r, (x != 0) = true := List.all_eq_true.1 h
  have h1 : (r ++ List.replicate n 0).takeWhile (fun x => x != 0) = r := by
    rw [List.takeWhile_append_of_pos hr]
    cases n with
    | zero => simp
    | succ n => rw [List.replicate_succ, List.takeWhile_cons]; simp
  have h2 : (r ++ List.replicate n (0 : UInt8)).dropWhile (fun x => x != 0) = List.replicate n 0 := by
    rw [List.dropWhile_append_of_pos hr]
    cases n with
    | zero => simp
    | succ n => rw [List.replicate_succ, List.dropWhile_cons]; simp
  unfold textF
  rw [h1, h2, noughts_rep]
theorem partP_join {s p r : List UInt8} (h : partP s = some (p, r)) : (if p = [] then r else p ++ 47 :: r) = s := by
  unfold partP at h
  split at h
  · injection h with h; injection h with h2 h3; subst h2 h3
    rw [if_pos rfl]
  · rename_i h1
    obtain ⟨k, hk, he⟩ := Option.map_eq_some_iff.1 h
    injection he with h2 h3; subst h2 h3
    obtain ⟨q1, q2, q3, q4⟩ := partAt_some hk
    have hlt : k < s.length := by omega
    have h5 : s[k] = 47 := by
      rw [List.getD_eq_getElem?_getD, List.getElem?_eq_getElem hlt] at q4
      exact q4
    rw [if_neg (fun e => by have := congrArg List.length e; rw [List.length_take, List.length_nil] at this; omega), ← h5, ← List.drop_eq_getElem_cons hlt, List.take_append_drop]
theorem noZ_part {s p r : List UInt8} (h : partP s = some (p, r)) (hs : noZ s = true) : noZ p = true ∧ noZ r = true := by
  have hs' : ∀ x ∈ s, (x != 0) = true := List.all_eq_true.1 hs
  unfold partP at h
  split at h
  · injection h with h; injection h with h2 h3; subst h2 h3
    exact ⟨rfl, hs⟩
  · obtain ⟨k, hk, he⟩ := Option.map_eq_some_iff.1 h
    injection he with h2 h3; subst h2 h3
    exact ⟨List.all_eq_true.2 fun x hx => hs' x (List.mem_of_mem_take hx), List.all_eq_true.2 fun x hx => hs' x (List.mem_of_mem_drop hx)⟩
theorem kindP_typeP {k : Int} (h1 : 1 ≤ k) (h4 : k ≤ 4) : kindP (typeP k) = k := by
  obtain rfl | rfl | rfl | rfl : k = 1 ∨ k = 2 ∨ k = 3 ∨ k = 4 := by omega
  all_goals decide
end Go.Proofs.Ytdfnhgkabaikaaa
