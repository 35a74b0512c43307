/- The numbers of a head that was written. -/
import Derived.Test.YtkkmbgjlmdddoabGreatWMade
namespace Go.Proofs.YtkkmbgjlmdddoabGreat
open Go.RowKit
theorem headS_eq (ns : List Nat) : headS ns = [68, 78] ++ (beS 2 ns.length ++ (ns.flatMap (beS 2) ++ zN (508 - 2 * ns.length))) := by
  rw [headS, headTo, headP, List.take_length]
  simp only [List.append_assoc]
theorem two_head (ns : List Nat) : two (headS ns) 2 = ns.length % 65536 := by
  rw [two, headS_eq]
  have e1 : ([68, 78] ++ (beS 2 ns.length ++ (ns.flatMap (beS 2) ++ zN (508 - 2 * ns.length)))).drop 2 = beS 2 ns.length ++ (ns.flatMap (beS 2) ++ zN (508 - 2 * ns.length)) := rfl
  have e2 : (beS 2 ns.length ++ (ns.flatMap (beS 2) ++ zN (508 - 2 * ns.length))).take 2 = beS 2 ns.length := List.take_left' (length_beS 2 ns.length)
  rw [e1, e2, numS_be]
theorem flat_at : ∀ (ns : List Nat) (Z : List UInt8) (i : Nat) (h : i < ns.length), ((ns.flatMap (beS 2) ++ Z).drop (2 * i)).take 2 = beS 2 ns[i]
  | [], _, i, h => by simp at h
  | n :: ns, Z, 0, _ => by
    rw [List.flatMap_cons, List.append_assoc]
    exact List.take_left' (length_beS 2 n)
  | n :: ns, Z, i + 1, h => by
    rw [List.flatMap_cons, List.append_assoc, show 2 * (i + 1) = 2 + 2 * i by omega, ← List.drop_drop, List.drop_left' (length_beS 2 n)]
    exact flat_at ns Z i (by simpa using h)
theorem two_head_at (ns : List Nat) (i : Nat) (h : i < ns.length) (hn : ns[i] < 65536) : two (headS ns) (4 + 2 * i) = ns[i] := by
  rw [two, headS_eq, ← List.append_assoc, ← List.drop_drop, List.drop_left' (by rw [List.length_append, length_beS]; rfl), flat_at ns _ i h, numS_be]
  exact Nat.mod_eq_of_lt (by simpa using hn)
theorem nums_head (ns : List Nat) (h : ∀ n ∈ ns, n < 65536) : numsL (headS ns) ns.length = ns := by
  refine List.ext_getElem (length_numsL _ _) (fun i h1 h2 => ?_)
  rw [numsL_at, two_head_at ns i h2 (h _ (List.getElem_mem h2))]
theorem headNums_head (ns : List Nat) (size N : Nat) (h1 : ns.length ≤ min size 100) (h2 : ns.Pairwise (fun a b => a < b)) (h3 : ∀ n ∈ ns, n < N) (hN : N ≤ 4096) : headNums (headS ns) size N = some ns := by
  have hl : two (headS ns) 2 = ns.length := by rw [two_head]; omega
  have h4 : ∀ n ∈ ns, n < 65536 := fun n hn => by have := h3 n hn; omega
  have hr : rises (headS ns) N ns.length := fun i hi => by
    rw [two_head_at ns i hi (h4 _ (List.getElem_mem hi))]
    refine ⟨h3 _ (List.getElem_mem hi), fun h0 => ?_⟩
    rw [two_head_at ns (i - 1) (by omega) (h4 _ (List.getElem_mem (by omega)))]
    exact List.pairwise_iff_getElem.1 h2 (i - 1) i (by omega) hi (by omega)
  unfold headNums
  rw [hl, nums_head ns h4]
  split
  · rename_i he
    have hz : two (zN 512) 2 = 0 := by
      rw [two, drop_zN, zN, List.take_replicate]; rfl
    rw [he, hz] at hl
    rw [List.length_eq_zero_iff.1 hl.symm]
  · rw [if_neg (by omega), if_pos ⟨hr, rfl⟩]
theorem headNums_ok {S : DiskS} {size N : Nat} (h : headOk S) (hN : N ≤ 4096) : headNums (secL S 0) size N = some [] := by
  rcases h with h | h
  · have h' : secL S 0 = zN 512 := h
    unfold headNums
    rw [if_pos h']
  · have e : secL S 0 = headS [] := by
      show (seenAt S 0).data.toList = _
      rw [h]
    rw [e]
    exact headNums_head [] size N (by simp) List.Pairwise.nil (fun n hn => by simp at hn) hN
end Go.Proofs.YtkkmbgjlmdddoabGreat
