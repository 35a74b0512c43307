/- TopTorn in plain words: a text of seven sectors that was written so far, and crashed: of each sector the text's bytes, or noughts. -/
import Derived.Test.YtllkkfeechojoaaDoorCrashed
import Derived.Test.YtllkkfeechojoaaDoorBys
import Derived.Test.YtllkkfeechojoaaDoorSumsPlain
namespace Go.Proofs.YtllkkfeechojoaaDoor
open Go.RowKit
/-- The ops of the first q sectors of a text. -/
def tornOps (L : List UInt8) (q : Nat) : List OpS := (List.range q).map (fun j : Nat => OpS.write (j : Int) ⟨(pieceS L j).toArray⟩)
def tornS (L : List UInt8) (q : Nat) : DiskS := doOps (freshS (List.replicate 8 blankS)) (tornOps L q)
theorem tornOps_succ (L : List UInt8) (q : Nat) : tornOps L (q + 1) = tornOps L q ++ [OpS.write (q : Int) ⟨(pieceS L q).toArray⟩] := by
  rw [tornOps, List.range_succ, List.map_append]; rfl
theorem length_tornOps (L : List UInt8) (q : Nat) : (tornOps L q).length = q := by simp [tornOps]
theorem tornS_first (L : List UInt8) (q : Nat) : (tornS L q).first = List.replicate 8 blankS := (doOps_facts _ _).1
theorem tornS_len (L : List UInt8) (q : Nat) : (tornS L q).safe.length = 8 := ((doOps_facts (freshS (List.replicate 8 blankS)) (tornOps L q)).2.1).trans (List.length_replicate ..)
theorem tornS_ops (L : List UInt8) (q : Nat) : (tornS L q).ops = tornOps L q := (doOps_facts (freshS (List.replicate 8 blankS)) (tornOps L q)).2.2
theorem tornS_opsLen (L : List UInt8) (q : Nat) : (tornS L q).ops.length = q := by rw [tornS_ops, length_tornOps]
theorem tornS_succ (L : List UInt8) (q : Nat) : tornS L (q + 1) = (tornS L q).wrote (q : Int) ⟨(pieceS L q).toArray⟩ := by
  rw [tornS, tornOps_succ, doOps_snoc]; rfl
theorem tornS_put (L : List UInt8) (q : Nat) (hL : L.length = 3584) (hq : q < 7) : errW (tornS L q) (q : Int) (pieceS L q) = 0 ∧ (tornS L q).put (q : Int) (pieceS L q) = tornS L (q + 1) := by
  have hl := length_piece L q (by omega)
  have h0 : (0 : Int) ≤ (q : Int) := by omega
  have h1 : (q : Int) < (tornS L q).safe.length := by rw [tornS_len]; omega
  exact ⟨errW_ok h0 h1 hl, by rw [put_ok h0 h1 hl, tornS_succ]⟩
theorem tornS_ok (L : List UInt8) (hL : L.length = 3584) : ∀ o ∈ (tornS L 7).ops, okOp (tornS L 7).first.length o := by
  rw [tornS_ops, tornS_first, List.length_replicate]
  intro o ho
  obtain ⟨j, hj, rfl⟩ := List.mem_map.1 ho
  have hj7 := List.mem_range.1 hj
  have hl := length_piece L j (by omega)
  refine ⟨by omega, by omega, ?_⟩
  exact hl
theorem tornS_cut (L : List UInt8) (q : Nat) (hq : q ≤ 7) : cutS (tornS L 7) q = tornS L q := by
  rw [cutS, tornS_first, tornS_ops, tornS, tornOps, tornOps, ← List.map_take, List.take_range, Nat.min_eq_left hq]
theorem tornS_safe (L : List UInt8) : ∀ q, (tornS L q).safe = List.replicate 8 blankS
  | 0 => rfl
  | q + 1 => by rw [tornS_succ]; exact tornS_safe L q
theorem tornS_waits (L : List UInt8) : ∀ (q : Nat) (n : Nat), (tornS L q).waits (n : Int) = if n < q then [⟨(pieceS L n).toArray⟩] else []
  | 0, n => rfl
  | q + 1, n => by
    rw [tornS_succ]
    show upd (tornS L q).waits (q : Int) ((tornS L q).waits (q : Int) ++ [_]) (n : Int) = _
    by_cases h : n = q
    · subst h
      rw [upd_same, tornS_waits L n n, if_neg (Nat.lt_irrefl _), if_pos (Nat.lt_succ_self _)]; rfl
    · rw [upd_other _ _ (by omega), tornS_waits L q n]
      by_cases h2 : n < q
      · rw [if_pos h2, if_pos (by omega)]
      · rw [if_neg h2, if_neg (by omega)]
/-- What a crash leaves of a sector: what was there, or one of its writes. -/
theorem crashL_in (waits : Int → List ByteArray) (n : Nat) : ∀ (nk : List (Int × Int)) (left : List ByteArray), (∀ p ∈ nk, 0 ≤ p.1 ∧ (0 < p.2 → p.2.toNat - 1 < (waits p.1).length)) →
    (crashL waits left nk)[n]? = left[n]? ∨ ∃ s ∈ waits (n : Int), (crashL waits left nk)[n]? = some s
  | [], left, _ => .inl rfl
  | p :: r, left, h => by
    have ih := crashL_in waits n r (if 0 < p.2 then left.set p.1.toNat ((waits p.1).getD (p.2.toNat - 1) ⟨#[]⟩) else left) (fun x hx => h x (by simp [hx]))
    have e : crashL waits left (p :: r) = crashL waits (if 0 < p.2 then left.set p.1.toNat ((waits p.1).getD (p.2.toNat - 1) ⟨#[]⟩) else left) r := rfl
    rw [e]
    obtain ⟨h0, h1⟩ := h p (by simp)
    rcases ih with ih | ih
    · rw [ih]
      by_cases hp : 0 < p.2
      · rw [if_pos hp]
        by_cases hn : p.1.toNat = n
        · subst hn
          by_cases hl : p.1.toNat < left.length
          · refine .inr ⟨(waits p.1).getD (p.2.toNat - 1) ⟨#[]⟩, ?_, List.getElem?_set_self hl⟩
            rw [show ((p.1.toNat : Nat) : Int) = p.1 by omega, List.getD_eq_getElem?_getD, List.getElem?_eq_getElem (h1 hp), Option.getD_some]
            exact List.getElem_mem _
          · left
            rw [List.getElem?_eq_none (by simp; omega), List.getElem?_eq_none (by omega)]
        · left
          rw [List.getElem?_set_ne hn]
      · rw [if_neg hp]; exact .inl rfl
    · exact .inr ih
theorem good_pairs {waits : Int → List ByteArray} {N : Nat} {keep : List Int} (h : goodKeep waits N keep) : ∀ p ∈ (waitKeys waits N).zip keep, 0 ≤ p.1 ∧ (0 < p.2 → p.2.toNat - 1 < (waits p.1).length) := by
  intro p hp
  obtain ⟨j, hj, rfl⟩ := List.getElem_of_mem hp
  rw [List.length_zip] at hj
  rw [List.getElem_zip]
  have h1 : j < (waitKeys waits N).length := by omega
  have h2 := ((goodKeep_iff _ _ _).1 h).2 j (by omega) h1
  refine ⟨(mem_waitKeys.1 (List.getElem_mem h1)).1, fun h3 => ?_⟩
  simp only at h3 ⊢
  omega
/-- What is read of sector i behind the crash. -/
def tornAt (L : List UInt8) (q : Nat) (ch : List UInt8) (i : Nat) : List UInt8 := (seenS (crashedS (tornS L 7) q ch).safe (crashedS (tornS L 7) q ch).waits (i : Int)).data.toList
theorem crashed_len (L : List UInt8) (q : Nat) (ch : List UInt8) (hq : q ≤ 7) : (crashedS (tornS L 7) q ch).safe.length = 8 := by
  show (crashL _ _ _).length = 8
  rw [length_crashL, tornS_cut L q hq, tornS_len]
theorem torn_cases (L : List UInt8) (q : Nat) (ch : List UInt8) (i : Nat) (hq : q ≤ 7) (hi : i < 8) : tornAt L q ch i = zerosL ∨ (i < q ∧ tornAt L q ch i = pieceS L i) := by
  have hb : blankS.data.toList = zerosL := blank_zeros
  unfold tornAt crashedS
  rw [seen_fresh, tornS_cut L q hq, List.getD_eq_getElem?_getD, show ((i : Int)).toNat = i by omega]
  rcases crashL_in (tornS L q).waits i _ (tornS L q).safe (good_pairs (good_keepL ch (tornS L q).waits (tornS L q).safe.length)) with h | ⟨s, hs, h⟩
  · left
    rw [h, tornS_safe, List.getElem?_replicate, if_pos hi]; exact hb
  · rw [tornS_waits] at hs
    by_cases h2 : i < q
    · rw [if_pos h2] at hs
      right
      rw [h, List.mem_singleton.1 hs]
      exact ⟨h2, rfl⟩
    · rw [if_neg h2] at hs
      simp at hs
theorem torn_length (L : List UInt8) (q : Nat) (ch : List UInt8) (i : Nat) (hL : L.length = 3584) (hq : q ≤ 7) (hi : i < 8) : (tornAt L q ch i).length = 512 := by
  rcases torn_cases L q ch i hq hi with h | ⟨h1, h⟩
  · rw [h]; exact length_zerosL
  · rw [h]; exact length_piece L i (by omega)
/-- What was read so far. -/
def tornGot (L : List UInt8) (q : Nat) (ch : List UInt8) : Nat → List UInt8
  | 0 => []
  | i + 1 => tornGot L q ch i ++ tornAt L q ch i
theorem length_tornGot (L : List UInt8) (q : Nat) (ch : List UInt8) (hL : L.length = 3584) (hq : q ≤ 7) : ∀ i, i ≤ 8 → (tornGot L q ch i).length = i * 512
  | 0, _ => rfl
  | i + 1, h => by
    rw [tornGot, List.length_append, length_tornGot L q ch hL hq i (by omega), torn_length L q ch i hL hq (by omega)]; omega
end Go.Proofs.YtllkkfeechojoaaDoor
