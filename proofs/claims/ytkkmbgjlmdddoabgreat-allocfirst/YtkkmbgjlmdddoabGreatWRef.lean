/- The reference: Fork; head and Open of a disk of noughts; law03's open. -/
import Derived.Test.YtkkmbgjlmdddoabGreatBaseD
import Derived.Test.YtkkmbgjlmdddoabGreatBaseB
namespace Go.Proofs.YtkkmbgjlmdddoabGreat
open Go.RowKit
theorem okR_fresh (n : Nat) (hn : n ≤ 4096) : okR (rfresh n) := by
  refine ⟨by rw [rfresh_length]; exact hn, fun l hl => ?_, fun o ho => by simp [rfresh] at ho⟩
  have : l = zeros := by
    obtain ⟨i, hi, rfl⟩ := List.mem_iff_getElem.1 hl
    exact rfresh_at n i hi
  rw [this]; exact length_zeros
def freshN (n : Nat) : DiskS := freshS (List.replicate n blankS)
theorem freshN_len (n : Nat) : (freshN n).safe.length = n := by simp [freshN, freshS]
theorem freshN_seen (n k : Nat) (h : k < n) : seenS (freshN n).safe (freshN n).waits (k : Int) = blankS := by
  show (if ([] : List ByteArray) = [] then (List.replicate n blankS).getD ((k : Int)).toNat ⟨#[]⟩ else _) = _
  rw [if_pos rfl, show ((k : Int)).toNat = k by omega, List.getD_eq_getElem?_getD, List.getElem?_eq_getElem (by simpa using h), Option.getD_some, List.getElem_replicate]
end Go.Proofs.YtkkmbgjlmdddoabGreat
