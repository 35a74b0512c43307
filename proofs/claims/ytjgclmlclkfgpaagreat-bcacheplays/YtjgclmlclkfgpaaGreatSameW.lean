/- law03's same(d, r): a disk and the reference that are alike are told so. -/
import Derived.Test.YtjgclmlclkfgpaaGreatBaseB
import Derived.Test.YtjgclmlclkfgpaaGreatBaseA
namespace Go.Proofs.YtjgclmlclkfgpaaGreat
open Go.RowKit
theorem ok_bytesW {L : List (List UInt8)} (h : ∀ l ∈ L, l.length = 512) : ∀ l ∈ L, l.length < 4611686018427387904 := fun l hl => by have := h l hl; omega
theorem atL_512W {R : RefS} (h : okR R) : ∀ k, ∀ l ∈ atL R k, l.length = 512
  | 0, l, hl => h.2.1 l hl
  | k + 1, l, hl => by
    have ih := atL_512W h k
    rw [atL_succ] at hl
    cases e : R.l[k]? with
    | none => rw [e] at hl; exact ih l hl
    | some o =>
      rw [e] at hl
      simp only at hl
      split at hl
      · exact ih l hl
      · rename_i hf
        rcases List.mem_or_eq_of_mem_set hl with h1 | h1
        · exact ih l h1
        · rw [h1]; exact (h.2.2 o (List.mem_of_getElem? e) (by simpa using hf)).2.2
end Go.Proofs.YtjgclmlclkfgpaaGreat
