/- The walk of WalOpens. -/
import Derived.Test.YtjgclmlclkfgpaaGreatWMid
import Derived.Test.YtjgclmlclkfgpaaGreatWHead
import Derived.Test.YtjgclmlclkfgpaaGreatAllP
import Derived.Test.YtjgclmlclkfgpaaGreatBaseB
import Derived.Test.YtjgclmlclkfgpaaGreatBaseD
namespace Go.Proofs.YtjgclmlclkfgpaaGreat
open Go.RowKit
section
variable {p : Nat} {d : DL} {S : DiskS} {size rec : Nat} {F : Nat → Prop}
end
theorem allL_lens {S : DiskS} (h : Made S) (size : Nat) (hs : size + 1 ≤ S.safe.length) : ∀ l ∈ allL S size, l.length = 512 := fun l hl => by
  obtain ⟨i, hi, rfl⟩ := List.mem_iff_getElem.1 hl
  rw [allL_at]
  rw [length_allL] at hi
  exact h.sec _ (by unfold pagesS at hi; omega)
end Go.Proofs.YtjgclmlclkfgpaaGreat
