/- law03's all: all pages as they are now. -/
import Derived.Test.YtkkmbgjlmdddoabGreatBaseD
import Derived.Test.YtkkmbgjlmdddoabGreatBaseB
import Derived.Test.YtkkmbgjlmdddoabGreatLogged
namespace Go.Proofs.YtkkmbgjlmdddoabGreat
open Go.RowKit
/-- All pages, a hundred at most. -/
def allL (S : DiskS) (size : Nat) : List (List UInt8) := (List.range (min (pagesS S size) 100)).map (fun n => secL S (1 + size + n))
theorem length_allL (S : DiskS) (size : Nat) : (allL S size).length = min (pagesS S size) 100 := by simp [allL]
theorem allL_at (S : DiskS) (size i : Nat) (h : i < (allL S size).length) : (allL S size)[i] = secL S (1 + size + i) := by simp [allL]
theorem bytesIn_of {w : World} {b : Nat} {L : List UInt8} (h : bytesAt w ⟨b, 0, none⟩ L) : bytesIn w (some ⟨b, 0, none⟩) L := fun _ _ => ⟨b, 0, rfl, fun i hi => by
  have := h i hi
  rw [Addr.add_mid] at this
  exact this⟩
section
variable {p : Nat} {d : DL} {S : DiskS} {size rec : Nat} {F : Nat → Prop}
end
end Go.Proofs.YtkkmbgjlmdddoabGreat
