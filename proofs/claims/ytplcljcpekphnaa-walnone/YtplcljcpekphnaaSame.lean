/- disk.Same: are two disks read alike? -/
import Derived.Test.YtplcljcpekphnaaInts
import Derived.BigQuiet
namespace Go.Proofs.Ytplcljcpekphnaa
open Go.RowKit
theorem toList_ne {s t : ByteArray} (h : ¬ s = t) : (s.toList == t.toList) = false := by
  rw [beq_eq_false_iff_ne]
  intro e
  rw [ByteArray.toList_eq, ByteArray.toList_eq] at e
  exact h (WideShapes.bytes_inj e)
/-- All sectors as they are read. -/
def imgS (S : DiskS) : List ByteArray := (List.range S.safe.length).map (fun n : Nat => seenS S.safe S.waits (n : Int))
theorem length_imgS (S : DiskS) : (imgS S).length = S.safe.length := by simp [imgS]
theorem imgS_at (S : DiskS) (k : Nat) (h : k < (imgS S).length) : (imgS S)[k] = seenS S.safe S.waits (k : Int) := by simp [imgS]
end Go.Proofs.Ytplcljcpekphnaa
