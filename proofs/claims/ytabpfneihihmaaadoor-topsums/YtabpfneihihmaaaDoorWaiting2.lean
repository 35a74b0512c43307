/- disk.Disk.Waiting: the sectors that wait, and of each how many writes. -/
import Derived.Test.YtabpfneihihmaaaDoorWaiting
import Derived.Deep.Onto
namespace Go.Proofs.YtabpfneihihmaaaDoor
open Go.RowKit Go.Maps
/-- Of each sector that waits how many of its writes do. -/
def waitCounts (waits : Int → List ByteArray) (N : Nat) : List Int := (waitKeys waits N).map (fun k => ((waits k).length : Int))
theorem infoInt : (Tryd.prog.info? 3).map (fun i => (i.zero, i.size, i.bytes)) = some (some (.int .i64 0), 1, 8) := by kernel_rfl
theorem length_waitKeys (waits : Int → List ByteArray) (N : Nat) : (waitKeys waits N).length ≤ N := by
  unfold waitKeys; exact Nat.le_trans (List.length_filter_le _ _) (by simp)
theorem counts_step (ks : List Int) (f : Int → Int) (k : Nat) (hk : k < ks.length) : ((ks.map f).take k).map encZ ++ [.int .i64 (f ks[k])] = ((ks.map f).take (k + 1)).map encZ := by
  have hk' : k < (ks.map f).length := by simpa using hk
  rw [List.take_succ_eq_append_getElem hk']
  simp
end Go.Proofs.YtabpfneihihmaaaDoor
