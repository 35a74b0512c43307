/- live answers true. -/
import Derived.Test.YtabpfneihihmaaaDoorCrash
import Derived.Test.YtabpfneihihmaaaDoorRead
import Derived.Test.YtabpfneihihmaaaDoorDeed
namespace Go.Proofs.YtabpfneihihmaaaDoor
open Go.RowKit Go.Maps
/-- So many bytes of one kind. -/
def fullS (n : Nat) (x : Int) : List UInt8 := List.replicate n (UInt8.ofNat x.toNat)
theorem bytes_full {w : World} {g n : Nat} {x : Int} {t : TypeId} {fr : Nat × Nat} (h : w.heap[g]? = some (.cells (List.replicate n (Value.int .u8 x)).toArray t fr)) (h0 : 0 ≤ x) (h1 : x ≤ 255) : bytesAt w ⟨g, 0, none⟩ (fullS n x) := by
  intro j hj
  have hj' : j < n := by simpa [fullS] using hj
  rw [Addr.add_mid, Nat.zero_add, cell_of_block h]
  have e : ((UInt8.ofNat x.toNat).toNat : Int) = x := by
    rw [UInt8.toNat_ofNat_of_lt' (by simp [UInt8.size]; omega)]; omega
  have e2 : (fullS n x)[j] = UInt8.ofNat x.toNat := by simp [fullS]
  rw [e2, e]
  simp [hj']
theorem length_full (n : Nat) (x : Int) : (fullS n x).length = n := by simp [fullS]
theorem deedLen512 : deedLen 512 = 512 := by decide
theorem Keeps.thenBelow {F : Nat → Prop} {a b : World} {K : Nat} {w : World} (hb : Below K w a) (h : Keeps F a b) (hK : K ≤ w.heap.size) (hF : ∀ i, F i → K ≤ i) : Below K w b := hb.trans (h.below (Nat.le_trans hK hb.size) hF)
def liveS : DiskS := ((freshS (List.replicate 2 blankS)).wrote 1 ⟨(fullS 512 7).toArray⟩).wrote 1 ⟨(fullS 512 8).toArray⟩
theorem put_live1 : (freshS (List.replicate 2 blankS)).put 1 (fullS 512 7) = (freshS (List.replicate 2 blankS)).wrote 1 ⟨(fullS 512 7).toArray⟩ := by
  rw [DiskS.put, if_pos]; simp [errW, freshS, length_full]
theorem put_live2 : ((freshS (List.replicate 2 blankS)).put 1 (fullS 512 7)).put 1 (fullS 512 8) = liveS := by
  rw [put_live1, DiskS.put, if_pos]
  · rfl
  · simp [errW, freshS, length_full, DiskS.wrote]
theorem liveS_waits : liveS.waits 1 = [⟨(fullS 512 7).toArray⟩, ⟨(fullS 512 8).toArray⟩] := by
  simp [liveS, DiskS.wrote, upd, freshS]
theorem liveS_keys : waitKeys liveS.waits 2 = [1] := by
  simp [waitKeys, List.range_succ, liveS, DiskS.wrote, upd, freshS]
theorem liveS_counts : waitCounts liveS.waits 2 = [2] := by
  rw [waitCounts, liveS_keys]; simp [liveS_waits]
theorem liveS_good : goodKeep liveS.waits 2 [1] := by
  rw [goodKeep_iff, liveS_keys]
  refine ⟨by simp, fun j hj hj' => ?_⟩
  obtain rfl : j = 0 := by simp at hj; omega
  simp [liveS_waits]
theorem liveS_crash : crashL liveS.waits liveS.safe ([1].zip [1]) = [blankS, ⟨(fullS 512 7).toArray⟩] := by
  have h2 : liveS.safe = [blankS, blankS] := rfl
  rw [h2]
  simp [crashL, liveS_waits]
end Go.Proofs.YtabpfneihihmaaaDoor
