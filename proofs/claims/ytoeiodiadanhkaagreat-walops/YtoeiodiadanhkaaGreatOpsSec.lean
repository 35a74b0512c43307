/- disk.Disk.Ops, Sectors. -/
import Derived.Test.YtoeiodiadanhkaaGreatJoined1
namespace Go.Proofs.YtoeiodiadanhkaaGreat
open Go.RowKit
set_option maxRecDepth 100000 in
theorem ops_disk_rd (d : DL) (S : DiskS) (w : World) (h : DiskRd w d S) : Calls Tryz.prog 28 #[.pointer (some ⟨d.p, 0, none⟩)] w fun e w' => e = .returned (.int .i64 S.ops.length) ∧ w' = w := by
  obtain ⟨sa, cap, e⟩ := h.ov
  have c1 : w.cell? ⟨d.p, 1, none⟩ = some (.slice sa S.ops.length cap) := by rw [cell_of_block h.heap, ← e]; rfl
  clear h e
  go_enter Tryz.func28, Tryz.ntmps28
  go_wp2
  go_ret
  exact ⟨rfl, rfl⟩
theorem ops_disk (d : DL) (S : DiskS) (w : World) (h : DiskIn w d S) : Calls Tryz.prog 28 #[.pointer (some ⟨d.p, 0, none⟩)] w fun e w' => e = .returned (.int .i64 S.ops.length) ∧ w' = w :=
  ops_disk_rd d S w h.rd
set_option maxRecDepth 100000 in
theorem sectors_disk_rd (d : DL) (S : DiskS) (w : World) (h : DiskRd w d S) : Calls Tryz.prog 60 #[.pointer (some ⟨d.p, 0, none⟩)] w fun e w' => e = .returned (.int .i64 S.safe.length) ∧ w' = w := by
  have c2 : w.cell? ⟨d.p, 2, none⟩ = some (.slice (some ⟨d.L.g, 0, none⟩) S.safe.length d.L.cap) := by rw [cell_of_block h.heap]; rfl
  clear h
  go_enter Tryz.func60, Tryz.ntmps60
  go_wp2
  go_ret
  exact ⟨rfl, rfl⟩
theorem sectors_disk (d : DL) (S : DiskS) (w : World) (h : DiskIn w d S) : Calls Tryz.prog 60 #[.pointer (some ⟨d.p, 0, none⟩)] w fun e w' => e = .returned (.int .i64 S.safe.length) ∧ w' = w :=
  sectors_disk_rd d S w h.rd
end Go.Proofs.YtoeiodiadanhkaaGreat
