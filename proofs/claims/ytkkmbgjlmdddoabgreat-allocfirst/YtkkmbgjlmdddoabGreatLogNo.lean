/- Log.Read of a page that is none. -/
import Derived.Test.YtkkmbgjlmdddoabGreatBaseD
namespace Go.Proofs.YtkkmbgjlmdddoabGreat
open Go.RowKit
section
variable {p : Nat} {d : DL} {S : DiskS} {size rec : Nat} {F : Nat → Prop}
set_option maxRecDepth 100000 in
set_option maxHeartbeats 1000000 in
theorem log_read_no (n : Int) (w : World) (h : LogIn w p d S size rec F) (hs : size + 1 ≤ S.safe.length) (hn : ¬ (0 ≤ n ∧ n < (pagesS S size : Nat))) :
    Calls Tryz.prog 59 #[.pointer (some ⟨p, 0, none⟩), .int .i64 n] w fun e w' => e = .returned (.tuple #[.slice none 0 0, .int .i64 2]) ∧ Below w.heap.size w w' := by
  have hh := lay_has d S size n w h.disk.rd hs
  rw [decide_eq_false hn] at hh
  have HH := hid hh
  unfold layV at HH
  have c0 : w.cell? ⟨p, 0, none⟩ = some (.pointer (some ⟨d.p, 0, none⟩)) := cell_of_block h.heap 0
  have c1 : w.cell? ⟨p, 1, none⟩ = some (.int .i64 size) := cell_of_block h.heap 1
  clear h hh hn
  go_enter Tryz.func59, Tryz.ntmps59
  go_wp2_with fail
  refine HH.out.mono ?_
  clear HH
  rintro e w1 ⟨rfl, hb1⟩
  have HB1 := hid hb1
  clear hb1 c0 c1
  go_wp2
  go_returns
  exact ⟨rfl, HB1.out⟩
end
end Go.Proofs.YtkkmbgjlmdddoabGreat
