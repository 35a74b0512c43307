/- What the functions of disk answer at a nil disk; sizes. Each in every world, which stays as it was. -/
import Derived.Test.YtabpfneihihmaaaDoorRows
import Derived.WalkKit
import Derived.ProofKit
import Derived.Handy
import Derived.WalkSmall
namespace Go.Proofs.YtabpfneihihmaaaDoor
open Go.RowKit
theorem read_nil (n : Int) (w : World) : Calls Tryd.prog 8 #[.pointer none, .int .i64 n] w fun e w' => e = .returned (.tuple #[.slice none 0 0, .int .i64 1]) ∧ w' = w := by
  go_enter Tryd.func8, Tryd.ntmps8
  go_wp2
  go_returns
  exact ⟨rfl, rfl⟩
theorem crash_nil (v : Value) (w : World) : Calls Tryd.prog 7 #[.pointer none, v] w fun e w' => e = .returned (.tuple #[.pointer none, .int .i64 1]) ∧ w' = w := by
  go_enter Tryd.func7, Tryd.ntmps7
  go_wp2
  go_returns
  exact ⟨rfl, rfl⟩
theorem write_nil (n : Int) (v : Value) (w : World) : Calls Tryd.prog 5 #[.pointer none, .int .i64 n, v] w fun e w' => e = .returned (.int .i64 1) ∧ w' = w := by
  go_enter Tryd.func5, Tryd.ntmps5
  go_wp2
  go_ret
  exact ⟨rfl, rfl⟩
theorem flush_nil (w : World) : Calls Tryd.prog 6 #[.pointer none] w fun e w' => e = .returned (.int .i64 1) ∧ w' = w := by
  go_enter Tryd.func6, Tryd.ntmps6
  go_wp2
  go_ret
  exact ⟨rfl, rfl⟩
theorem run_nil_in (d : Nat) (t : TypeId) (a : Addr) (h : Tryd.prog.underlying t = some (.pointer (Tryd.prog.pointee t))) (w : World) : (Op.equalIn (d + 1) t (.pointer none) (.pointer (some a))).run Tryd.prog w = .ok false w := by
  simp [Op.equalIn, run_underlying h]
theorem run_nil_eql (t : TypeId) (a : Addr) (h : Tryd.prog.underlying t = some (.pointer (Tryd.prog.pointee t))) (w : World) : (binOp .eql t (.pointer none) (.pointer (some a))).run Tryd.prog w = .ok (.bool false) w := by
  have he : (Op.equal t (.pointer none) (.pointer (some a))).run Tryd.prog w = .ok false w := run_nil_in 9999 t a h w
  simp only [binOp]
  simp [he]
theorem isSize_any (n : Int) (w : World) : Calls Tryd.prog 11 #[.int .i64 n] w fun e w' => e = .returned (.bool (decide (1 ≤ n ∧ n ≤ 4096))) ∧ w' = w := by
  by_cases h1 : 1 ≤ n
  · by_cases h2 : n ≤ 4096
    · go_enter Tryd.func11, Tryd.ntmps11
      go_wp2
      go_ret
      exact ⟨by simp [h1, h2], rfl⟩
    · go_enter Tryd.func11, Tryd.ntmps11
      go_wp2
      go_ret
      exact ⟨by simp [h2], rfl⟩
  · go_enter Tryd.func11, Tryd.ntmps11
    go_wp2
    go_ret
    exact ⟨by rw [decide_eq_false (fun h => by omega)]; rfl, rfl⟩
end Go.Proofs.YtabpfneihihmaaaDoor
