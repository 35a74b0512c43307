/- plates.has: is there a sector of that number? -/
import Derived.Test.YtabpfneihihmaaaDoorNil
namespace Go.Proofs.YtabpfneihihmaaaDoor
open Go.RowKit
set_option maxRecDepth 10000 in
theorem has_is (b o : Nat) (a : Option Addr) (len cap : Nat) (n : Int) (w : World) (hc : w.cell? ⟨b, o, none⟩ = some (.slice a len cap)) (r : Bool) (hr : decide (0 ≤ n ∧ n < (len : Int)) = r) :
    Calls Tryd.prog 15 #[.pointer (some ⟨b, o, none⟩), .int .i64 n] w fun e w' => e = .returned (.bool r) ∧ w' = w := by
  by_cases h0 : 0 ≤ n
  · by_cases h1 : n < (len : Int)
    · rw [decide_eq_true ⟨h0, h1⟩] at hr
      subst hr
      go_enter Tryd.func15, Tryd.ntmps15
      go_wp2
      go_ret
      exact ⟨rfl, rfl⟩
    · rw [decide_eq_false (fun h => h1 h.2)] at hr
      subst hr
      go_enter Tryd.func15, Tryd.ntmps15
      go_wp2
      go_ret
      exact ⟨rfl, rfl⟩
  · rw [decide_eq_false (fun h => h0 h.1)] at hr
    subst hr
    go_enter Tryd.func15, Tryd.ntmps15
    go_wp2
    go_ret
    exact ⟨rfl, rfl⟩
theorem has_any (b o : Nat) (a : Option Addr) (len cap : Nat) (n : Int) (w : World) (hc : w.cell? ⟨b, o, none⟩ = some (.slice a len cap)) :
    Calls Tryd.prog 15 #[.pointer (some ⟨b, o, none⟩), .int .i64 n] w fun e w' => e = .returned (.bool (decide (0 ≤ n ∧ n < (len : Int)))) ∧ w' = w := has_is b o a len cap n w hc _ rfl
end Go.Proofs.YtabpfneihihmaaaDoor
