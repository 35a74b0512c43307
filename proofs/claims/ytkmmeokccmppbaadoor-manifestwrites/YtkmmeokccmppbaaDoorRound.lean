/- One round of SHA-256: math/bits.RotateLeft32, digest.turned and spread return just what the plain functions say, at every argument and in every world; of what was there before the call nothing has turned. -/
import Derived.Test.YtkmmeokccmppbaaDoorRows
import Derived.Test.YtkmmeokccmppbaaDoorPlain
import Derived.WalkKit
import Derived.ProofKit
import Derived.OpenShut
import Derived.Handy
import Derived.WalkSmall
import Derived.BigQuiet
import Derived.Deep.QuietTactic
namespace Go.Proofs.YtkmmeokccmppbaaDoor
open Go.RowKit
attribute [local go_sem ↓] op_add op_xor op_and op_or op_not op_shl op_shr
attribute [local go_sem] U_not' u32_unsigned

set_option maxRecDepth 100000 in
theorem rot (x : UInt32) (k : Int) (s : Nat) (h0 : 0 < s) (hs : s < 32) (hk : bits .and .u64 (IntKind.u64.wrap k) 31 = s) (w : World) :
    Calls Tryd.prog 32 #[.int .u32 (U x), .int .i64 k] w fun e w' => e = .returned (.int .u32 (U (rotl x s))) ∧ w' = w := by
  go_enter Tryd.func32, Tryd.ntmps32
  go_wp2
  go_ret
  refine ⟨?_, rfl⟩
  have e1 := U_shl x s hs
  have e2 := U_shr x (32 - s) (by omega)
  rw [IntKind.wrap_u32'] at e1
  show Ending.returned (.int .u32 (bits .or .u32 (U x * 2 ^ s % 4294967296) (U x / 2 ^ (32 - s)))) = _
  rw [e1, e2, U_or]; rfl
/-- How far a count turns. -/
def rk (k : Int) : Nat := (bits .and .u64 (IntKind.u64.wrap k) 31).toNat
set_option maxRecDepth 100000 in
theorem rotk (x : UInt32) (k : Int) (h : decide (0 < rk k ∧ rk k < 32 ∧ bits .and .u64 (IntKind.u64.wrap k) 31 = rk k) = true) (w : World) :
    Calls Tryd.prog 32 #[.int .u32 (U x), .int .i64 k] w fun e w' => e = .returned (.int .u32 (U (rotl x (rk k)))) ∧ w' = w :=
  rot x k (rk k) (of_decide_eq_true h).1 (of_decide_eq_true h).2.1 (of_decide_eq_true h).2.2 w
set_option maxRecDepth 100000 in
theorem rks : rk (-2) = 30 ∧ rk (-6) = 26 ∧ rk (-7) = 25 ∧ rk (-11) = 21 ∧ rk (-13) = 19 ∧ rk (-17) = 15 ∧ rk (-18) = 14 ∧ rk (-19) = 13 ∧ rk (-22) = 10 ∧ rk (-25) = 7 := by decide +kernel

set_option maxRecDepth 100000 in
set_option maxHeartbeats 1000000 in
theorem turned_any (s : St) (x : UInt32) (w : World) :
    Calls Tryd.prog 31 #[.agg #[W s.a, W s.b, W s.c, W s.d, W s.e, W s.f, W s.g, W s.h], W x] w fun e w' =>
      e = .returned (.agg #[W (turnS s x).a, W (turnS s x).b, W (turnS s x).c, W (turnS s x).d, W (turnS s x).e, W (turnS s x).f, W (turnS s x).g, W (turnS s x).h]) ∧ Below w.heap.size w w' := by
  obtain ⟨a, b, c, d, e, f, g, h⟩ := s
  go_enter Tryd.func31, Tryd.ntmps31
  go_wp2
  go_quiet (fail)
  go_wp2_with (go_at_call 32; refine (rotk _ _ (by decide +kernel) _).mono ?_; rintro e w' ⟨rfl, rfl⟩)
  go_returns
  refine ⟨?_, ?_⟩
  · obtain ⟨r1, r2, _, r4, r5, _, _, _, r9, r10⟩ := rks
    simp only [r1, r2, r4, r5, r9, r10]
    rfl
  · repeat' (first | (with_reducible exact Below.refl _ _) | (with_reducible refine Below.setCell ?_ ?_ _) | (with_reducible refine below_drewN ?_ _) | (with_reducible refine Below.alloc ?_ ?_ _) | (simp; done))

set_option maxRecDepth 100000 in
set_option maxHeartbeats 1000000 in
theorem spread_any (ws : List UInt32) (hl : ws.length = 16) (t : Nat) (ht : t < 64) (w : World) :
    Calls Tryd.prog 30 #[.agg (ws.map W).toArray, .int .i64 t] w fun e w' => e = .returned (W (spreadS ws t)) ∧ Below w.heap.size w w' := by
  have h1 : ws[(t + 1) % 16]? = some (ws.getD ((t + 1) % 16) 0) := by simp [List.getD, List.getElem?_eq_getElem (show (t + 1) % 16 < ws.length by omega)]
  have h9 : ws[(t + 9) % 16]? = some (ws.getD ((t + 9) % 16) 0) := by simp [List.getD, List.getElem?_eq_getElem (show (t + 9) % 16 < ws.length by omega)]
  have h14 : ws[(t + 14) % 16]? = some (ws.getD ((t + 14) % 16) 0) := by simp [List.getD, List.getElem?_eq_getElem (show (t + 14) % 16 < ws.length by omega)]
  have hS : Hid (spreadS ws t = low (ws.getD ((t + 1) % 16) 0) + ws.getD ((t + 9) % 16) 0 + high (ws.getD ((t + 14) % 16) 0)) := rfl
  generalize ws.getD ((t + 1) % 16) 0 = x at *
  generalize ws.getD ((t + 9) % 16) 0 = z at *
  generalize ws.getD ((t + 14) % 16) 0 = y at *
  go_enter Tryd.func30, Tryd.ntmps30
  go_wp2
  go_quiet (fail)
  go_wp2_with (go_at_call 32; refine (rotk _ _ (by decide +kernel) _).mono ?_; rintro e w' ⟨rfl, rfl⟩)
  go_ret
  refine ⟨?_, ?_⟩
  · obtain ⟨_, _, r3, _, _, r6, r7, r8, _, _⟩ := rks
    rw [hS.out]; unfold low high; rw [← r3, ← r6, ← r7, ← r8]
    rfl
  · repeat' (first | (with_reducible exact Below.refl _ _) | (with_reducible refine Below.setCell ?_ ?_ _) | (with_reducible refine below_drewN ?_ _) | (with_reducible refine Below.alloc ?_ ?_ _) | (simp; done))
end Go.Proofs.YtkmmeokccmppbaaDoor
