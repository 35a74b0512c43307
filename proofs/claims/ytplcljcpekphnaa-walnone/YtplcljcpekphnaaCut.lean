/- disk.Disk.Cut: the disk as it stood behind its first k ops. -/
import Derived.Test.YtplcljcpekphnaaCutPlain
import Derived.Test.YtplcljcpekphnaaJoined1
namespace Go.Proofs.Ytplcljcpekphnaa
open Go.RowKit Go.Maps
/-- A disk whose ops lie in a list that is another's: full, and only read. -/
structure CutIn (w : World) (d : DL) (S : DiskS) : Prop where
  rd : DiskRd w d S
  ops : ∃ a, d.ov = .slice a S.ops.length S.ops.length ∧ (a = none → S.ops = []) ∧ ∀ b, a = some b → (∀ j u, (S.ops.map encOp)[j]? = some u → w.cell? (b.add j) = some u) ∧ b.block < w.heap.size
  first : ∃ ad c, d.fv = .slice (some ad) S.first.length c ∧ (∀ j s, S.first[j]? = some s → w.cell? (ad.add j) = some (.string s)) ∧ ¬ (ad.block = d.p ∨ d.L.foot S.waits ad.block)
  flen : S.first.length = S.safe.length
set_option maxRecDepth 100000 in
theorem noted_some (p : Nat) (oa : Addr) (n oc k : Nat) (w : World) (c1 : w.cell? ⟨p, 1, none⟩ = some (.slice (some oa) n oc)) (hk : k ≤ n) (hn : n ≤ oc) :
    Calls Try.prog 27 #[.pointer (some ⟨p, 0, none⟩), .int .i64 k] w fun e w' => e = .returned (.slice (some oa) k k) ∧ w' = w := by
  have hk0 : (0 : Int) ≤ (k : Int) := by omega
  have hk1 : (k : Int) ≤ (oc : Int) := by omega
  go_enter Try.func27, Try.ntmps27
  go_wp2
  go_ret
  exact ⟨rfl, rfl⟩
set_option maxRecDepth 100000 in
theorem noted_none (p : Nat) (w : World) (c1 : w.cell? ⟨p, 1, none⟩ = some (.slice none 0 0)) :
    Calls Try.prog 27 #[.pointer (some ⟨p, 0, none⟩), .int .i64 0] w fun e w' => e = .returned (.slice none 0 0) ∧ w' = w := by
  go_enter Try.func27, Try.ntmps27
  go_wp2
  go_ret
  exact ⟨rfl, rfl⟩
end Go.Proofs.Ytplcljcpekphnaa
