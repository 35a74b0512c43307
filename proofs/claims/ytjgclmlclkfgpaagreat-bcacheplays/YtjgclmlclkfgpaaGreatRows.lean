/-
  No cell of these rows narrows 'for every input' (looked for: loops, veiled, ifaces, maps, wideKeys, modest, calm, conditions, laid).
  DERIVED. THE GIVEN ROWS OF THIS SEAT. 4 by the template 'for every input the law returns true; each argument reads behind the call as it read before'; 0 by the template 'total and deterministic' (their statements: YtjgclmlclkfgpaaGreatTotals.lean).
  GIVEN WITH THE SEED: the statements are not yours to turn. If you find one false, say at which input.
  Laid BY PROGRAM, IN A SANDBOX (cutbox-rows.mjs): the forced cells as the released guide's own fill.sh prints them over the translation 1f1ba698b9af0dac… (all of the seat's roots in one cut). By AI agents, Wed Nov 11 2026. No macro, syntax, notation, axiom, sorry.
-/
import Derived.Test.YtjgclmlclkfgpaaGreatChecked
import GoSem.Claim
import GoSem.ClaimJoined
import GoSem.ClaimMapViews
import Derived.JoinedTies
import Derived.KernelRfl
namespace Go.Proofs.YtjgclmlclkfgpaaGreat
/- THE CELL 'sum', in the pinned program and in every row, IS THE sha256 OF THE DUMP (.gsa) THAT YtjgclmlclkfgpaaGreatProg.lean LOADS. Nothing in Lean hashes anything: it is a label: what it is worth is what the hold of that sum in a sandbox is worth. -/
noncomputable def Tryz.pinned : Pinned := { name := "ytjgclmlclkfgpaagreat", sum := "1f1ba698b9af0dac72f2d19a1497147706148802e3559417d462142f2533c4b6", checked := Tryz.checked }
namespace Rows
def none {H : Type} : Left H := { results := [], args := [] }

/-- 'dunnagelaw04.BcachePlays': WHATEVER THE INPUT: true; the input reads as it did. -/
def bcachePlaysSpec : ChangeSpec := { name := "bcachePlays", fn := fun _ => fun
  | [d1, d2, d3] => { results := [.lit (.bool true)], args := [d1, d2, d3] }
  | _ => none }
def bcachePlaysRow : OpenClaim := { program := "ytjgclmlclkfgpaagreat", sum := "1f1ba698b9af0dac72f2d19a1497147706148802e3559417d462142f2533c4b6", func := "dunnage/dunnagelaw04.BcachePlays", spec := "bcachePlays", inPlace := ["internal/abi.NoEscape", "internal/bytealg.MakeNoZero"], unfollowed := true, recurses := true, apart := false }
def BcachePlaysSaid : Prop := bcachePlaysRow.holds Tryz.pinned (OpenSpec.ofChange bcachePlaysSpec)

/-- ITS FALSE NEIGHBOUR: 'it returns false'. Refute it at one input. -/
def bcachePlaysWrong : ChangeSpec := { name := "bcachePlays", fn := fun _ => fun
  | [d1, d2, d3] => { results := [.lit (.bool false)], args := [d1, d2, d3] }
  | _ => none }
def BcachePlaysWrongFalsely : Prop := bcachePlaysRow.holds Tryz.pinned (OpenSpec.ofChange bcachePlaysWrong)

/-- 'dunnagelaw04.BcacheSame': WHATEVER THE INPUT: true; the input reads as it did. -/
def bcacheSameSpec : ChangeSpec := { name := "bcacheSame", fn := fun _ => fun
  | [d1, d2, d3] => { results := [.lit (.bool true)], args := [d1, d2, d3] }
  | _ => none }
def bcacheSameRow : OpenClaim := { program := "ytjgclmlclkfgpaagreat", sum := "1f1ba698b9af0dac72f2d19a1497147706148802e3559417d462142f2533c4b6", func := "dunnage/dunnagelaw04.BcacheSame", spec := "bcacheSame", inPlace := ["internal/abi.NoEscape", "internal/bytealg.MakeNoZero"], unfollowed := true, recurses := true, apart := false }
def BcacheSameSaid : Prop := bcacheSameRow.holds Tryz.pinned (OpenSpec.ofChange bcacheSameSpec)

/-- ITS FALSE NEIGHBOUR: 'it returns false'. Refute it at one input. -/
def bcacheSameWrong : ChangeSpec := { name := "bcacheSame", fn := fun _ => fun
  | [d1, d2, d3] => { results := [.lit (.bool false)], args := [d1, d2, d3] }
  | _ => none }
def BcacheSameWrongFalsely : Prop := bcacheSameRow.holds Tryz.pinned (OpenSpec.ofChange bcacheSameWrong)

/-- 'dunnagelaw04.BcacheCrashes': WHATEVER THE INPUT: true; the input reads as it did. -/
def bcacheCrashesSpec : ChangeSpec := { name := "bcacheCrashes", fn := fun _ => fun
  | [d1, d2, d3] => { results := [.lit (.bool true)], args := [d1, d2, d3] }
  | _ => none }
def bcacheCrashesRow : OpenClaim := { program := "ytjgclmlclkfgpaagreat", sum := "1f1ba698b9af0dac72f2d19a1497147706148802e3559417d462142f2533c4b6", func := "dunnage/dunnagelaw04.BcacheCrashes", spec := "bcacheCrashes", inPlace := ["internal/abi.NoEscape", "internal/bytealg.MakeNoZero"], unfollowed := true, recurses := true, apart := false }
def BcacheCrashesSaid : Prop := bcacheCrashesRow.holds Tryz.pinned (OpenSpec.ofChange bcacheCrashesSpec)

/-- ITS FALSE NEIGHBOUR: 'it returns false'. Refute it at one input. -/
def bcacheCrashesWrong : ChangeSpec := { name := "bcacheCrashes", fn := fun _ => fun
  | [d1, d2, d3] => { results := [.lit (.bool false)], args := [d1, d2, d3] }
  | _ => none }
def BcacheCrashesWrongFalsely : Prop := bcacheCrashesRow.holds Tryz.pinned (OpenSpec.ofChange bcacheCrashesWrong)

/-- 'dunnagetop.TopPages': WHATEVER THE INPUT: true; the input reads as it did. -/
def topPagesSpec : ChangeSpec := { name := "topPages", fn := fun _ => fun
  | [d1, d2, d3] => { results := [.lit (.bool true)], args := [d1, d2, d3] }
  | _ => none }
def topPagesRow : OpenClaim := { program := "ytjgclmlclkfgpaagreat", sum := "1f1ba698b9af0dac72f2d19a1497147706148802e3559417d462142f2533c4b6", func := "dunnage/dunnagetop.TopPages", spec := "topPages", inPlace := ["internal/abi.NoEscape", "internal/bytealg.MakeNoZero"], unfollowed := true, recurses := true, apart := false }
def TopPagesSaid : Prop := topPagesRow.holds Tryz.pinned (OpenSpec.ofChange topPagesSpec)

/-- ITS FALSE NEIGHBOUR: 'it returns false'. Refute it at one input. -/
def topPagesWrong : ChangeSpec := { name := "topPages", fn := fun _ => fun
  | [d1, d2, d3] => { results := [.lit (.bool false)], args := [d1, d2, d3] }
  | _ => none }
def TopPagesWrongFalsely : Prop := topPagesRow.holds Tryz.pinned (OpenSpec.ofChange topPagesWrong)

/- THE SECOND FORM. 'bulk': how many values and letters a reading holds, each counted each time it is reached (what is shared counts as often as it is met; a slice's spare places count too). A statement '..UptoSaid' is the law's where the arguments, and the package variables that the reading takes, are together of bulk at most 1048576: NARROWER than '..Said'. Prove '..Said' where nothing that the law and all that it calls make is longer than what came in: it says more and counts as full. Else prove '..UptoSaid'. A law counts once. -/
mutual
def uptoBulk {H : Type} : DataW H → Nat
  | .lit (.string bytes) => bytes.length + 1
  | .lit _ => 1
  | .nil => 1
  | .ptr d => uptoBulk d + 1
  | .slice elems spare => uptoBulkAll elems + uptoBulkAll spare + 1
  | .agg parts => uptoBulkAll parts + 1
  | .iface _ d => uptoBulk d + 1
  | .map entries => uptoBulkEntries entries + 1
  | .held _ => 1
def uptoBulkAll {H : Type} : List (DataW H) → Nat
  | [] => 0
  | d :: r => uptoBulk d + uptoBulkAll r
def uptoBulkEntries {H : Type} : List (Lit × DataW H) → Nat
  | [] => 0
  | x :: r => uptoBulkEntry x + uptoBulkEntries r
def uptoBulkEntry {H : Type} : Lit × DataW H → Nat
  | (.string bytes, d) => bytes.length + uptoBulk d + 1
  | (_, d) => uptoBulk d + 1
 end
def uptoSmall : (H : Type) → List (DataW H) → Bool := fun _ ds => decide (uptoBulkAll ds ≤ 1048576)
def OpenSpec.upto (s : _root_.Go.ChangeSpec) : _root_.Go.OpenSpec := { _root_.Go.OpenSpec.ofChange s with cond := some uptoSmall }

/-- 'dunnagelaw04.BcachePlays', WHERE WHAT IT READS IS OF BULK AT MOST 1048576: true; the input reads as it did. -/
def bcachePlaysUptoRow : OpenClaim := { program := "ytjgclmlclkfgpaagreat", sum := "1f1ba698b9af0dac72f2d19a1497147706148802e3559417d462142f2533c4b6", func := "dunnage/dunnagelaw04.BcachePlays", spec := "bcachePlays", inPlace := ["internal/abi.NoEscape", "internal/bytealg.MakeNoZero"], unfollowed := true, recurses := true, apart := false, narrowed := true }
def BcachePlaysUptoSaid : Prop := bcachePlaysUptoRow.holds Tryz.pinned (OpenSpec.upto bcachePlaysSpec)

/-- 'dunnagelaw04.BcacheSame', WHERE WHAT IT READS IS OF BULK AT MOST 1048576: true; the input reads as it did. -/
def bcacheSameUptoRow : OpenClaim := { program := "ytjgclmlclkfgpaagreat", sum := "1f1ba698b9af0dac72f2d19a1497147706148802e3559417d462142f2533c4b6", func := "dunnage/dunnagelaw04.BcacheSame", spec := "bcacheSame", inPlace := ["internal/abi.NoEscape", "internal/bytealg.MakeNoZero"], unfollowed := true, recurses := true, apart := false, narrowed := true }
def BcacheSameUptoSaid : Prop := bcacheSameUptoRow.holds Tryz.pinned (OpenSpec.upto bcacheSameSpec)

/-- 'dunnagelaw04.BcacheCrashes', WHERE WHAT IT READS IS OF BULK AT MOST 1048576: true; the input reads as it did. -/
def bcacheCrashesUptoRow : OpenClaim := { program := "ytjgclmlclkfgpaagreat", sum := "1f1ba698b9af0dac72f2d19a1497147706148802e3559417d462142f2533c4b6", func := "dunnage/dunnagelaw04.BcacheCrashes", spec := "bcacheCrashes", inPlace := ["internal/abi.NoEscape", "internal/bytealg.MakeNoZero"], unfollowed := true, recurses := true, apart := false, narrowed := true }
def BcacheCrashesUptoSaid : Prop := bcacheCrashesUptoRow.holds Tryz.pinned (OpenSpec.upto bcacheCrashesSpec)

/-- 'dunnagetop.TopPages', WHERE WHAT IT READS IS OF BULK AT MOST 1048576: true; the input reads as it did. -/
def topPagesUptoRow : OpenClaim := { program := "ytjgclmlclkfgpaagreat", sum := "1f1ba698b9af0dac72f2d19a1497147706148802e3559417d462142f2533c4b6", func := "dunnage/dunnagetop.TopPages", spec := "topPages", inPlace := ["internal/abi.NoEscape", "internal/bytealg.MakeNoZero"], unfollowed := true, recurses := true, apart := false, narrowed := true }
def TopPagesUptoSaid : Prop := topPagesUptoRow.holds Tryz.pinned (OpenSpec.upto topPagesSpec)

end Rows
end Go.Proofs.YtjgclmlclkfgpaaGreat
