/-
  No cell of these rows narrows 'for every input' (looked for: loops, veiled, ifaces, maps, wideKeys, modest, calm, conditions, laid).
  DERIVED. THE GIVEN ROWS OF THIS SEAT. 5 by the template 'for every input the law returns true; each argument reads behind the call as it read before'; 0 by the template 'total and deterministic' (their statements: YtkmmeokccmppbaaTotals.lean).
  GIVEN WITH THE SEED: the statements are not yours to turn. If you find one false, say at which input.
  Laid BY PROGRAM, IN A SANDBOX (cutbox-rows.mjs): the forced cells as the released guide's own fill.sh prints them over the translation 58afcb2bd397b14d… (all of the seat's roots in one cut). By AI agents, Wed Nov 11 2026. No macro, syntax, notation, axiom, sorry.
-/
import Derived.Test.YtkmmeokccmppbaaChecked
import GoSem.Claim
import GoSem.ClaimJoined
import GoSem.ClaimMapViews
import Derived.JoinedTies
import Derived.KernelRfl
namespace Go.Proofs.Ytkmmeokccmppbaa
/- THE CELL 'sum', in the pinned program and in every row, IS THE sha256 OF THE DUMP (.gsa) THAT YtkmmeokccmppbaaProg.lean LOADS. Nothing in Lean hashes anything: it is a label: what it is worth is what the hold of that sum in a sandbox is worth. -/
noncomputable def Try.pinned : Pinned := { name := "ytkmmeokccmppbaa", sum := "58afcb2bd397b14d4f97da1f0a815f4d1cd8f8ad697e3979e5227824e73ab73a", checked := Try.checked }
namespace Rows
def none {H : Type} : Left H := { results := [], args := [] }

/-- 'dunnagelaw11.ManifestReads': WHATEVER THE INPUT: true; the input reads as it did. -/
def manifestReadsSpec : ChangeSpec := { name := "manifestReads", fn := fun _ => fun
  | [d] => { results := [.lit (.bool true)], args := [d] }
  | _ => none }
def manifestReadsRow : OpenClaim := { program := "ytkmmeokccmppbaa", sum := "58afcb2bd397b14d4f97da1f0a815f4d1cd8f8ad697e3979e5227824e73ab73a", func := "dunnage/dunnagelaw11.ManifestReads", spec := "manifestReads", apart := false }
def ManifestReadsSaid : Prop := manifestReadsRow.holds Try.pinned (OpenSpec.ofChange manifestReadsSpec)

/-- ITS FALSE NEIGHBOUR: 'it returns false'. Refute it at one input. -/
def manifestReadsWrong : ChangeSpec := { name := "manifestReads", fn := fun _ => fun
  | [d] => { results := [.lit (.bool false)], args := [d] }
  | _ => none }
def ManifestReadsWrongFalsely : Prop := manifestReadsRow.holds Try.pinned (OpenSpec.ofChange manifestReadsWrong)

/-- 'dunnagelaw11.ManifestBack': WHATEVER THE INPUT: true; the input reads as it did. -/
def manifestBackSpec : ChangeSpec := { name := "manifestBack", fn := fun _ => fun
  | [d1, d2] => { results := [.lit (.bool true)], args := [d1, d2] }
  | _ => none }
def manifestBackRow : OpenClaim := { program := "ytkmmeokccmppbaa", sum := "58afcb2bd397b14d4f97da1f0a815f4d1cd8f8ad697e3979e5227824e73ab73a", func := "dunnage/dunnagelaw11.ManifestBack", spec := "manifestBack", apart := false }
def ManifestBackSaid : Prop := manifestBackRow.holds Try.pinned (OpenSpec.ofChange manifestBackSpec)

/-- ITS FALSE NEIGHBOUR: 'it returns false'. Refute it at one input. -/
def manifestBackWrong : ChangeSpec := { name := "manifestBack", fn := fun _ => fun
  | [d1, d2] => { results := [.lit (.bool false)], args := [d1, d2] }
  | _ => none }
def ManifestBackWrongFalsely : Prop := manifestBackRow.holds Try.pinned (OpenSpec.ofChange manifestBackWrong)

/-- 'dunnagelaw11.ManifestWhole': WHATEVER THE INPUT: true; the input reads as it did. -/
def manifestWholeSpec : ChangeSpec := { name := "manifestWhole", fn := fun _ => fun
  | [d1, d2, d3] => { results := [.lit (.bool true)], args := [d1, d2, d3] }
  | _ => none }
def manifestWholeRow : OpenClaim := { program := "ytkmmeokccmppbaa", sum := "58afcb2bd397b14d4f97da1f0a815f4d1cd8f8ad697e3979e5227824e73ab73a", func := "dunnage/dunnagelaw11.ManifestWhole", spec := "manifestWhole", apart := false }
def ManifestWholeSaid : Prop := manifestWholeRow.holds Try.pinned (OpenSpec.ofChange manifestWholeSpec)

/-- ITS FALSE NEIGHBOUR: 'it returns false'. Refute it at one input. -/
def manifestWholeWrong : ChangeSpec := { name := "manifestWhole", fn := fun _ => fun
  | [d1, d2, d3] => { results := [.lit (.bool false)], args := [d1, d2, d3] }
  | _ => none }
def ManifestWholeWrongFalsely : Prop := manifestWholeRow.holds Try.pinned (OpenSpec.ofChange manifestWholeWrong)

/-- 'dunnagelaw11.ManifestApart': WHATEVER THE INPUT: true; the input reads as it did. -/
def manifestApartSpec : ChangeSpec := { name := "manifestApart", fn := fun _ => fun
  | [d1, d2] => { results := [.lit (.bool true)], args := [d1, d2] }
  | _ => none }
def manifestApartRow : OpenClaim := { program := "ytkmmeokccmppbaa", sum := "58afcb2bd397b14d4f97da1f0a815f4d1cd8f8ad697e3979e5227824e73ab73a", func := "dunnage/dunnagelaw11.ManifestApart", spec := "manifestApart", apart := false }
def ManifestApartSaid : Prop := manifestApartRow.holds Try.pinned (OpenSpec.ofChange manifestApartSpec)

/-- ITS FALSE NEIGHBOUR: 'it returns false'. Refute it at one input. -/
def manifestApartWrong : ChangeSpec := { name := "manifestApart", fn := fun _ => fun
  | [d1, d2] => { results := [.lit (.bool false)], args := [d1, d2] }
  | _ => none }
def ManifestApartWrongFalsely : Prop := manifestApartRow.holds Try.pinned (OpenSpec.ofChange manifestApartWrong)

/-- 'dunnagelaw11.ManifestUses': WHATEVER THE INPUT: true; the input reads as it did. -/
def manifestUsesSpec : ChangeSpec := { name := "manifestUses", fn := fun _ => fun
  | [d] => { results := [.lit (.bool true)], args := [d] }
  | _ => none }
def manifestUsesRow : OpenClaim := { program := "ytkmmeokccmppbaa", sum := "58afcb2bd397b14d4f97da1f0a815f4d1cd8f8ad697e3979e5227824e73ab73a", func := "dunnage/dunnagelaw11.ManifestUses", spec := "manifestUses", apart := false }
def ManifestUsesSaid : Prop := manifestUsesRow.holds Try.pinned (OpenSpec.ofChange manifestUsesSpec)

/-- ITS FALSE NEIGHBOUR: 'it returns false'. Refute it at one input. -/
def manifestUsesWrong : ChangeSpec := { name := "manifestUses", fn := fun _ => fun
  | [d] => { results := [.lit (.bool false)], args := [d] }
  | _ => none }
def ManifestUsesWrongFalsely : Prop := manifestUsesRow.holds Try.pinned (OpenSpec.ofChange manifestUsesWrong)

/- THE SECOND FORM. 'bulk': how many values and letters a reading holds, each counted each time it is reached (what is shared counts as often as it is met; a slice's spare places count too). A statement '..UptoSaid' is the law's where the arguments, and the package variables that the reading takes, are together of bulk at most 1048576: NARROWER than '..Said'. Prove '..Said' where nothing that the law and all that it calls make is longer than what came in: it says more and counts as full. Else prove '..UptoSaid'. A law counts once. -/
mutual
def uptoBulk {H : Type} : DataW H → Nat
  | .lit (.string bytes) => bytes.length + 1
  | .lit _ => 1
  | .nil => 1
  | .ptr d => uptoBulk d + 1
  | .slice elems spare => uptoBulkAll elems + uptoBulkAll spare + 1
  | .agg parts => uptoBulkAll parts + 1
  | .iface _ d => uptoBulk d + 1
  | .map entries => uptoBulkEntries entries + 1
  | .held _ => 1
def uptoBulkAll {H : Type} : List (DataW H) → Nat
  | [] => 0
  | d :: r => uptoBulk d + uptoBulkAll r
def uptoBulkEntries {H : Type} : List (Lit × DataW H) → Nat
  | [] => 0
  | x :: r => uptoBulkEntry x + uptoBulkEntries r
def uptoBulkEntry {H : Type} : Lit × DataW H → Nat
  | (.string bytes, d) => bytes.length + uptoBulk d + 1
  | (_, d) => uptoBulk d + 1
 end
def uptoSmall : (H : Type) → List (DataW H) → Bool := fun _ ds => decide (uptoBulkAll ds ≤ 1048576)
def OpenSpec.upto (s : _root_.Go.ChangeSpec) : _root_.Go.OpenSpec := { _root_.Go.OpenSpec.ofChange s with cond := some uptoSmall }

/-- 'dunnagelaw11.ManifestReads', WHERE WHAT IT READS IS OF BULK AT MOST 1048576: true; the input reads as it did. -/
def manifestReadsUptoRow : OpenClaim := { program := "ytkmmeokccmppbaa", sum := "58afcb2bd397b14d4f97da1f0a815f4d1cd8f8ad697e3979e5227824e73ab73a", func := "dunnage/dunnagelaw11.ManifestReads", spec := "manifestReads", apart := false, narrowed := true }
def ManifestReadsUptoSaid : Prop := manifestReadsUptoRow.holds Try.pinned (OpenSpec.upto manifestReadsSpec)

/-- 'dunnagelaw11.ManifestBack', WHERE WHAT IT READS IS OF BULK AT MOST 1048576: true; the input reads as it did. -/
def manifestBackUptoRow : OpenClaim := { program := "ytkmmeokccmppbaa", sum := "58afcb2bd397b14d4f97da1f0a815f4d1cd8f8ad697e3979e5227824e73ab73a", func := "dunnage/dunnagelaw11.ManifestBack", spec := "manifestBack", apart := false, narrowed := true }
def ManifestBackUptoSaid : Prop := manifestBackUptoRow.holds Try.pinned (OpenSpec.upto manifestBackSpec)

/-- 'dunnagelaw11.ManifestWhole', WHERE WHAT IT READS IS OF BULK AT MOST 1048576: true; the input reads as it did. -/
def manifestWholeUptoRow : OpenClaim := { program := "ytkmmeokccmppbaa", sum := "58afcb2bd397b14d4f97da1f0a815f4d1cd8f8ad697e3979e5227824e73ab73a", func := "dunnage/dunnagelaw11.ManifestWhole", spec := "manifestWhole", apart := false, narrowed := true }
def ManifestWholeUptoSaid : Prop := manifestWholeUptoRow.holds Try.pinned (OpenSpec.upto manifestWholeSpec)

/-- 'dunnagelaw11.ManifestApart', WHERE WHAT IT READS IS OF BULK AT MOST 1048576: true; the input reads as it did. -/
def manifestApartUptoRow : OpenClaim := { program := "ytkmmeokccmppbaa", sum := "58afcb2bd397b14d4f97da1f0a815f4d1cd8f8ad697e3979e5227824e73ab73a", func := "dunnage/dunnagelaw11.ManifestApart", spec := "manifestApart", apart := false, narrowed := true }
def ManifestApartUptoSaid : Prop := manifestApartUptoRow.holds Try.pinned (OpenSpec.upto manifestApartSpec)

/-- 'dunnagelaw11.ManifestUses', WHERE WHAT IT READS IS OF BULK AT MOST 1048576: true; the input reads as it did. -/
def manifestUsesUptoRow : OpenClaim := { program := "ytkmmeokccmppbaa", sum := "58afcb2bd397b14d4f97da1f0a815f4d1cd8f8ad697e3979e5227824e73ab73a", func := "dunnage/dunnagelaw11.ManifestUses", spec := "manifestUses", apart := false, narrowed := true }
def ManifestUsesUptoSaid : Prop := manifestUsesUptoRow.holds Try.pinned (OpenSpec.upto manifestUsesSpec)

end Rows
end Go.Proofs.Ytkmmeokccmppbaa
