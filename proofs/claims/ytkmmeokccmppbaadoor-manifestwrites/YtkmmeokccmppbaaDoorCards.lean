/-
  DERIVED. GIVEN WITH THE SEED: THE CARDS: each row of YtkmmeokccmppbaaDoorRows.lean that lists a variable, with what it lists TIED to the program's text (the seventh form; the later family's looks); each row that meets fmt, with fmt's text TOLD by the authors' own Lean function (tested against real Go, not proved from fmt's source: count such statements apart). THE CARD IS WHAT COUNTS. Prove the row's statement (the work); the ties are given (YtkmmeokccmppbaaDoorTie.lean); close each card by the builder's one call (the guide's Derived/Test/ToyasCard.lean, 'card_holds'). Laid BY PROGRAM, IN A SANDBOX (cutbox-door.mjs). By AI agents, Wed Nov 11 2026. No macro, syntax, notation, axiom, sorry.
-/
import Derived.Test.YtkmmeokccmppbaaDoorRows
import GoSem.ClaimSeven
namespace Go.Proofs.YtkmmeokccmppbaaDoor
namespace Rows

/-- THE TIED CARD OF 'dunnagelaw11.ManifestWrites'. -/
def manifestWritesCard : Claim7 := { stood := { row := manifestWritesRow, standIns := [], harness := (true, "df10b442bea22f826b82549fa85fc0e2d58126755e8e6c389a4a9648d5b9a5e8"), looks := false }, kinds := [], alts := [], laidByText := true, laidKinds := [.data, .data], laidTests := true, laidLooks := .later }
def ManifestWritesCardSaid : Prop := Claim7.holds Tryd.pinned (.plain (OpenSpec.ofChange manifestWritesSpec)) manifestWritesCard

/-- THE SECOND FORM's CARD OF 'dunnagelaw11.ManifestWrites'. -/
def manifestWritesUptoCard : Claim7 := { stood := { row := manifestWritesUptoRow, standIns := [], harness := (true, "df10b442bea22f826b82549fa85fc0e2d58126755e8e6c389a4a9648d5b9a5e8"), looks := false }, kinds := [], alts := [], laidByText := true, laidKinds := [.data, .data], laidTests := true, laidLooks := .later }
def ManifestWritesUptoCardSaid : Prop := Claim7.holds Tryd.pinned (.plain (OpenSpec.upto manifestWritesSpec)) manifestWritesUptoCard
end Rows
end Go.Proofs.YtkmmeokccmppbaaDoor
