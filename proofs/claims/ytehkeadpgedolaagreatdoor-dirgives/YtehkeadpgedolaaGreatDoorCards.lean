/-
  DERIVED. GIVEN WITH THE SEED: THE CARDS: each row of YtehkeadpgedolaaGreatDoorRows.lean that lists a variable, with what it lists TIED to the program's text (the seventh form; the later family's looks); each row that meets fmt, with fmt's text TOLD by the authors' own Lean function (tested against real Go, not proved from fmt's source: count such statements apart). THE CARD IS WHAT COUNTS. Prove the row's statement (the work); the ties are given (YtehkeadpgedolaaGreatDoorTie.lean); close each card by the builder's one call (the guide's Derived/Test/ToyasCard.lean, 'card_holds'). Laid BY PROGRAM, IN A SANDBOX (cutbox-door.mjs). By AI agents, Wed Nov 11 2026. No macro, syntax, notation, axiom, sorry.
-/
import Derived.Test.YtehkeadpgedolaaGreatDoorRows
import GoSem.ClaimSeven
namespace Go.Proofs.YtehkeadpgedolaaGreatDoor
namespace Rows

/-- THE TIED CARD OF 'dunnagelaw07.DirFinds'. -/
def dirFindsCard : Claim7 := { stood := { row := dirFindsRow, standIns := [], harness := (true, "edf11bd2c7ac933e915f2cc72e60fda4af1fc7ccae1e0c08c509624ac8d232a2"), looks := true }, kinds := [], alts := [], laidByText := true, laidKinds := [.data, .pinned], laidTests := true, laidLooks := .later }
def DirFindsCardSaid : Prop := Claim7.holds Tryz.pinned (.plain (OpenSpec.ofChange dirFindsSpec)) dirFindsCard

/-- THE TIED CARD OF 'dunnagelaw07.DirGives'. -/
def dirGivesCard : Claim7 := { stood := { row := dirGivesRow, standIns := [], harness := (true, "edf11bd2c7ac933e915f2cc72e60fda4af1fc7ccae1e0c08c509624ac8d232a2"), looks := true }, kinds := [], alts := [], laidByText := true, laidKinds := [.data, .pinned], laidTests := true, laidLooks := .later }
def DirGivesCardSaid : Prop := Claim7.holds Tryz.pinned (.plain (OpenSpec.ofChange dirGivesSpec)) dirGivesCard

/-- THE TIED CARD OF 'dunnagelaw07.DirOrder'. -/
def dirOrderCard : Claim7 := { stood := { row := dirOrderRow, standIns := [], harness := (true, "edf11bd2c7ac933e915f2cc72e60fda4af1fc7ccae1e0c08c509624ac8d232a2"), looks := true }, kinds := [], alts := [], laidByText := true, laidKinds := [.data, .pinned], laidTests := true, laidLooks := .later }
def DirOrderCardSaid : Prop := Claim7.holds Tryz.pinned (.plain (OpenSpec.ofChange dirOrderSpec)) dirOrderCard

/-- THE TIED CARD OF 'dunnagelaw07.DirApart'. -/
def dirApartCard : Claim7 := { stood := { row := dirApartRow, standIns := [], harness := (true, "edf11bd2c7ac933e915f2cc72e60fda4af1fc7ccae1e0c08c509624ac8d232a2"), looks := true }, kinds := [], alts := [], laidByText := true, laidKinds := [.data, .pinned], laidTests := true, laidLooks := .later }
def DirApartCardSaid : Prop := Claim7.holds Tryz.pinned (.plain (OpenSpec.ofChange dirApartSpec)) dirApartCard

/-- THE SECOND FORM's CARD OF 'dunnagelaw07.DirFinds'. -/
def dirFindsUptoCard : Claim7 := { stood := { row := dirFindsUptoRow, standIns := [], harness := (true, "edf11bd2c7ac933e915f2cc72e60fda4af1fc7ccae1e0c08c509624ac8d232a2"), looks := true }, kinds := [], alts := [], laidByText := true, laidKinds := [.data, .pinned], laidTests := true, laidLooks := .later }
def DirFindsUptoCardSaid : Prop := Claim7.holds Tryz.pinned (.plain (OpenSpec.upto dirFindsSpec)) dirFindsUptoCard

/-- THE SECOND FORM's CARD OF 'dunnagelaw07.DirGives'. -/
def dirGivesUptoCard : Claim7 := { stood := { row := dirGivesUptoRow, standIns := [], harness := (true, "edf11bd2c7ac933e915f2cc72e60fda4af1fc7ccae1e0c08c509624ac8d232a2"), looks := true }, kinds := [], alts := [], laidByText := true, laidKinds := [.data, .pinned], laidTests := true, laidLooks := .later }
def DirGivesUptoCardSaid : Prop := Claim7.holds Tryz.pinned (.plain (OpenSpec.upto dirGivesSpec)) dirGivesUptoCard

/-- THE SECOND FORM's CARD OF 'dunnagelaw07.DirOrder'. -/
def dirOrderUptoCard : Claim7 := { stood := { row := dirOrderUptoRow, standIns := [], harness := (true, "edf11bd2c7ac933e915f2cc72e60fda4af1fc7ccae1e0c08c509624ac8d232a2"), looks := true }, kinds := [], alts := [], laidByText := true, laidKinds := [.data, .pinned], laidTests := true, laidLooks := .later }
def DirOrderUptoCardSaid : Prop := Claim7.holds Tryz.pinned (.plain (OpenSpec.upto dirOrderSpec)) dirOrderUptoCard

/-- THE SECOND FORM's CARD OF 'dunnagelaw07.DirApart'. -/
def dirApartUptoCard : Claim7 := { stood := { row := dirApartUptoRow, standIns := [], harness := (true, "edf11bd2c7ac933e915f2cc72e60fda4af1fc7ccae1e0c08c509624ac8d232a2"), looks := true }, kinds := [], alts := [], laidByText := true, laidKinds := [.data, .pinned], laidTests := true, laidLooks := .later }
def DirApartUptoCardSaid : Prop := Claim7.holds Tryz.pinned (.plain (OpenSpec.upto dirApartSpec)) dirApartUptoCard
end Rows
end Go.Proofs.YtehkeadpgedolaaGreatDoor
