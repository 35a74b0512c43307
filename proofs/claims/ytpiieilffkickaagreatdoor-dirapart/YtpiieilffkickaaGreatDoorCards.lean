/-
  DERIVED. GIVEN WITH THE SEED: THE CARDS: each row of YtpiieilffkickaaGreatDoorRows.lean that lists a variable, with what it lists TIED to the program's text (the seventh form; the later family's looks); each row that meets fmt, with fmt's text TOLD by the authors' own Lean function (tested against real Go, not proved from fmt's source: count such statements apart). THE CARD IS WHAT COUNTS. Prove the row's statement (the work); the ties are given (YtpiieilffkickaaGreatDoorTie.lean); close each card by the builder's one call (the guide's Derived/Test/ToyasCard.lean, 'card_holds'). Laid BY PROGRAM, IN A SANDBOX (cutbox-door.mjs). By AI agents, Wed Nov 11 2026. No macro, syntax, notation, axiom, sorry.
-/
import Derived.Test.YtpiieilffkickaaGreatDoorRows
import GoSem.ClaimSeven
namespace Go.Proofs.YtpiieilffkickaaGreatDoor
namespace Rows

/-- THE TIED CARD OF 'dunnagelaw07.DirFinds'. -/
def dirFindsCard : Claim7 := { stood := { row := dirFindsRow, standIns := [], harness := (true, "6cdd066fc5203c6576262c55debc80671d3407ab0b60648459e94f8e62e5c2bb"), looks := true }, kinds := [], alts := [], laidByText := true, laidKinds := [.data, .pinned], laidTests := true, laidLooks := .later }
def DirFindsCardSaid : Prop := Claim7.holds Tryz.pinned (.plain (OpenSpec.ofChange dirFindsSpec)) dirFindsCard

/-- THE TIED CARD OF 'dunnagelaw07.DirApart'. -/
def dirApartCard : Claim7 := { stood := { row := dirApartRow, standIns := [], harness := (true, "6cdd066fc5203c6576262c55debc80671d3407ab0b60648459e94f8e62e5c2bb"), looks := true }, kinds := [], alts := [], laidByText := true, laidKinds := [.data, .pinned], laidTests := true, laidLooks := .later }
def DirApartCardSaid : Prop := Claim7.holds Tryz.pinned (.plain (OpenSpec.ofChange dirApartSpec)) dirApartCard

/-- THE SECOND FORM's CARD OF 'dunnagelaw07.DirFinds'. -/
def dirFindsUptoCard : Claim7 := { stood := { row := dirFindsUptoRow, standIns := [], harness := (true, "6cdd066fc5203c6576262c55debc80671d3407ab0b60648459e94f8e62e5c2bb"), looks := true }, kinds := [], alts := [], laidByText := true, laidKinds := [.data, .pinned], laidTests := true, laidLooks := .later }
def DirFindsUptoCardSaid : Prop := Claim7.holds Tryz.pinned (.plain (OpenSpec.upto dirFindsSpec)) dirFindsUptoCard

/-- THE SECOND FORM's CARD OF 'dunnagelaw07.DirApart'. -/
def dirApartUptoCard : Claim7 := { stood := { row := dirApartUptoRow, standIns := [], harness := (true, "6cdd066fc5203c6576262c55debc80671d3407ab0b60648459e94f8e62e5c2bb"), looks := true }, kinds := [], alts := [], laidByText := true, laidKinds := [.data, .pinned], laidTests := true, laidLooks := .later }
def DirApartUptoCardSaid : Prop := Claim7.holds Tryz.pinned (.plain (OpenSpec.upto dirApartSpec)) dirApartUptoCard
end Rows
end Go.Proofs.YtpiieilffkickaaGreatDoor
