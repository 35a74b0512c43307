/-
  DERIVED. GIVEN WITH THE SEED: THE CARDS: each row of YtohfgppdeiddmaaDoorRows.lean that lists a variable, with what it lists TIED to the program's text (the seventh form; the later family's looks); each row that meets fmt, with fmt's text TOLD by the authors' own Lean function (tested against real Go, not proved from fmt's source: count such statements apart). THE CARD IS WHAT COUNTS. Prove the row's statement (the work); the ties are given (YtohfgppdeiddmaaDoorTie.lean); close each card by the builder's one call (the guide's Derived/Test/ToyasCard.lean, 'card_holds'). Laid BY PROGRAM, IN A SANDBOX (cutbox-door.mjs). By AI agents, Wed Nov 11 2026. No macro, syntax, notation, axiom, sorry.
-/
import Derived.Test.YtohfgppdeiddmaaDoorRows
import GoSem.ClaimSeven
namespace Go.Proofs.YtohfgppdeiddmaaDoor
namespace Rows

/-- THE TIED CARD OF 'dunnagelaw02.ShaSums'. -/
def shaSumsCard : Claim7 := { stood := { row := shaSumsRow, standIns := [], harness := (true, "fc60d4e0ed08f0a785d06a5287d78e8c3fd2058f05a8ef79bd82526572d6d523"), looks := false }, kinds := [], alts := [], laidByText := true, laidKinds := [.data, .data, .data], laidTests := true, laidLooks := .later }
def ShaSumsCardSaid : Prop := Claim7.holds Tryd.pinned (.plain (OpenSpec.ofChange shaSumsSpec)) shaSumsCard

/-- THE TIED CARD OF 'dunnagelaw02.ShaPieces'. -/
def shaPiecesCard : Claim7 := { stood := { row := shaPiecesRow, standIns := [], harness := (true, "fc60d4e0ed08f0a785d06a5287d78e8c3fd2058f05a8ef79bd82526572d6d523"), looks := false }, kinds := [], alts := [], laidByText := true, laidKinds := [.data, .data, .data], laidTests := true, laidLooks := .later }
def ShaPiecesCardSaid : Prop := Claim7.holds Tryd.pinned (.plain (OpenSpec.ofChange shaPiecesSpec)) shaPiecesCard

/-- THE TIED CARD OF 'dunnagelaw02.ShaDigits'. -/
def shaDigitsCard : Claim7 := { stood := { row := shaDigitsRow, standIns := [], harness := (true, "fc60d4e0ed08f0a785d06a5287d78e8c3fd2058f05a8ef79bd82526572d6d523"), looks := false }, kinds := [], alts := [], laidByText := true, laidKinds := [.data, .data, .data], laidTests := true, laidLooks := .later }
def ShaDigitsCardSaid : Prop := Claim7.holds Tryd.pinned (.plain (OpenSpec.ofChange shaDigitsSpec)) shaDigitsCard

/-- THE TIED CARD OF 'dunnagelaw02.ShaMixes'. -/
def shaMixesCard : Claim7 := { stood := { row := shaMixesRow, standIns := [], harness := (true, "fc60d4e0ed08f0a785d06a5287d78e8c3fd2058f05a8ef79bd82526572d6d523"), looks := false }, kinds := [], alts := [], laidByText := true, laidKinds := [.data, .data, .data], laidTests := true, laidLooks := .later }
def ShaMixesCardSaid : Prop := Claim7.holds Tryd.pinned (.plain (OpenSpec.ofChange shaMixesSpec)) shaMixesCard

/-- THE TIED CARD OF 'dunnagelaw02.ShaBit'. -/
def shaBitCard : Claim7 := { stood := { row := shaBitRow, standIns := [], harness := (true, "fc60d4e0ed08f0a785d06a5287d78e8c3fd2058f05a8ef79bd82526572d6d523"), looks := false }, kinds := [], alts := [], laidByText := true, laidKinds := [.data, .data, .data], laidTests := true, laidLooks := .later }
def ShaBitCardSaid : Prop := Claim7.holds Tryd.pinned (.plain (OpenSpec.ofChange shaBitSpec)) shaBitCard

/-- THE TIED CARD OF 'dunnagelaw02.ShaNone'. -/
def shaNoneCard : Claim7 := { stood := { row := shaNoneRow, standIns := [], harness := (true, "fc60d4e0ed08f0a785d06a5287d78e8c3fd2058f05a8ef79bd82526572d6d523"), looks := false }, kinds := [], alts := [], laidByText := true, laidKinds := [.data, .data, .data], laidTests := true, laidLooks := .later }
def ShaNoneCardSaid : Prop := Claim7.holds Tryd.pinned (.plain (OpenSpec.ofChange shaNoneSpec)) shaNoneCard

/-- THE SECOND FORM's CARD OF 'dunnagelaw02.ShaSums'. -/
def shaSumsUptoCard : Claim7 := { stood := { row := shaSumsUptoRow, standIns := [], harness := (true, "fc60d4e0ed08f0a785d06a5287d78e8c3fd2058f05a8ef79bd82526572d6d523"), looks := false }, kinds := [], alts := [], laidByText := true, laidKinds := [.data, .data, .data], laidTests := true, laidLooks := .later }
def ShaSumsUptoCardSaid : Prop := Claim7.holds Tryd.pinned (.plain (OpenSpec.upto shaSumsSpec)) shaSumsUptoCard

/-- THE SECOND FORM's CARD OF 'dunnagelaw02.ShaPieces'. -/
def shaPiecesUptoCard : Claim7 := { stood := { row := shaPiecesUptoRow, standIns := [], harness := (true, "fc60d4e0ed08f0a785d06a5287d78e8c3fd2058f05a8ef79bd82526572d6d523"), looks := false }, kinds := [], alts := [], laidByText := true, laidKinds := [.data, .data, .data], laidTests := true, laidLooks := .later }
def ShaPiecesUptoCardSaid : Prop := Claim7.holds Tryd.pinned (.plain (OpenSpec.upto shaPiecesSpec)) shaPiecesUptoCard

/-- THE SECOND FORM's CARD OF 'dunnagelaw02.ShaDigits'. -/
def shaDigitsUptoCard : Claim7 := { stood := { row := shaDigitsUptoRow, standIns := [], harness := (true, "fc60d4e0ed08f0a785d06a5287d78e8c3fd2058f05a8ef79bd82526572d6d523"), looks := false }, kinds := [], alts := [], laidByText := true, laidKinds := [.data, .data, .data], laidTests := true, laidLooks := .later }
def ShaDigitsUptoCardSaid : Prop := Claim7.holds Tryd.pinned (.plain (OpenSpec.upto shaDigitsSpec)) shaDigitsUptoCard

/-- THE SECOND FORM's CARD OF 'dunnagelaw02.ShaMixes'. -/
def shaMixesUptoCard : Claim7 := { stood := { row := shaMixesUptoRow, standIns := [], harness := (true, "fc60d4e0ed08f0a785d06a5287d78e8c3fd2058f05a8ef79bd82526572d6d523"), looks := false }, kinds := [], alts := [], laidByText := true, laidKinds := [.data, .data, .data], laidTests := true, laidLooks := .later }
def ShaMixesUptoCardSaid : Prop := Claim7.holds Tryd.pinned (.plain (OpenSpec.upto shaMixesSpec)) shaMixesUptoCard

/-- THE SECOND FORM's CARD OF 'dunnagelaw02.ShaBit'. -/
def shaBitUptoCard : Claim7 := { stood := { row := shaBitUptoRow, standIns := [], harness := (true, "fc60d4e0ed08f0a785d06a5287d78e8c3fd2058f05a8ef79bd82526572d6d523"), looks := false }, kinds := [], alts := [], laidByText := true, laidKinds := [.data, .data, .data], laidTests := true, laidLooks := .later }
def ShaBitUptoCardSaid : Prop := Claim7.holds Tryd.pinned (.plain (OpenSpec.upto shaBitSpec)) shaBitUptoCard

/-- THE SECOND FORM's CARD OF 'dunnagelaw02.ShaNone'. -/
def shaNoneUptoCard : Claim7 := { stood := { row := shaNoneUptoRow, standIns := [], harness := (true, "fc60d4e0ed08f0a785d06a5287d78e8c3fd2058f05a8ef79bd82526572d6d523"), looks := false }, kinds := [], alts := [], laidByText := true, laidKinds := [.data, .data, .data], laidTests := true, laidLooks := .later }
def ShaNoneUptoCardSaid : Prop := Claim7.holds Tryd.pinned (.plain (OpenSpec.upto shaNoneSpec)) shaNoneUptoCard
end Rows
end Go.Proofs.YtohfgppdeiddmaaDoor
