/-
  DERIVED. GIVEN WITH THE SEED: THE CARDS: each row of YthlbockphdbpkaaDoorRows.lean that lists a variable, with what it lists TIED to the program's text (the seventh form; the later family's looks); each row that meets fmt, with fmt's text TOLD by the authors' own Lean function (tested against real Go, not proved from fmt's source: count such statements apart). THE CARD IS WHAT COUNTS. Prove the row's statement (the work); the ties are given (YthlbockphdbpkaaDoorTie.lean); close each card by the builder's one call (the guide's Derived/Test/ToyasCard.lean, 'card_holds'). Laid BY PROGRAM, IN A SANDBOX (cutbox-door.mjs). By AI agents, Wed Nov 11 2026. No macro, syntax, notation, axiom, sorry.
-/
import Derived.Test.YthlbockphdbpkaaDoorRows
import GoSem.ClaimSeven
namespace Go.Proofs.YthlbockphdbpkaaDoor
namespace Rows

/-- THE TIED CARD OF 'solsticelaw14.ValidEach'. -/
def validEachCard : Claim7 := { stood := { row := validEachRow, standIns := [], harness := (true, "07d6bed2f17640e379b8f65c79339324d230a1c3d22d38b60f8156f77ac4f01d"), looks := false }, kinds := [], alts := [], laidByText := true, laidKinds := [.data], laidTests := true, laidLooks := .later }
def ValidEachCardSaid : Prop := Claim7.holds Tryd.pinned (.plain (OpenSpec.ofChange validEachSpec)) validEachCard

/-- THE TIED CARD OF 'solsticetop.TopLinked'. -/
def topLinkedCard : Claim7 := { stood := { row := topLinkedRow, standIns := [], harness := (true, "07d6bed2f17640e379b8f65c79339324d230a1c3d22d38b60f8156f77ac4f01d"), looks := false }, kinds := [], alts := [], laidByText := true, laidKinds := [.data], laidTests := true, laidLooks := .later }
def TopLinkedCardSaid : Prop := Claim7.holds Tryd.pinned (.plain (OpenSpec.ofChange topLinkedSpec)) topLinkedCard

/-- THE TIED CARD OF 'solsticetop.TopRound'. -/
def topRoundCard : Claim7 := { stood := { row := topRoundRow, standIns := [], harness := (true, "07d6bed2f17640e379b8f65c79339324d230a1c3d22d38b60f8156f77ac4f01d"), looks := false }, kinds := [], alts := [], laidByText := true, laidKinds := [.data], laidTests := true, laidLooks := .later }
def TopRoundCardSaid : Prop := Claim7.holds Tryd.pinned (.plain (OpenSpec.ofChange topRoundSpec)) topRoundCard

/-- THE SECOND FORM's CARD OF 'solsticelaw14.ValidEach'. -/
def validEachUptoCard : Claim7 := { stood := { row := validEachUptoRow, standIns := [], harness := (true, "07d6bed2f17640e379b8f65c79339324d230a1c3d22d38b60f8156f77ac4f01d"), looks := false }, kinds := [], alts := [], laidByText := true, laidKinds := [.data], laidTests := true, laidLooks := .later }
def ValidEachUptoCardSaid : Prop := Claim7.holds Tryd.pinned (.plain (OpenSpec.upto validEachSpec)) validEachUptoCard

/-- THE SECOND FORM's CARD OF 'solsticetop.TopLinked'. -/
def topLinkedUptoCard : Claim7 := { stood := { row := topLinkedUptoRow, standIns := [], harness := (true, "07d6bed2f17640e379b8f65c79339324d230a1c3d22d38b60f8156f77ac4f01d"), looks := false }, kinds := [], alts := [], laidByText := true, laidKinds := [.data], laidTests := true, laidLooks := .later }
def TopLinkedUptoCardSaid : Prop := Claim7.holds Tryd.pinned (.plain (OpenSpec.upto topLinkedSpec)) topLinkedUptoCard

/-- THE SECOND FORM's CARD OF 'solsticetop.TopRound'. -/
def topRoundUptoCard : Claim7 := { stood := { row := topRoundUptoRow, standIns := [], harness := (true, "07d6bed2f17640e379b8f65c79339324d230a1c3d22d38b60f8156f77ac4f01d"), looks := false }, kinds := [], alts := [], laidByText := true, laidKinds := [.data], laidTests := true, laidLooks := .later }
def TopRoundUptoCardSaid : Prop := Claim7.holds Tryd.pinned (.plain (OpenSpec.upto topRoundSpec)) topRoundUptoCard
end Rows
end Go.Proofs.YthlbockphdbpkaaDoor
