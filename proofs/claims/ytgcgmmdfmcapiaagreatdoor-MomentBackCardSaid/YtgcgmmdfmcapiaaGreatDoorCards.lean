/-
  DERIVED. GIVEN WITH THE SEED: THE CARDS: each row of YtgcgmmdfmcapiaaGreatDoorRows.lean that lists a variable, with what it lists TIED to the program's text (the seventh form; the later family's looks); each row that meets fmt, with fmt's text TOLD by the authors' own Lean function (tested against real Go, not proved from fmt's source: count such statements apart). THE CARD IS WHAT COUNTS. Prove the row's statement (the work); the ties are given (YtgcgmmdfmcapiaaGreatDoorTie.lean); close each card by the builder's one call (the guide's Derived/Test/ToyasCard.lean, 'card_holds'). Laid BY PROGRAM, IN A SANDBOX (cutbox-door.mjs). By AI agents, Wed Nov 11 2026. No macro, syntax, notation, axiom, sorry.
-/
import Derived.Test.YtgcgmmdfmcapiaaGreatDoorRows
import GoSem.ClaimSeven
namespace Go.Proofs.YtgcgmmdfmcapiaaGreatDoor
namespace Rows

/-- THE TIED CARD OF 'solsticelaw07.MomentWhen'. -/
def momentWhenCard : Claim7 := { stood := { row := momentWhenRow, standIns := [], harness := (true, "fd7a2e47bbf12f2376be24fdc719b97aa32fae1bc6b76b3b8923fc7c4ae75f02"), looks := false }, kinds := [], alts := [], laidByText := true, laidKinds := [.data, .data, .data, .data, .data, .pinned], laidTests := true, laidLooks := .later }
def MomentWhenCardSaid : Prop := Claim7.holds Tryz.pinned (.plain (OpenSpec.ofChange momentWhenSpec)) momentWhenCard

/-- THE TIED CARD OF 'solsticelaw07.MomentBack'. -/
def momentBackCard : Claim7 := { stood := { row := momentBackRow, standIns := [], harness := (true, "fd7a2e47bbf12f2376be24fdc719b97aa32fae1bc6b76b3b8923fc7c4ae75f02"), looks := false }, kinds := [], alts := [], laidByText := true, laidKinds := [.data, .data, .data, .data, .data, .pinned], laidTests := true, laidLooks := .later }
def MomentBackCardSaid : Prop := Claim7.holds Tryz.pinned (.plain (OpenSpec.ofChange momentBackSpec)) momentBackCard

/-- THE SECOND FORM's CARD OF 'solsticelaw07.MomentWhen'. -/
def momentWhenUptoCard : Claim7 := { stood := { row := momentWhenUptoRow, standIns := [], harness := (true, "fd7a2e47bbf12f2376be24fdc719b97aa32fae1bc6b76b3b8923fc7c4ae75f02"), looks := false }, kinds := [], alts := [], laidByText := true, laidKinds := [.data, .data, .data, .data, .data, .pinned], laidTests := true, laidLooks := .later }
def MomentWhenUptoCardSaid : Prop := Claim7.holds Tryz.pinned (.plain (OpenSpec.upto momentWhenSpec)) momentWhenUptoCard

/-- THE SECOND FORM's CARD OF 'solsticelaw07.MomentBack'. -/
def momentBackUptoCard : Claim7 := { stood := { row := momentBackUptoRow, standIns := [], harness := (true, "fd7a2e47bbf12f2376be24fdc719b97aa32fae1bc6b76b3b8923fc7c4ae75f02"), looks := false }, kinds := [], alts := [], laidByText := true, laidKinds := [.data, .data, .data, .data, .data, .pinned], laidTests := true, laidLooks := .later }
def MomentBackUptoCardSaid : Prop := Claim7.holds Tryz.pinned (.plain (OpenSpec.upto momentBackSpec)) momentBackUptoCard
end Rows
end Go.Proofs.YtgcgmmdfmcapiaaGreatDoor
