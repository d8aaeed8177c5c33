/-
  DERIVED. GIVEN WITH THE SEED: THE CARDS: each row of YtoaemkljlphieaaDoorRows.lean that lists a variable, with what it lists TIED to the program's text (the seventh form; the later family's looks); each row that meets fmt, with fmt's text TOLD by the authors' own Lean function (tested against real Go, not proved from fmt's source: count such statements apart). THE CARD IS WHAT COUNTS. Prove the row's statement (the work); the ties are given (YtoaemkljlphieaaDoorTie.lean); close each card by the builder's one call (the guide's Derived/Test/ToyasCard.lean, 'card_holds'). Laid BY PROGRAM, IN A SANDBOX (cutbox-door.mjs). By AI agents, Wed Nov 11 2026. No macro, syntax, notation, axiom, sorry.
-/
import Derived.Test.YtoaemkljlphieaaDoorRows
import GoSem.ClaimSeven
namespace Go.Proofs.YtoaemkljlphieaaDoor
namespace Rows

/-- THE TIED CARD OF 'solsticelaw02.ClockTells'. -/
def clockTellsCard : Claim7 := { stood := { row := clockTellsRow, standIns := [], harness := (true, "c702f2b67eb25d37f8f443c400892d17ba1294f564d9fe010ed3de2aa1dec101"), looks := false }, kinds := [], alts := [], laidByText := true, laidKinds := [.data, .data, .data, .data, .data, .pinned], laidTests := true, laidLooks := .later }
def ClockTellsCardSaid : Prop := Claim7.holds Tryd.pinned (.plain (OpenSpec.ofChange clockTellsSpec)) clockTellsCard

/-- THE TIED CARD OF 'solsticelaw02.ClockBack'. -/
def clockBackCard : Claim7 := { stood := { row := clockBackRow, standIns := [], harness := (true, "c702f2b67eb25d37f8f443c400892d17ba1294f564d9fe010ed3de2aa1dec101"), looks := false }, kinds := [], alts := [], laidByText := true, laidKinds := [.data, .data, .data, .data, .data, .pinned], laidTests := true, laidLooks := .later }
def ClockBackCardSaid : Prop := Claim7.holds Tryd.pinned (.plain (OpenSpec.ofChange clockBackSpec)) clockBackCard

/-- THE TIED CARD OF 'solsticelaw02.ClockYear'. -/
def clockYearCard : Claim7 := { stood := { row := clockYearRow, standIns := [], harness := (true, "c702f2b67eb25d37f8f443c400892d17ba1294f564d9fe010ed3de2aa1dec101"), looks := false }, kinds := [], alts := [], laidByText := true, laidKinds := [.data, .data, .data, .data, .data, .pinned], laidTests := true, laidLooks := .later }
def ClockYearCardSaid : Prop := Claim7.holds Tryd.pinned (.plain (OpenSpec.ofChange clockYearSpec)) clockYearCard

/-- THE SECOND FORM's CARD OF 'solsticelaw02.ClockTells'. -/
def clockTellsUptoCard : Claim7 := { stood := { row := clockTellsUptoRow, standIns := [], harness := (true, "c702f2b67eb25d37f8f443c400892d17ba1294f564d9fe010ed3de2aa1dec101"), looks := false }, kinds := [], alts := [], laidByText := true, laidKinds := [.data, .data, .data, .data, .data, .pinned], laidTests := true, laidLooks := .later }
def ClockTellsUptoCardSaid : Prop := Claim7.holds Tryd.pinned (.plain (OpenSpec.upto clockTellsSpec)) clockTellsUptoCard

/-- THE SECOND FORM's CARD OF 'solsticelaw02.ClockBack'. -/
def clockBackUptoCard : Claim7 := { stood := { row := clockBackUptoRow, standIns := [], harness := (true, "c702f2b67eb25d37f8f443c400892d17ba1294f564d9fe010ed3de2aa1dec101"), looks := false }, kinds := [], alts := [], laidByText := true, laidKinds := [.data, .data, .data, .data, .data, .pinned], laidTests := true, laidLooks := .later }
def ClockBackUptoCardSaid : Prop := Claim7.holds Tryd.pinned (.plain (OpenSpec.upto clockBackSpec)) clockBackUptoCard

/-- THE SECOND FORM's CARD OF 'solsticelaw02.ClockYear'. -/
def clockYearUptoCard : Claim7 := { stood := { row := clockYearUptoRow, standIns := [], harness := (true, "c702f2b67eb25d37f8f443c400892d17ba1294f564d9fe010ed3de2aa1dec101"), looks := false }, kinds := [], alts := [], laidByText := true, laidKinds := [.data, .data, .data, .data, .data, .pinned], laidTests := true, laidLooks := .later }
def ClockYearUptoCardSaid : Prop := Claim7.holds Tryd.pinned (.plain (OpenSpec.upto clockYearSpec)) clockYearUptoCard
end Rows
end Go.Proofs.YtoaemkljlphieaaDoor
