/-
  DERIVED. GIVEN WITH THE SEED: THE CARDS: each row of YtgeelolbgjmfgaaDoorRows.lean that lists a variable, with what it lists TIED to the program's text (the seventh form; the later family's looks); each row that meets fmt, with fmt's text TOLD by the authors' own Lean function (tested against real Go, not proved from fmt's source: count such statements apart). THE CARD IS WHAT COUNTS. Prove the row's statement (the work); the ties are given (YtgeelolbgjmfgaaDoorTie.lean); close each card by the builder's one call (the guide's Derived/Test/ToyasCard.lean, 'card_holds'). Laid BY PROGRAM, IN A SANDBOX (cutbox-door.mjs). By AI agents, Wed Nov 11 2026. No macro, syntax, notation, axiom, sorry.
-/
import Derived.Test.YtgeelolbgjmfgaaDoorRows
import GoSem.ClaimSeven
namespace Go.Proofs.YtgeelolbgjmfgaaDoor
namespace Rows

/-- THE TIED CARD OF 'solsticelaw06.DayBack'. -/
def dayBackCard : Claim7 := { stood := { row := dayBackRow, standIns := [], harness := (true, "3cc6771ab288031ef461e9f455822dd4f64f21dc35a6c75529050243a53c4ae4"), looks := false }, kinds := [], alts := [], laidByText := true, laidKinds := [.data, .data, .data], laidTests := true, laidLooks := .later }
def DayBackCardSaid : Prop := Claim7.holds Tryd.pinned (.plain (OpenSpec.ofChange dayBackSpec)) dayBackCard

/-- THE TIED CARD OF 'solsticelaw06.DayFalls'. -/
def dayFallsCard : Claim7 := { stood := { row := dayFallsRow, standIns := [], harness := (true, "3cc6771ab288031ef461e9f455822dd4f64f21dc35a6c75529050243a53c4ae4"), looks := false }, kinds := [], alts := [], laidByText := true, laidKinds := [.data, .data, .data], laidTests := true, laidLooks := .later }
def DayFallsCardSaid : Prop := Claim7.holds Tryd.pinned (.plain (OpenSpec.ofChange dayFallsSpec)) dayFallsCard

/-- THE TIED CARD OF 'solsticetop.TopAround'. -/
def topAroundCard : Claim7 := { stood := { row := topAroundRow, standIns := [], harness := (true, "3cc6771ab288031ef461e9f455822dd4f64f21dc35a6c75529050243a53c4ae4"), looks := false }, kinds := [], alts := [], laidByText := true, laidKinds := [.data, .data, .data], laidTests := true, laidLooks := .later }
def TopAroundCardSaid : Prop := Claim7.holds Tryd.pinned (.plain (OpenSpec.ofChange topAroundSpec)) topAroundCard

/-- THE SECOND FORM's CARD OF 'solsticelaw06.DayBack'. -/
def dayBackUptoCard : Claim7 := { stood := { row := dayBackUptoRow, standIns := [], harness := (true, "3cc6771ab288031ef461e9f455822dd4f64f21dc35a6c75529050243a53c4ae4"), looks := false }, kinds := [], alts := [], laidByText := true, laidKinds := [.data, .data, .data], laidTests := true, laidLooks := .later }
def DayBackUptoCardSaid : Prop := Claim7.holds Tryd.pinned (.plain (OpenSpec.upto dayBackSpec)) dayBackUptoCard

/-- THE SECOND FORM's CARD OF 'solsticelaw06.DayFalls'. -/
def dayFallsUptoCard : Claim7 := { stood := { row := dayFallsUptoRow, standIns := [], harness := (true, "3cc6771ab288031ef461e9f455822dd4f64f21dc35a6c75529050243a53c4ae4"), looks := false }, kinds := [], alts := [], laidByText := true, laidKinds := [.data, .data, .data], laidTests := true, laidLooks := .later }
def DayFallsUptoCardSaid : Prop := Claim7.holds Tryd.pinned (.plain (OpenSpec.upto dayFallsSpec)) dayFallsUptoCard

/-- THE SECOND FORM's CARD OF 'solsticetop.TopAround'. -/
def topAroundUptoCard : Claim7 := { stood := { row := topAroundUptoRow, standIns := [], harness := (true, "3cc6771ab288031ef461e9f455822dd4f64f21dc35a6c75529050243a53c4ae4"), looks := false }, kinds := [], alts := [], laidByText := true, laidKinds := [.data, .data, .data], laidTests := true, laidLooks := .later }
def TopAroundUptoCardSaid : Prop := Claim7.holds Tryd.pinned (.plain (OpenSpec.upto topAroundSpec)) topAroundUptoCard
end Rows
end Go.Proofs.YtgeelolbgjmfgaaDoor
