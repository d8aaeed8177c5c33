/- The world of the witness: tables hold what their initialisers lay; and what a settled world has of the library. -/
import Derived.Test.YtgcgmmdfmcapiaaDoorRows
import Derived.Test.YtgcgmmdfmcapiaaDoorTab
import Derived.Test.YtgcgmmdfmcapiaaDoorShelf
namespace Go.Proofs.YtgcgmmdfmcapiaaDoor
open Go.RowKit
theorem mx_laid {W : World} (hsh : W.ShapedOpen Tryd.prog) : ∃ m : Int, W.cell? ⟨4, 0, none⟩ = some (.int .i64 m) := Tryd.laysM145.s1_3 W hsh
/-- A world for the witness. -/
noncomputable def laidWorld (os : Os) : World :=
  { World.holding Tryd.prog os ⟨#[], #[], []⟩ with heap := (((((((World.holding Tryd.prog os ⟨#[], #[], []⟩).heap.modify 5 (putCells (row1 Rows.laid_math_bits_deBruijn32tab))).modify 6 (putCells (row1 Rows.laid_math_bits_deBruijn64tab))).modify 3 (putCells (row1 Rows.laid_internal_strconv_uint64pow10))).modify 1 (putCells (row1 Rows.laid_solstice_abbr_marks))).modify 0 (putCells (row1 Rows.laid_solstice_abbr_units))).modify 2 (putCells (row1 Rows.laid_solstice_clock_units))) }
end Go.Proofs.YtgcgmmdfmcapiaaDoor
