/- The world of the witness: tables hold what their initialisers lay; and what a settled world has of the library. -/
import Derived.Test.YtkcbmnboccjnnaaGreatDoorRows
import Derived.Test.YtkcbmnboccjnnaaGreatDoorMd
import Derived.Test.YtkcbmnboccjnnaaGreatDoorShelf
namespace Go.Proofs.YtkcbmnboccjnnaaGreatDoor
open Go.RowKit
theorem mx_laid {W : World} (hsh : W.ShapedOpen Tryz.prog) : ∃ m : Int, W.cell? ⟨1, 0, none⟩ = some (.int .i64 m) := Tryz.laysM147.s1_3 W hsh
/-- A world for the witness. -/
noncomputable def laidWorld (os : Os) : World :=
  { World.holding Tryz.prog os ⟨#[], #[], []⟩ with heap := ((((((((World.holding Tryz.prog os ⟨#[], #[], []⟩).heap.modify 6 (putCells (row1 Rows.laid_math_bits_deBruijn32tab))).modify 7 (putCells (row1 Rows.laid_math_bits_deBruijn64tab))).modify 2 (putCells (row1 Rows.laid_internal_strconv_uint64pow10))).modify 5 (putCells (row2 Rows.laid_unicode_utf8_acceptRanges))).modify 4 (putCells (row1 Rows.laid_unicode_utf8_first))).modify 0 (putCells (row1 Rows.laid_solstice_clock_units))).modify 3 (putCells (row1 Rows.laid_solstice_abbr_marks))) }
end Go.Proofs.YtkcbmnboccjnnaaGreatDoor
