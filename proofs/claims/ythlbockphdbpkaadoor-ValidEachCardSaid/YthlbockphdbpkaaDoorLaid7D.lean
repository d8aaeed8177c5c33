/- The world of the witness: tables hold what their initialisers lay; and what a settled world has of the library. -/
import Derived.Test.YthlbockphdbpkaaDoorRows
import Derived.Test.YthlbockphdbpkaaDoorSd2
import Derived.Test.YthlbockphdbpkaaDoorShelf
namespace Go.Proofs.YthlbockphdbpkaaDoor
open Go.RowKit
theorem mx_laid {W : World} (hsh : W.ShapedOpen Tryd.prog) : ∃ m : Int, W.cell? ⟨1, 0, none⟩ = some (.int .i64 m) := Tryd.laysM145.s1_3 W hsh
/-- A world for the witness. -/
noncomputable def laidWorld (os : Os) : World :=
  { World.holding Tryd.prog os ⟨#[], #[], []⟩ with heap := ((World.holding Tryd.prog os ⟨#[], #[], []⟩).heap.modify 0 (putCells (row1 Rows.laid_solstice_abbr_marks))) }
end Go.Proofs.YthlbockphdbpkaaDoor
