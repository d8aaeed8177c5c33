/- From what a row lists of package-level variables to what the calls below read of them: of package day's rows. -/
import Derived.Test.YtgeelolbgjmfgaaDoorRows
import Derived.Test.YtgeelolbgjmfgaaDoorDayCut
import Derived.ChangeMaps
namespace Go.Proofs.YtgeelolbgjmfgaaDoor
open Go.RowKit
theorem mx_of {W : World} (hsh : W.ShapedOpen Tryd.prog) : Mx W := Tryd.laysM145.s1_3 W hsh
def lit1 : DataW Unit → Value
  | .lit (.int k z) => .int k z
  | _ => undef
def row1 : DataW Unit → Array Value
  | .agg ds => (ds.map lit1).toArray
  | _ => #[]
def putCells (cs : Array Value) : Obj → Obj
  | .cells _ t frozen => .cells cs t frozen
  | o => o
/-- A world for the witness: the settled one, the tables holding what their initialisers lay. -/
noncomputable def laidWorld (os : Os) : World :=
  { World.holding Tryd.prog os ⟨#[], #[], []⟩ with heap := (((World.holding Tryd.prog os ⟨#[], #[], []⟩).heap.modify 0 (putCells (row1 Rows.laid_internal_strconv_uint64pow10))).modify 2 (putCells (row1 Rows.laid_math_bits_deBruijn32tab))).modify 3 (putCells (row1 Rows.laid_math_bits_deBruijn64tab)) }
end Go.Proofs.YtgeelolbgjmfgaaDoor
