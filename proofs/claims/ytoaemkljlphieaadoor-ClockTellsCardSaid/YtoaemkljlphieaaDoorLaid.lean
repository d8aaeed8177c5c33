/- From what a row lists of package-level variables to what the calls below read of them. -/
import Derived.Test.YtoaemkljlphieaaDoorRows
import Derived.Test.YtoaemkljlphieaaDoorEnv
namespace Go.Proofs.YtoaemkljlphieaaDoor
open Go.RowKit
theorem tab_of_laid {P : Program} {W : World} {name : String} {k : IntKind} {zs : List Int} {g : Nat} {t e : TypeId} {n : Nat}
    (hg : P.globalNamed name = some g) (hty : (P.globals[g]?).map (·.type) = some t) (ht : P.underlying t = some (.array n e)) (he : P.underlying e = some (.int k)) (hce : P.cellsOf e = 1) (hct : P.cellsOf t = n) :
    ∀ {L : List (String × DataW Unit)} {ps : List MemPlace}, DataW.LaidVars P W L ps → (name, Lib.tabData k zs) ∈ L → Lib.TabIs P W name k zs
  | [], _, _, hm => by cases hm
  | (n', d) :: r, ps, h, hm => by
    obtain ⟨g', t', cs, fuel, p, q, hg', ht', hvar, hd, hr, _⟩ := h
    rcases List.mem_cons.1 hm with hx | hx
    · injection hx with h1 h2
      subst h1 h2
      obtain rfl := Option.some.inj (hg.symm.trans hg')
      obtain rfl := Option.some.inj (hty.symm.trans ht')
      unfold Lib.TabIs
      rw [hvar, ← Lib.cells_of_tab ht he hce hct hd]
    · exact tab_of_laid hg hty ht he hce hct hr hx
theorem env_of_laid {W : World} {L : List (String × DataW Unit)} (h : laidMet Tryd.prog L W) (hsh : W.ShapedOpen Tryd.prog) (h1 : ("solstice/clock.units", Lib.tabData .i64 [3600, 60, 1]) ∈ L)
    (h2 : ("internal/strconv.uint64pow10", Lib.tabData .u64 Lib.pow10Tab) ∈ L) : Env W := by
  obtain ⟨ps, hv, _⟩ := h
  exact ⟨tab_of_laid (n := 3) gUnits (by kernel_rfl) Tryd.underlying42 Tryd.underlying2 (by kernel_rfl) (by kernel_rfl) hv h1,
    tab_of_laid (n := 20) (g := 1) (by kernel_rfl) (by kernel_rfl) Tryd.underlying75 Tryd.underlying65 (by kernel_rfl) (by kernel_rfl) hv h2, Tryd.laysM147.s1_3 W hsh⟩
theorem mem_units : ("solstice/clock.units", (Lib.tabData .i64 [3600, 60, 1] : DataW Unit)) ∈ Rows.clockYearRow.laid := .tail _ (.tail _ (.tail _ (.tail _ (.head _))))
theorem mem_tens : ("internal/strconv.uint64pow10", (Lib.tabData .u64 Lib.pow10Tab : DataW Unit)) ∈ Rows.clockYearRow.laid := .tail _ (.tail _ (.head _))
def lit1 : DataW Unit → Value
  | .lit (.int k z) => .int k z
  | _ => undef
def row1 : DataW Unit → Array Value
  | .agg ds => (ds.map lit1).toArray
  | _ => #[]
def row2 : DataW Unit → Array Value
  | .agg ds => (ds.flatMap fun | .agg es => es.map lit1 | _ => []).toArray
  | _ => #[]
def putCells (cs : Array Value) : Obj → Obj
  | .cells _ t frozen => .cells cs t frozen
  | o => o
/-- A world for the witness: the settled one, the tables holding what their initialisers lay. -/
noncomputable def laidWorld (os : Os) : World :=
  { World.holding Tryd.prog os ⟨#[], #[], []⟩ with heap := ((((((World.holding Tryd.prog os ⟨#[], #[], []⟩).heap.modify 0 (putCells (row1 Rows.laid_solstice_clock_units))).modify 1 (putCells (row1 Rows.laid_internal_strconv_uint64pow10))).modify 3 (putCells (row1 Rows.laid_math_bits_deBruijn32tab))).modify 4 (putCells (row1 Rows.laid_math_bits_deBruijn64tab))).modify 5 (putCells (row1 Rows.laid_unicode_utf8_first))).modify 6 (putCells (row2 Rows.laid_unicode_utf8_acceptRanges)) }
end Go.Proofs.YtoaemkljlphieaaDoor
