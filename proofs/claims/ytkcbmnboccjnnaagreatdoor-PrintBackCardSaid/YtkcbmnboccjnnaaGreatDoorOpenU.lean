/- An argument that is an until, opened: its seven numbers. -/
import Derived.Test.YtkcbmnboccjnnaaGreatDoorProg
import Derived.Lib.SmallJoins
import Derived.ChangeArms
import Derived.OpenShut
namespace Go.Proofs.YtkcbmnboccjnnaaGreatDoor
open Go.RowKit Go.ChangeShapes Go.WideShapes Go.Joins Go.Deep
set_option maxRecDepth 100000 in
theorem array7 {α : Type} {cs : Array α} (h : cs.size = 7) : ∃ c0 c1 c2 c3 c4 c5 c6, cs = #[c0, c1, c2, c3, c4, c5, c6] := by
  obtain ⟨l⟩ := cs
  match l, h with
  | [c0, c1, c2, c3, c4, c5, c6], _ => exact ⟨c0, c1, c2, c3, c4, c5, c6, rfl⟩
theorem cells_int : Tryz.prog.cellsOf 3 = 1 := by kernel_rfl
theorem cells_i64 : Tryz.prog.cellsOf 2 = 1 := by kernel_rfl
theorem cells_kind : Tryz.prog.cellsOf 41 = 1 := by kernel_rfl
theorem cells_clock : Tryz.prog.cellsOf 44 = 1 := by kernel_rfl
theorem cells_day : Tryz.prog.cellsOf 43 = 3 := by kernel_rfl
theorem cells_moment : Tryz.prog.cellsOf 46 = 2 := by kernel_rfl
set_option maxRecDepth 100000 in
theorem open_until {H : Type} {enc : TypeId × Value → H} {w : World} {base : Nat} {spare : Nat → Bool} {held : Bool} {r : Reach} {b0 : Nat} {v : Value} {d : DataW H} {p : List MemPlace}
    (hv : Value.okWide Tryz.prog w r b0 63 v) (h : DataW.Trod enc Tryz.prog w base spare held 63 v d p) :
    ∃ y m k n e s c : Int, v = .agg #[.int .i64 y, .int .i64 m, .int .u8 k, .int .i64 n, .int .i64 e, .int .i64 s, .int .u8 c] ∧ (Lit.int .u8 c).wf = true := by
  obtain ⟨cs, rfl, hsz⟩ := okWide_struct Tryz.underlying63 hv
  obtain ⟨c0, c1, c2, c3, c4, c5, c6, rfl⟩ := array7 (hsz.trans (by kernel_rfl))
  obtain ⟨fuel, hf⟩ := h
  obtain ⟨y0, y1, y2, y3, n, hx, _, h0, h1, h2, h3⟩ := trod_struct4 Tryz.underlying63 hf
  simp only [Value.cells, cells_int, cells_day, cells_moment] at h0 h1 h2 h3
  obtain ⟨z0, z1, z2, n2, _, _, g0, g1, g2⟩ := trod_struct3 Tryz.underlying43 h2
  obtain ⟨x0, x1, n3, _, _, f0, f1⟩ := trod_struct2 Tryz.underlying46 h3
  simp only [cells_int, cells_kind] at g0 g1 g2
  simp only [cells_i64, cells_clock] at f0 f1
  obtain ⟨a0, e0, _, _⟩ := DataW.trod_int Tryz.underlying3 h0
  obtain ⟨a1, e1, _, _⟩ := DataW.trod_int Tryz.underlying3 h1
  obtain ⟨a2, e2, _, _⟩ := DataW.trod_int Tryz.underlying41 g0
  obtain ⟨a3, e3, _, _⟩ := DataW.trod_int Tryz.underlying3 g1
  obtain ⟨a4, e4, _, _⟩ := DataW.trod_int Tryz.underlying3 g2
  obtain ⟨a5, e5, _, _⟩ := DataW.trod_int Tryz.underlying2 f0
  obtain ⟨a6, e6, _, hw⟩ := DataW.trod_int Tryz.underlying44 f1
  simp at e0 e1 e2 e3 e4 e5 e6
  subst e0 e1 e2 e3 e4 e5 e6
  exact ⟨_, _, _, _, _, _, _, rfl, hw⟩
end Go.Proofs.YtkcbmnboccjnnaaGreatDoor
