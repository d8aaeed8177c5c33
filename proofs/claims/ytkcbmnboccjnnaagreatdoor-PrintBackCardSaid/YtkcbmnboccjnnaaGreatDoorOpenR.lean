/- Arguments that are a rule, and an era, opened: their cells. -/
import Derived.Test.YtkcbmnboccjnnaaGreatDoorOpenU
namespace Go.Proofs.YtkcbmnboccjnnaaGreatDoor
open Go.RowKit Go.ChangeShapes Go.WideShapes Go.Joins Go.Deep
set_option maxRecDepth 100000 in
theorem array11 {α : Type} {cs : Array α} (h : cs.size = 11) : ∃ c0 c1 c2 c3 c4 c5 c6 c7 c8 c9 c10, cs = #[c0, c1, c2, c3, c4, c5, c6, c7, c8, c9, c10] := by
  obtain ⟨l⟩ := cs
  match l, h with
  | [c0, c1, c2, c3, c4, c5, c6, c7, c8, c9, c10], _ => exact ⟨c0, c1, c2, c3, c4, c5, c6, c7, c8, c9, c10, rfl⟩
set_option maxRecDepth 100000 in
theorem array13 {α : Type} {cs : Array α} (h : cs.size = 13) : ∃ c0 c1 c2 c3 c4 c5 c6 c7 c8 c9 c10 c11 c12, cs = #[c0, c1, c2, c3, c4, c5, c6, c7, c8, c9, c10, c11, c12] := by
  obtain ⟨l⟩ := cs
  match l, h with
  | [c0, c1, c2, c3, c4, c5, c6, c7, c8, c9, c10, c11, c12], _ => exact ⟨c0, c1, c2, c3, c4, c5, c6, c7, c8, c9, c10, c11, c12, rfl⟩
theorem trod_struct8 {H : Type} {enc : TypeId × Value → H} {P : Program} {w : World} {base : Nat} {spare : Nat → Bool} {held : Bool} {t : TypeId} {f0 f1 f2 f3 f4 f5 f6 f7 : Field} {fuel : Nat} {cs : List Value} {x : DataW H × List MemPlace} (ht : P.underlying t = some (.struct #[f0, f1, f2, f3, f4, f5, f6, f7])) (h : DataW.trod enc P w base spare held fuel t cs = some x) :
    ∃ (y0 y1 y2 y3 y4 y5 y6 y7 : DataW H × List MemPlace) (n : Nat), DataW.trod enc P w base spare held n f0.type ((cs.drop f0.offset).take (P.cellsOf f0.type)) = some y0 ∧ DataW.trod enc P w base spare held n f1.type ((cs.drop f1.offset).take (P.cellsOf f1.type)) = some y1 ∧ DataW.trod enc P w base spare held n f2.type ((cs.drop f2.offset).take (P.cellsOf f2.type)) = some y2 ∧ DataW.trod enc P w base spare held n f3.type ((cs.drop f3.offset).take (P.cellsOf f3.type)) = some y3 ∧ DataW.trod enc P w base spare held n f4.type ((cs.drop f4.offset).take (P.cellsOf f4.type)) = some y4 ∧ DataW.trod enc P w base spare held n f5.type ((cs.drop f5.offset).take (P.cellsOf f5.type)) = some y5 ∧ DataW.trod enc P w base spare held n f6.type ((cs.drop f6.offset).take (P.cellsOf f6.type)) = some y6 ∧ DataW.trod enc P w base spare held n f7.type ((cs.drop f7.offset).take (P.cellsOf f7.type)) = some y7 := by
  obtain ⟨xs, n, _, rfl, hl, hlen, hf⟩ := DataW.trod_struct ht h
  match xs, hlen with
  | [y0, y1, y2, y3, y4, y5, y6, y7], _ => exact ⟨y0, y1, y2, y3, y4, y5, y6, y7, n, by simpa using hf 0 f0 rfl, by simpa using hf 1 f1 rfl, by simpa using hf 2 f2 rfl, by simpa using hf 3 f3 rfl, by simpa using hf 4 f4 rfl, by simpa using hf 5 f5 rfl, by simpa using hf 6 f6 rfl, by simpa using hf 7 f7 rfl⟩
theorem trod_struct7 {H : Type} {enc : TypeId × Value → H} {P : Program} {w : World} {base : Nat} {spare : Nat → Bool} {held : Bool} {t : TypeId} {f0 f1 f2 f3 f4 f5 f6 : Field} {fuel : Nat} {cs : List Value} {x : DataW H × List MemPlace} (ht : P.underlying t = some (.struct #[f0, f1, f2, f3, f4, f5, f6])) (h : DataW.trod enc P w base spare held fuel t cs = some x) :
    ∃ (y0 y1 y2 y3 y4 y5 y6 : DataW H × List MemPlace) (n : Nat), DataW.trod enc P w base spare held n f0.type ((cs.drop f0.offset).take (P.cellsOf f0.type)) = some y0 ∧ DataW.trod enc P w base spare held n f1.type ((cs.drop f1.offset).take (P.cellsOf f1.type)) = some y1 ∧ DataW.trod enc P w base spare held n f2.type ((cs.drop f2.offset).take (P.cellsOf f2.type)) = some y2 ∧ DataW.trod enc P w base spare held n f3.type ((cs.drop f3.offset).take (P.cellsOf f3.type)) = some y3 ∧ DataW.trod enc P w base spare held n f4.type ((cs.drop f4.offset).take (P.cellsOf f4.type)) = some y4 ∧ DataW.trod enc P w base spare held n f5.type ((cs.drop f5.offset).take (P.cellsOf f5.type)) = some y5 ∧ DataW.trod enc P w base spare held n f6.type ((cs.drop f6.offset).take (P.cellsOf f6.type)) = some y6 := by
  obtain ⟨xs, n, _, rfl, hl, hlen, hf⟩ := DataW.trod_struct ht h
  match xs, hlen with
  | [y0, y1, y2, y3, y4, y5, y6], _ => exact ⟨y0, y1, y2, y3, y4, y5, y6, n, by simpa using hf 0 f0 rfl, by simpa using hf 1 f1 rfl, by simpa using hf 2 f2 rfl, by simpa using hf 3 f3 rfl, by simpa using hf 4 f4 rfl, by simpa using hf 5 f5 rfl, by simpa using hf 6 f6 rfl⟩
theorem cells_str : Tryz.prog.cellsOf 9 = 1 := by kernel_rfl
theorem cells_bool : Tryz.prog.cellsOf 4 = 1 := by kernel_rfl
theorem cells_ekind : Tryz.prog.cellsOf 61 = 1 := by kernel_rfl
theorem cells_until : Tryz.prog.cellsOf 63 = 7 := by kernel_rfl
set_option maxRecDepth 100000 in
theorem open_rule {H : Type} {enc : TypeId × Value → H} {w : World} {base : Nat} {spare : Nat → Bool} {held : Bool} {r : Reach} {b0 : Nat} {v : Value} {d : DataW H} {p : List MemPlace}
    (hv : Value.okWide Tryz.prog w r b0 48 v) (h : DataW.Trod enc Tryz.prog w base spare held 48 v d p) :
    ∃ (nm : ByteArray) (fr tl m k n e s c sv : Int) (lt : ByteArray), v = .agg #[.string nm, .int .i64 fr, .int .i64 tl, .int .i64 m, .int .u8 k, .int .i64 n, .int .i64 e, .int .i64 s, .int .u8 c, .int .i64 sv, .string lt] ∧ (Lit.int .u8 c).wf = true ∧ nm.size ≤ maxLen ∧ lt.size ≤ maxLen := by
  obtain ⟨cs, rfl, hsz⟩ := okWide_struct Tryz.underlying48 hv
  obtain ⟨c0, c1, c2, c3, c4, c5, c6, c7, c8, c9, c10, rfl⟩ := array11 (hsz.trans (by kernel_rfl))
  obtain ⟨fuel, hf⟩ := h
  obtain ⟨y0, y1, y2, y3, y4, y5, y6, y7, n, h0, h1, h2, h3, h4, h5, h6, h7⟩ := trod_struct8 Tryz.underlying48 hf
  simp only [Value.cells, cells_str, cells_int, cells_i64, cells_day, cells_moment] at h0 h1 h2 h3 h4 h5 h6 h7
  obtain ⟨z0, z1, z2, n2, _, _, g0, g1, g2⟩ := trod_struct3 Tryz.underlying43 h4
  obtain ⟨x0, x1, n3, _, _, f0, f1⟩ := trod_struct2 Tryz.underlying46 h5
  simp only [cells_int, cells_kind] at g0 g1 g2
  simp only [cells_i64, cells_clock] at f0 f1
  obtain ⟨a0, e0, _, s0⟩ := DataW.trod_string Tryz.underlying9 h0
  obtain ⟨a1, e1, _, _⟩ := DataW.trod_int Tryz.underlying3 h1
  obtain ⟨a2, e2, _, _⟩ := DataW.trod_int Tryz.underlying3 h2
  obtain ⟨a3, e3, _, _⟩ := DataW.trod_int Tryz.underlying3 h3
  obtain ⟨a4, e4, _, _⟩ := DataW.trod_int Tryz.underlying41 g0
  obtain ⟨a5, e5, _, _⟩ := DataW.trod_int Tryz.underlying3 g1
  obtain ⟨a6, e6, _, _⟩ := DataW.trod_int Tryz.underlying3 g2
  obtain ⟨a7, e7, _, _⟩ := DataW.trod_int Tryz.underlying2 f0
  obtain ⟨a8, e8, _, hw⟩ := DataW.trod_int Tryz.underlying44 f1
  obtain ⟨a9, e9, _, _⟩ := DataW.trod_int Tryz.underlying2 h6
  obtain ⟨a10, e10, _, s10⟩ := DataW.trod_string Tryz.underlying9 h7
  simp at e0 e1 e2 e3 e4 e5 e6 e7 e8 e9 e10
  subst e0 e1 e2 e3 e4 e5 e6 e7 e8 e9 e10
  exact ⟨_, _, _, _, _, _, _, _, _, _, _, rfl, hw, s0, s10⟩
set_option maxRecDepth 100000 in
theorem open_era {H : Type} {enc : TypeId × Value → H} {w : World} {base : Nat} {spare : Nat → Bool} {held : Bool} {r : Reach} {b0 : Nat} {v : Value} {d : DataW H} {p : List MemPlace}
    (hv : Value.okWide Tryz.prog w r b0 65 v) (h : DataW.Trod enc Tryz.prog w base spare held 65 v d p) :
    ∃ (sd k sv : Int) (ru fm : ByteArray) (en : Bool) (y m q n e s c : Int), v = .agg #[.int .i64 sd, .int .u8 k, .int .i64 sv, .string ru, .string fm, .bool en, .int .i64 y, .int .i64 m, .int .u8 q, .int .i64 n, .int .i64 e, .int .i64 s, .int .u8 c] ∧ (Lit.int .u8 k).wf = true ∧ (Lit.int .u8 c).wf = true ∧ ru.size ≤ maxLen ∧ fm.size ≤ maxLen := by
  obtain ⟨cs, rfl, hsz⟩ := okWide_struct Tryz.underlying65 hv
  obtain ⟨c0, c1, c2, c3, c4, c5, c6, c7, c8, c9, c10, c11, c12, rfl⟩ := array13 (hsz.trans (by kernel_rfl))
  obtain ⟨fuel, hf⟩ := h
  obtain ⟨y0, y1, y2, y3, y4, y5, y6, n, h0, h1, h2, h3, h4, h5, h6⟩ := trod_struct7 Tryz.underlying65 hf
  simp only [Value.cells, cells_str, cells_bool, cells_ekind, cells_i64, cells_until] at h0 h1 h2 h3 h4 h5 h6
  obtain ⟨u0, u1, u2, u3, n1, _, _, k0, k1, k2, k3⟩ := trod_struct4 Tryz.underlying63 h6
  simp only [cells_int, cells_day, cells_moment] at k0 k1 k2 k3
  obtain ⟨z0, z1, z2, n2, _, _, g0, g1, g2⟩ := trod_struct3 Tryz.underlying43 k2
  obtain ⟨x0, x1, n3, _, _, f0, f1⟩ := trod_struct2 Tryz.underlying46 k3
  simp only [cells_int, cells_kind] at g0 g1 g2
  simp only [cells_i64, cells_clock] at f0 f1
  obtain ⟨a0, e0, _, _⟩ := DataW.trod_int Tryz.underlying2 h0
  obtain ⟨a1, e1, _, hk⟩ := DataW.trod_int Tryz.underlying61 h1
  obtain ⟨a2, e2, _, _⟩ := DataW.trod_int Tryz.underlying2 h2
  obtain ⟨a3, e3, _, s3⟩ := DataW.trod_string Tryz.underlying9 h3
  obtain ⟨a4, e4, _, s4⟩ := DataW.trod_string Tryz.underlying9 h4
  obtain ⟨a5, e5, _⟩ := DataW.trod_bool Tryz.underlying4 h5
  obtain ⟨a6, e6, _, _⟩ := DataW.trod_int Tryz.underlying3 k0
  obtain ⟨a7, e7, _, _⟩ := DataW.trod_int Tryz.underlying3 k1
  obtain ⟨a8, e8, _, _⟩ := DataW.trod_int Tryz.underlying41 g0
  obtain ⟨a9, e9, _, _⟩ := DataW.trod_int Tryz.underlying3 g1
  obtain ⟨a10, e10, _, _⟩ := DataW.trod_int Tryz.underlying3 g2
  obtain ⟨a11, e11, _, _⟩ := DataW.trod_int Tryz.underlying2 f0
  obtain ⟨a12, e12, _, hw⟩ := DataW.trod_int Tryz.underlying44 f1
  simp at e0 e1 e2 e3 e4 e5 e6 e7 e8 e9 e10 e11 e12
  subst e0 e1 e2 e3 e4 e5 e6 e7 e8 e9 e10 e11 e12
  exact ⟨_, _, _, _, _, _, _, _, _, _, _, _, _, rfl, hk, hw, s3, s4⟩
end Go.Proofs.YtkcbmnboccjnnaaGreatDoor
