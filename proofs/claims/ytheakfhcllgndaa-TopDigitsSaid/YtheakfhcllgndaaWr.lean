/- Contracts of package little: the writer. -/
import Derived.Test.YtheakfhcllgndaaGet
import Derived.Laws.AppendOwn
import Derived.Lib.BufferWrite
import Derived.Deep.RegionHeld3
namespace Go.Proofs.Ytheakfhcllgndaa
open Go.RowKit
/-- The pieces, the last one first. -/
def Chain (w : World) (B g : Nat) : Value → List (List UInt8) → Prop
  | v, [] => v = .pointer none
  | v, s :: r => ∃ b q, v = .pointer (some ⟨b, 0, none⟩) ∧ B ≤ b ∧ b < w.heap.size ∧ b ≠ g ∧ s ≠ [] ∧ w.cell? ⟨b, 0, none⟩ = some q ∧ w.cell? ⟨b, 1, none⟩ = some (.string ⟨s.toArray⟩) ∧ Chain w B g q r
def flat : List (List UInt8) → List UInt8
  | [] => []
  | s :: r => flat r ++ s
theorem Chain.keep {w w' : World} {B g : Nat} (hk : ∀ p : Addr, p.block < w.heap.size → p.block ≠ g → w'.cell? p = w.cell? p) (hs : w.heap.size ≤ w'.heap.size) : ∀ {v : Value} {ps : List (List UInt8)}, Chain w B g v ps → Chain w' B g v ps
  | _, [], h => h
  | _, _ :: _, ⟨b, q, e, h1, h2, h3, h4, h5, h6, h7⟩ => ⟨b, q, e, h1, Nat.lt_of_lt_of_le h2 hs, h3, h4, (hk ⟨b, 0, none⟩ h2 h3).trans h5, (hk ⟨b, 1, none⟩ h2 h3).trans h6, Chain.keep hk hs h7⟩
/-- A writer at block g that has the bytes l; its pieces lie from block B on. -/
structure Wr (w : World) (B g : Nat) (l : List UInt8) : Prop where
  base : B ≤ g
  lt : g < w.heap.size
  last : ∃ p ps, w.cell? ⟨g, 0, none⟩ = some p ∧ Chain w B g p ps ∧ flat ps = l
  size : w.cell? ⟨g, 1, none⟩ = some (.int .i64 (l.length : Int))
  f0 : w.frozen? ⟨g, 0, none⟩ = false
  f1 : w.frozen? ⟨g, 1, none⟩ = false
theorem Wr.below {w w' : World} {B g : Nat} {l : List UInt8} (h : Wr w B g l) (hb : Below w.heap.size w w') : Wr w' B g l := by
  obtain ⟨p, ps, h1, h2, h3⟩ := h.last
  exact ⟨h.base, Nat.lt_of_lt_of_le h.lt hb.size, ⟨p, ps, (hb.cell (p := ⟨g, 0, none⟩) h.lt).trans h1, Chain.keep (fun q hq _ => hb.cell hq) hb.size h2, h3⟩, (hb.cell (p := ⟨g, 1, none⟩) h.lt).trans h.size, (hb.frozen (p := ⟨g, 0, none⟩) h.lt).trans h.f0, (hb.frozen (p := ⟨g, 1, none⟩) h.lt).trans h.f1⟩
theorem Wr.new (w : World) (B : Nat) (hB : B ≤ w.heap.size) (t : TypeId) : Wr (w.alloc (.cells #[.pointer none, .int .i64 0] t)) B w.heap.size [] :=
  ⟨hB, by simp, ⟨_, [], by simp [go_sem], rfl, rfl⟩, by simp [go_sem], by simp [go_sem], by simp [go_sem]⟩
theorem Chain.pointer {w : World} {B g : Nat} {v : Value} {ps : List (List UInt8)} (h : Chain w B g v ps) : ∃ a, v = .pointer a := by
  cases ps with
  | nil => exact ⟨_, h⟩
  | cons s r => obtain ⟨b, q, e, _⟩ := h; exact ⟨_, e⟩
theorem results_none {fn : Func} (h : fn.results = #[]) (tmps : Array Value) (P : Program) (w : World) : (results fn tmps).run P w = .ok (.tuple #[]) w := by simp [results, h]
theorem wraw_none (g : Nat) (w : World) : Calls Try.prog 10 #[.pointer (some ⟨g, 0, none⟩), .string ⟨#[]⟩] w fun e w' => e = .returned (.tuple #[]) ∧ w = w' := by
  go_enter Try.func10, Try.ntmps10
  go_wp2
  refine bodyPost_ret (results_none rfl _ _ _) rfl ?_
  exact ⟨rfl, rfl⟩
theorem only_alloc {a w : World} {row : Option Nat} (h : a.grownBy w row) (o : Obj) : a.grownBy (w.alloc o) row :=
  ⟨h.os, h.tape, h.output, Nat.le_trans h.size (by simp), fun i hi hne => (Below.heap_alloc w o i (Nat.lt_of_lt_of_le hi h.size)).trans (h.block i hi hne)⟩
theorem only_setCell {a w : World} {g : Nat} (h : a.grownBy w (some g)) {p : Addr} (hp : p.block = g ∨ a.heap.size ≤ p.block) (u : Value) : a.grownBy (w.setCell p u) (some g) :=
  ⟨h.os, h.tape, h.output, by simpa [World.setCell] using h.size, fun i hi hne => (Below.heap_setCell w p u i (by
    rintro rfl
    rcases hp with hp | hp
    · exact hne (by rw [hp])
    · omega)).trans (h.block i hi hne)⟩
theorem only_of_below {a w : World} (h : Below a.heap.size a w) (row : Option Nat) : a.grownBy w row := ⟨h.os, h.tape, h.output, h.size, fun i hi _ => h.block i hi⟩
theorem only_trans {a b c : World} {row : Option Nat} (h : a.grownBy b row) (k : b.grownBy c row) : a.grownBy c row :=
  ⟨k.os.trans h.os, k.tape.trans h.tape, k.output.trans h.output, Nat.le_trans h.size k.size, fun i hi hne => (k.block i (Nat.lt_of_lt_of_le hi h.size) hne).trans (h.block i hi hne)⟩
theorem below_only {a w : World} {g B : Nat} (h : a.grownBy w (some g)) (hB : B ≤ g) (hg : g < a.heap.size) : Below B a w :=
  (Below.refl _ _).grown h (by omega) (fun k hk => by injection hk with hk; omega)
theorem Wr.put {w : World} {B g : Nat} {l : List UInt8} {q : Option Addr} {ps : List (List UInt8)} (h : Wr w B g l) (h1 : w.cell? ⟨g, 0, none⟩ = some (.pointer q)) (h2 : Chain w B g (.pointer q) ps) (h3 : flat ps = l) (s : List UInt8) (hs : s ≠ []) (n : Int) (hn : n = ((l ++ s).length : Int)) (t : TypeId) :
    Wr (((w.setCell ⟨g, 0, none⟩ (.pointer (some ⟨w.heap.size, 0, none⟩))).setCell ⟨g, 1, none⟩ (.int .i64 n)).alloc (.cells #[.pointer q, .string ⟨s.toArray⟩] t)) B g (l ++ s) := by
  have h4 := h.size
  have h5 := h.f0
  have h6 := h.f1
  have h7 := h.lt
  have h8 := h.base
  have hk : ∀ p : Addr, p.block < w.heap.size → p.block ≠ g → (((w.setCell ⟨g, 0, none⟩ (.pointer (some ⟨w.heap.size, 0, none⟩))).setCell ⟨g, 1, none⟩ (.int .i64 n)).alloc (.cells #[.pointer q, .string ⟨s.toArray⟩] t)).cell? p = w.cell? p := by
    intro p hp hne
    rw [World.cell?_alloc_lt _ _ p (by simpa using hp), World.cell?_setCell_far _ _ _ _ (Ne.symm hne), World.cell?_setCell_far _ _ _ _ (Ne.symm hne)]
  refine ⟨h8, by simp; omega, ⟨.pointer (some ⟨w.heap.size, 0, none⟩), s :: ps, by go_simp, ⟨w.heap.size, _, rfl, by omega, by simp, by omega, hs, by go_simp, by go_simp, h2.keep hk (by simp)⟩, by rw [flat, h3]⟩, ?_, by go_simp, by go_simp⟩
  subst hn
  go_simp
theorem wraw_some (B g : Nat) (l s : List UInt8) (w : World) (h : Wr w B g l) (hl : l.length + s.length ≤ 4294967296) (hs : s ≠ []) :
    Calls Try.prog 10 #[.pointer (some ⟨g, 0, none⟩), .string ⟨s.toArray⟩] w fun e w' => e = .returned (.tuple #[]) ∧ Wr w' B g (l ++ s) ∧ w.grownBy w' (some g) := by
  obtain ⟨p, ps, h1, h2, h3⟩ := h.last
  obtain ⟨q, rfl⟩ := h2.pointer
  have h4 := h.size
  have h5 := h.f0
  have h6 := h.f1
  have h7 := h.lt
  have h8 := h.base
  have h9 : (⟨s.toArray⟩ : ByteArray).size = s.length := by simp [ByteArray.size]
  have H3 := Lib.hid h3
  clear h3
  have e1 : s.isEmpty = false := by simpa using hs
  go_enter Try.func10, Try.ntmps10
  go_wp2
  go_end0
  refine ⟨rfl, h.put h1 h2 H3.out s hs ((l.length : Int) + (s.length : Int)) (by simp) 62, ?_⟩
  apply only_alloc
  apply only_setCell (h := ?_) (hp := .inl rfl)
  apply only_setCell (h := ?_) (hp := .inl rfl)
  exact World.grownBy.refl _ _
end Go.Proofs.Ytheakfhcllgndaa
