/- What is wanted of the texts behind: a piece, by program. -/
import Derived.Test.YthlbockphdbpkaaDoorProg
import Derived.Test.YthlbockphdbpkaaDoorShelf
import Derived.Lib.Join
import Derived.Shelf.Abstract
import Init
import Derived.WalkKit
import Derived.Lib.Hide
import Derived.Deep.QuietTactic
import Derived.BigQuiet
import Derived.Outline
import Derived.Lib.ItoaNum
import Derived.Lib.Split
import Derived.LoopTactic
import Derived.Lib.LaidTab
import Derived.Lib.AppendIntMem
import Derived.LoopN
import Derived.Handy
import Derived.Deep.RegionHeld3
import Derived.Below
import Derived.ChangeSlices
import Derived.SliceStrings
import Derived.WideShapes
import Derived.Deep.Slices
import Derived.OpenShut
import Derived.Calls
import Derived.Lib.IndexMore
import Derived.Laws.IdiomStrings
import Derived.Laws.AppendOwn
import Derived.Lib.BufferWrite
import Derived.Deep.RegionLaw
import Derived.Lib.LazyBuf
import Derived.OwnWalk
import Derived.ChangeArms
import Derived.Deep.LoopGhost
import Derived.Scope
import Derived.ScopeJumps
import Derived.WalkMore
import Derived.Lib.BufferRead
import Derived.Laws.OwnMore
import Derived.Maps.AppendAt
import Derived.Deep.AppendLies
import Derived.Lib.AppendZeros
import Derived.Laws.AppendOwnNone
import Derived.Lib.SplitLaws
import Derived.Lib.SmallJoins
import Derived.Test.YthlbockphdbpkaaDoorSd0a
namespace Go.Proofs.YthlbockphdbpkaaDoor
open Go.RowKit
theorem isClock_yes (c : Int) (w : World) (h : c ≤ 2) : Calls Tryd.prog 70 #[.int .u8 c] w fun e w' => e = .returned (.bool true) ∧ w = w' := by
  have h3 : c < 3 := by omega
  go_enter Tryd.func70, Tryd.ntmps70
  go_wp2
  go_ret
  exact ⟨rfl, rfl⟩
theorem isClock_no (c : Int) (w : World) (h : 2 < c) : Calls Tryd.prog 70 #[.int .u8 c] w fun e w' => e = .returned (.bool false) ∧ w = w' := by
  have t1 : decide (c < 3) = false := by simp; omega
  go_enter Tryd.func70, Tryd.ntmps70
  go_wp2
  go_ret
  exact ⟨rfl, rfl⟩
/-- A moment is right. -/
def Mo.right (s c : Int) : Bool := decide (-604800 ≤ s ∧ s ≤ 604800 ∧ c ≤ 2)
theorem Mo.right_iff (s c : Int) : Mo.right s c = true ↔ (-604800 ≤ s ∧ s ≤ 604800 ∧ c ≤ 2) := by unfold Mo.right; exact decide_eq_true_iff
theorem isMoment_yes (s c : Int) (w : World) (h : Mo.right s c = true) : Calls Tryd.prog 55 #[.agg #[.int .i64 s, .int .u8 c]] w fun e w' => e = .returned (.bool true) ∧ Below w.heap.size w w' := by
  rw [Mo.right_iff] at h
  obtain ⟨h1, h2, h3⟩ := h
  go_enter Tryd.func55, Tryd.ntmps55
  go_wp2_with fail
  refine (isClock_yes _ _ h3).mono ?_
  rintro e w' ⟨rfl, rfl⟩
  go_wp2_with fail
  go_ret
  exact ⟨rfl, (Below.refl _ _).alloc (Nat.le_refl _) _⟩
theorem isMoment_no (s c : Int) (w : World) (h : Mo.right s c = false) : Calls Tryd.prog 55 #[.agg #[.int .i64 s, .int .u8 c]] w fun e w' => e = .returned (.bool false) ∧ Below w.heap.size w w' := by
  have h := of_decide_eq_false h
  by_cases g1 : s < -604800
  · clear h
    go_enter Tryd.func55, Tryd.ntmps55
    go_wp2_with fail
    go_ret
    exact ⟨rfl, (Below.refl _ _).alloc (Nat.le_refl _) _⟩
  · by_cases g2 : 604800 < s
    · have h' : -604800 ≤ s := by omega
      have t1 : decide (s ≤ 604800) = false := by simp; omega
      clear h g1
      go_enter Tryd.func55, Tryd.ntmps55
      go_wp2_with fail
      go_ret
      exact ⟨rfl, (Below.refl _ _).alloc (Nat.le_refl _) _⟩
    · have h1 : -604800 ≤ s := by omega
      have h2 : s ≤ 604800 := by omega
      have h3 : 2 < c := by omega
      clear h g1 g2
      go_enter Tryd.func55, Tryd.ntmps55
      go_wp2_with fail
      refine (isClock_no _ _ h3).mono ?_
      rintro e w' ⟨rfl, rfl⟩
      go_wp2_with fail
      go_ret
      exact ⟨rfl, (Below.refl _ _).alloc (Nat.le_refl _) _⟩
theorem mcheck_yes (s c : Int) (w : World) (h : Mo.right s c = true) : Calls Tryd.prog 35 #[.agg #[.int .i64 s, .int .u8 c]] w fun e w' => e = .returned (.int .i64 0) ∧ Below w.heap.size w w' := by
  have H := Lib.hid h
  clear h
  go_enter Tryd.func35, Tryd.ntmps35
  go_wp2_with fail
  refine (isMoment_yes _ _ _ H.out).mono ?_
  rintro e w1 ⟨rfl, b1⟩
  have a1 := ((Below.refl w.heap.size w).alloc (Nat.le_refl _) (.cells #[.int .i64 s, .int .u8 c] 32)).trans (b1.mono (by simp))
  go_wp2_with fail
  go_ret
  exact ⟨rfl, a1⟩
theorem mcheck_no (s c : Int) (w : World) (h : Mo.right s c = false) : Calls Tryd.prog 35 #[.agg #[.int .i64 s, .int .u8 c]] w fun e w' => e = .returned (.int .i64 2) ∧ Below w.heap.size w w' := by
  have H := Lib.hid h
  clear h
  go_enter Tryd.func35, Tryd.ntmps35
  go_wp2_with fail
  refine (isMoment_no _ _ _ H.out).mono ?_
  rintro e w1 ⟨rfl, b1⟩
  have a1 := ((Below.refl w.heap.size w).alloc (Nat.le_refl _) (.cells #[.int .i64 s, .int .u8 c] 32)).trans (b1.mono (by simp))
  go_wp2_with fail
  go_ret
  exact ⟨rfl, a1⟩
/-- What day.In answers of a day of a month: some number that is a day, or some error; the same in every world. -/
def InE (k n d y m : Int) (v z : Int) : Prop := ∀ w : World, Calls Tryd.prog 57 #[.agg #[.int .u8 k, .int .i64 n, .int .i64 d], .int .i64 y, .int .i64 m] w fun e w' => e = .returned (.tuple #[.int .i64 v, .int .i64 z]) ∧ Below w.heap.size w w'
/-- The number that a day is, if it is one; 0: it is none, and why. -/
def Mo.inV (k n d y m : Int) : Int × Int :=
  if Dy.right k n d = false then (0, 2) else if ¬ (1 ≤ y ∧ y ≤ 9999 ∧ 1 ≤ m ∧ m ≤ 12) then (0, 1) else if Cal.len y m < n then (0, 3) else if Dy.at_ k n d y m < -719162 ∨ 2932896 < Dy.at_ k n d y m then (0, 1) else (Dy.at_ k n d y m, 0)
theorem in_all (k n d y m : Int) : InE k n d y m (Mo.inV k n d y m).1 (Mo.inV k n d y m).2 := by
  intro w
  unfold Mo.inV
  by_cases h1 : Dy.right k n d = false
  · rw [if_pos h1]
    exact din_form k n d y m w h1
  · rw [if_neg h1]
    have h1 : Dy.right k n d = true := by simpa using h1
    by_cases h2 : 1 ≤ y ∧ y ≤ 9999 ∧ 1 ≤ m ∧ m ≤ 12
    · rw [if_neg (by simpa using h2)]
      obtain ⟨y1, y2, m1, m2⟩ := h2
      by_cases h3 : Cal.len y m < n
      · rw [if_pos h3]
        exact din_few k n d y m w h1 y1 y2 m1 m2 h3
      · rw [if_neg h3]
        by_cases h4 : Dy.at_ k n d y m < -719162 ∨ 2932896 < Dy.at_ k n d y m
        · rw [if_pos h4]
          exact din_no k n d y m _ w h1 y1 y2 m1 m2 (by omega) (Lib.hid rfl) (Lib.hid h4)
        · rw [if_neg h4]
          exact din_yes k n d y m _ w h1 y1 y2 m1 m2 (by omega) (Lib.hid rfl) (by omega) (by omega)
    · rw [if_pos h2]
      exact din_month k n d y m w h1 h2
theorem in_cases (k n d y m : Int) : ((Mo.inV k n d y m).1 = 0 ∧ 1 ≤ (Mo.inV k n d y m).2 ∧ (Mo.inV k n d y m).2 ≤ 3) ∨ ((Mo.inV k n d y m).2 = 0 ∧ -719162 ≤ (Mo.inV k n d y m).1 ∧ (Mo.inV k n d y m).1 ≤ 2932896) := by
  unfold Mo.inV
  split
  · exact .inl ⟨rfl, by decide, by decide⟩
  · split
    · exact .inl ⟨rfl, by decide, by decide⟩
    · split
      · exact .inl ⟨rfl, by decide, by decide⟩
      · split
        · exact .inl ⟨rfl, by decide, by decide⟩
        · exact .inr ⟨rfl, by omega, by omega⟩
theorem nominal_form (k n d y m s c : Int) (w : World) (h : Mo.right s c = false) :
    Calls Tryd.prog 39 #[.int .i64 y, .int .i64 m, .agg #[.int .u8 k, .int .i64 n, .int .i64 d], .agg #[.int .i64 s, .int .u8 c]] w fun e w' => e = .returned (.tuple #[.int .i64 0, .int .i64 2]) ∧ Below w.heap.size w w' := by
  have H := Lib.hid h
  clear h
  go_enter Tryd.func39, Tryd.ntmps39
  go_wp2_with fail
  refine (isMoment_no _ _ _ H.out).mono ?_
  rintro e w1 ⟨rfl, b1⟩
  have hz := b1.size
  go_wp2_with fail
  go_ret2
  refine ⟨rfl, Below.trans ?_ (b1.mono (by first | omega | (simp; done) | (simp; omega)))⟩
  repeat (first | exact Below.refl _ _ | assumption | refine below_drewN ?_ _ | refine Below.drew ?_ | refine Below.setCell ?_ (by first | omega | (simp; done) | (simp; omega)) _ | refine Below.alloc ?_ (by first | omega | (simp; done) | (simp; omega)) _)
theorem nominal_in (k n d y m s c z : Int) (w : World) (h : Mo.right s c = true) (hI : Hid (InE k n d y m 0 z)) (hz : 1 ≤ z) :
    Calls Tryd.prog 39 #[.int .i64 y, .int .i64 m, .agg #[.int .u8 k, .int .i64 n, .int .i64 d], .agg #[.int .i64 s, .int .u8 c]] w fun e w' => e = .returned (.tuple #[.int .i64 0, .int .i64 z]) ∧ Below w.heap.size w w' := by
  have H := Lib.hid h
  clear h
  have t1 : (z != 0) = true := by rw [bne_iff_ne]; omega
  go_enter Tryd.func39, Tryd.ntmps39
  go_wp2_with fail
  refine (isMoment_yes _ _ _ H.out).mono ?_
  rintro e w1 ⟨rfl, b1⟩
  obtain ⟨hc, hf⟩ := bcell b1
  have hz1 : w.heap.size + 1 < w1.heap.size := by have := b1.size; simp at this; omega
  go_wp2_with fail
  refine (hI.out _).mono ?_
  rintro e w2 ⟨rfl, b2⟩
  have hz2 := b2.size
  go_wp2_with fail
  go_ret2
  refine ⟨rfl, Below.trans (Below.trans ?_ (b1.mono (by first | omega | (simp; done) | (simp; omega)))) (b2.mono (by first | omega | (simp; done) | (simp; omega)))⟩
  repeat (first | exact Below.refl _ _ | assumption | refine below_drewN ?_ _ | refine Below.drew ?_ | refine Below.setCell ?_ (by first | omega | (simp; done) | (simp; omega)) _ | refine Below.alloc ?_ (by first | omega | (simp; done) | (simp; omega)) _)
theorem nominal_yes (k n d y m s c v : Int) (w : World) (h : Mo.right s c = true) (hI : Hid (InE k n d y m v 0)) (v1 : -719162 ≤ v) (v2 : v ≤ 2932896) :
    Calls Tryd.prog 39 #[.int .i64 y, .int .i64 m, .agg #[.int .u8 k, .int .i64 n, .int .i64 d], .agg #[.int .i64 s, .int .u8 c]] w fun e w' => e = .returned (.tuple #[.int .i64 (v * 86400 + s), .int .i64 0]) ∧ Below w.heap.size w w' := by
  have H := Lib.hid h
  have hs := (Mo.right_iff s c).1 h
  obtain ⟨s1, s2, _⟩ := hs
  clear h
  go_enter Tryd.func39, Tryd.ntmps39
  go_wp2_with fail
  refine (isMoment_yes _ _ _ H.out).mono ?_
  rintro e w1 ⟨rfl, b1⟩
  obtain ⟨hc, hf⟩ := bcell b1
  have hz1 : w.heap.size + 1 < w1.heap.size := by have := b1.size; simp at this; omega
  go_wp2_with fail
  refine (hI.out _).mono ?_
  rintro e w2 ⟨rfl, b2⟩
  obtain ⟨hc2, hf2⟩ := bcell b2
  have hz2 : w.heap.size + 1 < w2.heap.size := by have := b2.size; omega
  go_wp2_with fail
  refine (at_yes v s _ v1 v2 s1 s2).mono ?_
  rintro e w3 ⟨rfl, b3⟩
  have hz3 := b3.size
  go_wp2_with fail
  go_ret2
  refine ⟨rfl, Below.trans (Below.trans (Below.trans ?_ (b1.mono (by first | omega | (simp; done) | (simp; omega)))) (b2.mono (by first | omega | (simp; done) | (simp; omega)))) (b3.mono (by first | omega | (simp; done) | (simp; omega)))⟩
  repeat (first | exact Below.refl _ _ | assumption | refine below_drewN ?_ _ | refine Below.drew ?_ | refine Below.setCell ?_ (by first | omega | (simp; done) | (simp; omega)) _ | refine Below.alloc ?_ (by first | omega | (simp; done) | (simp; omega)) _)
/-- The instant of a nominal time. -/
def Mo.inst (n c s v : Int) : Int := if c = 0 then n - v - s else if c = 1 then n - s else n
end Go.Proofs.YthlbockphdbpkaaDoor
namespace Go.Proofs.YthlbockphdbpkaaDoor
open Go.RowKit
/-- What stands for a clock behind a time, and the text of a moment. -/
def Mo.ltr (c : Int) : List UInt8 := if c = 1 then [115] else if c = 2 then [117] else []
def Mo.txt (s c : Int) : List UInt8 := Go.Proofs.YthlbockphdbpkaaDoor.txt s ++ Mo.ltr c
end Go.Proofs.YthlbockphdbpkaaDoor
namespace Go.Proofs.YthlbockphdbpkaaDoor
open Go.RowKit
/-- The clock that a last letter means. -/
def Mo.ck (x : Nat) : Option Nat := if x = 119 ∨ x = 87 then some 0 else if x = 115 ∨ x = 83 then some 1 else if x = 117 ∨ x = 85 ∨ x = 103 ∨ x = 71 ∨ x = 122 ∨ x = 90 then some 2 else none
/-- A text without the letter of a clock, and that clock. -/
def Mo.cutC (l : List UInt8) : List UInt8 × Nat := match l.getLast? with
  | none => (l, 0)
  | some c => match Mo.ck c.toNat with
    | some k => (l.dropLast, k)
    | none => (l, 0)
/-- The moment that a text tells, and why it tells none. -/
def Mo.prs (l : List UInt8) : Int × Nat × Int := if l = [45] then (0, 0, 0) else if (parseL (Mo.cutC l).1).2 = 0 then ((parseL (Mo.cutC l).1).1, (Mo.cutC l).2, 0) else (0, 0, (parseL (Mo.cutC l).1).2)
end Go.Proofs.YthlbockphdbpkaaDoor
namespace Go.Proofs.YthlbockphdbpkaaDoor
open Go.RowKit
theorem isYear_yes (y : Int) (w : World) (h1 : 1 ≤ y) (h2 : y ≤ 9999) : Calls Tryd.prog 100 #[.int .i64 y] w fun e w' => e = .returned (.bool true) ∧ w = w' := by
  go_enter Tryd.func100, Tryd.ntmps100
  go_wp2
  go_ret
  exact ⟨rfl, rfl⟩
theorem isYear_no (y : Int) (w : World) (h : y < 1 ∨ 9999 < y) : Calls Tryd.prog 100 #[.int .i64 y] w fun e w' => e = .returned (.bool false) ∧ w = w' := by
  rcases h with h | h
  · go_enter Tryd.func100, Tryd.ntmps100
    go_wp2
    go_ret
    exact ⟨rfl, rfl⟩
  · have h' : 1 ≤ y := by omega
    have t1 : decide (y ≤ 9999) = false := by simp; omega
    go_enter Tryd.func100, Tryd.ntmps100
    go_wp2
    go_ret
    exact ⟨rfl, rfl⟩
/-- An until's value. -/
@[reducible] def untV (y m k n d s c : Int) : Value := .agg #[.int .i64 y, .int .i64 m, .int .u8 k, .int .i64 n, .int .i64 d, .int .i64 s, .int .u8 c]
theorem isUntil_yes (y m k n d s c : Int) (w : World) (y1 : 1 ≤ y) (y2 : y ≤ 9999) (m1 : 1 ≤ m) (m2 : m ≤ 12) (HD : Hid (Dy.right k n d = true)) (HM : Hid (Mo.right s c = true)) : Calls Tryd.prog 98 #[untV y m k n d s c] w fun e w' => e = .returned (.bool true) ∧ Below w.heap.size w w' := by
  go_enter Tryd.func98, Tryd.ntmps98
  go_wp2_with fail
  refine (isYear_yes y _ y1 y2).mono ?_
  rintro e w' ⟨rfl, rfl⟩
  go_wp2_with fail
  refine (dcheck_yes k n d _ HD.out).mono ?_
  rintro e w1 ⟨rfl, b1⟩
  obtain ⟨hc1, hf1⟩ := bcell b1
  have a1 : Below w.heap.size w w1 := ((Below.refl _ _).alloc (Nat.le_refl _) _).trans (b1.mono (by simp))
  have z1 : w.heap.size < w1.heap.size := by have := b1.size; simp at this; omega
  go_wp2_with fail
  refine (isMoment_yes s c _ HM.out).mono ?_
  rintro e w2 ⟨rfl, b2⟩
  obtain ⟨hc2, hf2⟩ := bcell b2
  have a2 := a1.trans (b2.mono a1.size)
  have z2 : w.heap.size < w2.heap.size := by have := b2.size; omega
  go_wp2_with fail
  go_ret
  exact ⟨rfl, a2⟩
theorem isUntil_year (y m k n d s c : Int) (w : World) (HY : Hid (y < 1 ∨ 9999 < y)) : Calls Tryd.prog 98 #[untV y m k n d s c] w fun e w' => e = .returned (.bool false) ∧ Below w.heap.size w w' := by
  go_enter Tryd.func98, Tryd.ntmps98
  go_wp2_with fail
  refine (isYear_no y _ HY.out).mono ?_
  rintro e w' ⟨rfl, rfl⟩
  go_wp2_with fail
  go_ret
  exact ⟨rfl, (Below.refl _ _).alloc (Nat.le_refl _) _⟩
theorem isUntil_mlo (y m k n d s c : Int) (w : World) (y1 : 1 ≤ y) (y2 : y ≤ 9999) (m1 : m < 1) : Calls Tryd.prog 98 #[untV y m k n d s c] w fun e w' => e = .returned (.bool false) ∧ Below w.heap.size w w' := by
  have t1 : decide (1 ≤ m) = false := by simp; omega
  go_enter Tryd.func98, Tryd.ntmps98
  go_wp2_with fail
  refine (isYear_yes y _ y1 y2).mono ?_
  rintro e w' ⟨rfl, rfl⟩
  go_wp2_with fail
  go_ret
  exact ⟨rfl, (Below.refl _ _).alloc (Nat.le_refl _) _⟩
theorem isUntil_mhi (y m k n d s c : Int) (w : World) (y1 : 1 ≤ y) (y2 : y ≤ 9999) (m1 : 12 < m) : Calls Tryd.prog 98 #[untV y m k n d s c] w fun e w' => e = .returned (.bool false) ∧ Below w.heap.size w w' := by
  have t1 : decide (m ≤ 12) = false := by simp; omega
  have t2 : 1 ≤ m := by omega
  go_enter Tryd.func98, Tryd.ntmps98
  go_wp2_with fail
  refine (isYear_yes y _ y1 y2).mono ?_
  rintro e w' ⟨rfl, rfl⟩
  go_wp2_with fail
  go_ret
  exact ⟨rfl, (Below.refl _ _).alloc (Nat.le_refl _) _⟩
theorem isUntil_day (y m k n d s c : Int) (w : World) (y1 : 1 ≤ y) (y2 : y ≤ 9999) (m1 : 1 ≤ m) (m2 : m ≤ 12) (HD : Hid (Dy.right k n d = false)) : Calls Tryd.prog 98 #[untV y m k n d s c] w fun e w' => e = .returned (.bool false) ∧ Below w.heap.size w w' := by
  go_enter Tryd.func98, Tryd.ntmps98
  go_wp2_with fail
  refine (isYear_yes y _ y1 y2).mono ?_
  rintro e w' ⟨rfl, rfl⟩
  go_wp2_with fail
  refine (dcheck_no k n d _ HD.out).mono ?_
  rintro e w1 ⟨rfl, b1⟩
  obtain ⟨hc1, hf1⟩ := bcell b1
  have a1 : Below w.heap.size w w1 := ((Below.refl _ _).alloc (Nat.le_refl _) _).trans (b1.mono (by simp))
  have z1 : w.heap.size < w1.heap.size := by have := b1.size; simp at this; omega
  go_wp2_with fail
  go_ret
  exact ⟨rfl, a1⟩
theorem isUntil_mom (y m k n d s c : Int) (w : World) (y1 : 1 ≤ y) (y2 : y ≤ 9999) (m1 : 1 ≤ m) (m2 : m ≤ 12) (HD : Hid (Dy.right k n d = true)) (HM : Hid (Mo.right s c = false)) : Calls Tryd.prog 98 #[untV y m k n d s c] w fun e w' => e = .returned (.bool false) ∧ Below w.heap.size w w' := by
  go_enter Tryd.func98, Tryd.ntmps98
  go_wp2_with fail
  refine (isYear_yes y _ y1 y2).mono ?_
  rintro e w' ⟨rfl, rfl⟩
  go_wp2_with fail
  refine (dcheck_yes k n d _ HD.out).mono ?_
  rintro e w1 ⟨rfl, b1⟩
  obtain ⟨hc1, hf1⟩ := bcell b1
  have a1 : Below w.heap.size w w1 := ((Below.refl _ _).alloc (Nat.le_refl _) _).trans (b1.mono (by simp))
  have z1 : w.heap.size < w1.heap.size := by have := b1.size; simp at this; omega
  go_wp2_with fail
  refine (isMoment_no s c _ HM.out).mono ?_
  rintro e w2 ⟨rfl, b2⟩
  obtain ⟨hc2, hf2⟩ := bcell b2
  have a2 := a1.trans (b2.mono a1.size)
  have z2 : w.heap.size < w2.heap.size := by have := b2.size; omega
  go_wp2_with fail
  go_ret
  exact ⟨rfl, a2⟩
/-- An until is right. -/
def Mo.unt (y m k n d s c : Int) : Bool := decide (1 ≤ y ∧ y ≤ 9999 ∧ 1 ≤ m ∧ m ≤ 12) && (Dy.right k n d && Mo.right s c)
theorem unt_parts {y m k n d s c : Int} (h : Mo.unt y m k n d s c = true) : (1 ≤ y ∧ y ≤ 9999 ∧ 1 ≤ m ∧ m ≤ 12) ∧ Dy.right k n d = true ∧ Mo.right s c = true := by
  unfold Mo.unt at h
  rw [Bool.and_eq_true, Bool.and_eq_true, decide_eq_true_eq] at h
  exact h
theorem isUntil_any (y m k n d s c : Int) (w : World) : Calls Tryd.prog 98 #[untV y m k n d s c] w fun e w' => e = .returned (.bool (Mo.unt y m k n d s c)) ∧ Below w.heap.size w w' := by
  unfold Mo.unt
  by_cases hy : 1 ≤ y ∧ y ≤ 9999
  · by_cases hm : 1 ≤ m ∧ m ≤ 12
    · rw [show decide (1 ≤ y ∧ y ≤ 9999 ∧ 1 ≤ m ∧ m ≤ 12) = true by simp; omega]
      cases hd : Dy.right k n d with
      | false => exact isUntil_day y m k n d s c w hy.1 hy.2 hm.1 hm.2 (Lib.hid hd)
      | true =>
        cases hr : Mo.right s c with
        | false => exact isUntil_mom y m k n d s c w hy.1 hy.2 hm.1 hm.2 (Lib.hid hd) (Lib.hid hr)
        | true => exact isUntil_yes y m k n d s c w hy.1 hy.2 hm.1 hm.2 (Lib.hid hd) (Lib.hid hr)
    · rw [show decide (1 ≤ y ∧ y ≤ 9999 ∧ 1 ≤ m ∧ m ≤ 12) = false by simp; omega]
      by_cases h1 : m < 1
      · exact isUntil_mlo y m k n d s c w hy.1 hy.2 h1
      · exact isUntil_mhi y m k n d s c w hy.1 hy.2 (by omega)
  · rw [show decide (1 ≤ y ∧ y ≤ 9999 ∧ 1 ≤ m ∧ m ≤ 12) = false by simp; omega]
    exact isUntil_year y m k n d s c w (Lib.hid (by omega))
theorem isUntil_is (y m k n d s c : Int) (v : Bool) (w : World) (h : Mo.unt y m k n d s c = v) : Calls Tryd.prog 98 #[untV y m k n d s c] w fun e w' => e = .returned (.bool v) ∧ Below w.heap.size w w' := by
  subst h
  exact isUntil_any y m k n d s c w
theorem ucheck_yes (y m k n d s c : Int) (w : World) (h : Mo.unt y m k n d s c = true) : Calls Tryd.prog 96 #[untV y m k n d s c] w fun e w' => e = .returned (.int .i64 0) ∧ Below w.heap.size w w' := by
  have H := Lib.hid h
  clear h
  go_enter Tryd.func96, Tryd.ntmps96
  go_wp2_with fail
  refine (isUntil_is y m k n d s c true _ H.out).mono ?_
  rintro e w1 ⟨rfl, b1⟩
  have a1 : Below w.heap.size w w1 := ((Below.refl _ _).alloc (Nat.le_refl _) _).trans (b1.mono (by simp))
  go_wp2_with fail
  go_ret
  exact ⟨rfl, a1⟩
/-- The number that digits tell. -/
def Mo.yv (l : List UInt8) : Int := l.foldl (fun v c => 10 * v + ((c.toNat : Int) - 48)) 0
/-- The year that a text tells; 0: none. -/
def Mo.yr (l : List UInt8) : Int := if l.length ≤ 4 ∧ l.all Dy.isd = true ∧ 1 ≤ Mo.yv l then Mo.yv l else 0
end Go.Proofs.YthlbockphdbpkaaDoor
namespace Go.Proofs.YthlbockphdbpkaaDoor
open Go.RowKit
/-- An until's seven numbers. -/
structure Ut where
  y : Int
  m : Int
  k : Int
  n : Int
  d : Int
  s : Int
  c : Int
@[reducible] def utV (u : Ut) : Value := .agg #[.int .i64 u.y, .int .i64 u.m, .int .u8 u.k, .int .i64 u.n, .int .i64 u.d, .int .i64 u.s, .int .u8 u.c]
/-- What a text at a place makes of an until, and why it makes none. -/
def Mo.step (i : Nat) (t : ByteArray) (u : Ut) : Ut × Int :=
  match i with
  | 0 => ({ u with y := Mo.yr t.data.toList }, if Mo.yr t.data.toList = 0 then 4 else 0)
  | 1 => ({ u with m := Wd.pick t Wd.mons + 1 }, if Wd.pick t Wd.mons + 1 = 0 then 7 else 0)
  | 2 => match Dy.prs t with
    | some (k, n, d) => ({ u with k := k, n := n, d := d }, 0)
    | none => ({ u with k := 0, n := 0, d := 0 }, 4)
  | _ => ({ u with s := (Mo.prs t.data.toList).1, c := (Mo.prs t.data.toList).2.1 }, (Mo.prs t.data.toList).2.2)
/-- An until at block g. -/
structure Un (w : World) (B g : Nat) (u : Ut) : Prop where
  base : B ≤ g
  lt : g < w.heap.size
  c0 : w.cell? ⟨g, 0, none⟩ = some (.int .i64 u.y)
  c1 : w.cell? ⟨g, 1, none⟩ = some (.int .i64 u.m)
  c2 : w.cell? ⟨g, 2, none⟩ = some (.int .u8 u.k)
  c3 : w.cell? ⟨g, 3, none⟩ = some (.int .i64 u.n)
  c4 : w.cell? ⟨g, 4, none⟩ = some (.int .i64 u.d)
  c5 : w.cell? ⟨g, 5, none⟩ = some (.int .i64 u.s)
  c6 : w.cell? ⟨g, 6, none⟩ = some (.int .u8 u.c)
  f0 : w.frozen? ⟨g, 0, none⟩ = false
  f1 : w.frozen? ⟨g, 1, none⟩ = false
  f2 : w.frozen? ⟨g, 2, none⟩ = false
  f3 : w.frozen? ⟨g, 3, none⟩ = false
  f4 : w.frozen? ⟨g, 4, none⟩ = false
  f5 : w.frozen? ⟨g, 5, none⟩ = false
  f6 : w.frozen? ⟨g, 6, none⟩ = false
theorem Un.below {w w' : World} {B g : Nat} {u : Ut} (h : Un w B g u) (hb : Below w.heap.size w w') : Un w' B g u := by
  obtain ⟨hc, hf⟩ := bcell hb
  have hl := h.lt
  exact ⟨h.base, Nat.lt_of_lt_of_le hl hb.size, (hc _ _ hl).trans h.c0, (hc _ _ hl).trans h.c1, (hc _ _ hl).trans h.c2, (hc _ _ hl).trans h.c3, (hc _ _ hl).trans h.c4, (hc _ _ hl).trans h.c5, (hc _ _ hl).trans h.c6,
    (hf _ _ hl).trans h.f0, (hf _ _ hl).trans h.f1, (hf _ _ hl).trans h.f2, (hf _ _ hl).trans h.f3, (hf _ _ hl).trans h.f4, (hf _ _ hl).trans h.f5, (hf _ _ hl).trans h.f6⟩
section
variable (B g : Nat) (t : ByteArray) (u : Ut) (w : World)
end
end Go.Proofs.YthlbockphdbpkaaDoor
namespace Go.Proofs.YthlbockphdbpkaaDoor
open Go.RowKit
def Ut.zero : Ut := ⟨0, 0, 0, 0, 0, 0, 0⟩
def Ut.first : Ut := ⟨0, 1, 0, 1, 0, 0, 0⟩
/-- What texts from a place on make of an until: it, or the place of what makes none, and why. -/
def Mo.run : Nat → List ByteArray → Ut → Ut × Nat × Int
  | _, [], u => (u, 0, 0)
  | i, t :: l, u => if (Mo.step i t u).2 = 0 then Mo.run (i + 1) l (Mo.step i t u).1 else (Ut.zero, i, (Mo.step i t u).2)
/-- The until that texts tell, or the place of what tells none, and why. -/
def Mo.prsU (L : List ByteArray) : Ut × Nat × Int := if L = [] then (Ut.zero, 0, 5) else if 4 < L.length then (Ut.zero, 4, 6) else Mo.run 0 L Ut.first
theorem Un.stay {w w' : World} {B B' g : Nat} {u : Ut} (h : Un w B g u) (hb : Below B' w w') (hg : g < B') : Un w' B g u := by
  have hc : ∀ o, w'.cell? ⟨g, o, none⟩ = w.cell? ⟨g, o, none⟩ := fun o => hb.cell (p := ⟨g, o, none⟩) hg
  have hf : ∀ o, w'.frozen? ⟨g, o, none⟩ = w.frozen? ⟨g, o, none⟩ := fun o => hb.frozen (p := ⟨g, o, none⟩) hg
  exact ⟨h.base, Nat.lt_of_lt_of_le h.lt hb.size, (hc _).trans h.c0, (hc _).trans h.c1, (hc _).trans h.c2, (hc _).trans h.c3, (hc _).trans h.c4, (hc _).trans h.c5, (hc _).trans h.c6,
    (hf _).trans h.f0, (hf _).trans h.f1, (hf _).trans h.f2, (hf _).trans h.f3, (hf _).trans h.f4, (hf _).trans h.f5, (hf _).trans h.f6⟩
end Go.Proofs.YthlbockphdbpkaaDoor
namespace Go.Proofs.YthlbockphdbpkaaDoor
open Go.RowKit
/-- Four texts at block g. -/
structure Four (w : World) (g : Nat) (T0 T1 T2 T3 : ByteArray) : Prop where
  lt : g < w.heap.size
  c0 : w.cell? ⟨g, 0, none⟩ = some (.string T0)
  c1 : w.cell? ⟨g, 1, none⟩ = some (.string T1)
  c2 : w.cell? ⟨g, 2, none⟩ = some (.string T2)
  c3 : w.cell? ⟨g, 3, none⟩ = some (.string T3)
theorem Four.below {w w' : World} {g : Nat} {T0 T1 T2 T3 : ByteArray} (h : Four w g T0 T1 T2 T3) (hb : Below w.heap.size w w') : Four w' g T0 T1 T2 T3 := by
  obtain ⟨hc, _⟩ := bcell hb
  exact ⟨Nat.lt_of_lt_of_le h.lt hb.size, (hc _ _ h.lt).trans h.c0, (hc _ _ h.lt).trans h.c1, (hc _ _ h.lt).trans h.c2, (hc _ _ h.lt).trans h.c3⟩
section
variable (g : Nat) (T0 T1 T2 T3 : ByteArray) (w : World)
end
end Go.Proofs.YthlbockphdbpkaaDoor
namespace Go.Proofs.YthlbockphdbpkaaDoor
open Go.RowKit
/-- How many of four texts are needed. -/
def Mo.nd (T1 T2 T3 : List UInt8) : Nat := if T3 = [48, 58, 48, 48] then (if T2 = [49] then (if T1 = [74, 97, 110] then 1 else 2) else 3) else 4
/-- The texts of a right until. -/
def Mo.t0 (u : Ut) : ByteArray := ⟨(Lib.itoa u.y).toArray⟩
def Mo.t1 (u : Ut) : ByteArray := Wd.three Wd.mons (u.m - 1).toNat
def Mo.t2 (u : Ut) : ByteArray := Dy.txt u.k u.n u.d
def Mo.t3 (u : Ut) : ByteArray := ⟨(Mo.txt u.s u.c).toArray⟩
def Mo.ndU (u : Ut) : Nat := Mo.nd (Mo.t1 u).data.toList (Mo.t2 u).data.toList (Mo.t3 u).data.toList
def Mo.un (u : Ut) : Bool := Mo.unt u.y u.m u.k u.n u.d u.s u.c
end Go.Proofs.YthlbockphdbpkaaDoor
namespace Go.Proofs.YthlbockphdbpkaaDoor
open Go.RowKit
/-- What is right of an until but for its year. -/
def Mo.good (u : Ut) : Prop := 1 ≤ u.m ∧ u.m ≤ 12 ∧ Dy.right u.k u.n u.d = true ∧ Mo.right u.s u.c = true ∧ 0 ≤ u.c
def Mo.texts (u : Ut) : List ByteArray := [Mo.t0 u, Mo.t1 u, Mo.t2 u, Mo.t3 u]
section
variable {u : Ut} (h : Mo.un u = true) (c0 : 0 ≤ u.c)
include h
theorem st1 (v : Ut) : Mo.step 1 (Mo.t1 u) v = ({ v with m := u.m }, 0) := by
  obtain ⟨⟨y1, y2, m1, m2⟩, hd, hr⟩ := unt_parts h
  have e : Wd.pick (Mo.t1 u) Wd.mons + 1 = u.m := by
    have := (Wd.mons_back (u.m - 1).toNat (by omega)).1
    show Wd.pick (Wd.three Wd.mons (u.m - 1).toNat) Wd.mons + 1 = u.m
    rw [this]
    omega
  show (({ v with m := Wd.pick (Mo.t1 u) Wd.mons + 1 } : Ut), if Wd.pick (Mo.t1 u) Wd.mons + 1 = 0 then (7 : Int) else 0) = _
  rw [e, if_neg (by omega)]
theorem d2 (e : (Mo.t2 u).data.toList = [49]) : u.k = 0 ∧ u.n = 1 ∧ u.d = 0 := by
  obtain ⟨_, hd, hr⟩ := unt_parts h
  have h1 : Dy.prs (Mo.t2 u) = some (u.k, u.n, u.d) := Dy.back hd
  rw [show Mo.t2 u = ⟨#[49]⟩ from ByteArray.ext (Array.toList_inj.1 (by rw [e])), show Dy.prs ⟨#[49]⟩ = some (0, 1, 0) by decide +kernel] at h1
  injection h1 with h2
  injection h2 with h2 h3
  injection h3 with h3 h4
  exact ⟨h2.symm, h3.symm, h4.symm⟩
omit c0 in
theorem d1 (e : (Mo.t1 u).data.toList = [74, 97, 110]) : u.m = 1 := by
  have h1 := congrArg (fun r => r.1.m) (st1 h Ut.first)
  have h2 : Wd.pick (Mo.t1 u) Wd.mons + 1 = u.m := h1
  rw [show Mo.t1 u = ⟨#[74, 97, 110]⟩ from ByteArray.ext (Array.toList_inj.1 (by rw [e])), show Wd.pick ⟨#[74, 97, 110]⟩ Wd.mons = 0 by decide +kernel] at h2
  omega
end
end Go.Proofs.YthlbockphdbpkaaDoor
namespace Go.Proofs.YthlbockphdbpkaaDoor
open Go.RowKit
theorem index_split : ∀ (s sub : List UInt8), 0 ≤ Lib.index s sub → s = s.take (Lib.index s sub).toNat ++ sub ++ s.drop ((Lib.index s sub).toNat + sub.length)
  | [], sub, h => by
    unfold Lib.index at *
    split at h
    · rename_i hp
      rw [if_pos hp]
      simp only [List.isEmpty_iff] at hp
      simp [hp]
    · omega
  | c :: s, sub, h => by
    unfold Lib.index at *
    split at h
    · rename_i hp
      rw [if_pos hp]
      obtain ⟨t, ht⟩ := List.isPrefixOf_iff_prefix.1 hp
      rw [← ht]
      simp
    · rename_i hp
      rw [if_neg hp]
      split at h
      · omega
      · rename_i hn
        rw [if_neg hn]
        have hge := Lib.index_ge s sub
        have hne : Lib.index s sub ≠ -1 := by simpa using hn
        have ih := index_split s sub (by omega)
        have e : (Lib.index s sub + 1).toNat = (Lib.index s sub).toNat + 1 := by omega
        rw [e]
        simp only [List.take_succ_cons, List.cons_append, List.cons.injEq, true_and]
        rw [show (Lib.index s sub).toNat + 1 + sub.length = ((Lib.index s sub).toNat + sub.length) + 1 by omega, List.drop_succ_cons]
        exact ih
namespace Fm
def isd (c : UInt8) : Bool := decide (48 ≤ c.toNat ∧ c.toNat ≤ 57)
def sg (c : UInt8) : Bool := decide ((97 ≤ c.toNat ∧ c.toNat ≤ 122) ∨ (65 ≤ c.toNat ∧ c.toNat ≤ 90) ∨ (48 ≤ c.toNat ∧ c.toNat ≤ 57) ∨ c.toNat = 43 ∨ c.toNat = 45)
def sgs (l : List UInt8) : Bool := l.all sg
/-- What the mark of a format stands for, what is ahead of it, what behind. -/
def cutF (l : List UInt8) : Nat × List UInt8 × List UInt8 :=
  if (Lib.cut l [37, 115]).2.2 = true then (0, (Lib.cut l [37, 115]).1, (Lib.cut l [37, 115]).2.1)
  else if (Lib.cut l [37, 122]).2.2 = true then (1, (Lib.cut l [37, 122]).1, (Lib.cut l [37, 122]).2.1)
  else if (Lib.cut l [47]).2.2 = true then (2, (Lib.cut l [47]).1, (Lib.cut l [47]).2.1) else (3, l, [])
def fits (m : Nat) (a b : List UInt8) : Bool := !(m == 2 && (a.isEmpty || b.isEmpty)) && (sgs a && sgs b)
/-- A format is right. -/
def fmt (l : List UInt8) : Bool := decide (1 ≤ l.length ∧ l.length ≤ 32) && fits (cutF l).1 (cutF l).2.1 (cutF l).2.2
/-- A letter is right. -/
def ltr (l : List UInt8) : Bool := decide (l.length ≤ 32) && (!(l == [45]) && sgs l)
theorem cut_join {l sep : List UInt8} (h : (Lib.cut l sep).2.2 = true) : l = (Lib.cut l sep).1 ++ sep ++ (Lib.cut l sep).2.1 := by
  unfold Lib.cut at *
  split at h
  · rename_i hi
    rw [if_pos hi]
    exact index_split l sep hi
  · cases h
/-- How a format lies. -/
theorem cutF_cases (l : List UInt8) : ∃ m a b, cutF l = (m, a, b) ∧ ((m = 0 ∧ l = a ++ [37, 115] ++ b) ∨ (m = 1 ∧ l = a ++ [37, 122] ++ b) ∨ (m = 2 ∧ l = a ++ [47] ++ b) ∨ (m = 3 ∧ l = a ∧ b = [])) := by
  unfold cutF
  by_cases h1 : (Lib.cut l [37, 115]).2.2 = true
  · rw [if_pos h1]
    exact ⟨_, _, _, rfl, .inl ⟨rfl, cut_join h1⟩⟩
  · rw [if_neg h1]
    by_cases h2 : (Lib.cut l [37, 122]).2.2 = true
    · rw [if_pos h2]
      exact ⟨_, _, _, rfl, .inr (.inl ⟨rfl, cut_join h2⟩)⟩
    · rw [if_neg h2]
      by_cases h3 : (Lib.cut l [47]).2.2 = true
      · rw [if_pos h3]
        exact ⟨_, _, _, rfl, .inr (.inr (.inl ⟨rfl, cut_join h3⟩))⟩
      · rw [if_neg h3]
        exact ⟨_, _, _, rfl, .inr (.inr (.inr ⟨rfl, rfl, rfl⟩))⟩
end Fm
end Go.Proofs.YthlbockphdbpkaaDoor
namespace Go.Proofs.YthlbockphdbpkaaDoor
open Go.RowKit
/-- A rule: its name, nine numbers, its letter. -/
structure Ru where
  nm : ByteArray
  fr : Int
  tl : Int
  m : Int
  k : Int
  n : Int
  d : Int
  s : Int
  c : Int
  sv : Int
  lt : ByteArray
@[reducible] def ruV (r : Ru) : Value := .agg #[.string r.nm, .int .i64 r.fr, .int .i64 r.tl, .int .i64 r.m, .int .u8 r.k, .int .i64 r.n, .int .i64 r.d, .int .i64 r.s, .int .u8 r.c, .int .i64 r.sv, .string r.lt]
def Ru.zero : Ru := ⟨⟨#[]⟩, 0, 0, 0, 0, 0, 0, 0, 0, 0, ⟨#[]⟩⟩
def Rl.first (c : UInt8) : Bool := decide ((97 ≤ c.toNat ∧ c.toNat ≤ 122) ∨ (65 ≤ c.toNat ∧ c.toNat ≤ 90) ∨ c.toNat = 95)
def Rl.inn (c : UInt8) : Bool := decide ((97 ≤ c.toNat ∧ c.toNat ≤ 122) ∨ (65 ≤ c.toNat ∧ c.toNat ≤ 90) ∨ c.toNat = 95 ∨ (48 ≤ c.toNat ∧ c.toNat ≤ 57) ∨ c.toNat = 43 ∨ c.toNat = 45 ∨ c.toNat = 47)
/-- A text is a name. -/
def Rl.name (l : List UInt8) : Bool := decide (1 ≤ l.length ∧ l.length ≤ 64) && ((l.take 1).all Rl.first && l.all Rl.inn)
def Rl.time (t : Int) : Bool := decide (-604800 ≤ t ∧ t ≤ 604800)
def Rl.years (r : Ru) : Bool := decide (1 ≤ r.fr ∧ r.fr ≤ r.tl ∧ r.tl ≤ 9999)
def Rl.month (r : Ru) : Bool := decide (1 ≤ r.m ∧ r.m ≤ 12)
/-- A rule is right. -/
def Rl.right (r : Ru) : Bool := Rl.name r.nm.data.toList && (Rl.years r && (Rl.month r && (Dy.right r.k r.n r.d && (Mo.right r.s r.c && (Rl.time r.sv && Fm.ltr r.lt.data.toList)))))
def Rl.onlyW : ByteArray := ⟨#[111, 110, 108, 121]⟩
def Rl.maxW : ByteArray := ⟨#[109, 97, 120, 105, 109, 117, 109]⟩
def Rl.maxT : ByteArray := ⟨#[109, 97, 120]⟩
def Rl.ends : List ByteArray := [Rl.onlyW, Rl.maxW]
/-- The last year that a text tells of a rule from a year on, and why it tells none. -/
def Rl.till (fr : Int) (t : ByteArray) : Int × Int :=
  if Wd.pick t Rl.ends = 0 then (fr, 0) else if Wd.pick t Rl.ends = 1 then (9999, 0) else if Mo.yr t.data.toList = 0 then (0, 4) else if Mo.yr t.data.toList < fr then (0, 10) else (Mo.yr t.data.toList, 0)
/-- How much a text says is saved. -/
def Rl.save (l : List UInt8) : Int × Int := if l = [45] then (0, 0) else parseL l
/-- The letter that a text tells. -/
def Rl.lett (t : ByteArray) : ByteArray × Int := if t.data.toList = [45] then (⟨#[]⟩, 0) else if Fm.ltr t.data.toList = true then (t, 0) else (⟨#[]⟩, 4)
def Rl.nam (t : ByteArray) : ByteArray × Int := if Rl.name t.data.toList = true then (t, 0) else (⟨#[]⟩, 7)
/-- What a text at a place makes of a rule, and why it makes none. -/
def Rl.step (i : Nat) (t : ByteArray) (r : Ru) : Ru × Int :=
  match i with
  | 0 => ({ r with nm := (Rl.nam t).1 }, (Rl.nam t).2)
  | 1 => ({ r with fr := Mo.yr t.data.toList }, if Mo.yr t.data.toList = 0 then 4 else 0)
  | 2 => ({ r with tl := (Rl.till r.fr t).1 }, (Rl.till r.fr t).2)
  | 3 => (r, if t.data.toList = [45] then 0 else 4)
  | 4 => ({ r with m := Wd.pick t Wd.mons + 1 }, if Wd.pick t Wd.mons + 1 = 0 then 7 else 0)
  | 5 => match Dy.prs t with
    | some (k, n, d) => ({ r with k := k, n := n, d := d }, 0)
    | none => ({ r with k := 0, n := 0, d := 0 }, 4)
  | 6 => ({ r with s := (Mo.prs t.data.toList).1, c := ((Mo.prs t.data.toList).2.1 : Nat) }, (Mo.prs t.data.toList).2.2)
  | 7 => ({ r with sv := (Rl.save t.data.toList).1 }, (Rl.save t.data.toList).2)
  | _ => ({ r with lt := (Rl.lett t).1 }, (Rl.lett t).2)
/-- What texts from a place on make of a rule: it, or the place of what makes none, and why. -/
def Rl.run : Nat → List ByteArray → Ru → Ru × Nat × Int
  | _, [], r => (r, 0, 0)
  | i, t :: l, r => if (Rl.step i t r).2 = 0 then Rl.run (i + 1) l (Rl.step i t r).1 else (Ru.zero, i, (Rl.step i t r).2)
/-- The rule that texts tell, or the place of what tells none, and why. -/
def Rl.prs (L : List ByteArray) : Ru × Nat × Int :=
  if (Rl.run 0 (L.take 9) Ru.zero).2.2 ≠ 0 then Rl.run 0 (L.take 9) Ru.zero
  else if L.length < 9 then (Ru.zero, L.length, 5) else if 9 < L.length then (Ru.zero, 9, 6) else Rl.run 0 (L.take 9) Ru.zero
/-- What is right of a rule when so many texts are read. -/
structure Rl.good (i : Nat) (r : Ru) : Prop where
  g0 : 0 < i → Rl.name r.nm.data.toList = true
  g1 : 1 < i → 1 ≤ r.fr ∧ r.fr ≤ 9999
  g2 : 2 < i → r.fr ≤ r.tl ∧ r.tl ≤ 9999
  g4 : 4 < i → 1 ≤ r.m ∧ r.m ≤ 12
  g5 : 5 < i → Dy.right r.k r.n r.d = true
  g6 : 6 < i → Mo.right r.s r.c = true ∧ 0 ≤ r.c
  g7 : 7 < i → -604800 ≤ r.sv ∧ r.sv ≤ 604800
  g8 : 8 < i → Fm.ltr r.lt.data.toList = true
/-- The texts of a right rule. -/
def Rl.t1 (r : Ru) : ByteArray := ⟨(Lib.itoa r.fr).toArray⟩
def Rl.t2 (r : Ru) : ByteArray := if r.tl = r.fr then Rl.onlyW else if r.tl = 9999 then Rl.maxT else ⟨(Lib.itoa r.tl).toArray⟩
def Rl.t4 (r : Ru) : ByteArray := Wd.three Wd.mons (r.m - 1).toNat
def Rl.t5 (r : Ru) : ByteArray := Dy.txt r.k r.n r.d
def Rl.t6 (r : Ru) : ByteArray := ⟨(Mo.txt r.s r.c).toArray⟩
def Rl.t7 (r : Ru) : ByteArray := ⟨(txt r.sv).toArray⟩
def Rl.t8 (r : Ru) : ByteArray := if r.lt.data.toList = [] then ⟨#[45]⟩ else r.lt
def Rl.texts (r : Ru) : List ByteArray := [r.nm, Rl.t1 r, Rl.t2 r, ⟨#[45]⟩, Rl.t4 r, Rl.t5 r, Rl.t6 r, Rl.t7 r, Rl.t8 r]
section
variable {r : Ru} (h : Rl.right r = true) (c0 : 0 ≤ r.c)
include h
end
end Go.Proofs.YthlbockphdbpkaaDoor
namespace Go.Proofs.YthlbockphdbpkaaDoor
open Go.RowKit
/-- An era: its standard offset, its kind, what is saved; the rules' name and the format; whether it ends, and when. -/
structure Er where
  sd : Int
  k : Int
  sv : Int
  ru : ByteArray
  fm : ByteArray
  en : Bool
  u : Ut
@[reducible] def erV (e : Er) : Value := .agg #[.int .i64 e.sd, .int .u8 e.k, .int .i64 e.sv, .string e.ru, .string e.fm, .bool e.en, .int .i64 e.u.y, .int .i64 e.u.m, .int .u8 e.u.k, .int .i64 e.u.n, .int .i64 e.u.d, .int .i64 e.u.s, .int .u8 e.u.c]
def Er.zero : Er := ⟨0, 0, 0, ⟨#[]⟩, ⟨#[]⟩, false, ⟨0, 0, 0, 0, 0, 0, 0⟩⟩
/-- What an era's kind asks for. -/
def El.kind (k sv : Int) (ru : List UInt8) : Bool :=
  if k = 0 then decide (sv = 0) && decide (ru = []) else if k = 1 then Rl.time sv && decide (ru = []) else if k = 2 then decide (sv = 0) && Rl.name ru else false
/-- There is no until. -/
def Ut.nil (u : Ut) : Bool := decide (u.y = 0 ∧ u.m = 0 ∧ u.k = 0 ∧ u.n = 0 ∧ u.d = 0 ∧ u.s = 0 ∧ u.c = 0)
def El.ends (en : Bool) (u : Ut) : Bool := if en = true then Mo.un u else u.nil
/-- An era is right. -/
def El.right (e : Er) : Bool := Rl.time e.sd && (El.kind e.k e.sv e.ru.data.toList && (Fm.fmt e.fm.data.toList && El.ends e.en e.u))
/-- A text begins as that of a time does. -/
def El.beg : List UInt8 → Bool
  | [] => false
  | [c] => Txt.isD c
  | c :: x :: _ => if c = 45 then Txt.isD x else Txt.isD c
def El.saved (t : ByteArray) (e : Er) : Er × Int :=
  if t.data.toList = [45] then ({ e with k := 0 }, 0) else if El.beg t.data.toList = true then ({ e with k := 1, sv := (parseL t.data.toList).1 }, (parseL t.data.toList).2)
  else if Rl.name t.data.toList = true then ({ e with k := 2, ru := t }, 0) else (e, 7)
def El.form (t : ByteArray) (e : Er) : Er × Int := if Fm.fmt t.data.toList = true then ({ e with fm := t }, 0) else (e, 4)
/-- What a text at a place makes of an era, and why it makes none. -/
def El.step (i : Nat) (t : ByteArray) (e : Er) : Er × Int :=
  match i with
  | 0 => if t.data.toList = [45] then (e, 0) else ({ e with sd := (parseL t.data.toList).1 }, (parseL t.data.toList).2)
  | 1 => El.saved t e
  | _ => El.form t e
def El.run : Nat → List ByteArray → Er → Er × Nat × Int
  | _, [], e => (e, 0, 0)
  | i, t :: l, e => if (El.step i t e).2 = 0 then El.run (i + 1) l (El.step i t e).1 else (Er.zero, i, (El.step i t e).2)
/-- The era that texts tell, or the place of what tells none, and why. -/
def El.prs (L : List ByteArray) : Er × Nat × Int :=
  if (El.run 0 (L.take 3) Er.zero).2.2 ≠ 0 then El.run 0 (L.take 3) Er.zero
  else if L.length < 3 then (Er.zero, L.length, 5) else if L.length = 3 then El.run 0 (L.take 3) Er.zero
  else if (Mo.prsU (L.drop 3)).2.2 ≠ 0 then (Er.zero, 3 + (Mo.prsU (L.drop 3)).2.1, (Mo.prsU (L.drop 3)).2.2)
  else ({ (El.run 0 (L.take 3) Er.zero).1 with en := true, u := (Mo.prsU (L.drop 3)).1 }, 0, 0)
/-- What is right of an era when so many texts are read. -/
structure El.good (i : Nat) (e : Er) : Prop where
  no : e.en = false
  nu : e.u = ⟨0, 0, 0, 0, 0, 0, 0⟩
  g0 : -604800 ≤ e.sd ∧ e.sd ≤ 604800
  z1 : i ≤ 1 → e.sv = 0 ∧ e.ru = ⟨#[]⟩
  g1 : 1 < i → El.kind e.k e.sv e.ru.data.toList = true
  k0 : 0 ≤ e.k
  g2 : 2 < i → Fm.fmt e.fm.data.toList = true
/-- How many texts an era has. -/
def El.num (e : Er) : Nat := if e.en = true then 3 + Mo.ndU e.u else 3
/-- The texts of a right era. -/
def El.t0 (e : Er) : ByteArray := ⟨(txt e.sd).toArray⟩
def El.t1 (e : Er) : ByteArray := if e.k = 1 then ⟨(txt e.sv).toArray⟩ else if e.k = 2 then e.ru else ⟨#[45]⟩
def El.rest (e : Er) : List ByteArray := if e.en = true then (Mo.texts e.u).take (Mo.ndU e.u) else []
def El.texts (e : Er) : List ByteArray := [El.t0 e, El.t1 e, e.fm] ++ El.rest e
section
variable {e : Er} (h : El.right e = true)
include h
end
end Go.Proofs.YthlbockphdbpkaaDoor
namespace Go.Proofs.YthlbockphdbpkaaDoor
open Go.RowKit
theorem cell_blk {w : World} {g : Nat} {t : TypeId} {cs : Array Value} (h : w.heap[g]? = some (.cells cs t (0, 0))) (i : Nat) : w.cell? ⟨g, i, none⟩ = cs[i]? := cell_of_row w g i cs t (0, 0) h
theorem frozen_blk {w : World} {g : Nat} {t : TypeId} {cs : Array Value} (h : w.heap[g]? = some (.cells cs t (0, 0))) (i : Nat) : w.frozen? ⟨g, i, none⟩ = false := by simp [World.frozen?, h]
theorem set_blk {w : World} {g : Nat} {t : TypeId} {cs : Array Value} (h : w.heap[g]? = some (.cells cs t (0, 0))) (i : Nat) (u : Value) : (w.setCell ⟨g, i, none⟩ u).heap[g]? = some (.cells (cs.setIfInBounds i u) t (0, 0)) := by
  simp [World.setCell, Array.getElem?_modify, h]
theorem lt_blk {w : World} {g : Nat} {o : Obj} (h : w.heap[g]? = some o) : g < w.heap.size := by
  rcases Nat.lt_or_ge g w.heap.size with hlt | hge
  · exact hlt
  · rw [Array.getElem?_eq_none hge] at h; cases h
theorem addr_add (g j : Nat) : (⟨g, 0, none⟩ : Addr).add j = ⟨g, j, none⟩ := by unfold Addr.add; split <;> simp_all
/-- 'string(b)' of a block whose first cells are the bytes l. -/
theorem conv_blk {w : World} {g cap : Nat} {l : List UInt8} {n : Nat} (hn : n = l.length) (hc : ∀ j (hj : j < l.length), w.cell? ⟨g, j, none⟩ = some (.int .u8 (l[j].toNat : Int))) :
    (convert 70 9 (.slice (some ⟨g, 0, none⟩) n cap)).run Tryd.prog w = .ok (.string ⟨l.toArray⟩) w := by
  subst hn
  exact run_convert_bytes_back w 70 9 5 ⟨g, 0, none⟩ cap l Tryd.underlying70 Tryd.underlying5 Tryd.underlying9 (fun j hj => by rw [addr_add]; exact hc j hj)
theorem u8_info : (Tryd.prog.info? 5).map (fun i => (i.zero, i.size, i.bytes)) = some (some (.int .u8 0), 1, 1) := by kernel_rfl
theorem isSome_blk {w : World} {g : Nat} {t : TypeId} {cs : Array Value} (h : w.heap[g]? = some (.cells cs t (0, 0))) (i : Nat) (hi : i < cs.size) : (w.cell? ⟨g, i, none⟩).isSome = true := by
  rw [cell_blk h, Array.getElem?_eq_getElem hi]; rfl
def tup (s : List UInt8) (k : Int) : Ending := .returned (.tuple #[.string ⟨s.toArray⟩, .int .i64 k])
theorem addr_at (g j : Nat) : (⟨g, 0, none⟩ : Addr).add j = ⟨g, j, none⟩ := addr_add g j
end Go.Proofs.YthlbockphdbpkaaDoor
