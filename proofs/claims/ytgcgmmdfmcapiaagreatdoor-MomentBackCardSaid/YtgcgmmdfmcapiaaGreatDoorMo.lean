/- Contracts of package moment, its numbers: isClock, isNear, isMoment, Check, Nominal, Instant. -/
import Derived.Test.YtgcgmmdfmcapiaaGreatDoorClock
import Derived.Test.YtgcgmmdfmcapiaaGreatDoorDayIn
namespace Go.Proofs.YtgcgmmdfmcapiaaGreatDoor
open Go.RowKit
theorem isClock_yes (c : Int) (w : World) (h : c ≤ 2) : Calls Tryz.prog 22 #[.int .u8 c] w fun e w' => e = .returned (.bool true) ∧ w = w' := by
  have h3 : c < 3 := by omega
  go_enter Tryz.func22, Tryz.ntmps22
  go_wp2
  go_ret
  exact ⟨rfl, rfl⟩
theorem isClock_no (c : Int) (w : World) (h : 2 < c) : Calls Tryz.prog 22 #[.int .u8 c] w fun e w' => e = .returned (.bool false) ∧ w = w' := by
  have t1 : decide (c < 3) = false := by simp; omega
  go_enter Tryz.func22, Tryz.ntmps22
  go_wp2
  go_ret
  exact ⟨rfl, rfl⟩
theorem near_yes (t : Int) (w : World) (h1 : -1099511627776 ≤ t) (h2 : t ≤ 1099511627776) : Calls Tryz.prog 23 #[.int .i64 t] w fun e w' => e = .returned (.bool true) ∧ w = w' := by
  go_enter Tryz.func23, Tryz.ntmps23
  go_wp2
  go_ret
  exact ⟨rfl, rfl⟩
theorem near_no (t : Int) (w : World) (h : t < -1099511627776 ∨ 1099511627776 < t) : Calls Tryz.prog 23 #[.int .i64 t] w fun e w' => e = .returned (.bool false) ∧ w = w' := by
  rcases h with h | h
  · go_enter Tryz.func23, Tryz.ntmps23
    go_wp2
    go_ret
    exact ⟨rfl, rfl⟩
  · have h' : -1099511627776 ≤ t := by omega
    have t1 : decide (t ≤ 1099511627776) = false := by simp; omega
    go_enter Tryz.func23, Tryz.ntmps23
    go_wp2
    go_ret
    exact ⟨rfl, rfl⟩
/-- A moment is right. -/
def Mo.right (s c : Int) : Bool := decide (-604800 ≤ s ∧ s ≤ 604800 ∧ c ≤ 2)
theorem Mo.right_iff (s c : Int) : Mo.right s c = true ↔ (-604800 ≤ s ∧ s ≤ 604800 ∧ c ≤ 2) := by unfold Mo.right; exact decide_eq_true_iff
theorem isMoment_yes (s c : Int) (w : World) (h : Mo.right s c = true) : Calls Tryz.prog 18 #[.agg #[.int .i64 s, .int .u8 c]] w fun e w' => e = .returned (.bool true) ∧ Below w.heap.size w w' := by
  rw [Mo.right_iff] at h
  obtain ⟨h1, h2, h3⟩ := h
  go_enter Tryz.func18, Tryz.ntmps18
  go_wp2_with fail
  refine (isClock_yes _ _ h3).mono ?_
  rintro e w' ⟨rfl, rfl⟩
  go_wp2_with fail
  go_ret
  exact ⟨rfl, (Below.refl _ _).alloc (Nat.le_refl _) _⟩
theorem isMoment_no (s c : Int) (w : World) (h : Mo.right s c = false) : Calls Tryz.prog 18 #[.agg #[.int .i64 s, .int .u8 c]] w fun e w' => e = .returned (.bool false) ∧ Below w.heap.size w w' := by
  have h := of_decide_eq_false h
  by_cases g1 : s < -604800
  · clear h
    go_enter Tryz.func18, Tryz.ntmps18
    go_wp2_with fail
    go_ret
    exact ⟨rfl, (Below.refl _ _).alloc (Nat.le_refl _) _⟩
  · by_cases g2 : 604800 < s
    · have h' : -604800 ≤ s := by omega
      have t1 : decide (s ≤ 604800) = false := by simp; omega
      clear h g1
      go_enter Tryz.func18, Tryz.ntmps18
      go_wp2_with fail
      go_ret
      exact ⟨rfl, (Below.refl _ _).alloc (Nat.le_refl _) _⟩
    · have h1 : -604800 ≤ s := by omega
      have h2 : s ≤ 604800 := by omega
      have h3 : 2 < c := by omega
      clear h g1 g2
      go_enter Tryz.func18, Tryz.ntmps18
      go_wp2_with fail
      refine (isClock_no _ _ h3).mono ?_
      rintro e w' ⟨rfl, rfl⟩
      go_wp2_with fail
      go_ret
      exact ⟨rfl, (Below.refl _ _).alloc (Nat.le_refl _) _⟩
theorem mcheck_yes (s c : Int) (w : World) (h : Mo.right s c = true) : Calls Tryz.prog 26 #[.agg #[.int .i64 s, .int .u8 c]] w fun e w' => e = .returned (.int .i64 0) ∧ Below w.heap.size w w' := by
  have H := Lib.hid h
  clear h
  go_enter Tryz.func26, Tryz.ntmps26
  go_wp2_with fail
  refine (isMoment_yes _ _ _ H.out).mono ?_
  rintro e w1 ⟨rfl, b1⟩
  have a1 := ((Below.refl w.heap.size w).alloc (Nat.le_refl _) (.cells #[.int .i64 s, .int .u8 c] 27)).trans (b1.mono (by simp))
  go_wp2_with fail
  go_ret
  exact ⟨rfl, a1⟩
theorem mcheck_no (s c : Int) (w : World) (h : Mo.right s c = false) : Calls Tryz.prog 26 #[.agg #[.int .i64 s, .int .u8 c]] w fun e w' => e = .returned (.int .i64 2) ∧ Below w.heap.size w w' := by
  have H := Lib.hid h
  clear h
  go_enter Tryz.func26, Tryz.ntmps26
  go_wp2_with fail
  refine (isMoment_no _ _ _ H.out).mono ?_
  rintro e w1 ⟨rfl, b1⟩
  have a1 := ((Below.refl w.heap.size w).alloc (Nat.le_refl _) (.cells #[.int .i64 s, .int .u8 c] 27)).trans (b1.mono (by simp))
  go_wp2_with fail
  go_ret
  exact ⟨rfl, a1⟩
/-- What day.In answers of a day of a month: some number that is a day, or some error; the same in every world. -/
def InE (k n d y m : Int) (v z : Int) : Prop := ∀ w : World, Calls Tryz.prog 15 #[.agg #[.int .u8 k, .int .i64 n, .int .i64 d], .int .i64 y, .int .i64 m] w fun e w' => e = .returned (.tuple #[.int .i64 v, .int .i64 z]) ∧ Below w.heap.size w w'
/-- The number that a day is, if it is one; 0: it is none, and why. -/
def Mo.inV (k n d y m : Int) : Int × Int :=
  if Dy.right k n d = false then (0, 2) else if ¬ (1 ≤ y ∧ y ≤ 9999 ∧ 1 ≤ m ∧ m ≤ 12) then (0, 1) else if Cal.len y m < n then (0, 3) else if Dy.at_ k n d y m < -719162 ∨ 2932896 < Dy.at_ k n d y m then (0, 1) else (Dy.at_ k n d y m, 0)
theorem in_all (k n d y m : Int) : InE k n d y m (Mo.inV k n d y m).1 (Mo.inV k n d y m).2 := by
  intro w
  unfold Mo.inV
  by_cases h1 : Dy.right k n d = false
  · rw [if_pos h1]
    exact din_form k n d y m w h1
  · rw [if_neg h1]
    have h1 : Dy.right k n d = true := by simpa using h1
    by_cases h2 : 1 ≤ y ∧ y ≤ 9999 ∧ 1 ≤ m ∧ m ≤ 12
    · rw [if_neg (by simpa using h2)]
      obtain ⟨y1, y2, m1, m2⟩ := h2
      by_cases h3 : Cal.len y m < n
      · rw [if_pos h3]
        exact din_few k n d y m w h1 y1 y2 m1 m2 h3
      · rw [if_neg h3]
        by_cases h4 : Dy.at_ k n d y m < -719162 ∨ 2932896 < Dy.at_ k n d y m
        · rw [if_pos h4]
          exact din_no k n d y m _ w h1 y1 y2 m1 m2 (by omega) (Lib.hid rfl) (Lib.hid h4)
        · rw [if_neg h4]
          exact din_yes k n d y m _ w h1 y1 y2 m1 m2 (by omega) (Lib.hid rfl) (by omega) (by omega)
    · rw [if_pos h2]
      exact din_month k n d y m w h1 h2
theorem in_cases (k n d y m : Int) : ((Mo.inV k n d y m).1 = 0 ∧ 1 ≤ (Mo.inV k n d y m).2 ∧ (Mo.inV k n d y m).2 ≤ 3) ∨ ((Mo.inV k n d y m).2 = 0 ∧ -719162 ≤ (Mo.inV k n d y m).1 ∧ (Mo.inV k n d y m).1 ≤ 2932896) := by
  unfold Mo.inV
  split
  · exact .inl ⟨rfl, by decide, by decide⟩
  · split
    · exact .inl ⟨rfl, by decide, by decide⟩
    · split
      · exact .inl ⟨rfl, by decide, by decide⟩
      · split
        · exact .inl ⟨rfl, by decide, by decide⟩
        · exact .inr ⟨rfl, by omega, by omega⟩
theorem nominal_form (k n d y m s c : Int) (w : World) (h : Mo.right s c = false) :
    Calls Tryz.prog 5 #[.int .i64 y, .int .i64 m, .agg #[.int .u8 k, .int .i64 n, .int .i64 d], .agg #[.int .i64 s, .int .u8 c]] w fun e w' => e = .returned (.tuple #[.int .i64 0, .int .i64 2]) ∧ Below w.heap.size w w' := by
  have H := Lib.hid h
  clear h
  go_enter Tryz.func5, Tryz.ntmps5
  go_wp2_with fail
  refine (isMoment_no _ _ _ H.out).mono ?_
  rintro e w1 ⟨rfl, b1⟩
  have hz := b1.size
  go_wp2_with fail
  go_ret2
  refine ⟨rfl, Below.trans ?_ (b1.mono (by first | omega | (simp; done) | (simp; omega)))⟩
  repeat (first | exact Below.refl _ _ | assumption | refine below_drewN ?_ _ | refine Below.drew ?_ | refine Below.setCell ?_ (by first | omega | (simp; done) | (simp; omega)) _ | refine Below.alloc ?_ (by first | omega | (simp; done) | (simp; omega)) _)
theorem nominal_in (k n d y m s c z : Int) (w : World) (h : Mo.right s c = true) (hI : Hid (InE k n d y m 0 z)) (hz : 1 ≤ z) :
    Calls Tryz.prog 5 #[.int .i64 y, .int .i64 m, .agg #[.int .u8 k, .int .i64 n, .int .i64 d], .agg #[.int .i64 s, .int .u8 c]] w fun e w' => e = .returned (.tuple #[.int .i64 0, .int .i64 z]) ∧ Below w.heap.size w w' := by
  have H := Lib.hid h
  clear h
  have t1 : (z != 0) = true := by rw [bne_iff_ne]; omega
  go_enter Tryz.func5, Tryz.ntmps5
  go_wp2_with fail
  refine (isMoment_yes _ _ _ H.out).mono ?_
  rintro e w1 ⟨rfl, b1⟩
  obtain ⟨hc, hf⟩ := bcell b1
  have hz1 : w.heap.size + 1 < w1.heap.size := by have := b1.size; simp at this; omega
  go_wp2_with fail
  refine (hI.out _).mono ?_
  rintro e w2 ⟨rfl, b2⟩
  have hz2 := b2.size
  go_wp2_with fail
  go_ret2
  refine ⟨rfl, Below.trans (Below.trans ?_ (b1.mono (by first | omega | (simp; done) | (simp; omega)))) (b2.mono (by first | omega | (simp; done) | (simp; omega)))⟩
  repeat (first | exact Below.refl _ _ | assumption | refine below_drewN ?_ _ | refine Below.drew ?_ | refine Below.setCell ?_ (by first | omega | (simp; done) | (simp; omega)) _ | refine Below.alloc ?_ (by first | omega | (simp; done) | (simp; omega)) _)
theorem nominal_yes (k n d y m s c v : Int) (w : World) (h : Mo.right s c = true) (hI : Hid (InE k n d y m v 0)) (v1 : -719162 ≤ v) (v2 : v ≤ 2932896) :
    Calls Tryz.prog 5 #[.int .i64 y, .int .i64 m, .agg #[.int .u8 k, .int .i64 n, .int .i64 d], .agg #[.int .i64 s, .int .u8 c]] w fun e w' => e = .returned (.tuple #[.int .i64 (v * 86400 + s), .int .i64 0]) ∧ Below w.heap.size w w' := by
  have H := Lib.hid h
  have hs := (Mo.right_iff s c).1 h
  obtain ⟨s1, s2, _⟩ := hs
  clear h
  go_enter Tryz.func5, Tryz.ntmps5
  go_wp2_with fail
  refine (isMoment_yes _ _ _ H.out).mono ?_
  rintro e w1 ⟨rfl, b1⟩
  obtain ⟨hc, hf⟩ := bcell b1
  have hz1 : w.heap.size + 1 < w1.heap.size := by have := b1.size; simp at this; omega
  go_wp2_with fail
  refine (hI.out _).mono ?_
  rintro e w2 ⟨rfl, b2⟩
  obtain ⟨hc2, hf2⟩ := bcell b2
  have hz2 : w.heap.size + 1 < w2.heap.size := by have := b2.size; omega
  go_wp2_with fail
  refine (at_yes v s _ v1 v2 s1 s2).mono ?_
  rintro e w3 ⟨rfl, b3⟩
  have hz3 := b3.size
  go_wp2_with fail
  go_ret2
  refine ⟨rfl, Below.trans (Below.trans (Below.trans ?_ (b1.mono (by first | omega | (simp; done) | (simp; omega)))) (b2.mono (by first | omega | (simp; done) | (simp; omega)))) (b3.mono (by first | omega | (simp; done) | (simp; omega)))⟩
  repeat (first | exact Below.refl _ _ | assumption | refine below_drewN ?_ _ | refine Below.drew ?_ | refine Below.setCell ?_ (by first | omega | (simp; done) | (simp; omega)) _ | refine Below.alloc ?_ (by first | omega | (simp; done) | (simp; omega)) _)
/-- The instant of a nominal time. -/
def Mo.inst (n c s v : Int) : Int := if c = 0 then n - v - s else if c = 1 then n - s else n
theorem instant_yes (n c s v : Int) (w : World) (h0 : 0 ≤ c) (h : c ≤ 2) (n1 : -1099511627776 ≤ n) (n2 : n ≤ 1099511627776) (s1 : -1099511627776 ≤ s) (s2 : s ≤ 1099511627776) (v1 : -1099511627776 ≤ v) (v2 : v ≤ 1099511627776) :
    Calls Tryz.prog 7 #[.int .i64 n, .int .u8 c, .int .i64 s, .int .i64 v] w fun e w' => e = .returned (.tuple #[.int .i64 (Mo.inst n c s v), .int .i64 0]) ∧ w = w' := by
  have hc : c = 0 ∨ c = 1 ∨ c = 2 := by omega
  rcases hc with rfl | rfl | rfl
  · show Calls Tryz.prog 7 _ w fun e w' => e = .returned (.tuple #[.int .i64 (n - v - s), .int .i64 0]) ∧ w = w'
    go_enter Tryz.func7, Tryz.ntmps7
    go_wp2_with fail
    refine (isClock_yes _ _ h).mono ?_
    rintro e w' ⟨rfl, rfl⟩
    go_wp2_with fail
    refine (near_yes n _ n1 n2).mono ?_
    rintro e w' ⟨rfl, rfl⟩
    go_wp2_with fail
    refine (near_yes s _ s1 s2).mono ?_
    rintro e w' ⟨rfl, rfl⟩
    go_wp2_with fail
    refine (near_yes v _ v1 v2).mono ?_
    rintro e w' ⟨rfl, rfl⟩
    go_wp2_with fail
    go_ret2
    exact ⟨rfl, rfl⟩
  · show Calls Tryz.prog 7 _ w fun e w' => e = .returned (.tuple #[.int .i64 (n - s), .int .i64 0]) ∧ w = w'
    go_enter Tryz.func7, Tryz.ntmps7
    go_wp2_with fail
    refine (isClock_yes _ _ h).mono ?_
    rintro e w' ⟨rfl, rfl⟩
    go_wp2_with fail
    refine (near_yes n _ n1 n2).mono ?_
    rintro e w' ⟨rfl, rfl⟩
    go_wp2_with fail
    refine (near_yes s _ s1 s2).mono ?_
    rintro e w' ⟨rfl, rfl⟩
    go_wp2_with fail
    refine (near_yes v _ v1 v2).mono ?_
    rintro e w' ⟨rfl, rfl⟩
    go_wp2_with fail
    go_ret2
    exact ⟨rfl, rfl⟩
  · show Calls Tryz.prog 7 _ w fun e w' => e = .returned (.tuple #[.int .i64 n, .int .i64 0]) ∧ w = w'
    go_enter Tryz.func7, Tryz.ntmps7
    go_wp2_with fail
    refine (isClock_yes _ _ h).mono ?_
    rintro e w' ⟨rfl, rfl⟩
    go_wp2_with fail
    refine (near_yes n _ n1 n2).mono ?_
    rintro e w' ⟨rfl, rfl⟩
    go_wp2_with fail
    refine (near_yes s _ s1 s2).mono ?_
    rintro e w' ⟨rfl, rfl⟩
    go_wp2_with fail
    refine (near_yes v _ v1 v2).mono ?_
    rintro e w' ⟨rfl, rfl⟩
    go_wp2_with fail
    go_ret2
    exact ⟨rfl, rfl⟩
end Go.Proofs.YtgcgmmdfmcapiaaGreatDoor
