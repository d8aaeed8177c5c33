/- The contracts of package clock's functions of numbers: Split, Year, At, isTime. -/
import Derived.Test.YtoaemkljlphieaaDoorCivil2
namespace Go.Proofs.YtoaemkljlphieaaDoor
open Go.RowKit
theorem tdiv_neg (t : Int) (h2 : t % 86400 ≠ 0) (h : t < 0) : t.tmod 86400 = t % 86400 - 86400 ∧ t.tdiv 86400 = t / 86400 + 1 := by
  have h1 := Int.tmod_eq_emod (a := t) (b := 86400)
  have h3 := Int.mul_tdiv_add_tmod t 86400
  rw [if_neg (by omega)] at h1
  simp at h1
  omega
theorem tdiv_zero (t : Int) (h2 : t % 86400 = 0) : t.tmod 86400 = 0 ∧ t.tdiv 86400 = t / 86400 := by
  have h1 := Int.tmod_eq_emod (a := t) (b := 86400)
  have h3 := Int.mul_tdiv_add_tmod t 86400
  rw [if_pos (.inr (by omega))] at h1
  omega
theorem ret2_int {k l : IntKind} {a b c d : Int} (h : a = c) (h' : b = d) : Ending.returned (.tuple #[.int k a, .int l b]) = .returned (.tuple #[.int k c, .int l d]) := by rw [h, h']
theorem split_any (t : Int) (w : World) (h1 : -9223372036854775808 ≤ t) (h2 : t ≤ 9223372036854775807) :
    Calls Tryd.prog 9 #[.int .i64 t] w fun e w' => e = .returned (.tuple #[.int .i64 (t / 86400), .int .i64 (t % 86400)]) ∧ w = w' := by
  by_cases h0 : 0 ≤ t
  · go_enter Tryd.func9, Tryd.ntmps9
    go_wp2
    go_ret2
    exact ⟨rfl, rfl⟩
  · by_cases hz : t % 86400 = 0
    · obtain ⟨e1, e2⟩ := tdiv_zero t hz
      have b1 : ¬ t.tmod 86400 < 0 := by omega
      have E1 := Lib.hid e1
      have E2 := Lib.hid e2
      have HZ := Lib.hid hz
      clear e1 e2 hz
      go_enter Tryd.func9, Tryd.ntmps9
      go_wp2
      go_ret2
      exact ⟨ret2_int E2.out (E1.out.trans HZ.out.symm), rfl⟩
    · obtain ⟨e1, e2⟩ := tdiv_neg t hz (by omega)
      have b1 : t.tmod 86400 < 0 := by omega
      have b2 : -86400 < t.tmod 86400 := by omega
      have b3 : -9223372036854775800 ≤ t.tdiv 86400 := by omega
      have b4 : t.tdiv 86400 ≤ 0 := by omega
      have E1 := Lib.hid e1
      have E2 := Lib.hid e2
      clear e1 e2 hz
      go_enter Tryd.func9, Tryd.ntmps9
      go_wp2
      go_ret2
      exact ⟨ret2_int (by have := E2.out; omega) (by have := E1.out; omega), rfl⟩
theorem year_yes (t : Int) (w : World) (h1 : -62135596800 ≤ t) (h2 : t < 253402300800) :
    Calls Tryd.prog 11 #[.int .i64 t] w fun e w' => e = .returned (.tuple #[.int .i64 (Cal.yearOf (t / 86400)), .int .i64 0]) ∧ Below w.heap.size w w' := by
  go_enter Tryd.func11, Tryd.ntmps11
  go_wp2_with fail
  refine (split_any _ _ (by omega) (by omega)).mono ?_
  rintro e w' ⟨rfl, rfl⟩
  go_wp2_with fail
  refine (of_yes _ _ (by omega) (by omega)).mono ?_
  rintro e w1 ⟨rfl, hb1⟩
  go_wp2_with fail
  go_ret2
  refine ⟨rfl, ?_⟩
  have := hb1.size
  repeat (first | exact Below.refl _ _ | assumption | refine below_drewN ?_ _ | refine Below.drew ?_ | refine Below.setCell ?_ (by first | omega | (simp; done) | (simp; omega)) _ | refine Below.alloc ?_ (by first | omega | (simp; done) | (simp; omega)) _)
theorem year_no (t : Int) (w : World) (h1 : -9223372036854775808 ≤ t) (h2 : t ≤ 9223372036854775807) (h : t < -62135596800 ∨ 253402300800 ≤ t) :
    Calls Tryd.prog 11 #[.int .i64 t] w fun e w' => e = .returned (.tuple #[.int .i64 0, .int .i64 1]) ∧ Below w.heap.size w w' := by
  have hd : t / 86400 < -719162 ∨ 2932896 < t / 86400 := by omega
  have HD := Lib.hid hd
  clear hd h
  go_enter Tryd.func11, Tryd.ntmps11
  go_wp2_with fail
  refine (split_any _ _ (by omega) (by omega)).mono ?_
  rintro e w' ⟨rfl, rfl⟩
  go_wp2_with fail
  refine (of_no _ _ HD.out).mono ?_
  rintro e w1 ⟨rfl, hb1⟩
  go_wp2_with fail
  go_ret2
  refine ⟨rfl, ?_⟩
  have := hb1.size
  repeat (first | exact Below.refl _ _ | assumption | refine below_drewN ?_ _ | refine Below.drew ?_ | refine Below.setCell ?_ (by first | omega | (simp; done) | (simp; omega)) _ | refine Below.alloc ?_ (by first | omega | (simp; done) | (simp; omega)) _)
theorem isTime_yes (t : Int) (w : World) (h1 : -604800 ≤ t) (h2 : t ≤ 604800) :
    Calls Tryd.prog 21 #[.int .i64 t] w fun e w' => e = .returned (.bool true) ∧ w = w' := by
  go_enter Tryd.func21, Tryd.ntmps21
  go_wp2
  go_ret
  exact ⟨rfl, rfl⟩
theorem isTime_no (t : Int) (w : World) (h : t < -604800 ∨ 604800 < t) :
    Calls Tryd.prog 21 #[.int .i64 t] w fun e w' => e = .returned (.bool false) ∧ w = w' := by
  rcases h with h | h
  · go_enter Tryd.func21, Tryd.ntmps21
    go_wp2
    go_ret
    exact ⟨rfl, rfl⟩
  · have h' : -604800 ≤ t := by omega
    have h2 : decide (t ≤ 604800) = false := by simp; omega
    go_enter Tryd.func21, Tryd.ntmps21
    go_wp2
    go_ret
    exact ⟨rfl, rfl⟩
theorem at_yes (d t : Int) (w : World) (h1 : -719162 ≤ d) (h2 : d ≤ 2932896) (h3 : -604800 ≤ t) (h4 : t ≤ 604800) :
    Calls Tryd.prog 7 #[.int .i64 d, .int .i64 t] w fun e w' => e = .returned (.tuple #[.int .i64 (d * 86400 + t), .int .i64 0]) ∧ Below w.heap.size w w' := by
  go_enter Tryd.func7, Tryd.ntmps7
  go_wp2_with fail
  refine (of_yes _ _ (by omega) (by omega)).mono ?_
  rintro e w1 ⟨rfl, hb1⟩
  go_wp2_with (go_at_call 21; refine (isTime_yes _ _ (by omega) (by omega)).mono ?_; rintro e w' ⟨rfl, rfl⟩)
  go_ret2
  refine ⟨rfl, ?_⟩
  have := hb1.size
  repeat (first | exact Below.refl _ _ | assumption | refine below_drewN ?_ _ | refine Below.drew ?_ | refine Below.setCell ?_ (by first | omega | (simp; done) | (simp; omega)) _ | refine Below.alloc ?_ (by first | omega | (simp; done) | (simp; omega)) _)
theorem at_no_day (d t : Int) (w : World) (h : d < -719162 ∨ 2932896 < d) :
    Calls Tryd.prog 7 #[.int .i64 d, .int .i64 t] w fun e w' => e = .returned (.tuple #[.int .i64 0, .int .i64 1]) ∧ Below w.heap.size w w' := by
  have HD := Lib.hid h
  clear h
  go_enter Tryd.func7, Tryd.ntmps7
  go_wp2_with fail
  refine (of_no _ _ HD.out).mono ?_
  rintro e w1 ⟨rfl, hb1⟩
  go_wp2_with fail
  go_ret2
  refine ⟨rfl, ?_⟩
  have := hb1.size
  repeat (first | exact Below.refl _ _ | assumption | refine below_drewN ?_ _ | refine Below.drew ?_ | refine Below.setCell ?_ (by first | omega | (simp; done) | (simp; omega)) _ | refine Below.alloc ?_ (by first | omega | (simp; done) | (simp; omega)) _)
theorem at_no_time (d t : Int) (w : World) (h1 : -719162 ≤ d) (h2 : d ≤ 2932896) (h : t < -604800 ∨ 604800 < t) :
    Calls Tryd.prog 7 #[.int .i64 d, .int .i64 t] w fun e w' => e = .returned (.tuple #[.int .i64 0, .int .i64 1]) ∧ Below w.heap.size w w' := by
  have HD := Lib.hid h
  clear h
  go_enter Tryd.func7, Tryd.ntmps7
  go_wp2_with fail
  refine (of_yes _ _ (by omega) (by omega)).mono ?_
  rintro e w1 ⟨rfl, hb1⟩
  go_wp2_with (go_at_call 21; refine (isTime_no _ _ HD.out).mono ?_; rintro e w' ⟨rfl, rfl⟩)
  go_ret2
  refine ⟨rfl, ?_⟩
  have := hb1.size
  repeat (first | exact Below.refl _ _ | assumption | refine below_drewN ?_ _ | refine Below.drew ?_ | refine Below.setCell ?_ (by first | omega | (simp; done) | (simp; omega)) _ | refine Below.alloc ?_ (by first | omega | (simp; done) | (simp; omega)) _)
end Go.Proofs.YtoaemkljlphieaaDoor
