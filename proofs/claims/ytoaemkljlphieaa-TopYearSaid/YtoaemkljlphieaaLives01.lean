/- The first questions of layer 1's statements: the document's own answers. -/
import Derived.Test.YtoaemkljlphieaaCivil2
import Derived.Deep.RegionWith
namespace Go.Proofs.Ytoaemkljlphieaa
open Go.RowKit
theorem valid_lit {y m d : Int} (h : (decide (1 ≤ y) && decide (y ≤ 9999) && decide (1 ≤ m) && decide (m ≤ 12) && decide (1 ≤ d) && decide (d ≤ Cal.len y m)) = true) : Cal.Valid y m d := by
  simp only [Bool.and_eq_true, decide_eq_true_eq] at h
  exact ⟨h.1.1.1.1.1, h.1.1.1.1.2, h.1.1.1.2, h.1.1.2, h.1.2, h.2⟩
theorem not_valid_lit {y m d : Int} (h : (decide (1 ≤ y) && decide (y ≤ 9999) && decide (1 ≤ m) && decide (m ≤ 12) && decide (1 ≤ d) && decide (d ≤ Cal.len y m)) = false) : ¬ Cal.Valid y m d := by
  rintro ⟨a, b, c, d, e, f⟩
  simp [a, b, c, d, e, f] at h
theorem days_lit (y m d n : Int) (w : World) (h : (decide (1 ≤ y) && decide (y ≤ 9999) && decide (1 ≤ m) && decide (m ≤ 12) && decide (1 ≤ d) && decide (d ≤ Cal.len y m)) = true) (e : Cal.num y m d = n) :
    Calls Try.prog 8 #[.agg #[.int .i64 y, .int .i64 m, .int .i64 d]] w fun e w' => e = .returned (.tuple #[.int .i64 n, .int .i64 0]) ∧ Below w.heap.size w w' := by
  subst e
  exact days_yes y m d w (valid_lit h)
theorem of_lit (n y m d : Int) (w : World) (h : (decide (1 ≤ y) && decide (y ≤ 9999) && decide (1 ≤ m) && decide (m ≤ 12) && decide (1 ≤ d) && decide (d ≤ Cal.len y m)) = true) (e : Cal.num y m d = n) :
    Calls Try.prog 10 #[.int .i64 n] w fun e w' => e = .returned (.tuple #[.agg #[.int .i64 y, .int .i64 m, .int .i64 d], .int .i64 0]) ∧ Below w.heap.size w w' := by
  have hv := valid_lit h
  have hr := Cal.num_range y m d hv
  obtain ⟨a, b, c⟩ := Cal.of_num y m d n hv e
  have := of_yes n w (by omega) (by omega)
  rw [a, b, c] at this
  exact this
theorem length_lit (y m n : Int) (w : World) (h : (decide (1 ≤ y) && decide (y ≤ 9999) && decide (1 ≤ m) && decide (m ≤ 12)) = true) (e : Cal.len y m = n) :
    Calls Try.prog 12 #[.int .i64 y, .int .i64 m] w fun e w' => e = .returned (.tuple #[.int .i64 n, .int .i64 0]) ∧ w = w' := by
  subst e
  simp only [Bool.and_eq_true, decide_eq_true_eq] at h
  exact length_yes y m w h.1.1.1 h.1.1.2 h.1.2 h.2
theorem first_lit (y n : Int) (w : World) (h1 : 1 ≤ y) (h2 : y ≤ 10000) (e : Cal.fst y = n) :
    Calls Try.prog 14 #[.int .i64 y] w fun e w' => e = .returned (.tuple #[.int .i64 n, .int .i64 0]) ∧ Below w.heap.size w w' := by
  subst e
  exact first_yes y w h1 h2
theorem weekday_lit (n k : Int) (w : World) (h1 : -9223372036854775808 ≤ n) (h2 : n ≤ 9223372036854775807) (e : (n + 4) % 7 = k) :
    Calls Try.prog 21 #[.int .i64 n] w fun e w' => e = .returned (.int .i64 k) ∧ w = w' := by
  subst e
  exact weekday_any n w h1 h2
theorem leap_lit (y : Int) (b : Bool) (w : World) (e : lpB y = b) :
    Calls Try.prog 17 #[.int .i64 y] w fun e w' => e = .returned (.bool b) ∧ w = w' := by
  subst e
  exact leap_any y w
set_option maxRecDepth 100000 in
theorem lives01 (w : World) : Calls Try.prog 16 #[] w fun e w' => e = .returned (.bool true) ∧ Below w.heap.size w w' := by
  go_enter Try.func16, Try.ntmps16
  go_wp2_with fail
  refine (days_lit 2000 3 1 11017 _ (by decide) (by decide)).mono ?_
  rintro e w1 ⟨rfl, hb1⟩
  go_wp2_with fail
  refine (of_lit (-1) 1969 12 31 _ (by decide) (by decide)).mono ?_
  rintro e w2 ⟨rfl, hb2⟩
  go_wp2_with fail
  refine (days_no 1900 2 29 _ (not_valid_lit (by decide))).mono ?_
  rintro e w3 ⟨rfl, hb3⟩
  obtain ⟨hc3, hf3⟩ := bcell hb3
  have hz3 : w2.heap.size < w3.heap.size := by have := hb3.size; (try simp at this); omega
  go_wp2_with fail
  refine (of_no 2932897 _ (by omega)).mono ?_
  rintro e w4 ⟨rfl, hb4⟩
  obtain ⟨hc4, hf4⟩ := bcell hb4
  have hz4 : w2.heap.size < w4.heap.size := by have := hb4.size; omega
  go_wp2_with fail
  refine (length_lit 2024 2 29 _ (by decide) (by decide)).mono ?_
  rintro e w5 ⟨rfl, rfl⟩
  go_wp2_with fail
  refine (first_lit 10000 2932897 _ (by omega) (by omega) (by decide)).mono ?_
  rintro e w5 ⟨rfl, hb5⟩
  obtain ⟨hc5, hf5⟩ := bcell hb5
  have hz5 : w2.heap.size < w5.heap.size := by have := hb5.size; (try simp at this); omega
  go_wp2_with fail
  refine (first_no 0 _ (by omega)).mono ?_
  rintro e w6 ⟨rfl, hb6⟩
  obtain ⟨hc6, hf6⟩ := bcell hb6
  have hz6 : w2.heap.size < w6.heap.size := by have := hb6.size; (try simp at this); omega
  go_wp2_with fail
  refine (weekday_lit 0 4 _ (by omega) (by omega) (by decide)).mono ?_
  rintro e w' ⟨rfl, rfl⟩
  go_wp2_with fail
  refine (weekday_lit (-5) 6 _ (by omega) (by omega) (by decide)).mono ?_
  rintro e w' ⟨rfl, rfl⟩
  go_wp2_with fail
  refine (leap_lit 2000 true _ (by decide)).mono ?_
  rintro e w' ⟨rfl, rfl⟩
  go_wp2_with fail
  refine (leap_lit 1900 false _ (by decide)).mono ?_
  rintro e w' ⟨rfl, rfl⟩
  go_wp2_with fail
  refine (check_yes 1969 12 31 _ (valid_lit (by decide))).mono ?_
  rintro e w7 ⟨rfl, hb7⟩
  go_wp2_with fail
  go_ret
  refine ⟨rfl, ?_⟩
  have h2 : Below w.heap.size w w2 := hb1.trans (hb2.mono hb1.size)
  have h4 : Below w.heap.size w w4 := ((h2.alloc h2.size _).trans (hb3.mono (by have := h2.size; simp; omega))).trans (hb4.mono (by have := h2.size; omega))
  have h5 := (h4.alloc h4.size _).trans (hb5.mono (by have := h4.size; simp; omega))
  have h6 := h5.trans (hb6.mono h5.size)
  exact h6.trans (hb7.mono h6.size)
end Go.Proofs.Ytoaemkljlphieaa
