/- The walk of the law CivilTells: the program's answers are the document's. -/
import Derived.Test.YtoaemkljlphieaaLives01
import Derived.Test.YtoaemkljlphieaaRef01
import Derived.Deep.RegionHeld3
import Derived.OpenShut
namespace Go.Proofs.Ytoaemkljlphieaa
open Go.RowKit
theorem days_same (y m d : Int) : ∃ n k : Int, (∀ w : World, Calls Try.prog 8 #[.agg #[.int .i64 y, .int .i64 m, .int .i64 d]] w fun e w' => e = .returned (.tuple #[.int .i64 n, .int .i64 k]) ∧ Below w.heap.size w w') ∧
    (∀ w : World, Calls Try.prog 9 #[.agg #[.int .i64 y, .int .i64 m, .int .i64 d]] w fun e w' => e = .returned (.tuple #[.int .i64 n, .int .i64 k]) ∧ Below w.heap.size w w') := by
  by_cases h : Cal.Valid y m d
  · exact ⟨_, _, fun w => days_yes y m d w h, fun w => rdays_yes y m d w h⟩
  · exact ⟨_, _, fun w => days_no y m d w h, fun w => rdays_no y m d w h⟩
theorem of_same (n : Int) : ∃ y m d k : Int, (∀ w : World, Calls Try.prog 10 #[.int .i64 n] w fun e w' => e = .returned (.tuple #[.agg #[.int .i64 y, .int .i64 m, .int .i64 d], .int .i64 k]) ∧ Below w.heap.size w w') ∧
    (∀ w : World, Calls Try.prog 11 #[.int .i64 n] w fun e w' => e = .returned (.tuple #[.agg #[.int .i64 y, .int .i64 m, .int .i64 d], .int .i64 k]) ∧ Below w.heap.size w w') := by
  by_cases h : -719162 ≤ n ∧ n ≤ 2932896
  · exact ⟨_, _, _, _, fun w => of_yes n w h.1 h.2, fun w => rof_yes n w h.1 h.2⟩
  · exact ⟨_, _, _, _, fun w => of_no n w (by omega), fun w => rof_no n w (by omega)⟩
theorem length_same (y m : Int) : ∃ n k : Int, (∀ w : World, Calls Try.prog 12 #[.int .i64 y, .int .i64 m] w fun e w' => e = .returned (.tuple #[.int .i64 n, .int .i64 k]) ∧ w = w') ∧
    (∀ w : World, Calls Try.prog 13 #[.int .i64 y, .int .i64 m] w fun e w' => e = .returned (.tuple #[.int .i64 n, .int .i64 k]) ∧ w = w') := by
  by_cases h : 1 ≤ y ∧ y ≤ 9999 ∧ 1 ≤ m ∧ m ≤ 12
  · exact ⟨_, _, fun w => length_yes y m w h.1 h.2.1 h.2.2.1 h.2.2.2, fun w => rlength_yes y m w h.1 h.2.1 h.2.2.1 h.2.2.2⟩
  · exact ⟨_, _, fun w => length_no y m w h, fun w => rlength_no y m w h⟩
theorem first_same (y : Int) : ∃ n k : Int, (∀ w : World, Calls Try.prog 14 #[.int .i64 y] w fun e w' => e = .returned (.tuple #[.int .i64 n, .int .i64 k]) ∧ Below w.heap.size w w') ∧
    (∀ w : World, Calls Try.prog 15 #[.int .i64 y] w fun e w' => e = .returned (.tuple #[.int .i64 n, .int .i64 k]) ∧ w = w') := by
  by_cases h : 1 ≤ y ∧ y ≤ 10000
  · exact ⟨_, _, fun w => first_yes y w h.1 h.2, fun w => rfirst_yes y w h.1 h.2⟩
  · exact ⟨_, _, fun w => first_no y w (by omega), fun w => rfirst_no y w (by omega)⟩
theorem check_same (y m d : Int) : ∃ k : Int, (∀ w : World, Calls Try.prog 19 #[.agg #[.int .i64 y, .int .i64 m, .int .i64 d]] w fun e w' => e = .returned (.int .i64 k) ∧ Below w.heap.size w w') ∧
    (∀ w : World, Calls Try.prog 20 #[.agg #[.int .i64 y, .int .i64 m, .int .i64 d]] w fun e w' => e = .returned (.int .i64 k) ∧ Below w.heap.size w w') := by
  by_cases h : Cal.Valid y m d
  · exact ⟨_, fun w => check_yes y m d w h, fun w => rcheck_yes y m d w h⟩
  · exact ⟨_, fun w => check_no y m d w h, fun w => rcheck_no y m d w h⟩
theorem keep_cells {B : Nat} {w0 w w1 : World} {b1 b2 b3 : Nat} {x1 x2 x3 y1 y2 y3 z1 z2 z3 : Value}
    (h : w.cell? ⟨b1, 0, none⟩ = some x1 ∧ w.cell? ⟨b1, 1, none⟩ = some x2 ∧ w.cell? ⟨b1, 2, none⟩ = some x3 ∧ w.cell? ⟨b2, 0, none⟩ = some y1 ∧ w.cell? ⟨b2, 1, none⟩ = some y2 ∧ w.cell? ⟨b2, 2, none⟩ = some y3 ∧
      w.cell? ⟨b3, 0, none⟩ = some z1 ∧ w.cell? ⟨b3, 1, none⟩ = some z2 ∧ w.cell? ⟨b3, 2, none⟩ = some z3 ∧ b1 < w.heap.size ∧ b2 < w.heap.size ∧ b3 < w.heap.size ∧ B ≤ w.heap.size ∧ Below B w0 w) (hb : Below w.heap.size w w1) :
    w1.cell? ⟨b1, 0, none⟩ = some x1 ∧ w1.cell? ⟨b1, 1, none⟩ = some x2 ∧ w1.cell? ⟨b1, 2, none⟩ = some x3 ∧ w1.cell? ⟨b2, 0, none⟩ = some y1 ∧ w1.cell? ⟨b2, 1, none⟩ = some y2 ∧ w1.cell? ⟨b2, 2, none⟩ = some y3 ∧
      w1.cell? ⟨b3, 0, none⟩ = some z1 ∧ w1.cell? ⟨b3, 1, none⟩ = some z2 ∧ w1.cell? ⟨b3, 2, none⟩ = some z3 ∧ b1 < w1.heap.size ∧ b2 < w1.heap.size ∧ b3 < w1.heap.size ∧ B ≤ w1.heap.size ∧ Below B w0 w1 := by
  obtain ⟨h1, h2, h3, h4, h5, h6, h7, h8, h9, l1, l2, l3, l4, h0⟩ := h
  obtain ⟨hc, _⟩ := bcell hb
  have := hb.size
  refine ⟨?_, ?_, ?_, ?_, ?_, ?_, ?_, ?_, ?_, by omega, by omega, by omega, by omega, h0.trans (hb.mono l4)⟩
  all_goals (rw [hc _ _ (by assumption)]; assumption)
theorem below_of_keep {B : Nat} {w0 w : World} {b1 b2 b3 : Nat} {x1 x2 x3 y1 y2 y3 z1 z2 z3 : Value}
    (h : w.cell? ⟨b1, 0, none⟩ = some x1 ∧ w.cell? ⟨b1, 1, none⟩ = some x2 ∧ w.cell? ⟨b1, 2, none⟩ = some x3 ∧ w.cell? ⟨b2, 0, none⟩ = some y1 ∧ w.cell? ⟨b2, 1, none⟩ = some y2 ∧ w.cell? ⟨b2, 2, none⟩ = some y3 ∧
      w.cell? ⟨b3, 0, none⟩ = some z1 ∧ w.cell? ⟨b3, 1, none⟩ = some z2 ∧ w.cell? ⟨b3, 2, none⟩ = some z3 ∧ b1 < w.heap.size ∧ b2 < w.heap.size ∧ b3 < w.heap.size ∧ B ≤ w.heap.size ∧ Below B w0 w) : Below B w0 w := by
  obtain ⟨h1, h2, h3, h4, h5, h6, h7, h8, h9, l1, l2, l3, l4, h0⟩ := h
  exact h0
set_option maxRecDepth 100000 in
set_option maxHeartbeats 4000000 in
theorem walkCivilTells (a b c : Int) (_ : (Lit.int .i64 a).wf = true) (_ : (Lit.int .i64 b).wf = true) (_ : (Lit.int .i64 c).wf = true) (n : Int) (hn : (Lit.int .i64 n).wf = true) (y : Int) (_ : (Lit.int .i64 y).wf = true) (m : Int) (_ : (Lit.int .i64 m).wf = true) (w : World) :
    Calls Try.prog 3 #[.agg #[.int .i64 a, .int .i64 b, .int .i64 c], .int .i64 n, .int .i64 y, .int .i64 m] w fun e w' => e = .returned (.bool true) ∧ Below w.heap.size w w' := by
  have hnb := bounds_i64 hn
  obtain ⟨n1, n2⟩ := hnb
  clear hn
  obtain ⟨k1, k2, d1, d2⟩ := days_same a b c
  obtain ⟨o1, o2, o3, o4, e1, e2⟩ := of_same n
  obtain ⟨l1, l2, f1, f2⟩ := length_same y m
  obtain ⟨s1, s2, g1, g2⟩ := first_same y
  obtain ⟨c1, p1, p2⟩ := check_same a b c
  have D1 := Lib.hid d1
  have D2 := Lib.hid d2
  have E1 := Lib.hid e1
  have E2 := Lib.hid e2
  have F1 := Lib.hid f1
  have F2 := Lib.hid f2
  have G1 := Lib.hid g1
  have G2 := Lib.hid g2
  have P1 := Lib.hid p1
  have P2 := Lib.hid p2
  clear d1 d2 e1 e2 f1 f2 g1 g2 p1 p2
  go_enter Try.func3, Try.ntmps3
  go_wp2_with fail
  refine (D1.out _).mono ?_
  rintro e w1 ⟨rfl, hb1⟩
  obtain ⟨hc1, hf1⟩ := bcell hb1
  have hz1 : w.heap.size < w1.heap.size := by have := hb1.size; (try simp at this); omega
  go_wp2_with fail
  refine (D2.out _).mono ?_
  rintro e w2 ⟨rfl, hb2⟩
  obtain ⟨hc2, hf2⟩ := bcell hb2
  have hz2 : w.heap.size < w2.heap.size := by have := hb2.size; (try simp at this); omega
  go_wp2_with fail
  refine (E1.out _).mono ?_
  rintro e w3 ⟨rfl, hb3⟩
  obtain ⟨hc3, hf3⟩ := bcell hb3
  have hz3 : w.heap.size < w3.heap.size := by have := hb3.size; (try simp at this); omega
  go_wp2_with fail
  refine (E2.out _).mono ?_
  rintro e w4 ⟨rfl, hb4⟩
  obtain ⟨hc4, hf4⟩ := bcell hb4
  have hz4 : w.heap.size < w4.heap.size ∧ w3.heap.size < w4.heap.size := by have := hb4.size; (try simp at this); omega
  go_wp2_with (first | (go_at_call 12; refine (F1.out _).mono ?_; rintro e w' ⟨rfl, rfl⟩) | (go_at_call 13; refine (F2.out _).mono ?_; rintro e w' ⟨rfl, rfl⟩))
  refine (G1.out _).mono ?_
  rintro e w5 ⟨rfl, hb5⟩
  obtain ⟨hc5, hf5⟩ := bcell hb5
  have hz5 : w.heap.size < w5.heap.size ∧ w3.heap.size < w5.heap.size ∧ w4.heap.size < w5.heap.size := by have := hb5.size; (try simp at this); omega
  go_wp2_with (first | (go_at_call 15; refine (G2.out _).mono ?_; rintro e w' ⟨rfl, rfl⟩))
  have a3 := ((((Below.refl w.heap.size w).alloc (Nat.le_refl _) _).trans (hb1.mono (by simp))).trans (hb2.mono (by omega))).trans (hb3.mono (by omega))
  have a4 := (a3.alloc (by omega) _).trans (hb4.mono (by simp; omega))
  have a5 := (a4.alloc (by omega) _).trans (hb5.mono (by simp; omega))

  have S0 : w5.drew.cell? ⟨w.heap.size, 0, none⟩ = some (.int .i64 a) ∧ w5.drew.cell? ⟨w.heap.size, 1, none⟩ = some (.int .i64 b) ∧ w5.drew.cell? ⟨w.heap.size, 2, none⟩ = some (.int .i64 c) ∧
      w5.drew.cell? ⟨w3.heap.size, 0, none⟩ = some (.int .i64 o1) ∧ w5.drew.cell? ⟨w3.heap.size, 1, none⟩ = some (.int .i64 o2) ∧ w5.drew.cell? ⟨w3.heap.size, 2, none⟩ = some (.int .i64 o3) ∧
      w5.drew.cell? ⟨w4.heap.size, 0, none⟩ = some (.int .i64 o1) ∧ w5.drew.cell? ⟨w4.heap.size, 1, none⟩ = some (.int .i64 o2) ∧ w5.drew.cell? ⟨w4.heap.size, 2, none⟩ = some (.int .i64 o3) ∧
      w.heap.size < w5.drew.heap.size ∧ w3.heap.size < w5.drew.heap.size ∧ w4.heap.size < w5.drew.heap.size ∧ w.heap.size ≤ w5.drew.heap.size ∧ Below w.heap.size w w5.drew := by
    refine ⟨?_, ?_, ?_, ?_, ?_, ?_, ?_, ?_, ?_, ?_, ?_, ?_, ?_, ?_⟩
    · show w5.cell? _ = _; go_simp
    · show w5.cell? _ = _; go_simp
    · show w5.cell? _ = _; go_simp
    · show w5.cell? _ = _; go_simp
    · show w5.cell? _ = _; go_simp
    · show w5.cell? _ = _; go_simp
    · show w5.cell? _ = _; go_simp
    · show w5.cell? _ = _; go_simp
    · show w5.cell? _ = _; go_simp
    · exact hz5.1
    · exact hz5.2.1
    · exact hz5.2.2
    · exact Nat.le_of_lt hz5.1
    · exact a5.drew
  clear hc1 hf1 hc2 hf2 hc3 hf3 hc4 hf4 hc5 hf5 hb1 hb2 hb3 hb4 hb5 hz1 hz2 hz3 hz4 hz5 a3 a4 a5
  go_region_held3 (fun w' => w'.cell? ⟨w.heap.size, 0, none⟩ = some (.int .i64 a) ∧ w'.cell? ⟨w.heap.size, 1, none⟩ = some (.int .i64 b) ∧ w'.cell? ⟨w.heap.size, 2, none⟩ = some (.int .i64 c) ∧
      w'.cell? ⟨w3.heap.size, 0, none⟩ = some (.int .i64 o1) ∧ w'.cell? ⟨w3.heap.size, 1, none⟩ = some (.int .i64 o2) ∧ w'.cell? ⟨w3.heap.size, 2, none⟩ = some (.int .i64 o3) ∧
      w'.cell? ⟨w4.heap.size, 0, none⟩ = some (.int .i64 o1) ∧ w'.cell? ⟨w4.heap.size, 1, none⟩ = some (.int .i64 o2) ∧ w'.cell? ⟨w4.heap.size, 2, none⟩ = some (.int .i64 o3) ∧
      w.heap.size < w'.heap.size ∧ w3.heap.size < w'.heap.size ∧ w4.heap.size < w'.heap.size ∧ w.heap.size ≤ w'.heap.size ∧ Below w.heap.size w w')
    (first | assumption | exact keep_cells (by assumption) (by assumption))
    (first
      | (go_at_call 16; refine (lives01 _).mono ?_; rintro e w' ⟨rfl, hb⟩)
      | (go_at_call 17; refine (leap_any _ _).mono ?_; rintro e w' ⟨rfl, rfl⟩)
      | (go_at_call 18; refine (rleap_any _ _).mono ?_; rintro e w' ⟨rfl, rfl⟩)
      | (go_at_call 21; refine (weekday_any _ _ (by omega) (by omega)).mono ?_; rintro e w' ⟨rfl, rfl⟩)
      | (go_at_call 22; refine (rweekday_any _ _ (by omega) (by omega)).mono ?_; rintro e w' ⟨rfl, rfl⟩)
      | (go_at_call 19; refine (P1.out _).mono ?_; rintro e w' ⟨rfl, hb⟩)
      | (go_at_call 20; refine (P2.out _).mono ?_; rintro e w' ⟨rfl, hb⟩))
  all_goals go_wp2_with fail
  all_goals go_ret
  all_goals exact ⟨rfl, below_of_keep (by assumption)⟩
end Go.Proofs.Ytoaemkljlphieaa
