/- The walk of the law ClockYear. -/
import Derived.Test.YtoaemkljlphieaaDoorLives02
import Derived.OpenShut
namespace Go.Proofs.YtoaemkljlphieaaDoor
open Go.RowKit
set_option maxHeartbeats 1000000 in
theorem clockYear_near (t b : Int) (w : World) (hE : Env w) (h1 : -9223372036854775808 ≤ t) (h2 : t ≤ 9223372036854775807) (h : Near t b) :
    Calls Tryd.prog 5 #[.int .i64 t, .int .i64 b] w fun e w' => e = .returned (.bool true) ∧ Below w.heap.size w w' := by
  have HN := Lib.hid h
  have HM := Lib.hid (show Near (t + b) (-b) by unfold Near at h ⊢; omega)
  obtain ⟨n1, n2, n3, n4, n5, n6⟩ := h
  go_enter Tryd.func5, Tryd.ntmps5
  go_wp2_with fail
  refine (lives02 _ hE).mono ?_
  rintro e w1 ⟨rfl, hb1⟩
  go_wp2_with fail
  refine (add_yes t b _ HN.out).mono ?_
  rintro e w' ⟨rfl, rfl⟩
  go_wp2_with fail
  refine (add_yes (t + b) (-b) _ HM.out).mono ?_
  rintro e w' ⟨rfl, rfl⟩
  have G0 : (t + b + -b != t) = false := by rw [bne_eq_false_iff_eq]; omega
  go_wp2_with fail
  have hcase : (-62135596800 ≤ t ∧ t < 253402300800) ∨ t < -62135596800 ∨ 253402300800 ≤ t := by omega
  rcases hcase with ⟨c1, c2⟩ | c1 | c1
  · have hv := Cal.valid_of (t / 86400) (by omega) (by omega)
    have hi := Cal.num_in _ _ _ hv
    rw [Cal.num_of] at hi
    obtain ⟨i1, i2, _, _⟩ := hi
    obtain ⟨y1, y2, _, _, _, _⟩ := hv
    have f1 := Cal.fst_bd _ y1 (by omega)
    have f2 := Cal.fst_bd (Cal.yearOf (t / 86400) + 1) (by omega) (by omega)
    have G1 : decide (Cal.fst (Cal.yearOf (t / 86400)) * 86400 ≤ t) = true := by simp; omega
    have G2 : decide (t < Cal.fst (Cal.yearOf (t / 86400) + 1) * 86400) = true := by simp; omega
    refine (year_yes t _ c1 c2).mono ?_
    rintro e w2 ⟨rfl, hb2⟩
    have a2 := hb1.trans (hb2.mono hb1.size)
    go_wp2_with fail
    refine (first_yes _ _ y1 (by omega)).mono ?_
    rintro e w3 ⟨rfl, hb3⟩
    have a3 := a2.trans (hb3.mono a2.size)
    go_wp2_with fail
    refine (first_yes _ _ (by omega) (by omega)).mono ?_
    rintro e w4 ⟨rfl, hb4⟩
    have a4 := a3.trans (hb4.mono a3.size)
    go_wp2_with fail
    go_ret
    exact ⟨rfl, a4⟩
  · have G1 : decide (t < -62135596800) = true := by simp; omega
    refine (year_no t _ (by omega) (by omega) (.inl c1)).mono ?_
    rintro e w2 ⟨rfl, hb2⟩
    have a2 := hb1.trans (hb2.mono hb1.size)
    go_wp2_with fail
    go_ret
    exact ⟨rfl, a2⟩
  · have G1 : decide (t < -62135596800) = false := by simp; omega
    have G2 : decide (253402300800 ≤ t) = true := by simp; omega
    refine (year_no t _ (by omega) (by omega) (.inr c1)).mono ?_
    rintro e w2 ⟨rfl, hb2⟩
    have a2 := hb1.trans (hb2.mono hb1.size)
    go_wp2_with fail
    go_ret
    exact ⟨rfl, a2⟩
set_option maxHeartbeats 1000000 in
theorem clockYear_far (t b : Int) (w : World) (hE : Env w) (h1 : -9223372036854775808 ≤ t) (h2 : t ≤ 9223372036854775807) (h : ¬ Near t b) :
    Calls Tryd.prog 5 #[.int .i64 t, .int .i64 b] w fun e w' => e = .returned (.bool true) ∧ Below w.heap.size w w' := by
  have HN := Lib.hid h
  clear h
  go_enter Tryd.func5, Tryd.ntmps5
  go_wp2_with fail
  refine (lives02 _ hE).mono ?_
  rintro e w1 ⟨rfl, hb1⟩
  go_wp2_with fail
  refine (add_no t b _ HN.out).mono ?_
  rintro e w' ⟨rfl, rfl⟩
  go_wp2_with fail
  have hcase : (-62135596800 ≤ t ∧ t < 253402300800) ∨ t < -62135596800 ∨ 253402300800 ≤ t := by omega
  rcases hcase with ⟨c1, c2⟩ | c1 | c1
  · have hv := Cal.valid_of (t / 86400) (by omega) (by omega)
    have hi := Cal.num_in _ _ _ hv
    rw [Cal.num_of] at hi
    obtain ⟨i1, i2, _, _⟩ := hi
    obtain ⟨y1, y2, _, _, _, _⟩ := hv
    have f1 := Cal.fst_bd _ y1 (by omega)
    have f2 := Cal.fst_bd (Cal.yearOf (t / 86400) + 1) (by omega) (by omega)
    have G1 : decide (Cal.fst (Cal.yearOf (t / 86400)) * 86400 ≤ t) = true := by simp; omega
    have G2 : decide (t < Cal.fst (Cal.yearOf (t / 86400) + 1) * 86400) = true := by simp; omega
    refine (year_yes t _ c1 c2).mono ?_
    rintro e w2 ⟨rfl, hb2⟩
    have a2 := hb1.trans (hb2.mono hb1.size)
    go_wp2_with fail
    refine (first_yes _ _ y1 (by omega)).mono ?_
    rintro e w3 ⟨rfl, hb3⟩
    have a3 := a2.trans (hb3.mono a2.size)
    go_wp2_with fail
    refine (first_yes _ _ (by omega) (by omega)).mono ?_
    rintro e w4 ⟨rfl, hb4⟩
    have a4 := a3.trans (hb4.mono a3.size)
    go_wp2_with fail
    go_ret
    exact ⟨rfl, a4⟩
  · have G1 : decide (t < -62135596800) = true := by simp; omega
    refine (year_no t _ (by omega) (by omega) (.inl c1)).mono ?_
    rintro e w2 ⟨rfl, hb2⟩
    have a2 := hb1.trans (hb2.mono hb1.size)
    go_wp2_with fail
    go_ret
    exact ⟨rfl, a2⟩
  · have G1 : decide (t < -62135596800) = false := by simp; omega
    have G2 : decide (253402300800 ≤ t) = true := by simp; omega
    refine (year_no t _ (by omega) (by omega) (.inr c1)).mono ?_
    rintro e w2 ⟨rfl, hb2⟩
    have a2 := hb1.trans (hb2.mono hb1.size)
    go_wp2_with fail
    go_ret
    exact ⟨rfl, a2⟩
theorem walkClockYear (t : Int) (ht : (Lit.int .i64 t).wf = true) (b : Int) (_ : (Lit.int .i64 b).wf = true) (w : World) (hE : Env w) :
    Calls Tryd.prog 5 #[.int .i64 t, .int .i64 b] w fun e w' => e = .returned (.bool true) ∧ Below w.heap.size w w' := by
  have b0 := bounds_i64 ht
  by_cases h : Near t b
  · exact clockYear_near t b w hE b0.1 b0.2 h
  · exact clockYear_far t b w hE b0.1 b0.2 h
end Go.Proofs.YtoaemkljlphieaaDoor
