/- The walk of stage 1's theorem TopYear. -/
import Derived.Test.YtoaemkljlphieaaTopDays
namespace Go.Proofs.Ytoaemkljlphieaa
open Go.RowKit
theorem of_at (n y m d : Int) (w : World) (hv : Cal.Valid y m d) (e : Cal.num y m d = n) :
    Calls Try.prog 10 #[.int .i64 n] w fun e w' => e = .returned (.tuple #[.agg #[.int .i64 y, .int .i64 m, .int .i64 d], .int .i64 0]) ∧ Below w.heap.size w w' := by
  have hr := Cal.num_range y m d hv
  obtain ⟨a, b, c⟩ := Cal.of_num y m d n hv e
  have := of_yes n w (by omega) (by omega)
  rw [a, b, c] at this
  exact this
theorem year_in (t y : Int) (h1 : 1 ≤ y) (h2 : y ≤ 9999) (h3 : Cal.fst y * 86400 ≤ t) (h4 : t < Cal.fst (y + 1) * 86400) : Cal.yearOf (t / 86400) = y := by
  have a := Cal.fst_bd y h1 (by omega)
  have b := Cal.fst_bd (y + 1) (by omega) (by omega)
  have hv := Cal.valid_of (t / 86400) (by omega) (by omega)
  have hn := Cal.num_in _ _ _ hv
  rw [Cal.num_of] at hn
  rcases Int.lt_trichotomy (Cal.yearOf (t / 86400)) y with c | c | c
  · have := Cal.fst_mono (Cal.yearOf (t / 86400) + 1) y (by omega); omega
  · exact c
  · have := Cal.fst_mono (y + 1) (Cal.yearOf (t / 86400)) (by omega); omega
theorem year_not_in (t y : Int) (h1 : -62135596800 ≤ t) (h2 : t < 253402300800) (h3 : t < Cal.fst y * 86400 ∨ Cal.fst (y + 1) * 86400 ≤ t) : (Cal.yearOf (t / 86400) == y) = false := by
  have hv := Cal.valid_of (t / 86400) (by omega) (by omega)
  have hn := Cal.num_in _ _ _ hv
  rw [Cal.num_of] at hn
  rw [beq_eq_false_iff_ne]
  intro e
  rw [e] at hn
  omega
set_option maxRecDepth 100000 in
set_option maxHeartbeats 1000000 in
theorem topYear_in (y t : Int) (w : World) (h1 : 1 ≤ y) (h2 : y ≤ 9999) (t1 : -9223372036854775808 ≤ t) (t2 : t ≤ 9223372036854775807) :
    Calls Try.prog 7 #[.int .i64 y, .int .i64 t] w fun e w' => e = .returned (.bool true) ∧ Below w.heap.size w w' := by
  have f1 := Cal.fst_bd y (by omega) (by omega)
  have f2 := Cal.fst_bd (y + 1) (by omega) (by omega)
  have f3 := Cal.fst_lt y (y + 1) (by omega)
  have v1 : Cal.Valid y 1 1 := ⟨h1, h2, by omega, by omega, by omega, by have := Cal.len_bd y 1; omega⟩
  have v2 : Cal.Valid y 12 31 := ⟨h1, h2, by omega, by omega, by omega, by unfold Cal.len; simp⟩
  have e1 : Cal.num y 1 1 = Cal.fst y := by unfold Cal.num; rw [Cal.cum_one]; omega
  have e2 : Cal.num y 12 31 = Cal.fst (y + 1) - 1 := by rw [Cal.fst_succ]; unfold Cal.num Cal.cum; simp; omega
  have E1 := Lib.hid e1
  have E2 := Lib.hid e2
  have V1 := Lib.hid v1
  have V2 := Lib.hid v2
  clear e1 e2 v1 v2
  go_enter Try.func7, Try.ntmps7
  go_wp2_with fail
  refine (begins1 _).mono ?_
  rintro e w1 ⟨rfl, hb1⟩
  go_wp2_with fail
  refine (first_yes _ _ (by omega) (by omega)).mono ?_
  rintro e w2 ⟨rfl, hb2⟩
  go_wp2_with fail
  refine (first_yes _ _ (by omega) (by omega)).mono ?_
  rintro e w3 ⟨rfl, hb3⟩
  have a3 : Below w.heap.size w w3 := (hb1.trans (hb2.mono hb1.size)).trans (hb3.mono (by have := hb1.size; have := hb2.size; omega))
  clear hb1 hb2 hb3
  go_wp2_with fail
  refine (of_at _ y 1 1 _ V1.out E1.out).mono ?_
  rintro e w4 ⟨rfl, hb4⟩
  go_wp2_with fail
  refine (of_at _ y 12 31 _ V2.out E2.out).mono ?_
  rintro e w5 ⟨rfl, hb5⟩
  obtain ⟨hc5, hf5⟩ := bcell hb5
  have hz5 : w4.heap.size < w5.heap.size := by have := hb5.size; (try simp at this); omega
  go_wp2_with fail
  refine (at_yes _ _ _ (by omega) (by omega) (by omega) (by omega)).mono ?_
  rintro e w6 ⟨rfl, hb6⟩
  obtain ⟨hc6, hf6⟩ := bcell hb6
  have hz6 : w4.heap.size < w6.heap.size ∧ w5.heap.size < w6.heap.size := by have := hb6.size; (try simp at this); omega
  go_wp2_with fail
  refine (at_yes _ _ _ (by omega) (by omega) (by omega) (by omega)).mono ?_
  rintro e w7 ⟨rfl, hb7⟩
  obtain ⟨hc7, hf7⟩ := bcell hb7
  have hz7 : w4.heap.size < w7.heap.size ∧ w5.heap.size < w7.heap.size := by have := hb7.size; (try simp at this); omega
  have b5 := (a3.trans (hb4.mono a3.size))
  have b6 := (b5.alloc b5.size _).trans (hb5.mono (by have := b5.size; simp; omega))
  have b7 := (b6.alloc b6.size _).trans (hb6.mono (by have := b6.size; simp; omega))
  have b8 := b7.trans (hb7.mono b7.size)
  go_wp2_with fail
  have hcase : (Cal.fst y * 86400 ≤ t ∧ t < Cal.fst (y + 1) * 86400) ∨ (t < Cal.fst y * 86400 ∧ -62135596800 ≤ t) ∨ (Cal.fst (y + 1) * 86400 ≤ t ∧ t < 253402300800) ∨ t < -62135596800 ∨ 253402300800 ≤ t := by omega
  rcases hcase with ⟨c1, c2⟩ | ⟨c1, c2⟩ | ⟨c1, c2⟩ | c1 | c1
  · have hy := year_in t y h1 h2 c1 c2
    have G : decide (t < (Cal.fst (y + 1) - 1) * 86400 + 86400) = true := by simp; omega
    refine (year_lit t y _ (by omega) (by omega) hy).mono ?_
    rintro e w9 ⟨rfl, hb9⟩
    obtain ⟨hc9, hf9⟩ := bcell hb9
    have hz9 : w4.heap.size < w9.heap.size ∧ w5.heap.size < w9.heap.size := by have := hb9.size; (try simp at this); omega
    clear hy
    go_wp2_with fail
    go_ret
    exact ⟨rfl, b8.trans (hb9.mono b8.size)⟩
  · have hy := year_not_in t y (by omega) (by omega) (.inl c1)
    refine (year_yes t _ (by omega) (by omega)).mono ?_
    rintro e w9 ⟨rfl, hb9⟩
    obtain ⟨hc9, hf9⟩ := bcell hb9
    have hz9 : w4.heap.size < w9.heap.size ∧ w5.heap.size < w9.heap.size := by have := hb9.size; (try simp at this); omega
    go_wp2_with fail
    go_ret
    exact ⟨rfl, b8.trans (hb9.mono b8.size)⟩
  · have hy := year_not_in t y (by omega) (by omega) (.inr c1)
    have G : decide (t < (Cal.fst (y + 1) - 1) * 86400 + 86400) = false := by simp; omega
    refine (year_yes t _ (by omega) (by omega)).mono ?_
    rintro e w9 ⟨rfl, hb9⟩
    obtain ⟨hc9, hf9⟩ := bcell hb9
    have hz9 : w4.heap.size < w9.heap.size ∧ w5.heap.size < w9.heap.size := by have := hb9.size; (try simp at this); omega
    go_wp2_with fail
    go_ret
    exact ⟨rfl, b8.trans (hb9.mono b8.size)⟩
  · refine (year_no t _ (by omega) (by omega) (.inl c1)).mono ?_
    rintro e w9 ⟨rfl, hb9⟩
    obtain ⟨hc9, hf9⟩ := bcell hb9
    have hz9 : w4.heap.size < w9.heap.size ∧ w5.heap.size < w9.heap.size := by have := hb9.size; (try simp at this); omega
    go_wp2_with fail
    go_ret
    exact ⟨rfl, b8.trans (hb9.mono b8.size)⟩
  · have G : decide (t < (Cal.fst (y + 1) - 1) * 86400 + 86400) = false := by simp; omega
    refine (year_no t _ (by omega) (by omega) (.inr c1)).mono ?_
    rintro e w9 ⟨rfl, hb9⟩
    obtain ⟨hc9, hf9⟩ := bcell hb9
    have hz9 : w4.heap.size < w9.heap.size ∧ w5.heap.size < w9.heap.size := by have := hb9.size; (try simp at this); omega
    go_wp2_with fail
    go_ret
    exact ⟨rfl, b8.trans (hb9.mono b8.size)⟩
theorem topYear_below (y t : Int) (w : World) (h1 : y < 1) : Calls Try.prog 7 #[.int .i64 y, .int .i64 t] w fun e w' => e = .returned (.bool true) ∧ Below w.heap.size w w' := by
  go_enter Try.func7, Try.ntmps7
  go_wp2_with fail
  refine (begins1 _).mono ?_
  rintro e w1 ⟨rfl, hb1⟩
  go_wp2_with fail
  refine (first_no _ _ (.inl h1)).mono ?_
  rintro e w2 ⟨rfl, hb2⟩
  go_wp2_with fail
  obtain ⟨n, k, hf⟩ := first_some (wrap64 (y + 1)) w2
  refine hf.mono ?_
  rintro e w3 ⟨rfl, hb3⟩
  go_wp2_with fail
  go_ret
  exact ⟨rfl, (hb1.trans (hb2.mono hb1.size)).trans (hb3.mono (by have := hb1.size; have := hb2.size; omega))⟩
set_option maxRecDepth 100000 in
theorem topYear_end (t : Int) (w : World) : Calls Try.prog 7 #[.int .i64 10000, .int .i64 t] w fun e w' => e = .returned (.bool true) ∧ Below w.heap.size w w' := by
  go_enter Try.func7, Try.ntmps7
  go_wp2_with fail
  refine (begins1 _).mono ?_
  rintro e w1 ⟨rfl, hb1⟩
  go_wp2_with fail
  refine (first_lit 10000 2932897 _ (by omega) (by omega) (by decide)).mono ?_
  rintro e w2 ⟨rfl, hb2⟩
  go_wp2_with fail
  refine (first_no _ _ (by omega)).mono ?_
  rintro e w3 ⟨rfl, hb3⟩
  go_wp2_with fail
  go_ret
  exact ⟨rfl, (hb1.trans (hb2.mono hb1.size)).trans (hb3.mono (by have := hb1.size; have := hb2.size; omega))⟩
theorem topYear_over (y t : Int) (w : World) (h1 : 10000 < y) : Calls Try.prog 7 #[.int .i64 y, .int .i64 t] w fun e w' => e = .returned (.bool true) ∧ Below w.heap.size w w' := by
  have h0 : ¬ y < 1 := by omega
  go_enter Try.func7, Try.ntmps7
  go_wp2_with fail
  refine (begins1 _).mono ?_
  rintro e w1 ⟨rfl, hb1⟩
  go_wp2_with fail
  refine (first_no _ _ (.inr h1)).mono ?_
  rintro e w2 ⟨rfl, hb2⟩
  go_wp2_with fail
  obtain ⟨n, k, hf⟩ := first_some (wrap64 (y + 1)) w2
  refine hf.mono ?_
  rintro e w3 ⟨rfl, hb3⟩
  go_wp2_with fail
  go_ret
  exact ⟨rfl, (hb1.trans (hb2.mono hb1.size)).trans (hb3.mono (by have := hb1.size; have := hb2.size; omega))⟩
theorem walkTopYear (y : Int) (hy : (Lit.int .i64 y).wf = true) (t : Int) (ht : (Lit.int .i64 t).wf = true) (w : World) :
    Calls Try.prog 7 #[.int .i64 y, .int .i64 t] w fun e w' => e = .returned (.bool true) ∧ Below w.heap.size w w' := by
  have b := bounds_i64 ht
  by_cases h1 : y < 1
  · exact topYear_below y t w h1
  · by_cases h2 : y ≤ 9999
    · exact topYear_in y t w (by omega) h2 b.1 b.2
    · by_cases h3 : y = 10000
      · subst h3
        exact topYear_end t w
      · exact topYear_over y t w (by omega)
end Go.Proofs.Ytoaemkljlphieaa
