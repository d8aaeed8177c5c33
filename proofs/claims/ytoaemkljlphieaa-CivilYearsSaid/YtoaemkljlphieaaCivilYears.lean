/- The walk of the law CivilYears. -/
import Derived.Test.YtoaemkljlphieaaLives01
import Derived.OpenShut
namespace Go.Proofs.Ytoaemkljlphieaa
open Go.RowKit
theorem years_below (y : Int) (w : World) (h1 : y < 1) : Calls Try.prog 5 #[.int .i64 y] w fun e w' => e = .returned (.bool true) ∧ Below w.heap.size w w' := by
  go_enter Try.func5, Try.ntmps5
  go_wp2_with fail
  refine (lives01 _).mono ?_
  rintro e w1 ⟨rfl, hb1⟩
  go_wp2_with fail
  refine (first_no _ _ (.inl h1)).mono ?_
  rintro e w2 ⟨rfl, hb2⟩
  go_wp2_with fail
  obtain ⟨n, k, hf⟩ := first_some (wrap64 (y + 1)) w2
  refine hf.mono ?_
  rintro e w3 ⟨rfl, hb3⟩
  go_wp2_with fail
  go_ret
  exact ⟨rfl, (hb1.trans (hb2.mono hb1.size)).trans (hb3.mono (by have := hb1.size; have := hb2.size; omega))⟩
theorem years_end (w : World) : Calls Try.prog 5 #[.int .i64 10000] w fun e w' => e = .returned (.bool true) ∧ Below w.heap.size w w' := by
  go_enter Try.func5, Try.ntmps5
  go_wp2_with fail
  refine (lives01 _).mono ?_
  rintro e w1 ⟨rfl, hb1⟩
  go_wp2_with fail
  refine (first_lit 10000 2932897 _ (by omega) (by omega) (by decide)).mono ?_
  rintro e w2 ⟨rfl, hb2⟩
  go_wp2_with fail
  refine (first_no _ _ (by omega)).mono ?_
  rintro e w3 ⟨rfl, hb3⟩
  go_wp2_with fail
  go_ret
  exact ⟨rfl, (hb1.trans (hb2.mono hb1.size)).trans (hb3.mono (by have := hb1.size; have := hb2.size; omega))⟩
theorem years_over (y : Int) (w : World) (h1 : 10000 < y) : Calls Try.prog 5 #[.int .i64 y] w fun e w' => e = .returned (.bool true) ∧ Below w.heap.size w w' := by
  have h0 : ¬ y < 1 := by omega
  go_enter Try.func5, Try.ntmps5
  go_wp2_with fail
  refine (lives01 _).mono ?_
  rintro e w1 ⟨rfl, hb1⟩
  go_wp2_with fail
  refine (first_no _ _ (.inr h1)).mono ?_
  rintro e w2 ⟨rfl, hb2⟩
  go_wp2_with fail
  obtain ⟨n, k, hf⟩ := first_some (wrap64 (y + 1)) w2
  refine hf.mono ?_
  rintro e w3 ⟨rfl, hb3⟩
  go_wp2_with fail
  go_ret
  exact ⟨rfl, (hb1.trans (hb2.mono hb1.size)).trans (hb3.mono (by have := hb1.size; have := hb2.size; omega))⟩
theorem years_in (y : Int) (w : World) (h1 : 1 ≤ y) (h2 : y ≤ 9999) : Calls Try.prog 5 #[.int .i64 y] w fun e w' => e = .returned (.bool true) ∧ Below w.heap.size w w' := by
  have f1 := Cal.fst_bd y (by omega) (by omega)
  have f2 := Cal.fst_bd (y + 1) (by omega) (by omega)
  have hlp := Cal.lp_01 y
  have hs := Cal.fst_succ y
  have hc := Cal.cum_end y
  have g1 : (Cal.fst (y + 1) - Cal.fst y != Cal.cum y 13) = false := by simp; omega
  have g2 : lpB y = true → (Cal.cum y 13 != 366) = false := by intro h; rcases lpB_iff y with ⟨_, e⟩ | ⟨e, _⟩ <;> simp_all
  have g3 : lpB y = false → (Cal.cum y 13 != 365) = false := by intro h; rcases lpB_iff y with ⟨e, _⟩ | ⟨_, e⟩ <;> simp_all
  have g4 : (Cal.fst (y + 400) - Cal.fst y == 146097) = true := by have := Cal.fst_400 y; simp; omega
  have g5 : ((Cal.fst (y + 400) + 4) % 7 == (Cal.fst y + 4) % 7) = true := by have := Cal.fst_400 y; simp; omega
  have f4 : y ≤ 9600 → -719162 ≤ Cal.fst (y + 400) ∧ Cal.fst (y + 400) ≤ 2932897 := fun h => Cal.fst_bd (y + 400) (by omega) (by omega)
  clear hs hc
  go_enter Try.func5, Try.ntmps5
  go_wp2_with fail
  refine (lives01 _).mono ?_
  rintro e w1 ⟨rfl, hb1⟩
  go_wp2_with fail
  refine (first_yes _ _ (by omega) (by omega)).mono ?_
  rintro e w2 ⟨rfl, hb2⟩
  go_wp2_with fail
  refine (first_yes _ _ (by omega) (by omega)).mono ?_
  rintro e w3 ⟨rfl, hb3⟩
  have hb : Below w.heap.size w w3 := (hb1.trans (hb2.mono hb1.size)).trans (hb3.mono (by have := hb1.size; have := hb2.size; omega))
  clear hb1 hb2 hb3
  go_wp2_with fail
  go_loop [7, 8] (fun n i => ∃ m : Int, 1 ≤ m ∧ m ≤ 13 ∧ i = .int .i64 m ∧ n = .int .i64 (Cal.cum y m)) (fun _ i => (13 - intOf i).toNat)
  case atStart => exact ⟨1, by omega, by omega, rfl, by rw [Cal.cum_one]⟩
  case round =>
    obtain ⟨m, hm1, hm2, rfl, rfl⟩ := hrel
    by_cases hlt : m ≤ 12
    · have hl := Cal.len_bd y m
      have hcb := Cal.cum_bd y m hm1 hm2
      have hcs := Lib.hid (Cal.cum_succ y m hm1 hlt)
      go_wp2_with (go_at_call 12; refine (length_yes _ _ _ (by omega) (by omega) (by omega) (by omega)).mono ?_; rintro e w' ⟨rfl, rfl⟩)
      go_round
      case rel => exact ⟨m + 1, by omega, by omega, rfl, by rw [hcs.out]⟩
      case measure => simp [intOf]; omega
    · obtain rfl : m = 13 := by omega
      clear hlt hm1 hm2
      go_wp2_with fail
      refine (leap_any _ _).mono ?_
      rintro e w' ⟨rfl, rfl⟩
      go_wp2_with fail
      all_goals
        by_cases h96 : y ≤ 9600
        · have f4 := f4 h96
          refine (first_yes _ _ (by omega) (by omega)).mono ?_
          rintro e w4 ⟨rfl, hb4⟩
          go_wp2_with (go_at_call 21; refine (weekday_any _ _ (by omega) (by omega)).mono ?_; rintro e w' ⟨rfl, rfl⟩)
          go_ret
          exact ⟨rfl, hb.trans (hb4.mono hb.size)⟩
        · refine (first_no _ _ (by omega)).mono ?_
          rintro e w4 ⟨rfl, hb4⟩
          go_wp2_with fail
          go_ret
          exact ⟨rfl, hb.trans (hb4.mono hb.size)⟩
theorem walkCivilYears (y : Int) (hy : (Lit.int .i64 y).wf = true) (w : World) :
    Calls Try.prog 5 #[.int .i64 y] w fun e w' => e = .returned (.bool true) ∧ Below w.heap.size w w' := by
  by_cases h1 : y < 1
  · exact years_below y w h1
  · by_cases h2 : y ≤ 9999
    · exact years_in y w (by omega) h2
    · by_cases h3 : y = 10000
      · subst h3
        exact years_end w
      · exact years_over y w (by omega)
end Go.Proofs.Ytoaemkljlphieaa
