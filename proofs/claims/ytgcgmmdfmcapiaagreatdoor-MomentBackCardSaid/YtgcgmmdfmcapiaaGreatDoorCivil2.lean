/- The contracts of package civil, second part: the day of a date, the date of a day. -/
import Derived.Test.YtgcgmmdfmcapiaaGreatDoorCivil
namespace Go.Proofs.YtgcgmmdfmcapiaaGreatDoor
open Go.RowKit

theorem tmod7 (n : Int) : n.tmod 7 = n % 7 ∨ n.tmod 7 = n % 7 - 7 := by
  rw [Int.tmod_eq_emod]
  split
  · left; omega
  · right; rfl
theorem weekday_any (n : Int) (w : World) (_h1 : -9223372036854775808 ≤ n) (_h2 : n ≤ 9223372036854775807) :
    Calls Tryz.prog 88 #[.int .i64 n] w fun e w' => e = .returned (.int .i64 ((n + 4) % 7)) ∧ w = w' := by
  have hq := tmod7 n
  have hb : -7 ≤ n.tmod 7 ∧ n.tmod 7 ≤ 7 := by omega
  have he := Lib.hid (show (n.tmod 7 + 11) % 7 = (n + 4) % 7 by omega)
  obtain ⟨hb1, hb2⟩ := hb
  clear hq
  go_enter Tryz.func88, Tryz.ntmps88
  go_wp2
  go_ret
  exact ⟨ret_int he.out, rfl⟩
set_option maxHeartbeats 1000000 in
theorem date_any (n : Int) (w : World) (h1 : -719162 ≤ n) (h2 : n ≤ 2932896) :
    Calls Tryz.prog 72 #[.int .i64 n] w fun e w' => e = .returned (.agg #[.int .i64 (Cal.yearOf n), .int .i64 (Cal.monthOf n), .int .i64 (Cal.dayOf n)]) ∧ Below w.heap.size w w' := by
  have b1 := Cal.dY_bd (n + 719468)
  have b2 := Cal.dM_bd (n + 719468)
  by_cases hm : Cal.dM (n + 719468) ≤ 9
  · have hfin : Hid (Cal.yearOf n = (n + 719468) / 146097 * 400 + Cal.dY (n + 719468) ∧ Cal.monthOf n = Cal.dM (n + 719468) + 3 ∧ Cal.dayOf n = Cal.dD (n + 719468)) := by
      refine ⟨?_, ?_, rfl⟩
      · unfold Cal.yearOf; rw [if_pos hm]
      · unfold Cal.monthOf; rw [if_pos hm]
    unfold Cal.dM Cal.dD Cal.dM Cal.dR Cal.dY at b2
    unfold Cal.dM Cal.dR Cal.dY at hm
    unfold Cal.dR Cal.dY at b1
    obtain ⟨_, _, c1, c2, _⟩ := b1
    obtain ⟨d1, d2, d3, d4⟩ := b2
    have ha := ahead_bd (((n + 719468) % 146097 - (n + 719468) % 146097 / 1460 + (n + 719468) % 146097 / 36524 - (n + 719468) % 146097 / 146096) / 365) (by omega) (by omega)
    obtain ⟨ha1, ha2⟩ := ha
    go_enter Tryz.func72, Tryz.ntmps72
    go_wp2_with (first | (go_at_call 86; refine (ahead_any _ _ (by omega) (by omega)).mono ?_; rintro e w' ⟨rfl, rfl⟩) | (go_at_call 87; refine (aheadMonth_any _ _ (by omega) (by omega)).mono ?_; rintro e w' ⟨rfl, rfl⟩))
    obtain ⟨e1, e2, e3⟩ := hfin
    rw [e1, e2, e3]
    refine bodyPost_ret (v := .agg #[.int .i64 _, .int .i64 _, .int .i64 _]) (by simp [results, Tryz.results72, go_sem]; exact ⟨rfl, rfl, rfl⟩) rfl ⟨rfl, ?_⟩
    repeat (first | exact Below.refl _ _ | assumption | refine below_drewN ?_ _ | refine Below.drew ?_ | refine Below.setCell ?_ (by first | omega | (simp; done) | (simp; omega)) _ | refine Below.alloc ?_ (by first | omega | (simp; done) | (simp; omega)) _)
  · have hfin : Hid (Cal.yearOf n = (n + 719468) / 146097 * 400 + Cal.dY (n + 719468) + 1 ∧ Cal.monthOf n = Cal.dM (n + 719468) + 3 - 12 ∧ Cal.dayOf n = Cal.dD (n + 719468)) := by
      refine ⟨?_, ?_, rfl⟩
      · unfold Cal.yearOf; rw [if_neg hm]
      · unfold Cal.monthOf; rw [if_neg hm]; omega
    unfold Cal.dM Cal.dD Cal.dM Cal.dR Cal.dY at b2
    unfold Cal.dM Cal.dR Cal.dY at hm
    unfold Cal.dR Cal.dY at b1
    obtain ⟨_, _, c1, c2, _⟩ := b1
    obtain ⟨d1, d2, d3, d4⟩ := b2
    have ha := ahead_bd (((n + 719468) % 146097 - (n + 719468) % 146097 / 1460 + (n + 719468) % 146097 / 36524 - (n + 719468) % 146097 / 146096) / 365) (by omega) (by omega)
    obtain ⟨ha1, ha2⟩ := ha
    go_enter Tryz.func72, Tryz.ntmps72
    go_wp2_with (first | (go_at_call 86; refine (ahead_any _ _ (by omega) (by omega)).mono ?_; rintro e w' ⟨rfl, rfl⟩) | (go_at_call 87; refine (aheadMonth_any _ _ (by omega) (by omega)).mono ?_; rintro e w' ⟨rfl, rfl⟩))
    obtain ⟨e1, e2, e3⟩ := hfin
    rw [e1, e2, e3]
    refine bodyPost_ret (v := .agg #[.int .i64 _, .int .i64 _, .int .i64 _]) (by simp [results, Tryz.results72, go_sem]; exact ⟨rfl, rfl, rfl⟩) rfl ⟨rfl, ?_⟩
    repeat (first | exact Below.refl _ _ | assumption | refine below_drewN ?_ _ | refine Below.drew ?_ | refine Below.setCell ?_ (by first | omega | (simp; done) | (simp; omega)) _ | refine Below.alloc ?_ (by first | omega | (simp; done) | (simp; omega)) _)
theorem of_yes (n : Int) (w : World) (h1 : -719162 ≤ n) (h2 : n ≤ 2932896) :
    Calls Tryz.prog 41 #[.int .i64 n] w fun e w' => e = .returned (.tuple #[.agg #[.int .i64 (Cal.yearOf n), .int .i64 (Cal.monthOf n), .int .i64 (Cal.dayOf n)], .int .i64 0]) ∧ Below w.heap.size w w' := by
  have l1 : decide (n < Cal.fst 1) = false := by have := Cal.fst_one; simp; omega
  have l2 : decide (Cal.fst 10000 ≤ n) = false := by have := Cal.fst_end; simp; omega
  go_enter Tryz.func41, Tryz.ntmps41
  go_wp2_with fail
  refine (newYear_any 1 _ (by omega) (by omega)).mono ?_
  rintro e w1 ⟨rfl, hb1⟩
  obtain ⟨hc1, hf1⟩ := bcell hb1
  have hz1 : w.heap.size < w1.heap.size := by have := hb1.size; simp at this; omega
  go_wp2_with fail
  refine (newYear_any 10000 _ (by omega) (by omega)).mono ?_
  rintro e w2 ⟨rfl, hb2⟩
  obtain ⟨hc2, hf2⟩ := bcell hb2
  have hz2 : w.heap.size < w2.heap.size := by have := hb2.size; omega
  go_wp2_with fail
  refine (date_any n _ (by omega) (by omega)).mono ?_
  rintro e w3 ⟨rfl, hb3⟩
  obtain ⟨hc3, hf3⟩ := bcell hb3
  have hz3 : w.heap.size < w3.heap.size := by have := hb3.size; omega
  have ha3 : Below w.heap.size w w3 := (((Below.refl _ _).alloc (Nat.le_refl _) _).trans (hb1.mono (by simp))).trans ((hb2.mono (by omega)).trans (hb3.mono (by omega)))
  go_wp2_with fail
  refine bodyPost_ret (v := .tuple #[.agg #[.int .i64 (Cal.yearOf n), .int .i64 (Cal.monthOf n), .int .i64 (Cal.dayOf n)], .int .i64 0]) (by simp [results, Tryz.results41, go_sem, hz1, hz2, hc1, hc2, hc3]) rfl ⟨rfl, ?_⟩
  repeat (first | exact Below.refl _ _ | assumption | refine below_drewN ?_ _ | refine Below.drew ?_ | refine Below.setCell ?_ (by first | omega | (simp; done) | (simp; omega)) _ | refine Below.alloc ?_ (by first | omega | (simp; done) | (simp; omega)) _)
theorem of_no (n : Int) (w : World) (h : n < -719162 ∨ 2932896 < n) :
    Calls Tryz.prog 41 #[.int .i64 n] w fun e w' => e = .returned (.tuple #[.agg #[.int .i64 0, .int .i64 0, .int .i64 0], .int .i64 1]) ∧ Below w.heap.size w w' := by
  rcases h with h | h
  · have l1 : decide (n < Cal.fst 1) = true := by have := Cal.fst_one; simp; omega
    go_enter Tryz.func41, Tryz.ntmps41
    go_wp2_with fail
    refine (newYear_any 1 _ (by omega) (by omega)).mono ?_
    rintro e w1 ⟨rfl, hb1⟩
    obtain ⟨hc1, hf1⟩ := bcell hb1
    have hz1 : w.heap.size < w1.heap.size := by have := hb1.size; simp at this; omega
    have ha1 : Below w.heap.size w w1 := ((Below.refl _ _).alloc (Nat.le_refl _) _).trans (hb1.mono (by simp))
    go_wp2_with fail
    refine bodyPost_ret (v := .tuple #[.agg #[.int .i64 0, .int .i64 0, .int .i64 0], .int .i64 1]) (by simp [results, Tryz.results41, go_sem, hc1]) rfl ⟨rfl, ?_⟩
    repeat (first | exact Below.refl _ _ | assumption | refine below_drewN ?_ _ | refine Below.drew ?_ | refine Below.setCell ?_ (by first | omega | (simp; done) | (simp; omega)) _ | refine Below.alloc ?_ (by first | omega | (simp; done) | (simp; omega)) _)
  · have l1 : decide (n < Cal.fst 1) = false := by have := Cal.fst_one; simp; omega
    have l2 : decide (Cal.fst 10000 ≤ n) = true := by have := Cal.fst_end; simp; omega
    go_enter Tryz.func41, Tryz.ntmps41
    go_wp2_with fail
    refine (newYear_any 1 _ (by omega) (by omega)).mono ?_
    rintro e w1 ⟨rfl, hb1⟩
    obtain ⟨hc1, hf1⟩ := bcell hb1
    have hz1 : w.heap.size < w1.heap.size := by have := hb1.size; simp at this; omega
    go_wp2_with fail
    refine (newYear_any 10000 _ (by omega) (by omega)).mono ?_
    rintro e w2 ⟨rfl, hb2⟩
    obtain ⟨hc2, hf2⟩ := bcell hb2
    have hz2 : w.heap.size < w2.heap.size := by have := hb2.size; omega
    have ha2 : Below w.heap.size w w2 := (((Below.refl _ _).alloc (Nat.le_refl _) _).trans (hb1.mono (by simp))).trans (hb2.mono (by omega))
    go_wp2_with fail
    refine bodyPost_ret (v := .tuple #[.agg #[.int .i64 0, .int .i64 0, .int .i64 0], .int .i64 1]) (by simp [results, Tryz.results41, go_sem, hz1, hc1, hc2]) rfl ⟨rfl, ?_⟩
    repeat (first | exact Below.refl _ _ | assumption | refine below_drewN ?_ _ | refine Below.drew ?_ | refine Below.setCell ?_ (by first | omega | (simp; done) | (simp; omega)) _ | refine Below.alloc ?_ (by first | omega | (simp; done) | (simp; omega)) _)
theorem check_yes (y m d : Int) (w : World) (h : Cal.Valid y m d) :
    Calls Tryz.prog 68 #[.agg #[.int .i64 y, .int .i64 m, .int .i64 d]] w fun e w' => e = .returned (.int .i64 0) ∧ Below w.heap.size w w' := by
  obtain ⟨h1, h2, h3, h4, h5, h6⟩ := h
  have hl := Cal.len_bd y m
  have g1 : decide (d < 1) = false := by simp; omega
  have g2 : decide (Cal.len y m < d) = false := by simp; omega
  go_enter Tryz.func68, Tryz.ntmps68
  go_wp2_with fail
  refine (length_yes _ _ _ (by omega) (by omega) (by omega) (by omega)).mono ?_
  rintro e w1 ⟨rfl, rfl⟩
  go_wp2_with fail
  go_ret
  refine ⟨rfl, ?_⟩
  repeat (first | exact Below.refl _ _ | assumption | refine below_drewN ?_ _ | refine Below.drew ?_ | refine Below.setCell ?_ (by first | omega | (simp; done) | (simp; omega)) _ | refine Below.alloc ?_ (by first | omega | (simp; done) | (simp; omega)) _)
theorem check_no (y m d : Int) (w : World) (h : ¬ Cal.Valid y m d) :
    Calls Tryz.prog 68 #[.agg #[.int .i64 y, .int .i64 m, .int .i64 d]] w fun e w' => e = .returned (.int .i64 1) ∧ Below w.heap.size w w' := by
  by_cases hM : 1 ≤ y ∧ y ≤ 9999 ∧ 1 ≤ m ∧ m ≤ 12
  · have hl := Cal.len_bd y m
    by_cases h1 : d < 1
    · clear h
      have g1 : decide (d < 1) = true := by simp; omega
      obtain ⟨a, b, c, f⟩ := hM
      go_enter Tryz.func68, Tryz.ntmps68
      go_wp2_with fail
      refine (length_yes _ _ _ (by omega) (by omega) (by omega) (by omega)).mono ?_
      rintro e w1 ⟨rfl, rfl⟩
      go_wp2_with fail
      go_ret
      refine ⟨rfl, ?_⟩
      repeat (first | exact Below.refl _ _ | assumption | refine below_drewN ?_ _ | refine Below.drew ?_ | refine Below.setCell ?_ (by first | omega | (simp; done) | (simp; omega)) _ | refine Below.alloc ?_ (by first | omega | (simp; done) | (simp; omega)) _)
    · have h2 : Cal.len y m < d := by
        unfold Cal.Valid at h
        omega
      clear h
      have g1 : decide (d < 1) = false := by simp; omega
      have g2 : decide (Cal.len y m < d) = true := by simp; omega
      obtain ⟨a, b, c, f⟩ := hM
      go_enter Tryz.func68, Tryz.ntmps68
      go_wp2_with fail
      refine (length_yes _ _ _ (by omega) (by omega) (by omega) (by omega)).mono ?_
      rintro e w1 ⟨rfl, rfl⟩
      go_wp2_with fail
      go_ret
      refine ⟨rfl, ?_⟩
      repeat (first | exact Below.refl _ _ | assumption | refine below_drewN ?_ _ | refine Below.drew ?_ | refine Below.setCell ?_ (by first | omega | (simp; done) | (simp; omega)) _ | refine Below.alloc ?_ (by first | omega | (simp; done) | (simp; omega)) _)
  · clear h
    have H := Lib.hid hM
    clear hM
    go_enter Tryz.func68, Tryz.ntmps68
    go_wp2_with fail
    refine (length_no _ _ _ H).mono ?_
    rintro e w1 ⟨rfl, rfl⟩
    go_wp2_with fail
    go_ret
    refine ⟨rfl, ?_⟩
    repeat (first | exact Below.refl _ _ | assumption | refine below_drewN ?_ _ | refine Below.drew ?_ | refine Below.setCell ?_ (by first | omega | (simp; done) | (simp; omega)) _ | refine Below.alloc ?_ (by first | omega | (simp; done) | (simp; omega)) _)
theorem days_yes (y m d : Int) (w : World) (h : Cal.Valid y m d) :
    Calls Tryz.prog 39 #[.agg #[.int .i64 y, .int .i64 m, .int .i64 d]] w fun e w' => e = .returned (.tuple #[.int .i64 (Cal.num y m d), .int .i64 0]) ∧ Below w.heap.size w w' := by
  have hd := Cal.len_ge y m d h
  have hV := Lib.hid h
  obtain ⟨h1, h2, h3, h4, h5, h6⟩ := h
  clear h6
  go_enter Tryz.func39, Tryz.ntmps39
  go_wp2_with fail
  refine (check_yes _ _ _ _ hV).mono ?_
  rintro e w1 ⟨rfl, hb1⟩
  obtain ⟨hc1, hf1⟩ := bcell hb1
  go_wp2_with fail
  refine (number_any _ _ _ _ (by omega) (by omega) (by omega) (by omega) (by omega) (by omega)).mono ?_
  rintro e w2 ⟨rfl, hb2⟩
  go_wp2_with fail
  go_ret2
  exact ⟨rfl, (((Below.refl _ _).alloc (Nat.le_refl _) _).trans (hb1.mono (by simp))).trans (hb2.mono (by have := hb1.size; simp at this; omega))⟩
theorem days_no (y m d : Int) (w : World) (h : ¬ Cal.Valid y m d) :
    Calls Tryz.prog 39 #[.agg #[.int .i64 y, .int .i64 m, .int .i64 d]] w fun e w' => e = .returned (.tuple #[.int .i64 0, .int .i64 1]) ∧ Below w.heap.size w w' := by
  have hV := Lib.hid h
  clear h
  go_enter Tryz.func39, Tryz.ntmps39
  go_wp2_with fail
  refine (check_no _ _ _ _ hV).mono ?_
  rintro e w1 ⟨rfl, hb1⟩
  obtain ⟨hc1, hf1⟩ := bcell hb1
  go_wp2_with fail
  go_ret2
  exact ⟨rfl, ((Below.refl _ _).alloc (Nat.le_refl _) _).trans (hb1.mono (by simp))⟩
end Go.Proofs.YtgcgmmdfmcapiaaGreatDoor
