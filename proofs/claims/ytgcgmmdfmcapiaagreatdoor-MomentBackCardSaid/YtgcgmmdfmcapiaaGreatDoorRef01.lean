/- The contracts of the document's own answers for layer 1: each returns what the calendar's arithmetic says. -/
import Derived.Test.YtgcgmmdfmcapiaaGreatDoorCivil2
import Derived.Deep.LoopGhost
namespace Go.Proofs.YtgcgmmdfmcapiaaGreatDoor
open Go.RowKit
set_option maxHeartbeats 400000 in
theorem rleap_any (y : Int) (w : World) : Calls Tryz.prog 75 #[.int .i64 y] w fun e w' => e = .returned (.bool (lpB y)) ∧ w = w' := by
  have hl := Lib.hid (lpB_of y)
  by_cases h4 : y % 4 = 0 <;> by_cases h100 : y % 100 = 0 <;> by_cases h400 : y % 400 = 0 <;> first | (exfalso; omega) | skip
  all_goals
    have H := Lib.hid (And.intro h4 (And.intro h100 h400))
    obtain ⟨a4, b4⟩ := (by first | exact tmod_yes h4 | exact tmod_no h4 : _ ∧ _)
    obtain ⟨a100, b100⟩ := (by first | exact tmod_yes h100 | exact tmod_no h100 : _ ∧ _)
    obtain ⟨a400, b400⟩ := (by first | exact tmod_yes h400 | exact tmod_no h400 : _ ∧ _)
    clear h4 h100 h400
    go_enter Tryz.func75, Tryz.ntmps75
    go_wp2
    go_ret
    obtain ⟨h4, h100, h400⟩ := H.out
    exact ⟨by rw [hl.out]; simp [h4, h100, h400], rfl⟩
theorem rlength_yes (y m : Int) (w : World) (h1 : 1 ≤ y) (h2 : y ≤ 9999) (h3 : 1 ≤ m) (h4 : m ≤ 12) :
    Calls Tryz.prog 45 #[.int .i64 y, .int .i64 m] w fun e w' => e = .returned (.tuple #[.int .i64 (Cal.len y m), .int .i64 0]) ∧ w = w' := by
  rcases len_lit y m h3 h4 with ⟨rfl, hb, hl⟩ | ⟨rfl, hb, hl⟩ | ⟨rfl | rfl | rfl | rfl, hl⟩ | ⟨rfl | rfl | rfl | rfl | rfl | rfl | rfl, hl⟩
  all_goals
    rw [hl]
    clear hl
    try have HB := Lib.hid hb
    try clear hb
    go_enter Tryz.func45, Tryz.ntmps45
    go_wp2_with (first | (go_at_call 75; refine (rleap_any _ _).mono ?_; rintro e w' ⟨rfl, rfl⟩; rw [HB.out]))
    go_ret2
    exact ⟨rfl, rfl⟩
theorem rlength_no (y m : Int) (w : World) (h : ¬ (1 ≤ y ∧ y ≤ 9999 ∧ 1 ≤ m ∧ m ≤ 12)) :
    Calls Tryz.prog 45 #[.int .i64 y, .int .i64 m] w fun e w' => e = .returned (.tuple #[.int .i64 0, .int .i64 1]) ∧ w = w' := by
  by_cases h1 : y < 1
  · clear h
    go_enter Tryz.func45, Tryz.ntmps45
    go_wp2
    go_ret2
    exact ⟨rfl, rfl⟩
  · by_cases h2 : 9999 < y
    · clear h
      go_enter Tryz.func45, Tryz.ntmps45
      go_wp2
      go_ret2
      exact ⟨rfl, rfl⟩
    · by_cases h3 : m < 1
      · clear h
        go_enter Tryz.func45, Tryz.ntmps45
        go_wp2
        go_ret2
        exact ⟨rfl, rfl⟩
      · have h4 : 12 < m := by omega
        clear h
        go_enter Tryz.func45, Tryz.ntmps45
        go_wp2
        go_ret2
        exact ⟨rfl, rfl⟩
theorem rcheck_yes (y m d : Int) (w : World) (h : Cal.Valid y m d) :
    Calls Tryz.prog 76 #[.agg #[.int .i64 y, .int .i64 m, .int .i64 d]] w fun e w' => e = .returned (.int .i64 0) ∧ Below w.heap.size w w' := by
  obtain ⟨h1, h2, h3, h4, h5, h6⟩ := h
  have hl := Cal.len_bd y m
  have g1 : decide (d < 1) = false := by simp; omega
  have g2 : decide (Cal.len y m < d) = false := by simp; omega
  go_enter Tryz.func76, Tryz.ntmps76
  go_wp2_with fail
  refine (rlength_yes _ _ _ (by omega) (by omega) (by omega) (by omega)).mono ?_
  rintro e w1 ⟨rfl, rfl⟩
  go_wp2_with fail
  go_ret
  refine ⟨rfl, ?_⟩
  repeat (first | exact Below.refl _ _ | assumption | refine below_drewN ?_ _ | refine Below.drew ?_ | refine Below.setCell ?_ (by first | omega | (simp; done) | (simp; omega)) _ | refine Below.alloc ?_ (by first | omega | (simp; done) | (simp; omega)) _)
theorem rcheck_no (y m d : Int) (w : World) (h : ¬ Cal.Valid y m d) :
    Calls Tryz.prog 76 #[.agg #[.int .i64 y, .int .i64 m, .int .i64 d]] w fun e w' => e = .returned (.int .i64 1) ∧ Below w.heap.size w w' := by
  by_cases hM : 1 ≤ y ∧ y ≤ 9999 ∧ 1 ≤ m ∧ m ≤ 12
  · have hl := Cal.len_bd y m
    by_cases h1 : d < 1
    · clear h
      have g1 : decide (d < 1) = true := by simp; omega
      obtain ⟨a, b, c, f⟩ := hM
      go_enter Tryz.func76, Tryz.ntmps76
      go_wp2_with fail
      refine (rlength_yes _ _ _ (by omega) (by omega) (by omega) (by omega)).mono ?_
      rintro e w1 ⟨rfl, rfl⟩
      go_wp2_with fail
      go_ret
      refine ⟨rfl, ?_⟩
      repeat (first | exact Below.refl _ _ | assumption | refine below_drewN ?_ _ | refine Below.drew ?_ | refine Below.setCell ?_ (by first | omega | (simp; done) | (simp; omega)) _ | refine Below.alloc ?_ (by first | omega | (simp; done) | (simp; omega)) _)
    · have h2 : Cal.len y m < d := by
        unfold Cal.Valid at h
        omega
      clear h
      have g1 : decide (d < 1) = false := by simp; omega
      have g2 : decide (Cal.len y m < d) = true := by simp; omega
      obtain ⟨a, b, c, f⟩ := hM
      go_enter Tryz.func76, Tryz.ntmps76
      go_wp2_with fail
      refine (rlength_yes _ _ _ (by omega) (by omega) (by omega) (by omega)).mono ?_
      rintro e w1 ⟨rfl, rfl⟩
      go_wp2_with fail
      go_ret
      refine ⟨rfl, ?_⟩
      repeat (first | exact Below.refl _ _ | assumption | refine below_drewN ?_ _ | refine Below.drew ?_ | refine Below.setCell ?_ (by first | omega | (simp; done) | (simp; omega)) _ | refine Below.alloc ?_ (by first | omega | (simp; done) | (simp; omega)) _)
  · clear h
    have H := Lib.hid hM
    clear hM
    go_enter Tryz.func76, Tryz.ntmps76
    go_wp2_with fail
    refine (rlength_no _ _ _ H).mono ?_
    rintro e w1 ⟨rfl, rfl⟩
    go_wp2_with fail
    go_ret
    refine ⟨rfl, ?_⟩
    repeat (first | exact Below.refl _ _ | assumption | refine below_drewN ?_ _ | refine Below.drew ?_ | refine Below.setCell ?_ (by first | omega | (simp; done) | (simp; omega)) _ | refine Below.alloc ?_ (by first | omega | (simp; done) | (simp; omega)) _)
theorem rfirst_yes (y : Int) (w : World) (h1 : 1 ≤ y) (h2 : y ≤ 10000) :
    Calls Tryz.prog 77 #[.int .i64 y] w fun e w' => e = .returned (.tuple #[.int .i64 (Cal.fst y), .int .i64 0]) ∧ w = w' := by
  go_enter Tryz.func77, Tryz.ntmps77
  go_wp2_with fail
  go_ret2
  exact ⟨rfl, rfl⟩
theorem rfirst_no (y : Int) (w : World) (h : y < 1 ∨ 10000 < y) :
    Calls Tryz.prog 77 #[.int .i64 y] w fun e w' => e = .returned (.tuple #[.int .i64 0, .int .i64 1]) ∧ w = w' := by
  rcases h with h | h
  · go_enter Tryz.func77, Tryz.ntmps77
    go_wp2_with fail
    go_ret2
    exact ⟨rfl, rfl⟩
  · have h' : ¬ y < 1 := by omega
    go_enter Tryz.func77, Tryz.ntmps77
    go_wp2_with fail
    go_ret2
    exact ⟨rfl, rfl⟩
theorem rweekday_any (n : Int) (w : World) (_h1 : -9223372036854775808 ≤ n) (_h2 : n ≤ 9223372036854775807) :
    Calls Tryz.prog 47 #[.int .i64 n] w fun e w' => e = .returned (.int .i64 ((n + 4) % 7)) ∧ w = w' := by
  have hq := tmod7 n
  have hb : -7 ≤ n.tmod 7 ∧ n.tmod 7 ≤ 7 := by omega
  by_cases hn : n.tmod 7 < 0
  · have he := Lib.hid (show (n.tmod 7 + 7 + 4) % 7 = (n + 4) % 7 by omega)
    obtain ⟨hb1, hb2⟩ := hb
    clear hq
    go_enter Tryz.func47, Tryz.ntmps47
    go_wp2
    go_ret
    exact ⟨ret_int he.out, rfl⟩
  · have he := Lib.hid (show (n.tmod 7 + 4) % 7 = (n + 4) % 7 by omega)
    obtain ⟨hb1, hb2⟩ := hb
    clear hq
    go_enter Tryz.func47, Tryz.ntmps47
    go_wp2
    go_ret
    exact ⟨ret_int he.out, rfl⟩
theorem rdays_no (y m d : Int) (w : World) (h : ¬ Cal.Valid y m d) :
    Calls Tryz.prog 46 #[.agg #[.int .i64 y, .int .i64 m, .int .i64 d]] w fun e w' => e = .returned (.tuple #[.int .i64 0, .int .i64 1]) ∧ Below w.heap.size w w' := by
  have hV := Lib.hid h
  clear h
  go_enter Tryz.func46, Tryz.ntmps46
  go_wp2_with fail
  refine (rcheck_no _ _ _ _ hV).mono ?_
  rintro e w1 ⟨rfl, hb1⟩
  go_wp2_with fail
  go_ret2
  exact ⟨rfl, ((Below.refl _ _).alloc (Nat.le_refl _) _).trans (hb1.mono (by simp))⟩
theorem rdays_yes (y m d : Int) (w : World) (h : Cal.Valid y m d) :
    Calls Tryz.prog 46 #[.agg #[.int .i64 y, .int .i64 m, .int .i64 d]] w fun e w' => e = .returned (.tuple #[.int .i64 (Cal.num y m d), .int .i64 0]) ∧ Below w.heap.size w w' := by
  have hd := Cal.len_ge y m d h
  have hV := Lib.hid h
  obtain ⟨h1, h2, h3, h4, h5, h6⟩ := h
  have hf := Cal.fst_bd y h1 (by omega)
  clear h6
  go_enter Tryz.func46, Tryz.ntmps46
  go_wp2_with fail
  refine (rcheck_yes _ _ _ _ hV).mono ?_
  rintro e w1 ⟨rfl, hb1⟩
  obtain ⟨hc1, hf1⟩ := bcell hb1
  go_wp2_with fail
  refine (rfirst_yes _ _ (by omega) (by omega)).mono ?_
  rintro e w' ⟨rfl, rfl⟩
  go_wp2_with fail
  go_loop [4, 6] (fun n i => ∃ k : Int, 1 ≤ k ∧ k ≤ m ∧ i = .int .i64 k ∧ n = .int .i64 (Cal.fst y + Cal.cum y k)) (fun _ i => (m - intOf i).toNat)
  case atStart => exact ⟨1, by omega, by omega, rfl, by rw [Cal.cum_one]; simp⟩
  case round =>
    obtain ⟨k, hk1, hk2, rfl, rfl⟩ := hrel
    have hcb := Cal.cum_bd y k hk1 (by omega)
    have hlp := Cal.lp_01 y
    by_cases hlt : k < m
    · have hl := Cal.len_bd y k
      have hcs := Lib.hid (Cal.cum_succ y k hk1 (by omega))
      go_wp2_with (go_at_call 45; refine (rlength_yes _ _ _ (by omega) (by omega) (by omega) (by omega)).mono ?_; rintro e w' ⟨rfl, rfl⟩)
      go_round
      case rel => exact ⟨k + 1, by omega, by omega, rfl, by rw [hcs.out, Int.add_assoc]⟩
      case measure => simp [intOf]; omega
    · obtain rfl : k = m := by omega
      clear hlt
      go_wp2_with fail
      go_ret2
      refine ⟨rfl, ?_⟩
      exact ((Below.refl _ _).alloc (Nat.le_refl _) _).trans (hb1.mono (by simp))
theorem rof_no (n : Int) (w : World) (h : n < -719162 ∨ 2932896 < n) :
    Calls Tryz.prog 48 #[.int .i64 n] w fun e w' => e = .returned (.tuple #[.agg #[.int .i64 0, .int .i64 0, .int .i64 0], .int .i64 1]) ∧ Below w.heap.size w w' := by
  have e1 := Cal.fst_one
  have e2 := Cal.fst_end
  rcases h with h | h
  · have l1 : decide (n < Cal.fst 1) = true := by simp; omega
    clear e1 e2
    go_enter Tryz.func48, Tryz.ntmps48
    go_wp2_with (go_at_call 77; refine (rfirst_yes _ _ (by omega) (by omega)).mono ?_; rintro e w' ⟨rfl, rfl⟩)
    refine bodyPost_ret (v := .tuple #[.agg #[.int .i64 0, .int .i64 0, .int .i64 0], .int .i64 1]) (by simp [results, Tryz.results48, go_sem]) rfl ⟨rfl, ?_⟩
    repeat (first | exact Below.refl _ _ | assumption | refine below_drewN ?_ _ | refine Below.drew ?_ | refine Below.setCell ?_ (by first | omega | (simp; done) | (simp; omega)) _ | refine Below.alloc ?_ (by first | omega | (simp; done) | (simp; omega)) _)
  · have l1 : decide (n < Cal.fst 1) = false := by simp; omega
    have l2 : decide (Cal.fst 10000 ≤ n) = true := by simp; omega
    clear e1 e2
    go_enter Tryz.func48, Tryz.ntmps48
    go_wp2_with (go_at_call 77; refine (rfirst_yes _ _ (by omega) (by omega)).mono ?_; rintro e w' ⟨rfl, rfl⟩)
    refine bodyPost_ret (v := .tuple #[.agg #[.int .i64 0, .int .i64 0, .int .i64 0], .int .i64 1]) (by simp [results, Tryz.results48, go_sem]) rfl ⟨rfl, ?_⟩
    repeat (first | exact Below.refl _ _ | assumption | refine below_drewN ?_ _ | refine Below.drew ?_ | refine Below.setCell ?_ (by first | omega | (simp; done) | (simp; omega)) _ | refine Below.alloc ?_ (by first | omega | (simp; done) | (simp; omega)) _)
set_option maxHeartbeats 2000000 in
set_option maxRecDepth 100000 in
theorem rof_in (n Y M D : Int) (w : World) (hV : Hid (Cal.Valid Y M D)) (hN : Hid (Cal.num Y M D = n)) (h1 : -719162 ≤ n) (h2 : n ≤ 2932896) (y1 : 1 ≤ Y) (y2 : Y ≤ 9999) (m1 : 1 ≤ M) (m2 : M ≤ 12) :
    Calls Tryz.prog 48 #[.int .i64 n] w fun e w' => e = .returned (.tuple #[.agg #[.int .i64 Y, .int .i64 M, .int .i64 D], .int .i64 0]) ∧ Below w.heap.size w w' := by
  have hin := Cal.num_in Y M D hV.out
  rw [hN.out] at hin
  obtain ⟨i1, i2, i3, i4⟩ := hin
  have hfb := Cal.fst_bd Y y1 (by omega)
  have hc1 := Cal.cum_bd Y M m1 (by omega)
  have hlp := Cal.lp_01 Y
  have l1 : decide (n < Cal.fst 1) = false := by have := Cal.fst_one; simp; omega
  have l2 : decide (Cal.fst 10000 ≤ n) = false := by have := Cal.fst_end; simp; omega
  have hD := Lib.hid (show n - Cal.fst Y - Cal.cum Y M + 1 = D by have := hN.out; unfold Cal.num at this; omega)
  go_enter Tryz.func48, Tryz.ntmps48
  go_wp2_with (go_at_call 77; refine (rfirst_yes _ _ (by omega) (by omega)).mono ?_; rintro e w' ⟨rfl, rfl⟩)
  go_loop [8, 9] (fun a b => ∃ x z : Int, 1 ≤ x ∧ x ≤ Y ∧ Y ≤ z ∧ z ≤ 9999 ∧ a = .int .i64 x ∧ b = .int .i64 z) (fun a b => (intOf b - intOf a).toNat)
  case atStart => exact ⟨1, 9999, by omega, by omega, by omega, by omega, rfl, rfl⟩
  case round =>
    obtain ⟨x, z, x1, x2, z1, z2, rfl, rfl⟩ := hrel
    by_cases hlt : x < z
    · by_cases hm : (x + z + 1) / 2 ≤ Y
      · have g := Cal.fst_mono _ _ hm
        have g' : decide (Cal.fst ((x + z + 1) / 2) ≤ n) = true := by simp; omega
        clear g
        go_wp2_with (go_at_call 77; refine (rfirst_yes _ _ (by omega) (by omega)).mono ?_; rintro e w' ⟨rfl, rfl⟩)
        go_round
        case rel => exact ⟨_, z, by omega, hm, by omega, by omega, rfl, rfl⟩
        case measure => simp [intOf]; omega
      · have g := Cal.fst_mono (Y + 1) ((x + z + 1) / 2) (by omega)
        have g' : decide (Cal.fst ((x + z + 1) / 2) ≤ n) = false := by simp; omega
        clear g
        go_wp2_with (go_at_call 77; refine (rfirst_yes _ _ (by omega) (by omega)).mono ?_; rintro e w' ⟨rfl, rfl⟩)
        go_round
        case rel => exact ⟨x, _, x1, x2, by omega, by omega, rfl, rfl⟩
        case measure => simp [intOf]; omega
    · obtain rfl : x = Y := by omega
      obtain rfl : z = x := by omega
      clear hlt
      go_wp2_with (go_at_call 77; refine (rfirst_yes _ _ (by omega) (by omega)).mono ?_; rintro e w' ⟨rfl, rfl⟩)
      go_loop [15, 16] (fun l i => ∃ k : Int, 1 ≤ k ∧ k ≤ M ∧ i = .int .i64 k ∧ l = .int .i64 (n - Cal.fst z - Cal.cum z k)) (fun _ i => (M - intOf i).toNat)
      case atStart => exact ⟨1, by omega, by omega, rfl, by rw [Cal.cum_one]; simp⟩
      case round =>
        obtain ⟨k, k1, k2, rfl, rfl⟩ := hrel
        have hcb := Cal.cum_bd z k k1 (by omega)
        have hl := Cal.len_bd z k
        have hcs := Cal.cum_succ z k k1 (by omega)
        by_cases hk : k < M
        · have hcm := Cal.cum_mono z (k + 1) M (by omega) (by omega)
          have g : decide (n - Cal.fst z - Cal.cum z k < Cal.len z k) = false := by simp; omega
          have HCS := Lib.hid hcs
          clear hcs hcm
          go_wp2_with (go_at_call 45; refine (rlength_yes _ _ _ (by omega) (by omega) (by omega) (by omega)).mono ?_; rintro e w' ⟨rfl, rfl⟩)
          go_round
          case rel => exact ⟨k + 1, by omega, by omega, rfl, by rw [HCS.out]; go_num⟩
          case measure => simp [intOf]; omega
        · obtain rfl : k = M := by omega
          have g : decide (n - Cal.fst z - Cal.cum z k < Cal.len z k) = true := by simp; omega
          clear hcs hk
          go_wp2_with (go_at_call 45; refine (rlength_yes _ _ _ (by omega) (by omega) (by omega) (by omega)).mono ?_; rintro e w' ⟨rfl, rfl⟩)
          refine bodyPost_ret (v := .tuple #[.agg #[.int .i64 z, .int .i64 k, .int .i64 D], .int .i64 0]) (by simp [results, Tryz.results48, go_sem, hD.out]) rfl ⟨rfl, ?_⟩
          repeat (first | exact Below.refl _ _ | assumption | refine below_drewN ?_ _ | refine Below.drew ?_ | refine Below.setCell ?_ (by first | omega | (simp; done) | (simp; omega)) _ | refine Below.alloc ?_ (by first | omega | (simp; done) | (simp; omega)) _)
theorem rof_yes (n : Int) (w : World) (h1 : -719162 ≤ n) (h2 : n ≤ 2932896) :
    Calls Tryz.prog 48 #[.int .i64 n] w fun e w' => e = .returned (.tuple #[.agg #[.int .i64 (Cal.yearOf n), .int .i64 (Cal.monthOf n), .int .i64 (Cal.dayOf n)], .int .i64 0]) ∧ Below w.heap.size w w' := by
  have hv := Cal.valid_of n h1 h2
  have hv2 := hv
  obtain ⟨a, b, c, d, _, _⟩ := hv2
  exact rof_in n _ _ _ w (Lib.hid hv) (Lib.hid (Cal.num_of n)) h1 h2 a b c d
end Go.Proofs.YtgcgmmdfmcapiaaGreatDoor
