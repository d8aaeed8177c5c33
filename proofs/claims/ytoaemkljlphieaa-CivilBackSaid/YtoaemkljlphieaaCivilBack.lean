/- The walk of the law CivilBack: there and back. -/
import Derived.Test.YtoaemkljlphieaaTopYear
namespace Go.Proofs.Ytoaemkljlphieaa
open Go.RowKit
theorem civilBack_low (n y m d : Int) (w : World) (h : n < -719162) :
    Calls Try.prog 4 #[.int .i64 n, .agg #[.int .i64 y, .int .i64 m, .int .i64 d]] w fun e w' => e = .returned (.bool true) ∧ Below w.heap.size w w' := by
  have HN := Lib.hid (show n < -719162 ∨ 2932896 < n from .inl h)
  have G : decide (n < -719162) = true := by simp; omega
  by_cases hv : Cal.Valid y m d
  · have HV := Lib.hid hv
    clear hv
    go_enter Try.func4, Try.ntmps4
    go_wp2_with fail
    refine (lives01 _).mono ?_
    rintro e w1 ⟨rfl, hb1⟩
    obtain ⟨hc1, hf1⟩ := bcell hb1
    have hz1 : w.heap.size < w1.heap.size := by have := hb1.size; (try simp at this); omega
    go_wp2_with fail
    refine (days_yes _ _ _ _ HV.out).mono ?_
    rintro e w2 ⟨rfl, hb2⟩
    obtain ⟨hc2, hf2⟩ := bcell hb2
    have hz2 : w.heap.size < w2.heap.size := by have := hb2.size; (try simp at this); omega
    go_wp2_with fail
    refine (of_at _ y m d _ HV.out rfl).mono ?_
    rintro e w3 ⟨rfl, hb3⟩
    obtain ⟨hc3, hf3⟩ := bcell hb3
    have hz3 : w.heap.size < w3.heap.size := by have := hb3.size; (try simp at this); omega
    have b3 : Below w.heap.size w w3 := ((((Below.refl _ _).alloc (Nat.le_refl _) _).trans (hb1.mono (by simp))).trans (hb2.mono (by omega))).trans (hb3.mono (by omega))
    have b4 := b3.alloc b3.size (.cells #[.int .i64 y, .int .i64 m, .int .i64 d] 23)
    go_wp2_with fail
    clear hb1 hb2 hb3 hc1 hc2 hc3 hf1 hf2 hf3 hz1 hz2 hz3 b3
    refine (of_no _ _ HN.out).mono ?_
    rintro e w5 ⟨rfl, hb5⟩
    have b5 := b4.trans (hb5.mono b4.size)
    go_wp2_with fail
    go_ret
    exact ⟨rfl, b5.alloc b5.size _⟩
  · have HV := Lib.hid hv
    clear hv
    go_enter Try.func4, Try.ntmps4
    go_wp2_with fail
    refine (lives01 _).mono ?_
    rintro e w1 ⟨rfl, hb1⟩
    obtain ⟨hc1, hf1⟩ := bcell hb1
    have hz1 : w.heap.size < w1.heap.size := by have := hb1.size; (try simp at this); omega
    go_wp2_with fail
    refine (days_no _ _ _ _ HV.out).mono ?_
    rintro e w2 ⟨rfl, hb2⟩
    have b4 : Below w.heap.size w w2 := (((Below.refl _ _).alloc (Nat.le_refl _) _).trans (hb1.mono (by simp))).trans (hb2.mono (by omega))
    go_wp2_with fail
    clear hb1 hb2 hc1 hf1 hz1
    refine (of_no _ _ HN.out).mono ?_
    rintro e w5 ⟨rfl, hb5⟩
    have b5 := b4.trans (hb5.mono b4.size)
    go_wp2_with fail
    go_ret
    exact ⟨rfl, b5.alloc b5.size _⟩
theorem civilBack_high (n y m d : Int) (w : World) (h : 2932896 < n) :
    Calls Try.prog 4 #[.int .i64 n, .agg #[.int .i64 y, .int .i64 m, .int .i64 d]] w fun e w' => e = .returned (.bool true) ∧ Below w.heap.size w w' := by
  have HN := Lib.hid (show n < -719162 ∨ 2932896 < n from .inr h)
  have G : decide (n < -719162) = false := by simp; omega
  have G2 : decide (2932896 < n) = true := by simp; omega
  by_cases hv : Cal.Valid y m d
  · have HV := Lib.hid hv
    clear hv
    go_enter Try.func4, Try.ntmps4
    go_wp2_with fail
    refine (lives01 _).mono ?_
    rintro e w1 ⟨rfl, hb1⟩
    obtain ⟨hc1, hf1⟩ := bcell hb1
    have hz1 : w.heap.size < w1.heap.size := by have := hb1.size; (try simp at this); omega
    go_wp2_with fail
    refine (days_yes _ _ _ _ HV.out).mono ?_
    rintro e w2 ⟨rfl, hb2⟩
    obtain ⟨hc2, hf2⟩ := bcell hb2
    have hz2 : w.heap.size < w2.heap.size := by have := hb2.size; (try simp at this); omega
    go_wp2_with fail
    refine (of_at _ y m d _ HV.out rfl).mono ?_
    rintro e w3 ⟨rfl, hb3⟩
    obtain ⟨hc3, hf3⟩ := bcell hb3
    have hz3 : w.heap.size < w3.heap.size := by have := hb3.size; (try simp at this); omega
    have b3 : Below w.heap.size w w3 := ((((Below.refl _ _).alloc (Nat.le_refl _) _).trans (hb1.mono (by simp))).trans (hb2.mono (by omega))).trans (hb3.mono (by omega))
    have b4 := b3.alloc b3.size (.cells #[.int .i64 y, .int .i64 m, .int .i64 d] 23)
    go_wp2_with fail
    clear hb1 hb2 hb3 hc1 hc2 hc3 hf1 hf2 hf3 hz1 hz2 hz3 b3
    refine (of_no _ _ HN.out).mono ?_
    rintro e w5 ⟨rfl, hb5⟩
    have b5 := b4.trans (hb5.mono b4.size)
    go_wp2_with fail
    go_ret
    exact ⟨rfl, b5.alloc b5.size _⟩
  · have HV := Lib.hid hv
    clear hv
    go_enter Try.func4, Try.ntmps4
    go_wp2_with fail
    refine (lives01 _).mono ?_
    rintro e w1 ⟨rfl, hb1⟩
    obtain ⟨hc1, hf1⟩ := bcell hb1
    have hz1 : w.heap.size < w1.heap.size := by have := hb1.size; (try simp at this); omega
    go_wp2_with fail
    refine (days_no _ _ _ _ HV.out).mono ?_
    rintro e w2 ⟨rfl, hb2⟩
    have b4 : Below w.heap.size w w2 := (((Below.refl _ _).alloc (Nat.le_refl _) _).trans (hb1.mono (by simp))).trans (hb2.mono (by omega))
    go_wp2_with fail
    clear hb1 hb2 hc1 hf1 hz1
    refine (of_no _ _ HN.out).mono ?_
    rintro e w5 ⟨rfl, hb5⟩
    have b5 := b4.trans (hb5.mono b4.size)
    go_wp2_with fail
    go_ret
    exact ⟨rfl, b5.alloc b5.size _⟩
theorem days_lit2 (y m d n : Int) (w : World) (h : Cal.Valid y m d) (e : Cal.num y m d = n) :
    Calls Try.prog 8 #[.agg #[.int .i64 y, .int .i64 m, .int .i64 d]] w fun e w' => e = .returned (.tuple #[.int .i64 n, .int .i64 0]) ∧ Below w.heap.size w w' := by
  subst e
  exact days_yes y m d w h
set_option maxHeartbeats 1000000 in
set_option maxRecDepth 100000 in
theorem civilBack_last (Y M D y m d : Int) (w : World) (HA : Hid (Cal.Valid Y M D)) (HE : Hid (Cal.num Y M D = 2932896)) :
    Calls Try.prog 4 #[.int .i64 2932896, .agg #[.int .i64 y, .int .i64 m, .int .i64 d]] w fun e w' => e = .returned (.bool true) ∧ Below w.heap.size w w' := by
  by_cases hv : Cal.Valid y m d
  · have HV := Lib.hid hv
    clear hv
    go_enter Try.func4, Try.ntmps4
    go_wp2_with fail
    refine (lives01 _).mono ?_
    rintro e w1 ⟨rfl, hb1⟩
    obtain ⟨hc1, hf1⟩ := bcell hb1
    have hz1 : w.heap.size < w1.heap.size := by have := hb1.size; (try simp at this); omega
    go_wp2_with fail
    refine (days_yes _ _ _ _ HV.out).mono ?_
    rintro e w2 ⟨rfl, hb2⟩
    obtain ⟨hc2, hf2⟩ := bcell hb2
    have hz2 : w.heap.size < w2.heap.size := by have := hb2.size; (try simp at this); omega
    go_wp2_with fail
    refine (of_at _ y m d _ HV.out rfl).mono ?_
    rintro e w3 ⟨rfl, hb3⟩
    obtain ⟨hc3, hf3⟩ := bcell hb3
    have hz3 : w.heap.size < w3.heap.size := by have := hb3.size; (try simp at this); omega
    have b3 : Below w.heap.size w w3 := ((((Below.refl _ _).alloc (Nat.le_refl _) _).trans (hb1.mono (by simp))).trans (hb2.mono (by omega))).trans (hb3.mono (by omega))
    have b4 := b3.alloc b3.size (.cells #[.int .i64 y, .int .i64 m, .int .i64 d] 23)
    go_wp2_with fail
    clear hb1 hb2 hb3 hc1 hc2 hc3 hf1 hf2 hf3 hz1 hz2 hz3 b3
    refine (of_at 2932896 Y M D _ HA.out HE.out).mono ?_
    rintro e w5 ⟨rfl, hb5⟩
    have b5 := b4.trans (hb5.mono b4.size)
    clear hb5 b4
    go_wp2_with fail
    refine (days_lit2 _ _ _ 2932896 _ HA.out HE.out).mono ?_
    rintro e w6 ⟨rfl, hb6⟩
    obtain ⟨hc6, hf6⟩ := bcell hb6
    have hz6 : w5.heap.size < w6.heap.size := by have := hb6.size; (try simp at this); omega
    go_wp2_with fail
    refine (check_yes _ _ _ _ HA.out).mono ?_
    rintro e w7 ⟨rfl, hb7⟩
    obtain ⟨hc7, hf7⟩ := bcell hb7
    have hz7 : w5.heap.size < w7.heap.size := by have := hb7.size; (try simp at this); omega
    have b7 := ((b5.alloc b5.size _).trans (hb6.mono (by have := b5.size; simp; omega))).trans (hb7.mono (by have := b5.size; omega))
    clear hb6 hb7
    go_wp2_with fail
    refine (of_no _ _ (by omega)).mono ?_
    rintro e w8 ⟨rfl, hb8⟩
    have b8 := b7.trans (hb8.mono b7.size)
    go_wp2_with fail
    go_ret
    exact ⟨rfl, b8.alloc b8.size _⟩
  · have HV := Lib.hid hv
    clear hv
    go_enter Try.func4, Try.ntmps4
    go_wp2_with fail
    refine (lives01 _).mono ?_
    rintro e w1 ⟨rfl, hb1⟩
    obtain ⟨hc1, hf1⟩ := bcell hb1
    have hz1 : w.heap.size < w1.heap.size := by have := hb1.size; (try simp at this); omega
    go_wp2_with fail
    refine (days_no _ _ _ _ HV.out).mono ?_
    rintro e w2 ⟨rfl, hb2⟩
    have b4 : Below w.heap.size w w2 := (((Below.refl _ _).alloc (Nat.le_refl _) _).trans (hb1.mono (by simp))).trans (hb2.mono (by omega))
    go_wp2_with fail
    clear hb1 hb2 hc1 hf1 hz1
    refine (of_at 2932896 Y M D _ HA.out HE.out).mono ?_
    rintro e w5 ⟨rfl, hb5⟩
    have b5 := b4.trans (hb5.mono b4.size)
    clear hb5 b4
    go_wp2_with fail
    refine (days_lit2 _ _ _ 2932896 _ HA.out HE.out).mono ?_
    rintro e w6 ⟨rfl, hb6⟩
    obtain ⟨hc6, hf6⟩ := bcell hb6
    have hz6 : w5.heap.size < w6.heap.size := by have := hb6.size; (try simp at this); omega
    go_wp2_with fail
    refine (check_yes _ _ _ _ HA.out).mono ?_
    rintro e w7 ⟨rfl, hb7⟩
    obtain ⟨hc7, hf7⟩ := bcell hb7
    have hz7 : w5.heap.size < w7.heap.size := by have := hb7.size; (try simp at this); omega
    have b7 := ((b5.alloc b5.size _).trans (hb6.mono (by have := b5.size; simp; omega))).trans (hb7.mono (by have := b5.size; omega))
    clear hb6 hb7
    go_wp2_with fail
    refine (of_no _ _ (by omega)).mono ?_
    rintro e w8 ⟨rfl, hb8⟩
    have b8 := b7.trans (hb8.mono b7.size)
    go_wp2_with fail
    go_ret
    exact ⟨rfl, b8.alloc b8.size _⟩
set_option maxHeartbeats 2000000 in
set_option maxRecDepth 100000 in
theorem civilBack_in (n Y M D y m d : Int) (w : World) (h1 : -719162 ≤ n) (h2 : n < 2932896) (HA : Hid (Cal.Valid Y M D)) (HE : Hid (Cal.num Y M D = n)) (hl : D < Cal.len Y M) (HB : Hid (Cal.Valid (Y) (M) (D + 1))) (HF : Hid (Cal.num (Y) (M) (D + 1) = n + 1)) :
    Calls Try.prog 4 #[.int .i64 n, .agg #[.int .i64 y, .int .i64 m, .int .i64 d]] w fun e w' => e = .returned (.bool true) ∧ Below w.heap.size w w' := by
  have g1 : ((n + 1 + 4) % 7 == (n + 4 + 1) % 7) = true := by rw [beq_iff_eq]; omega
  have bl := Cal.len_bd Y M
  obtain ⟨A1, A2, A3, A4, A5, A6⟩ := HA.out
  by_cases hv : Cal.Valid y m d
  · have HV := Lib.hid hv
    clear hv
    go_enter Try.func4, Try.ntmps4
    go_wp2_with fail
    refine (lives01 _).mono ?_
    rintro e w1 ⟨rfl, hb1⟩
    obtain ⟨hc1, hf1⟩ := bcell hb1
    have hz1 : w.heap.size < w1.heap.size := by have := hb1.size; (try simp at this); omega
    go_wp2_with fail
    refine (days_yes _ _ _ _ HV.out).mono ?_
    rintro e w2 ⟨rfl, hb2⟩
    obtain ⟨hc2, hf2⟩ := bcell hb2
    have hz2 : w.heap.size < w2.heap.size := by have := hb2.size; (try simp at this); omega
    go_wp2_with fail
    refine (of_at _ y m d _ HV.out rfl).mono ?_
    rintro e w3 ⟨rfl, hb3⟩
    obtain ⟨hc3, hf3⟩ := bcell hb3
    have hz3 : w.heap.size < w3.heap.size := by have := hb3.size; (try simp at this); omega
    have b3 : Below w.heap.size w w3 := ((((Below.refl _ _).alloc (Nat.le_refl _) _).trans (hb1.mono (by simp))).trans (hb2.mono (by omega))).trans (hb3.mono (by omega))
    have b4 := b3.alloc b3.size (.cells #[.int .i64 y, .int .i64 m, .int .i64 d] 23)
    go_wp2_with fail
    clear hb1 hb2 hb3 hc1 hc2 hc3 hf1 hf2 hf3 hz1 hz2 hz3 b3
    refine (of_at n Y M D _ HA.out HE.out).mono ?_
    rintro e w5 ⟨rfl, hb5⟩
    have b5 := b4.trans (hb5.mono b4.size)
    clear hb5 b4
    go_wp2_with fail
    refine (days_lit2 _ _ _ n _ HA.out HE.out).mono ?_
    rintro e w6 ⟨rfl, hb6⟩
    obtain ⟨hc6, hf6⟩ := bcell hb6
    have hz6 : w5.heap.size < w6.heap.size := by have := hb6.size; (try simp at this); omega
    go_wp2_with fail
    refine (check_yes _ _ _ _ HA.out).mono ?_
    rintro e w7 ⟨rfl, hb7⟩
    obtain ⟨hc7, hf7⟩ := bcell hb7
    have hz7 : w5.heap.size < w7.heap.size := by have := hb7.size; (try simp at this); omega
    have b7 := ((b5.alloc b5.size _).trans (hb6.mono (by have := b5.size; simp; omega))).trans (hb7.mono (by have := b5.size; omega))
    clear hb6 hb7
    go_wp2_with fail
    refine (of_at (n + 1) (Y) (M) (D + 1) _ HB.out HF.out).mono ?_
    rintro e w8 ⟨rfl, hb8⟩
    obtain ⟨hc8, hf8⟩ := bcell hb8
    have hz8 : w5.heap.size < w8.heap.size := by have := hb8.size; (try simp at this); omega
    have b8 := b7.trans (hb8.mono b7.size)
    clear hb8
    go_wp2_with (first | (go_at_call 12; refine (length_yes _ _ _ (by omega) (by omega) (by omega) (by omega)).mono ?_; rintro e w' ⟨rfl, rfl⟩) | (go_at_call 21; refine (weekday_any _ _ (by omega) (by omega)).mono ?_; rintro e w' ⟨rfl, rfl⟩))
    go_ret
    refine ⟨rfl, ?_⟩
    have := b8.size
    have := b5.size
    repeat (first | exact Below.refl _ _ | assumption | refine below_drewN ?_ _ | refine Below.drew ?_ | refine Below.setCell ?_ (by first | omega | (simp; done) | (simp; omega)) _ | refine Below.alloc ?_ (by first | omega | (simp; done) | (simp; omega)) _)
  · have HV := Lib.hid hv
    clear hv
    go_enter Try.func4, Try.ntmps4
    go_wp2_with fail
    refine (lives01 _).mono ?_
    rintro e w1 ⟨rfl, hb1⟩
    obtain ⟨hc1, hf1⟩ := bcell hb1
    have hz1 : w.heap.size < w1.heap.size := by have := hb1.size; (try simp at this); omega
    go_wp2_with fail
    refine (days_no _ _ _ _ HV.out).mono ?_
    rintro e w2 ⟨rfl, hb2⟩
    have b4 : Below w.heap.size w w2 := (((Below.refl _ _).alloc (Nat.le_refl _) _).trans (hb1.mono (by simp))).trans (hb2.mono (by omega))
    go_wp2_with fail
    clear hb1 hb2 hc1 hf1 hz1
    refine (of_at n Y M D _ HA.out HE.out).mono ?_
    rintro e w5 ⟨rfl, hb5⟩
    have b5 := b4.trans (hb5.mono b4.size)
    clear hb5 b4
    go_wp2_with fail
    refine (days_lit2 _ _ _ n _ HA.out HE.out).mono ?_
    rintro e w6 ⟨rfl, hb6⟩
    obtain ⟨hc6, hf6⟩ := bcell hb6
    have hz6 : w5.heap.size < w6.heap.size := by have := hb6.size; (try simp at this); omega
    go_wp2_with fail
    refine (check_yes _ _ _ _ HA.out).mono ?_
    rintro e w7 ⟨rfl, hb7⟩
    obtain ⟨hc7, hf7⟩ := bcell hb7
    have hz7 : w5.heap.size < w7.heap.size := by have := hb7.size; (try simp at this); omega
    have b7 := ((b5.alloc b5.size _).trans (hb6.mono (by have := b5.size; simp; omega))).trans (hb7.mono (by have := b5.size; omega))
    clear hb6 hb7
    go_wp2_with fail
    refine (of_at (n + 1) (Y) (M) (D + 1) _ HB.out HF.out).mono ?_
    rintro e w8 ⟨rfl, hb8⟩
    obtain ⟨hc8, hf8⟩ := bcell hb8
    have hz8 : w5.heap.size < w8.heap.size := by have := hb8.size; (try simp at this); omega
    have b8 := b7.trans (hb8.mono b7.size)
    clear hb8
    go_wp2_with (first | (go_at_call 12; refine (length_yes _ _ _ (by omega) (by omega) (by omega) (by omega)).mono ?_; rintro e w' ⟨rfl, rfl⟩) | (go_at_call 21; refine (weekday_any _ _ (by omega) (by omega)).mono ?_; rintro e w' ⟨rfl, rfl⟩))
    go_ret
    refine ⟨rfl, ?_⟩
    have := b8.size
    have := b5.size
    repeat (first | exact Below.refl _ _ | assumption | refine below_drewN ?_ _ | refine Below.drew ?_ | refine Below.setCell ?_ (by first | omega | (simp; done) | (simp; omega)) _ | refine Below.alloc ?_ (by first | omega | (simp; done) | (simp; omega)) _)
set_option maxHeartbeats 2000000 in
set_option maxRecDepth 100000 in
theorem civilBack_month (n Y M D y m d : Int) (w : World) (h1 : -719162 ≤ n) (h2 : n < 2932896) (HA : Hid (Cal.Valid Y M D)) (HE : Hid (Cal.num Y M D = n)) (hl : Cal.len Y M ≤ D) (hm : M < 12) (HB : Hid (Cal.Valid (Y) (M + 1) (1))) (HF : Hid (Cal.num (Y) (M + 1) (1) = n + 1)) :
    Calls Try.prog 4 #[.int .i64 n, .agg #[.int .i64 y, .int .i64 m, .int .i64 d]] w fun e w' => e = .returned (.bool true) ∧ Below w.heap.size w w' := by
  have g1 : ((n + 1 + 4) % 7 == (n + 4 + 1) % 7) = true := by rw [beq_iff_eq]; omega
  have bl := Cal.len_bd Y M
  obtain ⟨A1, A2, A3, A4, A5, A6⟩ := HA.out
  by_cases hv : Cal.Valid y m d
  · have HV := Lib.hid hv
    clear hv
    go_enter Try.func4, Try.ntmps4
    go_wp2_with fail
    refine (lives01 _).mono ?_
    rintro e w1 ⟨rfl, hb1⟩
    obtain ⟨hc1, hf1⟩ := bcell hb1
    have hz1 : w.heap.size < w1.heap.size := by have := hb1.size; (try simp at this); omega
    go_wp2_with fail
    refine (days_yes _ _ _ _ HV.out).mono ?_
    rintro e w2 ⟨rfl, hb2⟩
    obtain ⟨hc2, hf2⟩ := bcell hb2
    have hz2 : w.heap.size < w2.heap.size := by have := hb2.size; (try simp at this); omega
    go_wp2_with fail
    refine (of_at _ y m d _ HV.out rfl).mono ?_
    rintro e w3 ⟨rfl, hb3⟩
    obtain ⟨hc3, hf3⟩ := bcell hb3
    have hz3 : w.heap.size < w3.heap.size := by have := hb3.size; (try simp at this); omega
    have b3 : Below w.heap.size w w3 := ((((Below.refl _ _).alloc (Nat.le_refl _) _).trans (hb1.mono (by simp))).trans (hb2.mono (by omega))).trans (hb3.mono (by omega))
    have b4 := b3.alloc b3.size (.cells #[.int .i64 y, .int .i64 m, .int .i64 d] 23)
    go_wp2_with fail
    clear hb1 hb2 hb3 hc1 hc2 hc3 hf1 hf2 hf3 hz1 hz2 hz3 b3
    refine (of_at n Y M D _ HA.out HE.out).mono ?_
    rintro e w5 ⟨rfl, hb5⟩
    have b5 := b4.trans (hb5.mono b4.size)
    clear hb5 b4
    go_wp2_with fail
    refine (days_lit2 _ _ _ n _ HA.out HE.out).mono ?_
    rintro e w6 ⟨rfl, hb6⟩
    obtain ⟨hc6, hf6⟩ := bcell hb6
    have hz6 : w5.heap.size < w6.heap.size := by have := hb6.size; (try simp at this); omega
    go_wp2_with fail
    refine (check_yes _ _ _ _ HA.out).mono ?_
    rintro e w7 ⟨rfl, hb7⟩
    obtain ⟨hc7, hf7⟩ := bcell hb7
    have hz7 : w5.heap.size < w7.heap.size := by have := hb7.size; (try simp at this); omega
    have b7 := ((b5.alloc b5.size _).trans (hb6.mono (by have := b5.size; simp; omega))).trans (hb7.mono (by have := b5.size; omega))
    clear hb6 hb7
    go_wp2_with fail
    refine (of_at (n + 1) (Y) (M + 1) (1) _ HB.out HF.out).mono ?_
    rintro e w8 ⟨rfl, hb8⟩
    obtain ⟨hc8, hf8⟩ := bcell hb8
    have hz8 : w5.heap.size < w8.heap.size := by have := hb8.size; (try simp at this); omega
    have b8 := b7.trans (hb8.mono b7.size)
    clear hb8
    go_wp2_with (first | (go_at_call 12; refine (length_yes _ _ _ (by omega) (by omega) (by omega) (by omega)).mono ?_; rintro e w' ⟨rfl, rfl⟩) | (go_at_call 21; refine (weekday_any _ _ (by omega) (by omega)).mono ?_; rintro e w' ⟨rfl, rfl⟩))
    go_ret
    refine ⟨rfl, ?_⟩
    have := b8.size
    have := b5.size
    repeat (first | exact Below.refl _ _ | assumption | refine below_drewN ?_ _ | refine Below.drew ?_ | refine Below.setCell ?_ (by first | omega | (simp; done) | (simp; omega)) _ | refine Below.alloc ?_ (by first | omega | (simp; done) | (simp; omega)) _)
  · have HV := Lib.hid hv
    clear hv
    go_enter Try.func4, Try.ntmps4
    go_wp2_with fail
    refine (lives01 _).mono ?_
    rintro e w1 ⟨rfl, hb1⟩
    obtain ⟨hc1, hf1⟩ := bcell hb1
    have hz1 : w.heap.size < w1.heap.size := by have := hb1.size; (try simp at this); omega
    go_wp2_with fail
    refine (days_no _ _ _ _ HV.out).mono ?_
    rintro e w2 ⟨rfl, hb2⟩
    have b4 : Below w.heap.size w w2 := (((Below.refl _ _).alloc (Nat.le_refl _) _).trans (hb1.mono (by simp))).trans (hb2.mono (by omega))
    go_wp2_with fail
    clear hb1 hb2 hc1 hf1 hz1
    refine (of_at n Y M D _ HA.out HE.out).mono ?_
    rintro e w5 ⟨rfl, hb5⟩
    have b5 := b4.trans (hb5.mono b4.size)
    clear hb5 b4
    go_wp2_with fail
    refine (days_lit2 _ _ _ n _ HA.out HE.out).mono ?_
    rintro e w6 ⟨rfl, hb6⟩
    obtain ⟨hc6, hf6⟩ := bcell hb6
    have hz6 : w5.heap.size < w6.heap.size := by have := hb6.size; (try simp at this); omega
    go_wp2_with fail
    refine (check_yes _ _ _ _ HA.out).mono ?_
    rintro e w7 ⟨rfl, hb7⟩
    obtain ⟨hc7, hf7⟩ := bcell hb7
    have hz7 : w5.heap.size < w7.heap.size := by have := hb7.size; (try simp at this); omega
    have b7 := ((b5.alloc b5.size _).trans (hb6.mono (by have := b5.size; simp; omega))).trans (hb7.mono (by have := b5.size; omega))
    clear hb6 hb7
    go_wp2_with fail
    refine (of_at (n + 1) (Y) (M + 1) (1) _ HB.out HF.out).mono ?_
    rintro e w8 ⟨rfl, hb8⟩
    obtain ⟨hc8, hf8⟩ := bcell hb8
    have hz8 : w5.heap.size < w8.heap.size := by have := hb8.size; (try simp at this); omega
    have b8 := b7.trans (hb8.mono b7.size)
    clear hb8
    go_wp2_with (first | (go_at_call 12; refine (length_yes _ _ _ (by omega) (by omega) (by omega) (by omega)).mono ?_; rintro e w' ⟨rfl, rfl⟩) | (go_at_call 21; refine (weekday_any _ _ (by omega) (by omega)).mono ?_; rintro e w' ⟨rfl, rfl⟩))
    go_ret
    refine ⟨rfl, ?_⟩
    have := b8.size
    have := b5.size
    repeat (first | exact Below.refl _ _ | assumption | refine below_drewN ?_ _ | refine Below.drew ?_ | refine Below.setCell ?_ (by first | omega | (simp; done) | (simp; omega)) _ | refine Below.alloc ?_ (by first | omega | (simp; done) | (simp; omega)) _)
set_option maxHeartbeats 2000000 in
set_option maxRecDepth 100000 in
theorem civilBack_year (n Y M D y m d : Int) (w : World) (h1 : -719162 ≤ n) (h2 : n < 2932896) (HA : Hid (Cal.Valid Y M D)) (HE : Hid (Cal.num Y M D = n)) (hl : Cal.len Y M ≤ D) (hm : 12 ≤ M) (HB : Hid (Cal.Valid (Y + 1) (1) (1))) (HF : Hid (Cal.num (Y + 1) (1) (1) = n + 1)) :
    Calls Try.prog 4 #[.int .i64 n, .agg #[.int .i64 y, .int .i64 m, .int .i64 d]] w fun e w' => e = .returned (.bool true) ∧ Below w.heap.size w w' := by
  have g1 : ((n + 1 + 4) % 7 == (n + 4 + 1) % 7) = true := by rw [beq_iff_eq]; omega
  have bl := Cal.len_bd Y M
  obtain ⟨A1, A2, A3, A4, A5, A6⟩ := HA.out
  by_cases hv : Cal.Valid y m d
  · have HV := Lib.hid hv
    clear hv
    go_enter Try.func4, Try.ntmps4
    go_wp2_with fail
    refine (lives01 _).mono ?_
    rintro e w1 ⟨rfl, hb1⟩
    obtain ⟨hc1, hf1⟩ := bcell hb1
    have hz1 : w.heap.size < w1.heap.size := by have := hb1.size; (try simp at this); omega
    go_wp2_with fail
    refine (days_yes _ _ _ _ HV.out).mono ?_
    rintro e w2 ⟨rfl, hb2⟩
    obtain ⟨hc2, hf2⟩ := bcell hb2
    have hz2 : w.heap.size < w2.heap.size := by have := hb2.size; (try simp at this); omega
    go_wp2_with fail
    refine (of_at _ y m d _ HV.out rfl).mono ?_
    rintro e w3 ⟨rfl, hb3⟩
    obtain ⟨hc3, hf3⟩ := bcell hb3
    have hz3 : w.heap.size < w3.heap.size := by have := hb3.size; (try simp at this); omega
    have b3 : Below w.heap.size w w3 := ((((Below.refl _ _).alloc (Nat.le_refl _) _).trans (hb1.mono (by simp))).trans (hb2.mono (by omega))).trans (hb3.mono (by omega))
    have b4 := b3.alloc b3.size (.cells #[.int .i64 y, .int .i64 m, .int .i64 d] 23)
    go_wp2_with fail
    clear hb1 hb2 hb3 hc1 hc2 hc3 hf1 hf2 hf3 hz1 hz2 hz3 b3
    refine (of_at n Y M D _ HA.out HE.out).mono ?_
    rintro e w5 ⟨rfl, hb5⟩
    have b5 := b4.trans (hb5.mono b4.size)
    clear hb5 b4
    go_wp2_with fail
    refine (days_lit2 _ _ _ n _ HA.out HE.out).mono ?_
    rintro e w6 ⟨rfl, hb6⟩
    obtain ⟨hc6, hf6⟩ := bcell hb6
    have hz6 : w5.heap.size < w6.heap.size := by have := hb6.size; (try simp at this); omega
    go_wp2_with fail
    refine (check_yes _ _ _ _ HA.out).mono ?_
    rintro e w7 ⟨rfl, hb7⟩
    obtain ⟨hc7, hf7⟩ := bcell hb7
    have hz7 : w5.heap.size < w7.heap.size := by have := hb7.size; (try simp at this); omega
    have b7 := ((b5.alloc b5.size _).trans (hb6.mono (by have := b5.size; simp; omega))).trans (hb7.mono (by have := b5.size; omega))
    clear hb6 hb7
    go_wp2_with fail
    refine (of_at (n + 1) (Y + 1) (1) (1) _ HB.out HF.out).mono ?_
    rintro e w8 ⟨rfl, hb8⟩
    obtain ⟨hc8, hf8⟩ := bcell hb8
    have hz8 : w5.heap.size < w8.heap.size := by have := hb8.size; (try simp at this); omega
    have b8 := b7.trans (hb8.mono b7.size)
    clear hb8
    go_wp2_with (first | (go_at_call 12; refine (length_yes _ _ _ (by omega) (by omega) (by omega) (by omega)).mono ?_; rintro e w' ⟨rfl, rfl⟩) | (go_at_call 21; refine (weekday_any _ _ (by omega) (by omega)).mono ?_; rintro e w' ⟨rfl, rfl⟩))
    go_ret
    refine ⟨rfl, ?_⟩
    have := b8.size
    have := b5.size
    repeat (first | exact Below.refl _ _ | assumption | refine below_drewN ?_ _ | refine Below.drew ?_ | refine Below.setCell ?_ (by first | omega | (simp; done) | (simp; omega)) _ | refine Below.alloc ?_ (by first | omega | (simp; done) | (simp; omega)) _)
  · have HV := Lib.hid hv
    clear hv
    go_enter Try.func4, Try.ntmps4
    go_wp2_with fail
    refine (lives01 _).mono ?_
    rintro e w1 ⟨rfl, hb1⟩
    obtain ⟨hc1, hf1⟩ := bcell hb1
    have hz1 : w.heap.size < w1.heap.size := by have := hb1.size; (try simp at this); omega
    go_wp2_with fail
    refine (days_no _ _ _ _ HV.out).mono ?_
    rintro e w2 ⟨rfl, hb2⟩
    have b4 : Below w.heap.size w w2 := (((Below.refl _ _).alloc (Nat.le_refl _) _).trans (hb1.mono (by simp))).trans (hb2.mono (by omega))
    go_wp2_with fail
    clear hb1 hb2 hc1 hf1 hz1
    refine (of_at n Y M D _ HA.out HE.out).mono ?_
    rintro e w5 ⟨rfl, hb5⟩
    have b5 := b4.trans (hb5.mono b4.size)
    clear hb5 b4
    go_wp2_with fail
    refine (days_lit2 _ _ _ n _ HA.out HE.out).mono ?_
    rintro e w6 ⟨rfl, hb6⟩
    obtain ⟨hc6, hf6⟩ := bcell hb6
    have hz6 : w5.heap.size < w6.heap.size := by have := hb6.size; (try simp at this); omega
    go_wp2_with fail
    refine (check_yes _ _ _ _ HA.out).mono ?_
    rintro e w7 ⟨rfl, hb7⟩
    obtain ⟨hc7, hf7⟩ := bcell hb7
    have hz7 : w5.heap.size < w7.heap.size := by have := hb7.size; (try simp at this); omega
    have b7 := ((b5.alloc b5.size _).trans (hb6.mono (by have := b5.size; simp; omega))).trans (hb7.mono (by have := b5.size; omega))
    clear hb6 hb7
    go_wp2_with fail
    refine (of_at (n + 1) (Y + 1) (1) (1) _ HB.out HF.out).mono ?_
    rintro e w8 ⟨rfl, hb8⟩
    obtain ⟨hc8, hf8⟩ := bcell hb8
    have hz8 : w5.heap.size < w8.heap.size := by have := hb8.size; (try simp at this); omega
    have b8 := b7.trans (hb8.mono b7.size)
    clear hb8
    go_wp2_with (first | (go_at_call 12; refine (length_yes _ _ _ (by omega) (by omega) (by omega) (by omega)).mono ?_; rintro e w' ⟨rfl, rfl⟩) | (go_at_call 21; refine (weekday_any _ _ (by omega) (by omega)).mono ?_; rintro e w' ⟨rfl, rfl⟩))
    go_ret
    refine ⟨rfl, ?_⟩
    have := b8.size
    have := b5.size
    repeat (first | exact Below.refl _ _ | assumption | refine below_drewN ?_ _ | refine Below.drew ?_ | refine Below.setCell ?_ (by first | omega | (simp; done) | (simp; omega)) _ | refine Below.alloc ?_ (by first | omega | (simp; done) | (simp; omega)) _)
theorem walkCivilBack (n : Int) (hn : (Lit.int .i64 n).wf = true) (y : Int) (_ : (Lit.int .i64 y).wf = true) (m : Int) (_ : (Lit.int .i64 m).wf = true) (d : Int) (_ : (Lit.int .i64 d).wf = true) (w : World) :
    Calls Try.prog 4 #[.int .i64 n, .agg #[.int .i64 y, .int .i64 m, .int .i64 d]] w fun e w' => e = .returned (.bool true) ∧ Below w.heap.size w w' := by
  by_cases h1 : n < -719162
  · exact civilBack_low n y m d w h1
  · by_cases h2 : 2932896 < n
    · exact civilBack_high n y m d w h2
    · have hv := Cal.valid_of n (by omega) (by omega)
      have hn := Cal.num_of n
      by_cases h3 : n = 2932896
      · subst h3
        exact civilBack_last _ _ _ y m d w (Lib.hid hv) (Lib.hid hn)
      · have hi := Cal.num_in _ _ _ hv
        have hv2 := hv
        obtain ⟨A1, A2, A3, A4, A5, A6⟩ := hv2
        by_cases h4 : Cal.dayOf n < Cal.len (Cal.yearOf n) (Cal.monthOf n)
        · refine civilBack_in n _ _ _ y m d w (by omega) (by omega) (Lib.hid hv) (Lib.hid hn) h4 (Lib.hid ⟨A1, A2, A3, A4, by omega, by omega⟩) (Lib.hid ?_)
          unfold Cal.num at hn ⊢
          omega
        · by_cases h5 : Cal.monthOf n < 12
          · have hs := Cal.cum_succ (Cal.yearOf n) (Cal.monthOf n) A3 A4
            refine civilBack_month n _ _ _ y m d w (by omega) (by omega) (Lib.hid hv) (Lib.hid hn) (by omega) h5 (Lib.hid ⟨A1, A2, by omega, by omega, by omega, ?_⟩) (Lib.hid ?_)
            · have := Cal.len_bd (Cal.yearOf n) (Cal.monthOf n + 1)
              omega
            · unfold Cal.num at hn ⊢
              omega
          · have e12 : Cal.monthOf n = 12 := by omega
            have hs := Cal.fst_succ (Cal.yearOf n)
            have hc := Cal.cum_end (Cal.yearOf n)
            have hs2 := Cal.cum_succ (Cal.yearOf n) 12 (by omega) (by omega)
            rw [show (12 : Int) + 1 = 13 from rfl] at hs2
            have hfx : Cal.fst (Cal.yearOf n + 1) = n + 1 := by
              unfold Cal.num at hn
              rw [e12] at hn A6 h4
              omega
            have hy : Cal.yearOf n + 1 ≤ 9999 := by
              rcases Int.lt_or_le 9999 (Cal.yearOf n + 1) with k | k
              · have e : Cal.yearOf n + 1 = 10000 := by omega
                rw [e, Cal.fst_end] at hfx
                omega
              · exact k
            refine civilBack_year n _ _ _ y m d w (by omega) (by omega) (Lib.hid hv) (Lib.hid hn) (by omega) (by omega) (Lib.hid ⟨by omega, hy, by omega, by omega, by omega, ?_⟩) (Lib.hid ?_)
            · have := Cal.len_bd (Cal.yearOf n + 1) 1
              omega
            · unfold Cal.num
              rw [Cal.cum_one]
              omega
end Go.Proofs.Ytoaemkljlphieaa
