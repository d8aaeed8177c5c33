/- The walk of layer 6's statement DayFalls. -/
import Derived.Test.YtgeelolbgjmfgaaDoorLives06
import Derived.IntWalk
import Derived.OpenShut
namespace Go.Proofs.YtgeelolbgjmfgaaDoor
open Go.RowKit
theorem upto_dow (x d : Int) (h1 : 0 ≤ d) (h2 : d ≤ 6) : (Dy.upto x d + 4) % 7 = d := by unfold Dy.upto; omega
theorem of_is (v y m d : Int) (w : World) (h1 : -719162 ≤ v) (h2 : v ≤ 2932896) (hy : Cal.yearOf v = y) (hm : Cal.monthOf v = m) (hd : Cal.dayOf v = d) :
    Calls Tryd.prog 11 #[.int .i64 v] w fun e w' => e = .returned (.tuple #[.agg #[.int .i64 y, .int .i64 m, .int .i64 d], .int .i64 0]) ∧ Below w.heap.size w w' := by
  subst hy hm hd
  exact of_yes v w h1 h2
theorem days_is (y m d v : Int) (w : World) (h : Cal.Valid y m d) (hv : Cal.num y m d = v) :
    Calls Tryd.prog 12 #[.agg #[.int .i64 y, .int .i64 m, .int .i64 d]] w fun e w' => e = .returned (.tuple #[.int .i64 v, .int .i64 0]) ∧ Below w.heap.size w w' := by
  subst hv
  exact days_yes y m d w h
theorem dlength_is (y m L : Int) (w : World) (h1 : 1 ≤ y) (h2 : y ≤ 9999) (h3 : 1 ≤ m) (h4 : m ≤ 12) (hL : Cal.len y m = L) :
    Calls Tryd.prog 13 #[.int .i64 y, .int .i64 m] w fun e w' => e = .returned (.tuple #[.int .i64 L, .int .i64 0]) ∧ w = w' := by
  subst hL
  exact length_yes y m w h1 h2 h3 h4
theorem num_shift (y m a b : Int) : Cal.num y m a = Cal.num y m b + a - b := by unfold Cal.num; omega
set_option maxRecDepth 100000 in
set_option maxHeartbeats 2000000 in
theorem falls_err (k n d y m q : Int) (w : World) (hM : Mx w) (hq : (q != 0) = true) (HI : Hid (∀ W : World, Calls Tryd.prog 10 #[.agg #[.int .u8 k, .int .i64 n, .int .i64 d], .int .i64 y, .int .i64 m] W fun e w' => e = .returned (.tuple #[.int .i64 0, .int .i64 q]) ∧ Below W.heap.size W w')) :
    Calls Tryd.prog 4 #[.agg #[.int .u8 k, .int .i64 n, .int .i64 d], .int .i64 y, .int .i64 m] w fun e w' => e = .returned (.bool true) ∧ Below w.heap.size w w' := by
  have HM := Lib.hid hM
  clear hM
  go_enter Tryd.func4, Tryd.ntmps4
  go_wp2_with fail
  refine (lives06 _ (HM.out.below ((Below.refl _ _).alloc (Nat.le_refl _) _))).mono ?_
  rintro e w1 ⟨rfl, b1⟩
  have a1 : Below w.heap.size w w1 := ((Below.refl _ _).alloc (Nat.le_refl _) _).trans (b1.mono (by simp))
  obtain ⟨hc1, hf1⟩ := bcell b1
  go_wp2_with fail
  refine (HI.out _).mono ?_
  rintro e w2 ⟨rfl, b2⟩
  have a2 := a1.trans (b2.mono a1.size)
  go_wp2_with fail
  go_ret
  exact ⟨rfl, a2⟩
/-- What a day's fall rests on. -/
structure Fall (k n d y m v B L Y M D : Int) : Prop where
  right : Dy.right k n d = true
  y1 : 1 ≤ y
  y2 : y ≤ 9999
  m1 : 1 ≤ m
  m2 : m ≤ 12
  few : n ≤ Cal.len y m
  at_ : Dy.at_ k n d y m = v
  len : Cal.len y m = L
  num : Cal.num y m 1 = B
  yr : Cal.yearOf v = Y
  mo : Cal.monthOf v = M
  dy : Cal.dayOf v = D
set_option maxRecDepth 100000 in
set_option maxHeartbeats 2000000 in
theorem falls_0 (n y m v B L : Int) (w : World) (hM : Mx w) (HF : Hid (Fall 0 n 0 y m v B L y m n)) (v1 : -719162 ≤ v) (v2 : v ≤ 2932896) (B1 : -719162 ≤ B) (B2 : B ≤ 2932896) (_L1 : 28 ≤ L) (_L2 : L ≤ 31) (n1 : 1 ≤ n) (n2 : n ≤ 31) :
    Calls Tryd.prog 4 #[.agg #[.int .u8 0, .int .i64 n, .int .i64 0], .int .i64 y, .int .i64 m] w fun e w' => e = .returned (.bool true) ∧ Below w.heap.size w w' := by
  have HM := Lib.hid hM
  clear hM
  go_enter Tryd.func4, Tryd.ntmps4
  go_wp2_with fail
  refine (lives06 _ (HM.out.below ((Below.refl _ _).alloc (Nat.le_refl _) _))).mono ?_
  rintro e w1 ⟨rfl, b1⟩
  have a1 : Below w.heap.size w w1 := ((Below.refl _ _).alloc (Nat.le_refl _) _).trans (b1.mono (by simp))
  have l1 : w.heap.size < w1.heap.size := by have := b1.size; simp at this; omega
  obtain ⟨hc1, hf1⟩ := bcell b1
  go_wp2_with fail
  refine (din_yes 0 n 0 y m v _ HF.out.right HF.out.y1 HF.out.y2 HF.out.m1 HF.out.m2 HF.out.few (Lib.hid HF.out.at_) v1 v2).mono ?_
  rintro e w2 ⟨rfl, b2⟩
  have a2 := a1.trans (b2.mono a1.size)
  have l2 : w.heap.size < w2.heap.size := by have := b2.size; omega
  obtain ⟨hc2, hf2⟩ := bcell b2
  go_wp2_with fail
  refine (of_is v y m n _ v1 v2 HF.out.yr HF.out.mo HF.out.dy).mono ?_
  rintro e w3 ⟨rfl, b3⟩
  have a3 := a2.trans (b3.mono a2.size)
  have l3 : w.heap.size < w3.heap.size := by have := b3.size; omega
  obtain ⟨hc3, hf3⟩ := bcell b3
  go_wp2_with fail
  refine (days_is y m 1 B _ (valid_one HF.out.y1 HF.out.y2 HF.out.m1 HF.out.m2) HF.out.num).mono ?_
  rintro e w4 ⟨rfl, b4⟩
  have z3 := a3.size
  have a4 : Below w.heap.size w w4 := by
    refine Below.trans ?_ (b4.mono ?_)
    · repeat (first | exact Below.refl _ _ | assumption | refine below_drewN ?_ _ | refine Below.drew ?_ | refine Below.setCell ?_ (by first | omega | (simp; done) | (simp; omega)) _ | refine Below.alloc ?_ (by first | omega | (simp; done) | (simp; omega)) _)
    · simp; omega
  have l4 : w3.heap.size < w4.heap.size := by have := b4.size; simp at this; omega
  have l04 : w.heap.size < w4.heap.size := by omega
  obtain ⟨hc4, hf4⟩ := bcell b4
  go_wp2_with fail
  refine (dlength_is y m L _ HF.out.y1 HF.out.y2 HF.out.m1 HF.out.m2 HF.out.len).mono ?_
  rintro e w' ⟨rfl, rfl⟩
  go_wp2_with fail
  go_ret
  exact ⟨rfl, a4⟩
set_option maxRecDepth 100000 in
set_option maxHeartbeats 2000000 in
theorem falls_1 (d y m v B L D : Int) (w : World) (hM : Mx w) (HF : Hid (Fall 1 0 d y m v B L y m D)) (v1 : -719162 ≤ v) (v2 : v ≤ 2932896) (B1 : -719162 ≤ B) (B2 : B ≤ 2932896) (L1 : 28 ≤ L) (L2 : L ≤ 31) (hD : L - 7 < D) (_D2 : D ≤ 31) (HW : Hid ((v + 4) % 7 = d)) :
    Calls Tryd.prog 4 #[.agg #[.int .u8 1, .int .i64 0, .int .i64 d], .int .i64 y, .int .i64 m] w fun e w' => e = .returned (.bool true) ∧ Below w.heap.size w w' := by
  have HM := Lib.hid hM
  clear hM
  go_enter Tryd.func4, Tryd.ntmps4
  go_wp2_with fail
  refine (lives06 _ (HM.out.below ((Below.refl _ _).alloc (Nat.le_refl _) _))).mono ?_
  rintro e w1 ⟨rfl, b1⟩
  have a1 : Below w.heap.size w w1 := ((Below.refl _ _).alloc (Nat.le_refl _) _).trans (b1.mono (by simp))
  have l1 : w.heap.size < w1.heap.size := by have := b1.size; simp at this; omega
  obtain ⟨hc1, hf1⟩ := bcell b1
  go_wp2_with fail
  refine (din_yes 1 0 d y m v _ HF.out.right HF.out.y1 HF.out.y2 HF.out.m1 HF.out.m2 HF.out.few (Lib.hid HF.out.at_) v1 v2).mono ?_
  rintro e w2 ⟨rfl, b2⟩
  have a2 := a1.trans (b2.mono a1.size)
  have l2 : w.heap.size < w2.heap.size := by have := b2.size; omega
  obtain ⟨hc2, hf2⟩ := bcell b2
  go_wp2_with fail
  refine (of_is v y m D _ v1 v2 HF.out.yr HF.out.mo HF.out.dy).mono ?_
  rintro e w3 ⟨rfl, b3⟩
  have a3 := a2.trans (b3.mono a2.size)
  have l3 : w.heap.size < w3.heap.size := by have := b3.size; omega
  obtain ⟨hc3, hf3⟩ := bcell b3
  go_wp2_with fail
  refine (days_is y m 1 B _ (valid_one HF.out.y1 HF.out.y2 HF.out.m1 HF.out.m2) HF.out.num).mono ?_
  rintro e w4 ⟨rfl, b4⟩
  have z3 := a3.size
  have a4 : Below w.heap.size w w4 := by
    refine Below.trans ?_ (b4.mono ?_)
    · repeat (first | exact Below.refl _ _ | assumption | refine below_drewN ?_ _ | refine Below.drew ?_ | refine Below.setCell ?_ (by first | omega | (simp; done) | (simp; omega)) _ | refine Below.alloc ?_ (by first | omega | (simp; done) | (simp; omega)) _)
    · simp; omega
  have l4 : w3.heap.size < w4.heap.size := by have := b4.size; simp at this; omega
  have l04 : w.heap.size < w4.heap.size := by omega
  obtain ⟨hc4, hf4⟩ := bcell b4
  go_wp2_with fail
  refine (dlength_is y m L _ HF.out.y1 HF.out.y2 HF.out.m1 HF.out.m2 HF.out.len).mono ?_
  rintro e w' ⟨rfl, rfl⟩
  go_wp2_with fail
  have cd : w4.cell? ⟨w.heap.size, 2, none⟩ = some (.int .i64 d) := by rw [hc4 _ _ (by simp; omega)]; go_simp
  have c0 : w4.cell? ⟨w3.heap.size, 0, none⟩ = some (.int .i64 y) := by rw [hc4 _ _ (by simp)]; go_simp
  have c1 : w4.cell? ⟨w3.heap.size, 1, none⟩ = some (.int .i64 m) := by rw [hc4 _ _ (by simp)]; go_simp
  have c2 : w4.cell? ⟨w3.heap.size, 2, none⟩ = some (.int .i64 D) := by rw [hc4 _ _ (by simp)]; go_simp
  have q1 : IntKind.i64.wrap (L - 7) = L - 7 := IntWalk.i64_in _ (by omega)
  have t1 : decide (L - 7 < D) = true := by simp; omega
  clear hc1 hc2 hc3 hc4 hf1 hf2 hf3 hf4 b1 b2 b3 b4 a1 a2 a3
  go_quiet ((go_at_call 14; exact quiet_left (weekday_q v d _ (by omega) (by omega) HW.out)))
  all_goals (go_wp2_with fail)
  all_goals
    go_ret
    exact ⟨rfl, below_drewN a4 _⟩
set_option maxRecDepth 100000 in
set_option maxHeartbeats 2000000 in
theorem falls_2 (n d y m v B L Y M D : Int) (w : World) (hM : Mx w) (HF : Hid (Fall 2 n d y m v B L Y M D)) (v1 : -719162 ≤ v) (v2 : v ≤ 2932896) (_B1 : -719162 ≤ B) (_B2 : B ≤ 2932896) (_L1 : 28 ≤ L) (_L2 : L ≤ 31) (_n1 : 1 ≤ n) (_n2 : n ≤ 31) (g1 : B + n - 1 ≤ v) (g2 : v < B + n - 1 + 7) (HW : Hid ((v + 4) % 7 = d)) :
    Calls Tryd.prog 4 #[.agg #[.int .u8 2, .int .i64 n, .int .i64 d], .int .i64 y, .int .i64 m] w fun e w' => e = .returned (.bool true) ∧ Below w.heap.size w w' := by
  have HM := Lib.hid hM
  clear hM
  go_enter Tryd.func4, Tryd.ntmps4
  go_wp2_with fail
  refine (lives06 _ (HM.out.below ((Below.refl _ _).alloc (Nat.le_refl _) _))).mono ?_
  rintro e w1 ⟨rfl, b1⟩
  have a1 : Below w.heap.size w w1 := ((Below.refl _ _).alloc (Nat.le_refl _) _).trans (b1.mono (by simp))
  have l1 : w.heap.size < w1.heap.size := by have := b1.size; simp at this; omega
  obtain ⟨hc1, hf1⟩ := bcell b1
  go_wp2_with fail
  refine (din_yes 2 n d y m v _ HF.out.right HF.out.y1 HF.out.y2 HF.out.m1 HF.out.m2 HF.out.few (Lib.hid HF.out.at_) v1 v2).mono ?_
  rintro e w2 ⟨rfl, b2⟩
  have a2 := a1.trans (b2.mono a1.size)
  have l2 : w.heap.size < w2.heap.size := by have := b2.size; omega
  obtain ⟨hc2, hf2⟩ := bcell b2
  go_wp2_with fail
  refine (of_is v Y M D _ v1 v2 HF.out.yr HF.out.mo HF.out.dy).mono ?_
  rintro e w3 ⟨rfl, b3⟩
  have a3 := a2.trans (b3.mono a2.size)
  have l3 : w.heap.size < w3.heap.size := by have := b3.size; omega
  obtain ⟨hc3, hf3⟩ := bcell b3
  go_wp2_with fail
  refine (days_is y m 1 B _ (valid_one HF.out.y1 HF.out.y2 HF.out.m1 HF.out.m2) HF.out.num).mono ?_
  rintro e w4 ⟨rfl, b4⟩
  have z3 := a3.size
  have a4 : Below w.heap.size w w4 := by
    refine Below.trans ?_ (b4.mono ?_)
    · repeat (first | exact Below.refl _ _ | assumption | refine below_drewN ?_ _ | refine Below.drew ?_ | refine Below.setCell ?_ (by first | omega | (simp; done) | (simp; omega)) _ | refine Below.alloc ?_ (by first | omega | (simp; done) | (simp; omega)) _)
    · simp; omega
  have l4 : w3.heap.size < w4.heap.size := by have := b4.size; simp at this; omega
  have l04 : w.heap.size < w4.heap.size := by omega
  obtain ⟨hc4, hf4⟩ := bcell b4
  go_wp2_with fail
  refine (dlength_is y m L _ HF.out.y1 HF.out.y2 HF.out.m1 HF.out.m2 HF.out.len).mono ?_
  rintro e w' ⟨rfl, rfl⟩
  go_wp2_with fail
  have cd : w4.cell? ⟨w.heap.size, 2, none⟩ = some (.int .i64 d) := by rw [hc4 _ _ (by simp; omega)]; go_simp
  have c0 : w4.cell? ⟨w3.heap.size, 0, none⟩ = some (.int .i64 Y) := by rw [hc4 _ _ (by simp)]; go_simp
  have c1 : w4.cell? ⟨w3.heap.size, 1, none⟩ = some (.int .i64 M) := by rw [hc4 _ _ (by simp)]; go_simp
  have c2 : w4.cell? ⟨w3.heap.size, 2, none⟩ = some (.int .i64 D) := by rw [hc4 _ _ (by simp)]; go_simp
  have q1 : IntKind.i64.wrap (B + n - 1 + 7) = B + n - 1 + 7 := IntWalk.i64_in _ (by omega)
  have t1 : decide (B + n - 1 ≤ v) = true := by simp; omega
  have t2 : decide (v < B + n - 1 + 7) = true := by simp; omega
  clear hc1 hc2 hc3 hc4 hf1 hf2 hf3 hf4 b1 b2 b3 b4 a1 a2 a3
  go_quiet ((go_at_call 14; exact quiet_left (weekday_q v d _ (by omega) (by omega) HW.out)))
  all_goals (go_wp2_with fail)
  all_goals
    go_ret
    exact ⟨rfl, below_drewN a4 _⟩
set_option maxRecDepth 100000 in
set_option maxHeartbeats 2000000 in
theorem falls_3 (n d y m v B L Y M D : Int) (w : World) (hM : Mx w) (HF : Hid (Fall 3 n d y m v B L Y M D)) (v1 : -719162 ≤ v) (v2 : v ≤ 2932896) (_B1 : -719162 ≤ B) (_B2 : B ≤ 2932896) (_L1 : 28 ≤ L) (_L2 : L ≤ 31) (_n1 : 1 ≤ n) (_n2 : n ≤ 31) (g1 : v ≤ B + n - 1) (g2 : B + n - 1 - 7 < v) (HW : Hid ((v + 4) % 7 = d)) :
    Calls Tryd.prog 4 #[.agg #[.int .u8 3, .int .i64 n, .int .i64 d], .int .i64 y, .int .i64 m] w fun e w' => e = .returned (.bool true) ∧ Below w.heap.size w w' := by
  have HM := Lib.hid hM
  clear hM
  go_enter Tryd.func4, Tryd.ntmps4
  go_wp2_with fail
  refine (lives06 _ (HM.out.below ((Below.refl _ _).alloc (Nat.le_refl _) _))).mono ?_
  rintro e w1 ⟨rfl, b1⟩
  have a1 : Below w.heap.size w w1 := ((Below.refl _ _).alloc (Nat.le_refl _) _).trans (b1.mono (by simp))
  have l1 : w.heap.size < w1.heap.size := by have := b1.size; simp at this; omega
  obtain ⟨hc1, hf1⟩ := bcell b1
  go_wp2_with fail
  refine (din_yes 3 n d y m v _ HF.out.right HF.out.y1 HF.out.y2 HF.out.m1 HF.out.m2 HF.out.few (Lib.hid HF.out.at_) v1 v2).mono ?_
  rintro e w2 ⟨rfl, b2⟩
  have a2 := a1.trans (b2.mono a1.size)
  have l2 : w.heap.size < w2.heap.size := by have := b2.size; omega
  obtain ⟨hc2, hf2⟩ := bcell b2
  go_wp2_with fail
  refine (of_is v Y M D _ v1 v2 HF.out.yr HF.out.mo HF.out.dy).mono ?_
  rintro e w3 ⟨rfl, b3⟩
  have a3 := a2.trans (b3.mono a2.size)
  have l3 : w.heap.size < w3.heap.size := by have := b3.size; omega
  obtain ⟨hc3, hf3⟩ := bcell b3
  go_wp2_with fail
  refine (days_is y m 1 B _ (valid_one HF.out.y1 HF.out.y2 HF.out.m1 HF.out.m2) HF.out.num).mono ?_
  rintro e w4 ⟨rfl, b4⟩
  have z3 := a3.size
  have a4 : Below w.heap.size w w4 := by
    refine Below.trans ?_ (b4.mono ?_)
    · repeat (first | exact Below.refl _ _ | assumption | refine below_drewN ?_ _ | refine Below.drew ?_ | refine Below.setCell ?_ (by first | omega | (simp; done) | (simp; omega)) _ | refine Below.alloc ?_ (by first | omega | (simp; done) | (simp; omega)) _)
    · simp; omega
  have l4 : w3.heap.size < w4.heap.size := by have := b4.size; simp at this; omega
  have l04 : w.heap.size < w4.heap.size := by omega
  obtain ⟨hc4, hf4⟩ := bcell b4
  go_wp2_with fail
  refine (dlength_is y m L _ HF.out.y1 HF.out.y2 HF.out.m1 HF.out.m2 HF.out.len).mono ?_
  rintro e w' ⟨rfl, rfl⟩
  go_wp2_with fail
  have cd : w4.cell? ⟨w.heap.size, 2, none⟩ = some (.int .i64 d) := by rw [hc4 _ _ (by simp; omega)]; go_simp
  have c0 : w4.cell? ⟨w3.heap.size, 0, none⟩ = some (.int .i64 Y) := by rw [hc4 _ _ (by simp)]; go_simp
  have c1 : w4.cell? ⟨w3.heap.size, 1, none⟩ = some (.int .i64 M) := by rw [hc4 _ _ (by simp)]; go_simp
  have c2 : w4.cell? ⟨w3.heap.size, 2, none⟩ = some (.int .i64 D) := by rw [hc4 _ _ (by simp)]; go_simp
  have q1 : IntKind.i64.wrap (B + n - 1 - 7) = B + n - 1 - 7 := IntWalk.i64_in _ (by omega)
  have t1 : decide (v ≤ B + n - 1) = true := by simp; omega
  have t2 : decide (B + n - 1 - 7 < v) = true := by simp; omega
  clear hc1 hc2 hc3 hc4 hf1 hf2 hf3 hf4 b1 b2 b3 b4 a1 a2 a3
  go_quiet ((go_at_call 14; exact quiet_left (weekday_q v d _ (by omega) (by omega) HW.out)))
  all_goals (go_wp2_with fail)
  all_goals
    go_ret
    exact ⟨rfl, below_drewN a4 _⟩
theorem dayFalls_any (k n d y m : Int) (w : World) (hM : Mx w) :
    Calls Tryd.prog 4 #[.agg #[.int .u8 k, .int .i64 n, .int .i64 d], .int .i64 y, .int .i64 m] w fun e w' => e = .returned (.bool true) ∧ Below w.heap.size w w' := by
  cases hr : Dy.right k n d with
  | false => exact falls_err k n d y m 2 w hM (by decide) (Lib.hid fun W => din_form k n d y m W hr)
  | true =>
    by_cases hm : 1 ≤ y ∧ y ≤ 9999 ∧ 1 ≤ m ∧ m ≤ 12
    · obtain ⟨y1, y2, m1, m2⟩ := hm
      by_cases hn : n ≤ Cal.len y m
      · by_cases hv : -719162 ≤ Dy.at_ k n d y m ∧ Dy.at_ k n d y m ≤ 2932896
        · obtain ⟨v1, v2⟩ := hv
          have hl := Cal.len_bd y m
          have hB := Cal.num_range y m 1 (valid_one y1 y2 m1 m2)
          have hr' := hr
          rw [Dy.right_iff] at hr'
          rcases hr' with ⟨rfl, g1, g2, rfl⟩ | ⟨rfl, rfl, g1, g2⟩ | ⟨rfl | rfl, g1, g2, g3, g4⟩
          · have e : Cal.num y m n = Dy.at_ 0 n 0 y m := by
              show Cal.num y m n = Cal.num y m 1 + n - 1
              exact num_shift y m n 1
            obtain ⟨q1, q2, q3⟩ := Cal.of_num y m n _ ⟨y1, y2, m1, m2, g1, hn⟩ e
            exact falls_0 n y m _ _ _ w hM (Lib.hid ⟨hr, y1, y2, m1, m2, hn, rfl, rfl, rfl, q1, q2, q3⟩) v1 v2 hB.1 hB.2 hl.1 hl.2 g1 g2
          · have hu := dupto_bd (Cal.num y m 1 + Cal.len y m - 1) d
            have hw := upto_dow (Cal.num y m 1 + Cal.len y m - 1) d g1 g2
            obtain ⟨D, hD⟩ : ∃ D, D = Dy.at_ 1 0 d y m - Cal.num y m 1 + 1 := ⟨_, rfl⟩
            have ea : Dy.at_ 1 0 d y m = Dy.upto (Cal.num y m 1 + Cal.len y m - 1) d := rfl
            rw [← ea] at hu hw
            have e : Cal.num y m D = Dy.at_ 1 0 d y m := by rw [num_shift y m D 1]; omega
            obtain ⟨q1, q2, q3⟩ := Cal.of_num y m D _ ⟨y1, y2, m1, m2, by omega, by omega⟩ e
            exact falls_1 d y m _ _ _ D w hM (Lib.hid ⟨hr, y1, y2, m1, m2, hn, rfl, rfl, rfl, q1, q2, q3⟩) v1 v2 hB.1 hB.2 hl.1 hl.2 (by omega) (by omega) (Lib.hid hw)
          · have hu := dupto_bd (Cal.num y m 1 + n + 5) d
            have hw := upto_dow (Cal.num y m 1 + n + 5) d g3 g4
            have ea : Dy.at_ 2 n d y m = Dy.upto (Cal.num y m 1 + n + 5) d := rfl
            rw [← ea] at hu hw
            exact falls_2 n d y m _ _ _ _ _ _ w hM (Lib.hid ⟨hr, y1, y2, m1, m2, hn, rfl, rfl, rfl, rfl, rfl, rfl⟩) v1 v2 hB.1 hB.2 hl.1 hl.2 g1 g2 (by omega) (by omega) (Lib.hid hw)
          · have hu := dupto_bd (Cal.num y m 1 + n - 1) d
            have hw := upto_dow (Cal.num y m 1 + n - 1) d g3 g4
            have ea : Dy.at_ 3 n d y m = Dy.upto (Cal.num y m 1 + n - 1) d := rfl
            rw [← ea] at hu hw
            exact falls_3 n d y m _ _ _ _ _ _ w hM (Lib.hid ⟨hr, y1, y2, m1, m2, hn, rfl, rfl, rfl, rfl, rfl, rfl⟩) v1 v2 hB.1 hB.2 hl.1 hl.2 g1 g2 (by omega) (by omega) (Lib.hid hw)
        · exact falls_err k n d y m 1 w hM (by decide) (Lib.hid fun W => din_no k n d y m _ W hr y1 y2 m1 m2 hn (Lib.hid rfl) (Lib.hid (by omega)))
      · exact falls_err k n d y m 3 w hM (by decide) (Lib.hid fun W => din_few k n d y m W hr y1 y2 m1 m2 (by omega))
    · exact falls_err k n d y m 1 w hM (by decide) (Lib.hid fun W => din_month k n d y m W hr hm)
theorem walkDayFalls (k : Int) (_ : (Lit.int .u8 k).wf = true) (n : Int) (_ : (Lit.int .i64 n).wf = true) (d : Int) (_ : (Lit.int .i64 d).wf = true) (y : Int) (_ : (Lit.int .i64 y).wf = true) (m : Int) (_ : (Lit.int .i64 m).wf = true) (w : World) (hM : Mx w) :
    Calls Tryd.prog 4 #[.agg #[.int .u8 k, .int .i64 n, .int .i64 d], .int .i64 y, .int .i64 m] w fun e w' => e = .returned (.bool true) ∧ Below w.heap.size w w' := dayFalls_any k n d y m w hM
end Go.Proofs.YtgeelolbgjmfgaaDoor
