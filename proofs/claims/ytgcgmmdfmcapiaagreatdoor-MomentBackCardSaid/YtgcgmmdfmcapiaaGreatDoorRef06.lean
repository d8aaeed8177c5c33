/- Contracts of the document's layer 6: Check, In (the walks of In by program). -/
import Derived.Test.YtgcgmmdfmcapiaaGreatDoorRef01
import Derived.Test.YtgcgmmdfmcapiaaGreatDoorMo
import Derived.Deep.QuietTactic
import Derived.BigQuiet
import Derived.LoopTactic
import Derived.IntWalk
namespace Go.Proofs.YtgcgmmdfmcapiaaGreatDoor
open Go.RowKit
set_option maxHeartbeats 1000000 in
theorem r6check_yes (k n d : Int) (w : World) (h : Dy.right k n d = true) : Calls Tryz.prog 44 #[.agg #[.int .u8 k, .int .i64 n, .int .i64 d]] w fun e w' => e = .returned (.int .i64 0) ∧ Below w.heap.size w w' := by
  rw [Dy.right_iff] at h
  rcases h with ⟨rfl, h1, h2, rfl⟩ | ⟨rfl, rfl, h1, h2⟩ | ⟨rfl | rfl, h1, h2, h3, h4⟩
  all_goals
    go_enter Tryz.func44, Tryz.ntmps44
    go_wp2_with fail
    go_ret
    exact ⟨rfl, (Below.refl _ _).alloc (Nat.le_refl _) _⟩
set_option maxHeartbeats 2000000 in
theorem r6check_no (k n d : Int) (w : World) (h : Dy.right k n d = false) : Calls Tryz.prog 44 #[.agg #[.int .u8 k, .int .i64 n, .int .i64 d]] w fun e w' => e = .returned (.int .i64 2) ∧ Below w.heap.size w w' := by
  have h := of_decide_eq_false h
  have hn : (1 ≤ n ∧ n ≤ 31) ∨ n < 1 ∨ (1 ≤ n ∧ 31 < n) := by omega
  have hd : (0 ≤ d ∧ d ≤ 6) ∨ d < 0 ∨ (0 ≤ d ∧ 6 < d) := by omega
  by_cases k0 : k = 0
  · subst k0
    rcases hn with ⟨n1, n2⟩ | n1 | ⟨n1, n2⟩
    · have t1 : (d == 0) = false := by rw [beq_eq_false_iff_ne]; omega
      clear h
      rcases hd with ⟨d1, d2⟩ | d1 | ⟨d1, d2⟩
      all_goals
        go_enter Tryz.func44, Tryz.ntmps44
        go_wp2_with fail
        go_ret
        exact ⟨rfl, (Below.refl _ _).alloc (Nat.le_refl _) _⟩
    all_goals
      clear h
      rcases hd with ⟨d1, d2⟩ | d1 | ⟨d1, d2⟩
      all_goals
        go_enter Tryz.func44, Tryz.ntmps44
        go_wp2_with fail
        go_ret
        exact ⟨rfl, (Below.refl _ _).alloc (Nat.le_refl _) _⟩
  · by_cases k1 : k = 1
    · subst k1
      by_cases n0 : n = 0
      · subst n0
        have hd2 : d < 0 ∨ (0 ≤ d ∧ 6 < d) := by omega
        clear h hn hd k0
        rcases hd2 with d1 | ⟨d1, d2⟩
        all_goals
          go_enter Tryz.func44, Tryz.ntmps44
          go_wp2_with fail
          go_ret
          exact ⟨rfl, (Below.refl _ _).alloc (Nat.le_refl _) _⟩
      · have t1 : (n == 0) = false := by rw [beq_eq_false_iff_ne]; omega
        clear h n0 k0
        rcases hn with ⟨n1, n2⟩ | n1 | ⟨n1, n2⟩ <;> rcases hd with ⟨d1, d2⟩ | d1 | ⟨d1, d2⟩
        all_goals
          go_enter Tryz.func44, Tryz.ntmps44
          go_wp2_with fail
          go_ret
          exact ⟨rfl, (Below.refl _ _).alloc (Nat.le_refl _) _⟩
    · by_cases k23 : k = 2 ∨ k = 3
      · have hx : ¬ ((1 ≤ n ∧ n ≤ 31) ∧ (0 ≤ d ∧ d ≤ 6)) := by omega
        have HX := Lib.hid hx
        clear h k0 k1 hx
        rcases k23 with rfl | rfl
        all_goals
          rcases hn with ⟨n1, n2⟩ | n1 | ⟨n1, n2⟩ <;> rcases hd with ⟨d1, d2⟩ | d1 | ⟨d1, d2⟩
          all_goals (first
            | (exfalso; have := HX.out; omega)
            | (go_enter Tryz.func44, Tryz.ntmps44
               go_wp2_with fail
               go_ret
               exact ⟨rfl, (Below.refl _ _).alloc (Nat.le_refl _) _⟩))
      · obtain ⟨q0, q1, q2, q3⟩ := dayk k k0 k1 (by omega) (by omega)
        clear h k0 k1 k23
        rcases hn with ⟨n1, n2⟩ | n1 | ⟨n1, n2⟩ <;> rcases hd with ⟨d1, d2⟩ | d1 | ⟨d1, d2⟩
        all_goals
          go_enter Tryz.func44, Tryz.ntmps44
          go_wp2_with fail
          go_ret
          exact ⟨rfl, (Below.refl _ _).alloc (Nat.le_refl _) _⟩
theorem rweekday_q (n q : Int) (w : World) (h1 : -9223372036854775808 ≤ n) (h2 : n ≤ 9223372036854775807) (hq : (n + 4) % 7 = q) :
    Calls Tryz.prog 47 #[.int .i64 n] w fun e w' => e = .returned (.int .i64 q) ∧ w = w' := by
  subst hq
  exact rweekday_any n w h1 h2
theorem rlength_is (y m L : Int) (w : World) (h1 : 1 ≤ y) (h2 : y ≤ 9999) (h3 : 1 ≤ m) (h4 : m ≤ 12) (hL : Cal.len y m = L) :
    Calls Tryz.prog 45 #[.int .i64 y, .int .i64 m] w fun e w' => e = .returned (.tuple #[.int .i64 L, .int .i64 0]) ∧ w = w' := by
  subst hL
  exact rlength_yes y m w h1 h2 h3 h4
theorem rdays_is (y m d N : Int) (w : World) (h : Cal.Valid y m d) (hN : Cal.num y m d = N) :
    Calls Tryz.prog 46 #[.agg #[.int .i64 y, .int .i64 m, .int .i64 d]] w fun e w' => e = .returned (.tuple #[.int .i64 N, .int .i64 0]) ∧ Below w.heap.size w w' := by
  subst hN
  exact rdays_yes y m d w h
/-- What Of answers of a number, the same in every world: a date, or none. -/
def OfD (v a b c z : Int) : Prop := ∀ w : World, Calls Tryz.prog 48 #[.int .i64 v] w fun e w' => e = .returned (.tuple #[.agg #[.int .i64 a, .int .i64 b, .int .i64 c], .int .i64 z]) ∧ Below w.heap.size w w'
theorem ofD_yes (v : Int) (h1 : -719162 ≤ v) (h2 : v ≤ 2932896) : ∃ a b c, OfD v a b c 0 := ⟨_, _, _, fun w => rof_yes v w h1 h2⟩
theorem ofD_no (v : Int) (h : v < -719162 ∨ 2932896 < v) : OfD v 0 0 0 1 := fun w => rof_no v w h
theorem rin_form (k n d y m : Int) (w : World) (h : Dy.right k n d = false) : Calls Tryz.prog 20 #[.agg #[.int .u8 k, .int .i64 n, .int .i64 d], .int .i64 y, .int .i64 m] w fun e w' => e = .returned (.tuple #[.int .i64 0, .int .i64 2]) ∧ Below w.heap.size w w' := by
  have H := Lib.hid h
  clear h
  go_enter Tryz.func20, Tryz.ntmps20
  go_wp2_with fail
  refine (r6check_no _ _ _ _ H.out).mono ?_
  rintro e w1 ⟨rfl, b1⟩
  have a1 := ((Below.refl w.heap.size w).alloc (Nat.le_refl _) (.cells #[.int .u8 k, .int .i64 n, .int .i64 d] 24)).trans (b1.mono (by simp))
  go_wp2_with fail
  go_ret2
  exact ⟨rfl, a1⟩
theorem rin_month (k n d y m : Int) (w : World) (h : Dy.right k n d = true) (hm : ¬ (1 ≤ y ∧ y ≤ 9999 ∧ 1 ≤ m ∧ m ≤ 12)) : Calls Tryz.prog 20 #[.agg #[.int .u8 k, .int .i64 n, .int .i64 d], .int .i64 y, .int .i64 m] w fun e w' => e = .returned (.tuple #[.int .i64 0, .int .i64 1]) ∧ Below w.heap.size w w' := by
  have H := Lib.hid h
  have HM := Lib.hid hm
  clear h hm
  go_enter Tryz.func20, Tryz.ntmps20
  go_wp2_with fail
  refine (r6check_yes _ _ _ _ H.out).mono ?_
  rintro e w1 ⟨rfl, b1⟩
  have a1 := ((Below.refl w.heap.size w).alloc (Nat.le_refl _) (.cells #[.int .u8 k, .int .i64 n, .int .i64 d] 24)).trans (b1.mono (by simp))
  go_wp2_with fail
  refine (rlength_no y m _ HM.out).mono ?_
  rintro e w' ⟨rfl, rfl⟩
  go_wp2_with fail
  go_ret2
  exact ⟨rfl, a1⟩
theorem rin_few (k n d y m : Int) (w : World) (h : Dy.right k n d = true) (y1 : 1 ≤ y) (y2 : y ≤ 9999) (m1 : 1 ≤ m) (m2 : m ≤ 12) (hn : Cal.len y m < n) : Calls Tryz.prog 20 #[.agg #[.int .u8 k, .int .i64 n, .int .i64 d], .int .i64 y, .int .i64 m] w fun e w' => e = .returned (.tuple #[.int .i64 0, .int .i64 3]) ∧ Below w.heap.size w w' := by
  have H := Lib.hid h
  clear h
  go_enter Tryz.func20, Tryz.ntmps20
  go_wp2_with fail
  refine (r6check_yes _ _ _ _ H.out).mono ?_
  rintro e w1 ⟨rfl, b1⟩
  obtain ⟨hc, hf⟩ := bcell b1
  have a1 := ((Below.refl w.heap.size w).alloc (Nat.le_refl _) (.cells #[.int .u8 k, .int .i64 n, .int .i64 d] 24)).trans (b1.mono (by simp))
  have z1 : w.heap.size < w1.heap.size := by have := b1.size; simp at this; omega
  go_wp2_with fail
  refine (rlength_yes y m _ y1 y2 m1 m2).mono ?_
  rintro e w' ⟨rfl, rfl⟩
  go_wp2_with fail
  go_ret2
  exact ⟨rfl, a1⟩
set_option maxRecDepth 100000 in
set_option maxHeartbeats 2000000 in
theorem rin_fixed0 (n y m N L v a b c : Int) (w : World) (h : Hid (Dy.right 0 n 0 = true)) (y1 : 1 ≤ y) (y2 : y ≤ 9999) (m1 : 1 ≤ m) (m2 : m ≤ 12) (HL : Hid (Cal.len y m = L)) (HN : Hid (Cal.num y m 1 = N)) (L1 : 28 ≤ L) (L2 : L ≤ 31) (N1 : -719162 ≤ N) (N2 : N ≤ 2932896) (n1 : 1 ≤ n) (n2 : n ≤ L) (hv : Hid (N + n - 1 = v)) (HO : Hid (OfD v a b c 0)) :
    Calls Tryz.prog 20 #[.agg #[.int .u8 0, .int .i64 n, .int .i64 0], .int .i64 y, .int .i64 m] w fun e w' => e = .returned (.tuple #[.int .i64 v, .int .i64 0]) ∧ Below w.heap.size w w' := by
  have HV := Lib.hid (valid_one y1 y2 m1 m2)
  go_enter Tryz.func20, Tryz.ntmps20
  go_wp2_with fail
  refine (r6check_yes _ _ _ _ h.out).mono ?_
  rintro e w1 ⟨rfl, b1⟩
  obtain ⟨hc, hf⟩ := bcell b1
  have a1 := ((Below.refl w.heap.size w).alloc (Nat.le_refl _) (.cells #[.int .u8 0, .int .i64 n, .int .i64 0] 24)).trans (b1.mono (by simp))
  have z1 : w.heap.size < w1.heap.size := by have := b1.size; simp at this; omega
  go_wp2_with fail
  refine (rlength_is y m L _ y1 y2 m1 m2 HL.out).mono ?_
  rintro e w' ⟨rfl, rfl⟩
  go_wp2_with fail
  refine (rdays_is y m 1 N _ HV.out HN.out).mono ?_
  rintro e w2 ⟨rfl, b2⟩
  obtain ⟨hc2, hf2⟩ := bcell b2
  have a2 := a1.trans (b2.mono a1.size)
  have z2 : w.heap.size < w2.heap.size := by have := b2.size; omega
  go_wp2_with fail
  refine wp_loop_rounds 1 ?_
  rw [rounds_succ]
  go_wp2_with fail
  go_quiet (fail)
  go_wp2_with fail
  have HO2 := HO.out
  rw [← hv.out] at HO2
  refine (HO2 _).mono ?_
  rintro e w3 ⟨rfl, b3⟩
  have z3 := b3.size
  have a3 : Below w.heap.size w w3 := (below_drewN a2 _).trans (b3.mono a2.size)
  have z4 := a3.size
  clear HO2
  go_wp2_with fail
  go_ret2
  refine ⟨ret2_int hv.out rfl, ?_⟩
  repeat (first | exact Below.refl _ _ | assumption | refine below_drewN ?_ _ | refine Below.drew ?_ | refine Below.setCell ?_ (by first | omega | (simp; done) | (simp; omega)) _ | refine Below.alloc ?_ (by first | omega | (simp; done) | (simp; omega)) _)
set_option maxRecDepth 100000 in
set_option maxHeartbeats 2000000 in
theorem rin_fixed1 (n y m N L v a b c : Int) (w : World) (h : Hid (Dy.right 0 n 0 = true)) (y1 : 1 ≤ y) (y2 : y ≤ 9999) (m1 : 1 ≤ m) (m2 : m ≤ 12) (HL : Hid (Cal.len y m = L)) (HN : Hid (Cal.num y m 1 = N)) (L1 : 28 ≤ L) (L2 : L ≤ 31) (N1 : -719162 ≤ N) (N2 : N ≤ 2932896) (n1 : 1 ≤ n) (n2 : n ≤ L) (hv : Hid (N + n - 1 = v)) (HO : Hid (OfD v a b c 1)) :
    Calls Tryz.prog 20 #[.agg #[.int .u8 0, .int .i64 n, .int .i64 0], .int .i64 y, .int .i64 m] w fun e w' => e = .returned (.tuple #[.int .i64 0, .int .i64 1]) ∧ Below w.heap.size w w' := by
  have HV := Lib.hid (valid_one y1 y2 m1 m2)
  go_enter Tryz.func20, Tryz.ntmps20
  go_wp2_with fail
  refine (r6check_yes _ _ _ _ h.out).mono ?_
  rintro e w1 ⟨rfl, b1⟩
  obtain ⟨hc, hf⟩ := bcell b1
  have a1 := ((Below.refl w.heap.size w).alloc (Nat.le_refl _) (.cells #[.int .u8 0, .int .i64 n, .int .i64 0] 24)).trans (b1.mono (by simp))
  have z1 : w.heap.size < w1.heap.size := by have := b1.size; simp at this; omega
  go_wp2_with fail
  refine (rlength_is y m L _ y1 y2 m1 m2 HL.out).mono ?_
  rintro e w' ⟨rfl, rfl⟩
  go_wp2_with fail
  refine (rdays_is y m 1 N _ HV.out HN.out).mono ?_
  rintro e w2 ⟨rfl, b2⟩
  obtain ⟨hc2, hf2⟩ := bcell b2
  have a2 := a1.trans (b2.mono a1.size)
  have z2 : w.heap.size < w2.heap.size := by have := b2.size; omega
  go_wp2_with fail
  refine wp_loop_rounds 1 ?_
  rw [rounds_succ]
  go_wp2_with fail
  go_quiet (fail)
  go_wp2_with fail
  have HO2 := HO.out
  rw [← hv.out] at HO2
  refine (HO2 _).mono ?_
  rintro e w3 ⟨rfl, b3⟩
  have z3 := b3.size
  have a3 : Below w.heap.size w w3 := (below_drewN a2 _).trans (b3.mono a2.size)
  have z4 := a3.size
  clear HO2
  go_wp2_with fail
  go_ret2
  refine ⟨rfl, ?_⟩
  repeat (first | exact Below.refl _ _ | assumption | refine below_drewN ?_ _ | refine Below.drew ?_ | refine Below.setCell ?_ (by first | omega | (simp; done) | (simp; omega)) _ | refine Below.alloc ?_ (by first | omega | (simp; done) | (simp; omega)) _)
set_option maxRecDepth 100000 in
set_option maxHeartbeats 2000000 in
theorem rin_last0 (d y m N L v a b c : Int) (w : World) (h : Hid (Dy.right 1 0 d = true)) (y1 : 1 ≤ y) (y2 : y ≤ 9999) (m1 : 1 ≤ m) (m2 : m ≤ 12) (HL : Hid (Cal.len y m = L)) (HN : Hid (Cal.num y m 1 = N)) (L1 : 28 ≤ L) (L2 : L ≤ 31) (N1 : -719162 ≤ N) (N2 : N ≤ 2932896) (_d1 : 0 ≤ d) (_d2 : d ≤ 6) (t1 : v ≤ N + L - 1) (t2 : N + L - 1 ≤ v + 6) (hv : Hid ((v + 4) % 7 = d)) (HO : Hid (OfD v a b c 0)) :
    Calls Tryz.prog 20 #[.agg #[.int .u8 1, .int .i64 0, .int .i64 d], .int .i64 y, .int .i64 m] w fun e w' => e = .returned (.tuple #[.int .i64 v, .int .i64 0]) ∧ Below w.heap.size w w' := by
  have HV := Lib.hid (valid_one y1 y2 m1 m2)
  go_enter Tryz.func20, Tryz.ntmps20
  go_wp2_with fail
  refine (r6check_yes _ _ _ _ h.out).mono ?_
  rintro e w1 ⟨rfl, b1⟩
  obtain ⟨hc, hf⟩ := bcell b1
  have a1 := ((Below.refl w.heap.size w).alloc (Nat.le_refl _) (.cells #[.int .u8 1, .int .i64 0, .int .i64 d] 24)).trans (b1.mono (by simp))
  have z1 : w.heap.size < w1.heap.size := by have := b1.size; simp at this; omega
  go_wp2_with fail
  refine (rlength_is y m L _ y1 y2 m1 m2 HL.out).mono ?_
  rintro e w' ⟨rfl, rfl⟩
  go_wp2_with fail
  refine (rdays_is y m 1 N _ HV.out HN.out).mono ?_
  rintro e w2 ⟨rfl, b2⟩
  obtain ⟨hc2, hf2⟩ := bcell b2
  have a2 := a1.trans (b2.mono a1.size)
  have z2 : w.heap.size < w2.heap.size := by have := b2.size; omega
  go_wp2_with fail
  go_loopw [12] (fun s wr => ∃ x : Int, s = .int .i64 x ∧ v ≤ x ∧ x ≤ v + 6 ∧ Below w2.heap.size w2 wr) (fun s _ => (intOf s - v).toNat)
  case atStart => exact ⟨_, rfl, by omega, by omega, Below.refl _ _⟩
  case round =>
    obtain ⟨x, rfl, x1, x2, bw⟩ := hrel
    obtain ⟨hcw, hfw⟩ := bcell bw
    have zw : w.heap.size < wr.heap.size := by have := bw.size; omega
    by_cases hx : x = v
    · subst hx
      have HQ := Lib.hid hv.out
      go_wp2_with fail
      go_quiet ((go_at_call 47; exact quiet_left (rweekday_q x d _ (by omega) (by omega) HQ.out)))
      go_wp2_with fail
      refine (HO.out _).mono ?_
      rintro e w3 ⟨rfl, b3⟩
      have a3 : Below w.heap.size w w3 := (below_drewN (a2.trans (bw.mono a2.size)) _).trans (b3.mono (a2.trans (bw.mono a2.size)).size)
      have z4 := a3.size
      go_wp2_with fail
      go_ret2
      refine ⟨rfl, ?_⟩
      repeat (first | exact Below.refl _ _ | assumption | refine below_drewN ?_ _ | refine Below.drew ?_ | refine Below.setCell ?_ (by first | omega | (simp; done) | (simp; omega)) _ | refine Below.alloc ?_ (by first | omega | (simp; done) | (simp; omega)) _)
    · obtain ⟨q, hq⟩ : ∃ q, (x + 4) % 7 = q := ⟨_, rfl⟩
      have t5 : (q != d) = true := by rw [bne_iff_ne]; have := hv.out; omega
      have HQ := Lib.hid hq
      have HX := Lib.hid hx
      clear hq hx
      go_wp2_with fail
      go_quiet ((go_at_call 47; exact quiet_left (rweekday_q x q _ (by omega) (by omega) HQ.out)))
      go_wp2_with fail
      go_roundw
      case rel => exact ⟨x - 1, rfl, by have := HX.out; omega, by have := HX.out; omega, below_drewN bw _⟩
      case measure => simp [intOf]; have := HX.out; omega
set_option maxRecDepth 100000 in
set_option maxHeartbeats 2000000 in
theorem rin_last1 (d y m N L v a b c : Int) (w : World) (h : Hid (Dy.right 1 0 d = true)) (y1 : 1 ≤ y) (y2 : y ≤ 9999) (m1 : 1 ≤ m) (m2 : m ≤ 12) (HL : Hid (Cal.len y m = L)) (HN : Hid (Cal.num y m 1 = N)) (L1 : 28 ≤ L) (L2 : L ≤ 31) (N1 : -719162 ≤ N) (N2 : N ≤ 2932896) (_d1 : 0 ≤ d) (_d2 : d ≤ 6) (t1 : v ≤ N + L - 1) (t2 : N + L - 1 ≤ v + 6) (hv : Hid ((v + 4) % 7 = d)) (HO : Hid (OfD v a b c 1)) :
    Calls Tryz.prog 20 #[.agg #[.int .u8 1, .int .i64 0, .int .i64 d], .int .i64 y, .int .i64 m] w fun e w' => e = .returned (.tuple #[.int .i64 0, .int .i64 1]) ∧ Below w.heap.size w w' := by
  have HV := Lib.hid (valid_one y1 y2 m1 m2)
  go_enter Tryz.func20, Tryz.ntmps20
  go_wp2_with fail
  refine (r6check_yes _ _ _ _ h.out).mono ?_
  rintro e w1 ⟨rfl, b1⟩
  obtain ⟨hc, hf⟩ := bcell b1
  have a1 := ((Below.refl w.heap.size w).alloc (Nat.le_refl _) (.cells #[.int .u8 1, .int .i64 0, .int .i64 d] 24)).trans (b1.mono (by simp))
  have z1 : w.heap.size < w1.heap.size := by have := b1.size; simp at this; omega
  go_wp2_with fail
  refine (rlength_is y m L _ y1 y2 m1 m2 HL.out).mono ?_
  rintro e w' ⟨rfl, rfl⟩
  go_wp2_with fail
  refine (rdays_is y m 1 N _ HV.out HN.out).mono ?_
  rintro e w2 ⟨rfl, b2⟩
  obtain ⟨hc2, hf2⟩ := bcell b2
  have a2 := a1.trans (b2.mono a1.size)
  have z2 : w.heap.size < w2.heap.size := by have := b2.size; omega
  go_wp2_with fail
  go_loopw [12] (fun s wr => ∃ x : Int, s = .int .i64 x ∧ v ≤ x ∧ x ≤ v + 6 ∧ Below w2.heap.size w2 wr) (fun s _ => (intOf s - v).toNat)
  case atStart => exact ⟨_, rfl, by omega, by omega, Below.refl _ _⟩
  case round =>
    obtain ⟨x, rfl, x1, x2, bw⟩ := hrel
    obtain ⟨hcw, hfw⟩ := bcell bw
    have zw : w.heap.size < wr.heap.size := by have := bw.size; omega
    by_cases hx : x = v
    · subst hx
      have HQ := Lib.hid hv.out
      go_wp2_with fail
      go_quiet ((go_at_call 47; exact quiet_left (rweekday_q x d _ (by omega) (by omega) HQ.out)))
      go_wp2_with fail
      refine (HO.out _).mono ?_
      rintro e w3 ⟨rfl, b3⟩
      have a3 : Below w.heap.size w w3 := (below_drewN (a2.trans (bw.mono a2.size)) _).trans (b3.mono (a2.trans (bw.mono a2.size)).size)
      have z4 := a3.size
      go_wp2_with fail
      go_ret2
      refine ⟨rfl, ?_⟩
      repeat (first | exact Below.refl _ _ | assumption | refine below_drewN ?_ _ | refine Below.drew ?_ | refine Below.setCell ?_ (by first | omega | (simp; done) | (simp; omega)) _ | refine Below.alloc ?_ (by first | omega | (simp; done) | (simp; omega)) _)
    · obtain ⟨q, hq⟩ : ∃ q, (x + 4) % 7 = q := ⟨_, rfl⟩
      have t5 : (q != d) = true := by rw [bne_iff_ne]; have := hv.out; omega
      have HQ := Lib.hid hq
      have HX := Lib.hid hx
      clear hq hx
      go_wp2_with fail
      go_quiet ((go_at_call 47; exact quiet_left (rweekday_q x q _ (by omega) (by omega) HQ.out)))
      go_wp2_with fail
      go_roundw
      case rel => exact ⟨x - 1, rfl, by have := HX.out; omega, by have := HX.out; omega, below_drewN bw _⟩
      case measure => simp [intOf]; have := HX.out; omega
set_option maxRecDepth 100000 in
set_option maxHeartbeats 2000000 in
theorem rin_from0 (n d y m N L v a b c : Int) (w : World) (h : Hid (Dy.right 2 n d = true)) (y1 : 1 ≤ y) (y2 : y ≤ 9999) (m1 : 1 ≤ m) (m2 : m ≤ 12) (HL : Hid (Cal.len y m = L)) (HN : Hid (Cal.num y m 1 = N)) (L1 : 28 ≤ L) (L2 : L ≤ 31) (N1 : -719162 ≤ N) (N2 : N ≤ 2932896) (n1 : 1 ≤ n) (n2 : n ≤ L) (_d1 : 0 ≤ d) (_d2 : d ≤ 6) (t1 : N + n - 1 ≤ v) (t2 : v ≤ N + n - 1 + 6) (hv : Hid ((v + 4) % 7 = d)) (HO : Hid (OfD v a b c 0)) :
    Calls Tryz.prog 20 #[.agg #[.int .u8 2, .int .i64 n, .int .i64 d], .int .i64 y, .int .i64 m] w fun e w' => e = .returned (.tuple #[.int .i64 v, .int .i64 0]) ∧ Below w.heap.size w w' := by
  have HV := Lib.hid (valid_one y1 y2 m1 m2)
  go_enter Tryz.func20, Tryz.ntmps20
  go_wp2_with fail
  refine (r6check_yes _ _ _ _ h.out).mono ?_
  rintro e w1 ⟨rfl, b1⟩
  obtain ⟨hc, hf⟩ := bcell b1
  have a1 := ((Below.refl w.heap.size w).alloc (Nat.le_refl _) (.cells #[.int .u8 2, .int .i64 n, .int .i64 d] 24)).trans (b1.mono (by simp))
  have z1 : w.heap.size < w1.heap.size := by have := b1.size; simp at this; omega
  go_wp2_with fail
  refine (rlength_is y m L _ y1 y2 m1 m2 HL.out).mono ?_
  rintro e w' ⟨rfl, rfl⟩
  go_wp2_with fail
  refine (rdays_is y m 1 N _ HV.out HN.out).mono ?_
  rintro e w2 ⟨rfl, b2⟩
  obtain ⟨hc2, hf2⟩ := bcell b2
  have a2 := a1.trans (b2.mono a1.size)
  have z2 : w.heap.size < w2.heap.size := by have := b2.size; omega
  go_wp2_with fail
  go_loopw [12] (fun s wr => ∃ x : Int, s = .int .i64 x ∧ x ≤ v ∧ v ≤ x + 6 ∧ Below w2.heap.size w2 wr) (fun s _ => (v - intOf s).toNat)
  case atStart => exact ⟨_, rfl, by omega, by omega, Below.refl _ _⟩
  case round =>
    obtain ⟨x, rfl, x1, x2, bw⟩ := hrel
    obtain ⟨hcw, hfw⟩ := bcell bw
    have zw : w.heap.size < wr.heap.size := by have := bw.size; omega
    by_cases hx : x = v
    · subst hx
      have HQ := Lib.hid hv.out
      go_wp2_with fail
      go_quiet ((go_at_call 47; exact quiet_left (rweekday_q x d _ (by omega) (by omega) HQ.out)))
      go_wp2_with fail
      refine (HO.out _).mono ?_
      rintro e w3 ⟨rfl, b3⟩
      have a3 : Below w.heap.size w w3 := (below_drewN (a2.trans (bw.mono a2.size)) _).trans (b3.mono (a2.trans (bw.mono a2.size)).size)
      have z4 := a3.size
      go_wp2_with fail
      go_ret2
      refine ⟨rfl, ?_⟩
      repeat (first | exact Below.refl _ _ | assumption | refine below_drewN ?_ _ | refine Below.drew ?_ | refine Below.setCell ?_ (by first | omega | (simp; done) | (simp; omega)) _ | refine Below.alloc ?_ (by first | omega | (simp; done) | (simp; omega)) _)
    · obtain ⟨q, hq⟩ : ∃ q, (x + 4) % 7 = q := ⟨_, rfl⟩
      have t5 : (q != d) = true := by rw [bne_iff_ne]; have := hv.out; omega
      have HQ := Lib.hid hq
      have HX := Lib.hid hx
      clear hq hx
      go_wp2_with fail
      go_quiet ((go_at_call 47; exact quiet_left (rweekday_q x q _ (by omega) (by omega) HQ.out)))
      go_wp2_with fail
      go_roundw
      case rel => exact ⟨x + 1, rfl, by have := HX.out; omega, by have := HX.out; omega, below_drewN bw _⟩
      case measure => simp [intOf]; have := HX.out; omega
set_option maxRecDepth 100000 in
set_option maxHeartbeats 2000000 in
theorem rin_from1 (n d y m N L v a b c : Int) (w : World) (h : Hid (Dy.right 2 n d = true)) (y1 : 1 ≤ y) (y2 : y ≤ 9999) (m1 : 1 ≤ m) (m2 : m ≤ 12) (HL : Hid (Cal.len y m = L)) (HN : Hid (Cal.num y m 1 = N)) (L1 : 28 ≤ L) (L2 : L ≤ 31) (N1 : -719162 ≤ N) (N2 : N ≤ 2932896) (n1 : 1 ≤ n) (n2 : n ≤ L) (_d1 : 0 ≤ d) (_d2 : d ≤ 6) (t1 : N + n - 1 ≤ v) (t2 : v ≤ N + n - 1 + 6) (hv : Hid ((v + 4) % 7 = d)) (HO : Hid (OfD v a b c 1)) :
    Calls Tryz.prog 20 #[.agg #[.int .u8 2, .int .i64 n, .int .i64 d], .int .i64 y, .int .i64 m] w fun e w' => e = .returned (.tuple #[.int .i64 0, .int .i64 1]) ∧ Below w.heap.size w w' := by
  have HV := Lib.hid (valid_one y1 y2 m1 m2)
  go_enter Tryz.func20, Tryz.ntmps20
  go_wp2_with fail
  refine (r6check_yes _ _ _ _ h.out).mono ?_
  rintro e w1 ⟨rfl, b1⟩
  obtain ⟨hc, hf⟩ := bcell b1
  have a1 := ((Below.refl w.heap.size w).alloc (Nat.le_refl _) (.cells #[.int .u8 2, .int .i64 n, .int .i64 d] 24)).trans (b1.mono (by simp))
  have z1 : w.heap.size < w1.heap.size := by have := b1.size; simp at this; omega
  go_wp2_with fail
  refine (rlength_is y m L _ y1 y2 m1 m2 HL.out).mono ?_
  rintro e w' ⟨rfl, rfl⟩
  go_wp2_with fail
  refine (rdays_is y m 1 N _ HV.out HN.out).mono ?_
  rintro e w2 ⟨rfl, b2⟩
  obtain ⟨hc2, hf2⟩ := bcell b2
  have a2 := a1.trans (b2.mono a1.size)
  have z2 : w.heap.size < w2.heap.size := by have := b2.size; omega
  go_wp2_with fail
  go_loopw [12] (fun s wr => ∃ x : Int, s = .int .i64 x ∧ x ≤ v ∧ v ≤ x + 6 ∧ Below w2.heap.size w2 wr) (fun s _ => (v - intOf s).toNat)
  case atStart => exact ⟨_, rfl, by omega, by omega, Below.refl _ _⟩
  case round =>
    obtain ⟨x, rfl, x1, x2, bw⟩ := hrel
    obtain ⟨hcw, hfw⟩ := bcell bw
    have zw : w.heap.size < wr.heap.size := by have := bw.size; omega
    by_cases hx : x = v
    · subst hx
      have HQ := Lib.hid hv.out
      go_wp2_with fail
      go_quiet ((go_at_call 47; exact quiet_left (rweekday_q x d _ (by omega) (by omega) HQ.out)))
      go_wp2_with fail
      refine (HO.out _).mono ?_
      rintro e w3 ⟨rfl, b3⟩
      have a3 : Below w.heap.size w w3 := (below_drewN (a2.trans (bw.mono a2.size)) _).trans (b3.mono (a2.trans (bw.mono a2.size)).size)
      have z4 := a3.size
      go_wp2_with fail
      go_ret2
      refine ⟨rfl, ?_⟩
      repeat (first | exact Below.refl _ _ | assumption | refine below_drewN ?_ _ | refine Below.drew ?_ | refine Below.setCell ?_ (by first | omega | (simp; done) | (simp; omega)) _ | refine Below.alloc ?_ (by first | omega | (simp; done) | (simp; omega)) _)
    · obtain ⟨q, hq⟩ : ∃ q, (x + 4) % 7 = q := ⟨_, rfl⟩
      have t5 : (q != d) = true := by rw [bne_iff_ne]; have := hv.out; omega
      have HQ := Lib.hid hq
      have HX := Lib.hid hx
      clear hq hx
      go_wp2_with fail
      go_quiet ((go_at_call 47; exact quiet_left (rweekday_q x q _ (by omega) (by omega) HQ.out)))
      go_wp2_with fail
      go_roundw
      case rel => exact ⟨x + 1, rfl, by have := HX.out; omega, by have := HX.out; omega, below_drewN bw _⟩
      case measure => simp [intOf]; have := HX.out; omega
set_option maxRecDepth 100000 in
set_option maxHeartbeats 2000000 in
theorem rin_upto0 (n d y m N L v a b c : Int) (w : World) (h : Hid (Dy.right 3 n d = true)) (y1 : 1 ≤ y) (y2 : y ≤ 9999) (m1 : 1 ≤ m) (m2 : m ≤ 12) (HL : Hid (Cal.len y m = L)) (HN : Hid (Cal.num y m 1 = N)) (L1 : 28 ≤ L) (L2 : L ≤ 31) (N1 : -719162 ≤ N) (N2 : N ≤ 2932896) (n1 : 1 ≤ n) (n2 : n ≤ L) (_d1 : 0 ≤ d) (_d2 : d ≤ 6) (t1 : v ≤ N + n - 1) (t2 : N + n - 1 ≤ v + 6) (hv : Hid ((v + 4) % 7 = d)) (HO : Hid (OfD v a b c 0)) :
    Calls Tryz.prog 20 #[.agg #[.int .u8 3, .int .i64 n, .int .i64 d], .int .i64 y, .int .i64 m] w fun e w' => e = .returned (.tuple #[.int .i64 v, .int .i64 0]) ∧ Below w.heap.size w w' := by
  have HV := Lib.hid (valid_one y1 y2 m1 m2)
  go_enter Tryz.func20, Tryz.ntmps20
  go_wp2_with fail
  refine (r6check_yes _ _ _ _ h.out).mono ?_
  rintro e w1 ⟨rfl, b1⟩
  obtain ⟨hc, hf⟩ := bcell b1
  have a1 := ((Below.refl w.heap.size w).alloc (Nat.le_refl _) (.cells #[.int .u8 3, .int .i64 n, .int .i64 d] 24)).trans (b1.mono (by simp))
  have z1 : w.heap.size < w1.heap.size := by have := b1.size; simp at this; omega
  go_wp2_with fail
  refine (rlength_is y m L _ y1 y2 m1 m2 HL.out).mono ?_
  rintro e w' ⟨rfl, rfl⟩
  go_wp2_with fail
  refine (rdays_is y m 1 N _ HV.out HN.out).mono ?_
  rintro e w2 ⟨rfl, b2⟩
  obtain ⟨hc2, hf2⟩ := bcell b2
  have a2 := a1.trans (b2.mono a1.size)
  have z2 : w.heap.size < w2.heap.size := by have := b2.size; omega
  go_wp2_with fail
  go_loopw [12] (fun s wr => ∃ x : Int, s = .int .i64 x ∧ v ≤ x ∧ x ≤ v + 6 ∧ Below w2.heap.size w2 wr) (fun s _ => (intOf s - v).toNat)
  case atStart => exact ⟨_, rfl, by omega, by omega, Below.refl _ _⟩
  case round =>
    obtain ⟨x, rfl, x1, x2, bw⟩ := hrel
    obtain ⟨hcw, hfw⟩ := bcell bw
    have zw : w.heap.size < wr.heap.size := by have := bw.size; omega
    by_cases hx : x = v
    · subst hx
      have HQ := Lib.hid hv.out
      go_wp2_with fail
      go_quiet ((go_at_call 47; exact quiet_left (rweekday_q x d _ (by omega) (by omega) HQ.out)))
      go_wp2_with fail
      refine (HO.out _).mono ?_
      rintro e w3 ⟨rfl, b3⟩
      have a3 : Below w.heap.size w w3 := (below_drewN (a2.trans (bw.mono a2.size)) _).trans (b3.mono (a2.trans (bw.mono a2.size)).size)
      have z4 := a3.size
      go_wp2_with fail
      go_ret2
      refine ⟨rfl, ?_⟩
      repeat (first | exact Below.refl _ _ | assumption | refine below_drewN ?_ _ | refine Below.drew ?_ | refine Below.setCell ?_ (by first | omega | (simp; done) | (simp; omega)) _ | refine Below.alloc ?_ (by first | omega | (simp; done) | (simp; omega)) _)
    · obtain ⟨q, hq⟩ : ∃ q, (x + 4) % 7 = q := ⟨_, rfl⟩
      have t5 : (q != d) = true := by rw [bne_iff_ne]; have := hv.out; omega
      have HQ := Lib.hid hq
      have HX := Lib.hid hx
      clear hq hx
      go_wp2_with fail
      go_quiet ((go_at_call 47; exact quiet_left (rweekday_q x q _ (by omega) (by omega) HQ.out)))
      go_wp2_with fail
      go_roundw
      case rel => exact ⟨x - 1, rfl, by have := HX.out; omega, by have := HX.out; omega, below_drewN bw _⟩
      case measure => simp [intOf]; have := HX.out; omega
set_option maxRecDepth 100000 in
set_option maxHeartbeats 2000000 in
theorem rin_upto1 (n d y m N L v a b c : Int) (w : World) (h : Hid (Dy.right 3 n d = true)) (y1 : 1 ≤ y) (y2 : y ≤ 9999) (m1 : 1 ≤ m) (m2 : m ≤ 12) (HL : Hid (Cal.len y m = L)) (HN : Hid (Cal.num y m 1 = N)) (L1 : 28 ≤ L) (L2 : L ≤ 31) (N1 : -719162 ≤ N) (N2 : N ≤ 2932896) (n1 : 1 ≤ n) (n2 : n ≤ L) (_d1 : 0 ≤ d) (_d2 : d ≤ 6) (t1 : v ≤ N + n - 1) (t2 : N + n - 1 ≤ v + 6) (hv : Hid ((v + 4) % 7 = d)) (HO : Hid (OfD v a b c 1)) :
    Calls Tryz.prog 20 #[.agg #[.int .u8 3, .int .i64 n, .int .i64 d], .int .i64 y, .int .i64 m] w fun e w' => e = .returned (.tuple #[.int .i64 0, .int .i64 1]) ∧ Below w.heap.size w w' := by
  have HV := Lib.hid (valid_one y1 y2 m1 m2)
  go_enter Tryz.func20, Tryz.ntmps20
  go_wp2_with fail
  refine (r6check_yes _ _ _ _ h.out).mono ?_
  rintro e w1 ⟨rfl, b1⟩
  obtain ⟨hc, hf⟩ := bcell b1
  have a1 := ((Below.refl w.heap.size w).alloc (Nat.le_refl _) (.cells #[.int .u8 3, .int .i64 n, .int .i64 d] 24)).trans (b1.mono (by simp))
  have z1 : w.heap.size < w1.heap.size := by have := b1.size; simp at this; omega
  go_wp2_with fail
  refine (rlength_is y m L _ y1 y2 m1 m2 HL.out).mono ?_
  rintro e w' ⟨rfl, rfl⟩
  go_wp2_with fail
  refine (rdays_is y m 1 N _ HV.out HN.out).mono ?_
  rintro e w2 ⟨rfl, b2⟩
  obtain ⟨hc2, hf2⟩ := bcell b2
  have a2 := a1.trans (b2.mono a1.size)
  have z2 : w.heap.size < w2.heap.size := by have := b2.size; omega
  go_wp2_with fail
  go_loopw [12] (fun s wr => ∃ x : Int, s = .int .i64 x ∧ v ≤ x ∧ x ≤ v + 6 ∧ Below w2.heap.size w2 wr) (fun s _ => (intOf s - v).toNat)
  case atStart => exact ⟨_, rfl, by omega, by omega, Below.refl _ _⟩
  case round =>
    obtain ⟨x, rfl, x1, x2, bw⟩ := hrel
    obtain ⟨hcw, hfw⟩ := bcell bw
    have zw : w.heap.size < wr.heap.size := by have := bw.size; omega
    by_cases hx : x = v
    · subst hx
      have HQ := Lib.hid hv.out
      go_wp2_with fail
      go_quiet ((go_at_call 47; exact quiet_left (rweekday_q x d _ (by omega) (by omega) HQ.out)))
      go_wp2_with fail
      refine (HO.out _).mono ?_
      rintro e w3 ⟨rfl, b3⟩
      have a3 : Below w.heap.size w w3 := (below_drewN (a2.trans (bw.mono a2.size)) _).trans (b3.mono (a2.trans (bw.mono a2.size)).size)
      have z4 := a3.size
      go_wp2_with fail
      go_ret2
      refine ⟨rfl, ?_⟩
      repeat (first | exact Below.refl _ _ | assumption | refine below_drewN ?_ _ | refine Below.drew ?_ | refine Below.setCell ?_ (by first | omega | (simp; done) | (simp; omega)) _ | refine Below.alloc ?_ (by first | omega | (simp; done) | (simp; omega)) _)
    · obtain ⟨q, hq⟩ : ∃ q, (x + 4) % 7 = q := ⟨_, rfl⟩
      have t5 : (q != d) = true := by rw [bne_iff_ne]; have := hv.out; omega
      have HQ := Lib.hid hq
      have HX := Lib.hid hx
      clear hq hx
      go_wp2_with fail
      go_quiet ((go_at_call 47; exact quiet_left (rweekday_q x q _ (by omega) (by omega) HQ.out)))
      go_wp2_with fail
      go_roundw
      case rel => exact ⟨x - 1, rfl, by have := HX.out; omega, by have := HX.out; omega, below_drewN bw _⟩
      case measure => simp [intOf]; have := HX.out; omega
theorem ret2_v {a b z : Int} (h : a = b) : Ending.returned (.tuple #[.int .i64 a, .int .i64 z]) = .returned (.tuple #[.int .i64 b, .int .i64 z]) := by rw [h]
theorem upto_wd (x d : Int) (h1 : 0 ≤ d) (h2 : d ≤ 6) : (Dy.upto x d + 4) % 7 = d := by unfold Dy.upto; omega
/-- The document's answer is the program's. -/
theorem rin_all (k n d y m : Int) (w : World) : Calls Tryz.prog 20 #[.agg #[.int .u8 k, .int .i64 n, .int .i64 d], .int .i64 y, .int .i64 m] w fun e w' => e = .returned (.tuple #[.int .i64 (Mo.inV k n d y m).1, .int .i64 (Mo.inV k n d y m).2]) ∧ Below w.heap.size w w' := by
  unfold Mo.inV
  by_cases h1 : Dy.right k n d = false
  · rw [if_pos h1]
    exact rin_form k n d y m w h1
  · rw [if_neg h1]
    have h1 : Dy.right k n d = true := by simpa using h1
    by_cases h2 : 1 ≤ y ∧ y ≤ 9999 ∧ 1 ≤ m ∧ m ≤ 12
    · rw [if_neg (by simpa using h2)]
      obtain ⟨y1, y2, m1, m2⟩ := h2
      by_cases h3 : Cal.len y m < n
      · rw [if_pos h3]
        exact rin_few k n d y m w h1 y1 y2 m1 m2 h3
      · rw [if_neg h3]
        have hl := Cal.len_bd y m
        have hn := Cal.num_range y m 1 (valid_one y1 y2 m1 m2)
        have h0 := h1
        rw [Dy.right_iff] at h1
        by_cases h4 : Dy.at_ k n d y m < -719162 ∨ 2932896 < Dy.at_ k n d y m
        · rw [if_pos h4]
          have hO := Lib.hid (ofD_no _ h4)
          rcases h1 with ⟨rfl, g1, g2, rfl⟩ | ⟨rfl, rfl, g1, g2⟩ | ⟨rfl | rfl, g1, g2, g3, g4⟩
          · exact rin_fixed1 n y m _ _ _ 0 0 0 w (Lib.hid h0) y1 y2 m1 m2 (Lib.hid rfl) (Lib.hid rfl) hl.1 hl.2 hn.1 hn.2 g1 (by omega) (Lib.hid rfl) hO
          · have hu := dupto_bd (Cal.num y m 1 + Cal.len y m - 1) d
            exact rin_last1 d y m _ _ (Dy.upto (Cal.num y m 1 + Cal.len y m - 1) d) 0 0 0 w (Lib.hid h0) y1 y2 m1 m2 (Lib.hid rfl) (Lib.hid rfl) hl.1 hl.2 hn.1 hn.2 g1 g2 hu.1 (by omega) (Lib.hid (upto_wd _ _ g1 g2)) hO
          · have hu := dupto_bd (Cal.num y m 1 + n + 5) d
            exact rin_from1 n d y m _ _ (Dy.upto (Cal.num y m 1 + n + 5) d) 0 0 0 w (Lib.hid h0) y1 y2 m1 m2 (Lib.hid rfl) (Lib.hid rfl) hl.1 hl.2 hn.1 hn.2 g1 (by omega) g3 g4 (by omega) (by omega) (Lib.hid (upto_wd _ _ g3 g4)) hO
          · have hu := dupto_bd (Cal.num y m 1 + n - 1) d
            exact rin_upto1 n d y m _ _ (Dy.upto (Cal.num y m 1 + n - 1) d) 0 0 0 w (Lib.hid h0) y1 y2 m1 m2 (Lib.hid rfl) (Lib.hid rfl) hl.1 hl.2 hn.1 hn.2 g1 (by omega) g3 g4 hu.1 (by omega) (Lib.hid (upto_wd _ _ g3 g4)) hO
        · rw [if_neg h4]
          obtain ⟨a, b, c, hO⟩ := ofD_yes (Dy.at_ k n d y m) (by omega) (by omega)
          have hO := Lib.hid hO
          rcases h1 with ⟨rfl, g1, g2, rfl⟩ | ⟨rfl, rfl, g1, g2⟩ | ⟨rfl | rfl, g1, g2, g3, g4⟩
          · exact rin_fixed0 n y m _ _ _ a b c w (Lib.hid h0) y1 y2 m1 m2 (Lib.hid rfl) (Lib.hid rfl) hl.1 hl.2 hn.1 hn.2 g1 (by omega) (Lib.hid rfl) hO
          · have hu := dupto_bd (Cal.num y m 1 + Cal.len y m - 1) d
            exact rin_last0 d y m _ _ (Dy.upto (Cal.num y m 1 + Cal.len y m - 1) d) a b c w (Lib.hid h0) y1 y2 m1 m2 (Lib.hid rfl) (Lib.hid rfl) hl.1 hl.2 hn.1 hn.2 g1 g2 hu.1 (by omega) (Lib.hid (upto_wd _ _ g1 g2)) hO
          · have hu := dupto_bd (Cal.num y m 1 + n + 5) d
            exact rin_from0 n d y m _ _ (Dy.upto (Cal.num y m 1 + n + 5) d) a b c w (Lib.hid h0) y1 y2 m1 m2 (Lib.hid rfl) (Lib.hid rfl) hl.1 hl.2 hn.1 hn.2 g1 (by omega) g3 g4 (by omega) (by omega) (Lib.hid (upto_wd _ _ g3 g4)) hO
          · have hu := dupto_bd (Cal.num y m 1 + n - 1) d
            exact rin_upto0 n d y m _ _ (Dy.upto (Cal.num y m 1 + n - 1) d) a b c w (Lib.hid h0) y1 y2 m1 m2 (Lib.hid rfl) (Lib.hid rfl) hl.1 hl.2 hn.1 hn.2 g1 (by omega) g3 g4 hu.1 (by omega) (Lib.hid (upto_wd _ _ g3 g4)) hO
    · rw [if_pos h2]
      exact rin_month k n d y m w h1 h2
end Go.Proofs.YtgcgmmdfmcapiaaGreatDoor
