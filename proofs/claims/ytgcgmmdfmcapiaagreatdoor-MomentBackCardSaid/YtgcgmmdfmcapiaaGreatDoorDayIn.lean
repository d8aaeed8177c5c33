/- Contracts of package day: upto, find, In. -/
import Derived.Test.YtgcgmmdfmcapiaaGreatDoorDay
namespace Go.Proofs.YtgcgmmdfmcapiaaGreatDoor
open Go.RowKit
theorem weekday_q (n q : Int) (w : World) (h1 : -9223372036854775808 ≤ n) (h2 : n ≤ 9223372036854775807) (hq : (n + 4) % 7 = q) :
    Calls Tryz.prog 88 #[.int .i64 n] w fun e w' => e = .returned (.int .i64 q) ∧ w = w' := by
  subst hq
  exact weekday_any n w h1 h2
theorem dupto_any (x d : Int) (w : World) (h1 : -719300 ≤ x) (h2 : x ≤ 2933000) (h3 : 0 ≤ d) (h4 : d ≤ 6) : Calls Tryz.prog 70 #[.int .i64 x, .int .i64 d] w fun e w' => e = .returned (.int .i64 (Dy.upto x d)) ∧ w = w' := by
  obtain ⟨q, hq⟩ : ∃ q, (x + 4) % 7 = q := ⟨_, rfl⟩
  have q1 : 0 ≤ q := by omega
  have q2 : q ≤ 6 := by omega
  have HU := Lib.hid (show Dy.upto x d = x - (q - d) % 7 by unfold Dy.upto; rw [hq])
  have HQ := Lib.hid hq
  clear hq
  go_enter Tryz.func70, Tryz.ntmps70
  go_wp2_with fail
  refine (weekday_q x q _ (by omega) (by omega) HQ.out).mono ?_
  rintro e w' ⟨rfl, rfl⟩
  go_wp2_with fail
  go_ret
  exact ⟨ret_int HU.out.symm, rfl⟩
theorem dfind_any (k n d b len : Int) (w : World) (h : Dy.right k n d = true) (h1 : -719162 ≤ b) (h2 : b ≤ 2932896) (h3 : 28 ≤ len) (h4 : len ≤ 31) :
    Calls Tryz.prog 40 #[.agg #[.int .u8 k, .int .i64 n, .int .i64 d], .int .i64 b, .int .i64 len] w fun e w' => e = .returned (.int .i64 (Dy.find k n d b len)) ∧ Below w.heap.size w w' := by
  rw [Dy.right_iff] at h
  rcases h with ⟨rfl, g1, g2, rfl⟩ | ⟨rfl, rfl, g1, g2⟩ | ⟨rfl | rfl, g1, g2, g3, g4⟩
  · have HE := Lib.hid (show Dy.find 0 n 0 b len = b + n - 1 from rfl)
    go_enter Tryz.func40, Tryz.ntmps40
    go_wp2_with fail
    go_ret
    exact ⟨ret_int HE.out.symm, (Below.refl _ _).alloc (Nat.le_refl _) _⟩
  · have HE := Lib.hid (show Dy.find 1 0 d b len = Dy.upto (b + len - 1) d from rfl)
    go_enter Tryz.func40, Tryz.ntmps40
    go_wp2_with fail
    refine (dupto_any (b + len - 1) d _ (by omega) (by omega) g1 g2).mono ?_
    rintro e w' ⟨rfl, rfl⟩
    go_wp2_with fail
    go_ret
    exact ⟨ret_int HE.out.symm, (Below.refl _ _).alloc (Nat.le_refl _) _⟩
  · have HE := Lib.hid (show Dy.find 2 n d b len = Dy.upto (b + n + 5) d from rfl)
    have HX := Lib.hid (show b + n - 1 + 7 - 1 = b + n + 5 by omega)
    go_enter Tryz.func40, Tryz.ntmps40
    go_wp2_with fail
    refine (dupto_any (b + n - 1 + 7 - 1) d _ (by omega) (by omega) g3 g4).mono ?_
    rintro e w' ⟨rfl, rfl⟩
    go_wp2_with fail
    go_ret
    exact ⟨ret_int (by rw [HE.out, ← HX.out]), (Below.refl _ _).alloc (Nat.le_refl _) _⟩
  · have HE := Lib.hid (show Dy.find 3 n d b len = Dy.upto (b + n - 1) d from rfl)
    go_enter Tryz.func40, Tryz.ntmps40
    go_wp2_with fail
    refine (dupto_any (b + n - 1) d _ (by omega) (by omega) g3 g4).mono ?_
    rintro e w' ⟨rfl, rfl⟩
    go_wp2_with fail
    go_ret
    exact ⟨ret_int HE.out.symm, (Below.refl _ _).alloc (Nat.le_refl _) _⟩
theorem dfind_is (k n d b len v : Int) (w : World) (h : Dy.right k n d = true) (h1 : -719162 ≤ b) (h2 : b ≤ 2932896) (h3 : 28 ≤ len) (h4 : len ≤ 31) (hv : Dy.find k n d b len = v) :
    Calls Tryz.prog 40 #[.agg #[.int .u8 k, .int .i64 n, .int .i64 d], .int .i64 b, .int .i64 len] w fun e w' => e = .returned (.int .i64 v) ∧ Below w.heap.size w w' := by
  subst hv
  exact dfind_any k n d b len w h h1 h2 h3 h4
theorem dupto_bd (x d : Int) : Dy.upto x d ≤ x ∧ x - 6 ≤ Dy.upto x d := by unfold Dy.upto; omega
theorem dfind_bd (k n d b len : Int) (h : Dy.right k n d = true) (h3 : 28 ≤ len) (h4 : len ≤ 31) : b - 7 ≤ Dy.find k n d b len ∧ Dy.find k n d b len ≤ b + 37 := by
  rw [Dy.right_iff] at h
  rcases h with ⟨rfl, g1, g2, rfl⟩ | ⟨rfl, rfl, g1, g2⟩ | ⟨rfl | rfl, g1, g2, g3, g4⟩
  · show b - 7 ≤ b + n - 1 ∧ b + n - 1 ≤ b + 37
    omega
  · have := dupto_bd (b + len - 1) d
    show b - 7 ≤ Dy.upto (b + len - 1) d ∧ Dy.upto (b + len - 1) d ≤ b + 37
    omega
  · have := dupto_bd (b + n + 5) d
    show b - 7 ≤ Dy.upto (b + n + 5) d ∧ Dy.upto (b + n + 5) d ≤ b + 37
    omega
  · have := dupto_bd (b + n - 1) d
    show b - 7 ≤ Dy.upto (b + n - 1) d ∧ Dy.upto (b + n - 1) d ≤ b + 37
    omega
theorem din_form (k n d y m : Int) (w : World) (h : Dy.right k n d = false) : Calls Tryz.prog 15 #[.agg #[.int .u8 k, .int .i64 n, .int .i64 d], .int .i64 y, .int .i64 m] w fun e w' => e = .returned (.tuple #[.int .i64 0, .int .i64 2]) ∧ Below w.heap.size w w' := by
  have H := Lib.hid h
  clear h
  go_enter Tryz.func15, Tryz.ntmps15
  go_wp2_with fail
  refine (isRight_no _ _ _ _ H.out).mono ?_
  rintro e w1 ⟨rfl, b1⟩
  have a1 := ((Below.refl w.heap.size w).alloc (Nat.le_refl _) (.cells #[.int .u8 k, .int .i64 n, .int .i64 d] 24)).trans (b1.mono (by simp))
  go_wp2_with fail
  go_ret2
  exact ⟨rfl, a1⟩
theorem din_month (k n d y m : Int) (w : World) (h : Dy.right k n d = true) (hm : ¬ (1 ≤ y ∧ y ≤ 9999 ∧ 1 ≤ m ∧ m ≤ 12)) : Calls Tryz.prog 15 #[.agg #[.int .u8 k, .int .i64 n, .int .i64 d], .int .i64 y, .int .i64 m] w fun e w' => e = .returned (.tuple #[.int .i64 0, .int .i64 1]) ∧ Below w.heap.size w w' := by
  have H := Lib.hid h
  have HM := Lib.hid hm
  clear h hm
  go_enter Tryz.func15, Tryz.ntmps15
  go_wp2_with fail
  refine (isRight_yes _ _ _ _ H.out).mono ?_
  rintro e w1 ⟨rfl, b1⟩
  have a1 := ((Below.refl w.heap.size w).alloc (Nat.le_refl _) (.cells #[.int .u8 k, .int .i64 n, .int .i64 d] 24)).trans (b1.mono (by simp))
  go_wp2_with fail
  refine (length_no y m _ HM.out).mono ?_
  rintro e w' ⟨rfl, rfl⟩
  go_wp2_with fail
  go_ret2
  exact ⟨rfl, a1⟩
theorem din_few (k n d y m : Int) (w : World) (h : Dy.right k n d = true) (y1 : 1 ≤ y) (y2 : y ≤ 9999) (m1 : 1 ≤ m) (m2 : m ≤ 12) (hn : Cal.len y m < n) : Calls Tryz.prog 15 #[.agg #[.int .u8 k, .int .i64 n, .int .i64 d], .int .i64 y, .int .i64 m] w fun e w' => e = .returned (.tuple #[.int .i64 0, .int .i64 3]) ∧ Below w.heap.size w w' := by
  have H := Lib.hid h
  clear h
  go_enter Tryz.func15, Tryz.ntmps15
  go_wp2_with fail
  refine (isRight_yes _ _ _ _ H.out).mono ?_
  rintro e w1 ⟨rfl, b1⟩
  obtain ⟨hc, hf⟩ := bcell b1
  have a1 := ((Below.refl w.heap.size w).alloc (Nat.le_refl _) (.cells #[.int .u8 k, .int .i64 n, .int .i64 d] 24)).trans (b1.mono (by simp))
  go_wp2_with fail
  refine (length_yes y m _ y1 y2 m1 m2).mono ?_
  rintro e w' ⟨rfl, rfl⟩
  go_wp2_with fail
  go_ret2
  exact ⟨rfl, a1⟩
/-- The day that a right day is. -/
def Dy.at_ (k n d y m : Int) : Int := Dy.find k n d (Cal.num y m 1) (Cal.len y m)
theorem valid_one {y m : Int} (y1 : 1 ≤ y) (y2 : y ≤ 9999) (m1 : 1 ≤ m) (m2 : m ≤ 12) : Cal.Valid y m 1 := by
  have := Cal.len_bd y m
  exact ⟨y1, y2, m1, m2, by omega, by omega⟩
set_option maxHeartbeats 1000000 in
theorem din_yes (k n d y m v : Int) (w : World) (h : Dy.right k n d = true) (y1 : 1 ≤ y) (y2 : y ≤ 9999) (m1 : 1 ≤ m) (m2 : m ≤ 12) (hn : n ≤ Cal.len y m) (hv : Hid (Dy.at_ k n d y m = v)) (v1 : -719162 ≤ v) (v2 : v ≤ 2932896) :
    Calls Tryz.prog 15 #[.agg #[.int .u8 k, .int .i64 n, .int .i64 d], .int .i64 y, .int .i64 m] w fun e w' => e = .returned (.tuple #[.int .i64 v, .int .i64 0]) ∧ Below w.heap.size w w' := by
  have H := Lib.hid h
  have hV := valid_one y1 y2 m1 m2
  have HV := Lib.hid hV
  have HL := Cal.len_bd y m
  have HR := Cal.num_range y m 1 hV
  clear h hV
  go_enter Tryz.func15, Tryz.ntmps15
  go_wp2_with fail
  refine (isRight_yes _ _ _ _ H.out).mono ?_
  rintro e w1 ⟨rfl, b1⟩
  obtain ⟨hc, hf⟩ := bcell b1
  have a1 := ((Below.refl w.heap.size w).alloc (Nat.le_refl _) (.cells #[.int .u8 k, .int .i64 n, .int .i64 d] 24)).trans (b1.mono (by simp))
  have z1 : w.heap.size < w1.heap.size := by have := b1.size; simp at this; omega
  go_wp2_with fail
  refine (length_yes y m _ y1 y2 m1 m2).mono ?_
  rintro e w' ⟨rfl, rfl⟩
  go_wp2_with fail
  refine (days_yes y m 1 _ HV.out).mono ?_
  rintro e w2 ⟨rfl, b2⟩
  obtain ⟨hc2, hf2⟩ := bcell b2
  have a2 := a1.trans (b2.mono a1.size)
  have z2 : w.heap.size < w2.heap.size := by have := b2.size; omega
  go_wp2_with fail
  refine (dfind_is k n d _ _ v _ H.out HR.1 HR.2 HL.1 HL.2 hv.out).mono ?_
  rintro e w3 ⟨rfl, b3⟩
  have a3 := a2.trans (b3.mono a2.size)
  go_wp2_with fail
  refine (of_yes v _ v1 v2).mono ?_
  rintro e w4 ⟨rfl, b4⟩
  have a4 := a3.trans (b4.mono a3.size)
  have z4 := a4.size
  go_wp2_with fail
  go_ret2
  refine ⟨rfl, ?_⟩
  repeat (first | exact Below.refl _ _ | assumption | refine below_drewN ?_ _ | refine Below.drew ?_ | refine Below.setCell ?_ (by first | omega | (simp; done) | (simp; omega)) _ | refine Below.alloc ?_ (by first | omega | (simp; done) | (simp; omega)) _)
set_option maxHeartbeats 1000000 in
theorem din_no (k n d y m v : Int) (w : World) (h : Dy.right k n d = true) (y1 : 1 ≤ y) (y2 : y ≤ 9999) (m1 : 1 ≤ m) (m2 : m ≤ 12) (hn : n ≤ Cal.len y m) (hv : Hid (Dy.at_ k n d y m = v)) (vv : Hid (v < -719162 ∨ 2932896 < v)) :
    Calls Tryz.prog 15 #[.agg #[.int .u8 k, .int .i64 n, .int .i64 d], .int .i64 y, .int .i64 m] w fun e w' => e = .returned (.tuple #[.int .i64 0, .int .i64 1]) ∧ Below w.heap.size w w' := by
  have H := Lib.hid h
  have hV := valid_one y1 y2 m1 m2
  have HV := Lib.hid hV
  have HL := Cal.len_bd y m
  have HR := Cal.num_range y m 1 hV
  clear h hV
  go_enter Tryz.func15, Tryz.ntmps15
  go_wp2_with fail
  refine (isRight_yes _ _ _ _ H.out).mono ?_
  rintro e w1 ⟨rfl, b1⟩
  obtain ⟨hc, hf⟩ := bcell b1
  have a1 := ((Below.refl w.heap.size w).alloc (Nat.le_refl _) (.cells #[.int .u8 k, .int .i64 n, .int .i64 d] 24)).trans (b1.mono (by simp))
  have z1 : w.heap.size < w1.heap.size := by have := b1.size; simp at this; omega
  go_wp2_with fail
  refine (length_yes y m _ y1 y2 m1 m2).mono ?_
  rintro e w' ⟨rfl, rfl⟩
  go_wp2_with fail
  refine (days_yes y m 1 _ HV.out).mono ?_
  rintro e w2 ⟨rfl, b2⟩
  obtain ⟨hc2, hf2⟩ := bcell b2
  have a2 := a1.trans (b2.mono a1.size)
  have z2 : w.heap.size < w2.heap.size := by have := b2.size; omega
  go_wp2_with fail
  refine (dfind_is k n d _ _ v _ H.out HR.1 HR.2 HL.1 HL.2 hv.out).mono ?_
  rintro e w3 ⟨rfl, b3⟩
  have a3 := a2.trans (b3.mono a2.size)
  go_wp2_with fail
  refine (of_no v _ vv.out).mono ?_
  rintro e w4 ⟨rfl, b4⟩
  have a4 := a3.trans (b4.mono a3.size)
  have z4 := a4.size
  go_wp2_with fail
  go_ret2
  refine ⟨rfl, ?_⟩
  repeat (first | exact Below.refl _ _ | assumption | refine below_drewN ?_ _ | refine Below.drew ?_ | refine Below.setCell ?_ (by first | omega | (simp; done) | (simp; omega)) _ | refine Below.alloc ?_ (by first | omega | (simp; done) | (simp; omega)) _)
end Go.Proofs.YtgcgmmdfmcapiaaGreatDoor
