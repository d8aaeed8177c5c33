/- The walk of stage 3's theorem TopLast. -/
import Derived.Test.YtgeelolbgjmfgaaDayParse
import Derived.OpenShut
namespace Go.Proofs.Ytgeelolbgjmfgaa
open Go.RowKit
def Dy.lastMon : ByteArray := ⟨#[108, 97, 115, 116, 77, 111, 110]⟩
theorem wtext_lit (n : Int) (S : ByteArray) (i : Nat) (w : World) (hi : i < 7) (hn : (i : Int) = n) (hS : Wd.three Wd.week i = S) : Calls Try.prog 9 #[.int .i64 n] w fun e w' => e = .returned (.string S) ∧ Below w.heap.size w w' := by
  subst hn hS
  exact weekdaytext_yes i w hi
theorem parse_mon (S : ByteArray) (w : World) (hS : S = Dy.lastMon) : Calls Try.prog 21 #[.string S] w fun e w' => e = .returned (.tuple #[.agg #[.int .u8 1, .int .i64 0, .int .i64 1], .int .i64 0]) ∧ Below w.heap.size w w' := by
  subst hS
  exact parse_last Dy.lastMon 1 0 1 w (by decide) (by decide +kernel) (by decide +kernel)
set_option maxHeartbeats 1000000 in
theorem begins3_any (w : World) : Calls Try.prog 13 #[] w fun e w' => e = .returned (.bool true) ∧ Below w.heap.size w w' := by
  go_enter Try.func13, Try.ntmps13
  go_wp2_with fail
  refine (wtext_lit 1 ⟨#[77, 111, 110]⟩ 1 _ (by omega) (by omega) (by decide +kernel)).mono ?_
  rintro e w1 ⟨rfl, b1⟩
  go_wp2_with fail
  refine (parse_mon _ _ (by decide +kernel)).mono ?_
  rintro e w2 ⟨rfl, b2⟩
  have a2 := b1.trans (b2.mono b1.size)
  have z2 := a2.size
  go_wp2_with fail
  go_ret
  refine ⟨rfl, ?_⟩
  repeat (first | exact Below.refl _ _ | assumption | refine below_drewN ?_ _ | refine Below.drew ?_ | refine Below.setCell ?_ (by first | omega | (simp; done) | (simp; omega)) _ | refine Below.alloc ?_ (by first | omega | (simp; done) | (simp; omega)) _)
theorem length_is (y m L : Int) (w : World) (h1 : 1 ≤ y) (h2 : y ≤ 9999) (h3 : 1 ≤ m) (h4 : m ≤ 12) (hL : Cal.len y m = L) :
    Calls Try.prog 14 #[.int .i64 y, .int .i64 m] w fun e w' => e = .returned (.tuple #[.int .i64 L, .int .i64 0]) ∧ w = w' := by
  subst hL
  exact length_yes y m w h1 h2 h3 h4
theorem upto_week (x d : Int) : Dy.upto (x - 7) d = Dy.upto x d - 7 := by unfold Dy.upto; omega
theorem last_right (dow : Int) (h1 : 0 ≤ dow) (h2 : dow ≤ 6) : Dy.right 1 0 dow = true := (Dy.right_iff _ _ _).2 (.inr (.inl ⟨rfl, rfl, h1, h2⟩))
theorem from_right (n dow : Int) (h1 : 1 ≤ n) (h2 : n ≤ 31) (h3 : 0 ≤ dow) (h4 : dow ≤ 6) : Dy.right 2 n dow = true := (Dy.right_iff _ _ _).2 (.inr (.inr ⟨.inl rfl, h1, h2, h3, h4⟩))
theorem upto_right (n dow : Int) (h1 : 1 ≤ n) (h2 : n ≤ 31) (h3 : 0 ≤ dow) (h4 : dow ≤ 6) : Dy.right 3 n dow = true := (Dy.right_iff _ _ _).2 (.inr (.inr ⟨.inr rfl, h1, h2, h3, h4⟩))
theorem last_wrong (dow : Int) (h : ¬ (0 ≤ dow ∧ dow ≤ 6)) : Dy.right 1 0 dow = false := by
  cases hr : Dy.right 1 0 dow with
  | false => rfl
  | true => rw [Dy.right_iff] at hr; omega
set_option maxRecDepth 100000 in
set_option maxHeartbeats 2000000 in
theorem topLast_any (y m dow : Int) (w : World) : Calls Try.prog 4 #[.int .i64 y, .int .i64 m, .int .i64 dow] w fun e w' => e = .returned (.bool true) ∧ Below w.heap.size w w' := by
  by_cases hm : 1 ≤ y ∧ y ≤ 9999 ∧ 1 ≤ m ∧ m ≤ 12
  · obtain ⟨y1, y2, m1, m2⟩ := hm
    by_cases hd : 0 ≤ dow ∧ dow ≤ 6
    · obtain ⟨d1, d2⟩ := hd
      have hl := Cal.len_bd y m
      have hV := valid_one y1 y2 m1 m2
      have hr1 := Cal.num_range y m 1 hV
      have hr2 := Cal.num_range y m (Cal.len y m) ⟨y1, y2, m1, m2, by omega, Int.le_refl _⟩
      have hb : Cal.num y m (Cal.len y m) = Cal.num y m 1 + Cal.len y m - 1 := by unfold Cal.num; omega
      have hu := dupto_bd (Cal.num y m 1 + Cal.len y m - 1) dow
      obtain ⟨v, hv⟩ : ∃ v, Dy.upto (Cal.num y m 1 + Cal.len y m - 1) dow = v := ⟨_, rfl⟩
      obtain ⟨L, hL⟩ : ∃ L, Cal.len y m = L := ⟨_, rfl⟩
      have v1 : -719162 + 21 ≤ v := by omega
      have v2 : v ≤ 2932896 := by omega
      rw [hL] at hl
      have e1 := Lib.hid (show Dy.at_ 1 0 dow y m = v from hv)
      have e2 := Lib.hid (show Dy.at_ 2 (L - 6) dow y m = v by rw [← hv, ← hL]; show Dy.upto (Cal.num y m 1 + (Cal.len y m - 6) + 5) dow = _; congr 1; omega)
      have e3 := Lib.hid (show Dy.at_ 3 L dow y m = v by rw [← hv, ← hL]; rfl)
      have e4 := Lib.hid (show Dy.at_ 2 (L - 13) dow y m = v - 7 by
        rw [← hv, ← hL, ← upto_week]
        show Dy.upto (Cal.num y m 1 + (Cal.len y m - 13) + 5) dow = _
        congr 1
        omega)
      have r1 := Lib.hid (last_right dow d1 d2)
      have r2 := Lib.hid (from_right (L - 6) dow (by omega) (by omega) d1 d2)
      have r3 := Lib.hid (upto_right L dow (by omega) (by omega) d1 d2)
      have r4 := Lib.hid (from_right (L - 13) dow (by omega) (by omega) d1 d2)
      have HL := Lib.hid hL
      clear hV hr1 hr2 hb hu hv hL
      go_enter Try.func4, Try.ntmps4
      go_wp2_with fail
      refine (begins3_any _).mono ?_
      rintro e w1 ⟨rfl, a1⟩
      go_wp2_with fail
      refine (length_is y m L _ y1 y2 m1 m2 HL.out).mono ?_
      rintro e w' ⟨rfl, rfl⟩
      go_wp2_with fail
      refine (din_yes 1 0 dow y m v _ r1.out y1 y2 m1 m2 (by have := HL.out; omega) e1 (by omega) v2).mono ?_
      rintro e w2 ⟨rfl, b2⟩
      have a2 := a1.trans (b2.mono a1.size)
      go_wp2_with fail
      refine (din_yes 2 (L - 6) dow y m v _ r2.out y1 y2 m1 m2 (by have := HL.out; omega) e2 (by omega) v2).mono ?_
      rintro e w3 ⟨rfl, b3⟩
      have a3 := a2.trans (b3.mono a2.size)
      go_wp2_with fail
      refine (din_yes 3 L dow y m v _ r3.out y1 y2 m1 m2 (by have := HL.out; omega) e3 (by omega) v2).mono ?_
      rintro e w4 ⟨rfl, b4⟩
      have a4 := a3.trans (b4.mono a3.size)
      go_wp2_with fail
      refine (din_yes 2 (L - 13) dow y m (v - 7) _ r4.out y1 y2 m1 m2 (by have := HL.out; omega) e4 (by omega) (by omega)).mono ?_
      rintro e w5 ⟨rfl, b5⟩
      have a5 := a4.trans (b5.mono a4.size)
      go_wp2_with fail
      go_ret
      exact ⟨rfl, a5⟩
    · have r1 := Lib.hid (last_wrong dow hd)
      have t1 : (decide (dow < 0) || decide (6 < dow)) = true := by simp; omega
      obtain ⟨L, hL⟩ : ∃ L, Cal.len y m = L := ⟨_, rfl⟩
      have HL := Lib.hid hL
      have HD := Lib.hid hd
      clear hL hd
      go_enter Try.func4, Try.ntmps4
      go_wp2_with fail
      refine (begins3_any _).mono ?_
      rintro e w1 ⟨rfl, a1⟩
      go_wp2_with fail
      refine (length_is y m L _ y1 y2 m1 m2 HL.out).mono ?_
      rintro e w' ⟨rfl, rfl⟩
      go_wp2_with fail
      refine (din_form 1 0 dow y m _ r1.out).mono ?_
      rintro e w2 ⟨rfl, b2⟩
      have a2 := a1.trans (b2.mono a1.size)
      go_wp2_with fail
      all_goals (first | (exfalso; have := HD.out; omega) | (go_ret; exact ⟨rfl, a2⟩))
  · have HM := Lib.hid hm
    have hr : (∃ v : Int, 0 < v ∧ ∀ W : World, Calls Try.prog 15 #[.agg #[.int .u8 1, .int .i64 0, .int .i64 dow], .int .i64 y, .int .i64 m] W fun e w' => e = .returned (.tuple #[.int .i64 0, .int .i64 v]) ∧ Below W.heap.size W w') := by
      by_cases hd : 0 ≤ dow ∧ dow ≤ 6
      · exact ⟨1, by omega, fun W => din_month 1 0 dow y m W (last_right dow hd.1 hd.2) hm⟩
      · exact ⟨2, by omega, fun W => din_form 1 0 dow y m W (last_wrong dow hd)⟩
    obtain ⟨v, hv0, hin⟩ := hr
    have HI := Lib.hid hin
    have t1 : (v != 0) = true := by rw [bne_iff_ne]; omega
    clear hm hin
    go_enter Try.func4, Try.ntmps4
    go_wp2_with fail
    refine (begins3_any _).mono ?_
    rintro e w1 ⟨rfl, a1⟩
    go_wp2_with fail
    refine (length_no y m _ HM.out).mono ?_
    rintro e w' ⟨rfl, rfl⟩
    go_wp2_with fail
    refine (HI.out _).mono ?_
    rintro e w2 ⟨rfl, b2⟩
    have a2 := a1.trans (b2.mono a1.size)
    go_wp2_with fail
    go_ret
    exact ⟨rfl, a2⟩
theorem walkTopLast (y : Int) (_ : (Lit.int .i64 y).wf = true) (m : Int) (_ : (Lit.int .i64 m).wf = true) (dow : Int) (_ : (Lit.int .i64 dow).wf = true) (w : World) :
    Calls Try.prog 4 #[.int .i64 y, .int .i64 m, .int .i64 dow] w fun e w' => e = .returned (.bool true) ∧ Below w.heap.size w w' := topLast_any y m dow w
end Go.Proofs.Ytgeelolbgjmfgaa
