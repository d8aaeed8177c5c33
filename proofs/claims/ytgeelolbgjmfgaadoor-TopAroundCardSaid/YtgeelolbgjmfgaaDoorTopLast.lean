/- The walk of stage 3's theorem TopLast. -/
import Derived.Test.YtgeelolbgjmfgaaDoorDayParse
import Derived.OpenShut
namespace Go.Proofs.YtgeelolbgjmfgaaDoor
open Go.RowKit
def Dy.lastMon : ByteArray := ⟨#[108, 97, 115, 116, 77, 111, 110]⟩
theorem wtext_lit (n : Int) (S : ByteArray) (i : Nat) (w : World) (hi : i < 7) (hn : (i : Int) = n) (hS : Wd.three Wd.week i = S) : Calls Tryd.prog 16 #[.int .i64 n] w fun e w' => e = .returned (.string S) ∧ Below w.heap.size w w' := by
  subst hn hS
  exact weekdaytext_yes i w hi
theorem parse_mon (S : ByteArray) (w : World) (hS : S = Dy.lastMon) : Calls Tryd.prog 8 #[.string S] w fun e w' => e = .returned (.tuple #[.agg #[.int .u8 1, .int .i64 0, .int .i64 1], .int .i64 0]) ∧ Below w.heap.size w w' := by
  subst hS
  exact parse_last Dy.lastMon 1 0 1 w (by decide) (by decide +kernel) (by decide +kernel)
set_option maxHeartbeats 1000000 in
theorem begins3_any (w : World) : Calls Tryd.prog 15 #[] w fun e w' => e = .returned (.bool true) ∧ Below w.heap.size w w' := by
  go_enter Tryd.func15, Tryd.ntmps15
  go_wp2_with fail
  refine (wtext_lit 1 ⟨#[77, 111, 110]⟩ 1 _ (by omega) (by omega) (by decide +kernel)).mono ?_
  rintro e w1 ⟨rfl, b1⟩
  go_wp2_with fail
  refine (parse_mon _ _ (by decide +kernel)).mono ?_
  rintro e w2 ⟨rfl, b2⟩
  have a2 := b1.trans (b2.mono b1.size)
  have z2 := a2.size
  go_wp2_with fail
  go_ret
  refine ⟨rfl, ?_⟩
  repeat (first | exact Below.refl _ _ | assumption | refine below_drewN ?_ _ | refine Below.drew ?_ | refine Below.setCell ?_ (by first | omega | (simp; done) | (simp; omega)) _ | refine Below.alloc ?_ (by first | omega | (simp; done) | (simp; omega)) _)
theorem length_is (y m L : Int) (w : World) (h1 : 1 ≤ y) (h2 : y ≤ 9999) (h3 : 1 ≤ m) (h4 : m ≤ 12) (hL : Cal.len y m = L) :
    Calls Tryd.prog 13 #[.int .i64 y, .int .i64 m] w fun e w' => e = .returned (.tuple #[.int .i64 L, .int .i64 0]) ∧ w = w' := by
  subst hL
  exact length_yes y m w h1 h2 h3 h4
theorem upto_week (x d : Int) : Dy.upto (x - 7) d = Dy.upto x d - 7 := by unfold Dy.upto; omega
theorem last_right (dow : Int) (h1 : 0 ≤ dow) (h2 : dow ≤ 6) : Dy.right 1 0 dow = true := (Dy.right_iff _ _ _).2 (.inr (.inl ⟨rfl, rfl, h1, h2⟩))
theorem from_right (n dow : Int) (h1 : 1 ≤ n) (h2 : n ≤ 31) (h3 : 0 ≤ dow) (h4 : dow ≤ 6) : Dy.right 2 n dow = true := (Dy.right_iff _ _ _).2 (.inr (.inr ⟨.inl rfl, h1, h2, h3, h4⟩))
theorem upto_right (n dow : Int) (h1 : 1 ≤ n) (h2 : n ≤ 31) (h3 : 0 ≤ dow) (h4 : dow ≤ 6) : Dy.right 3 n dow = true := (Dy.right_iff _ _ _).2 (.inr (.inr ⟨.inr rfl, h1, h2, h3, h4⟩))
theorem last_wrong (dow : Int) (h : ¬ (0 ≤ dow ∧ dow ≤ 6)) : Dy.right 1 0 dow = false := by
  cases hr : Dy.right 1 0 dow with
  | false => rfl
  | true => rw [Dy.right_iff] at hr; omega
end Go.Proofs.YtgeelolbgjmfgaaDoor
