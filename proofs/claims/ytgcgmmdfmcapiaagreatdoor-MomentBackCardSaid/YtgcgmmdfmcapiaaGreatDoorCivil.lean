/- The contracts of package civil's functions: each call returns what the calendar's arithmetic says, for every input, and writes nothing that was there. -/
import Derived.Test.YtgcgmmdfmcapiaaGreatDoorProg
import Derived.Test.YtgcgmmdfmcapiaaGreatDoorCal
import Derived.WalkKit
import Derived.Lib.Hide
import Derived.Deep.QuietTactic
import Derived.BigQuiet
import Derived.Outline
namespace Go.Proofs.YtgcgmmdfmcapiaaGreatDoor
open Go.RowKit

/-- Is it a leap year? -/
def lpB (y : Int) : Bool := decide (Cal.lp y = 1)
theorem tmod_zero (y k : Int) : (y.tmod k = 0) ↔ (y % k = 0) := by
  rw [← Int.dvd_iff_tmod_eq_zero, Int.dvd_iff_emod_eq_zero]
theorem tmod_yes {y k : Int} (h : y % k = 0) : (y.tmod k == 0) = true ∧ (y.tmod k != 0) = false := by
  have := (tmod_zero y k).2 h
  simp [this]
theorem tmod_no {y k : Int} (h : ¬ y % k = 0) : (y.tmod k == 0) = false ∧ (y.tmod k != 0) = true := by
  have := fun e => h ((tmod_zero y k).1 e)
  exact ⟨beq_eq_false_iff_ne.2 this, bne_iff_ne.2 this⟩
theorem lpB_of (y : Int) : lpB y = (y % 4 == 0 && (y % 100 != 0 || y % 400 == 0)) := by
  have := Cal.lp_eq y
  unfold lpB
  rw [Bool.eq_iff_iff]
  simp
  omega
set_option maxHeartbeats 400000 in
theorem leap_any (y : Int) (w : World) : Calls Tryz.prog 67 #[.int .i64 y] w fun e w' => e = .returned (.bool (lpB y)) ∧ w = w' := by
  have hl := Lib.hid (lpB_of y)
  by_cases h4 : y % 4 = 0 <;> by_cases h100 : y % 100 = 0 <;> by_cases h400 : y % 400 = 0
  all_goals
    have H := Lib.hid (And.intro h4 (And.intro h100 h400))
    obtain ⟨a4, b4⟩ := (by first | exact tmod_yes h4 | exact tmod_no h4 : _ ∧ _)
    obtain ⟨a100, b100⟩ := (by first | exact tmod_yes h100 | exact tmod_no h100 : _ ∧ _)
    obtain ⟨a400, b400⟩ := (by first | exact tmod_yes h400 | exact tmod_no h400 : _ ∧ _)
    clear h4 h100 h400
    go_enter Tryz.func67, Tryz.ntmps67
    go_wp2
    go_ret
    obtain ⟨h4, h100, h400⟩ := H.out
    exact ⟨by rw [hl.out]; simp [h4, h100, h400], rfl⟩
theorem below_drewN {B : Nat} {a w : World} (h : Below B a w) (n : Nat) : Below B a (w.drewN n) := ⟨h.os, h.tape, h.output, h.size, h.block⟩
theorem bcell {W w1 : World} (hb : Below W.heap.size W w1) : (∀ b o, b < W.heap.size → w1.cell? ⟨b, o, none⟩ = W.cell? ⟨b, o, none⟩) ∧ (∀ b o, b < W.heap.size → w1.frozen? ⟨b, o, none⟩ = W.frozen? ⟨b, o, none⟩) :=
  ⟨fun b o h => hb.cell (p := ⟨b, o, none⟩) h, fun b o h => hb.frozen (p := ⟨b, o, none⟩) h⟩
theorem quiet_left {P : Program} {f : FuncId} {args : Array Value} {w : World} {n : Nat} {v : Value}
    (h : Calls P f args (w.drewN n) fun e w' => e = .returned v ∧ w.drewN n = w') : Calls P f args (w.drewN n) fun e w'' => e = .returned v ∧ ∃ m, w'' = w.drewN m :=
  h.mono fun _ _ ⟨he, hm⟩ => ⟨he, n, hm.symm⟩
theorem lpB_iff (y : Int) : (lpB y = true ∧ Cal.lp y = 1) ∨ (lpB y = false ∧ Cal.lp y = 0) := by
  have := Cal.lp_eq y
  unfold lpB
  simp
  omega
theorem len_lit (y m : Int) (h3 : 1 ≤ m) (h4 : m ≤ 12) : (m = 2 ∧ lpB y = true ∧ Cal.len y m = 29) ∨ (m = 2 ∧ lpB y = false ∧ Cal.len y m = 28) ∨ ((m = 4 ∨ m = 6 ∨ m = 9 ∨ m = 11) ∧ Cal.len y m = 30) ∨ ((m = 1 ∨ m = 3 ∨ m = 5 ∨ m = 7 ∨ m = 8 ∨ m = 10 ∨ m = 12) ∧ Cal.len y m = 31) := by
  have hb := lpB_iff y
  have : m = 1 ∨ m = 2 ∨ m = 3 ∨ m = 4 ∨ m = 5 ∨ m = 6 ∨ m = 7 ∨ m = 8 ∨ m = 9 ∨ m = 10 ∨ m = 11 ∨ m = 12 := by omega
  unfold Cal.len
  rcases hb with ⟨h, h'⟩ | ⟨h, h'⟩ <;> rcases this with rfl | rfl | rfl | rfl | rfl | rfl | rfl | rfl | rfl | rfl | rfl | rfl <;> simp [h, h']
theorem length_yes (y m : Int) (w : World) (h1 : 1 ≤ y) (h2 : y ≤ 9999) (h3 : 1 ≤ m) (h4 : m ≤ 12) :
    Calls Tryz.prog 38 #[.int .i64 y, .int .i64 m] w fun e w' => e = .returned (.tuple #[.int .i64 (Cal.len y m), .int .i64 0]) ∧ w = w' := by
  rcases len_lit y m h3 h4 with ⟨rfl, hb, hl⟩ | ⟨rfl, hb, hl⟩ | ⟨rfl | rfl | rfl | rfl, hl⟩ | ⟨rfl | rfl | rfl | rfl | rfl | rfl | rfl, hl⟩
  all_goals
    rw [hl]
    clear hl
    try have HB := Lib.hid hb
    try clear hb
    go_enter Tryz.func38, Tryz.ntmps38
    go_wp2_with (first | (go_at_call 67; refine (leap_any _ _).mono ?_; rintro e w' ⟨rfl, rfl⟩; rw [HB.out]))
    go_ret2
    exact ⟨rfl, rfl⟩
theorem length_no (y m : Int) (w : World) (h : ¬ (1 ≤ y ∧ y ≤ 9999 ∧ 1 ≤ m ∧ m ≤ 12)) :
    Calls Tryz.prog 38 #[.int .i64 y, .int .i64 m] w fun e w' => e = .returned (.tuple #[.int .i64 0, .int .i64 1]) ∧ w = w' := by
  by_cases h1 : y < 1
  · clear h
    go_enter Tryz.func38, Tryz.ntmps38
    go_wp2
    go_ret2
    exact ⟨rfl, rfl⟩
  · by_cases h2 : 9999 < y
    · clear h
      go_enter Tryz.func38, Tryz.ntmps38
      go_wp2
      go_ret2
      exact ⟨rfl, rfl⟩
    · by_cases h3 : m < 1
      · clear h
        go_enter Tryz.func38, Tryz.ntmps38
        go_wp2
        go_ret2
        exact ⟨rfl, rfl⟩
      · have h4 : 12 < m := by omega
        clear h
        go_enter Tryz.func38, Tryz.ntmps38
        go_wp2
        go_ret2
        exact ⟨rfl, rfl⟩
theorem fromMarch_lo (y m d : Int) (w : World) (h1 : 1 ≤ y) (h2 : y ≤ 10000) (h3 : 1 ≤ m) (h4 : m < 3) :
    Calls Tryz.prog 85 #[.agg #[.int .i64 y, .int .i64 m, .int .i64 d]] w fun e w' => e = .returned (.tuple #[.int .i64 (y - 1), .int .i64 (m + 9)]) ∧ Below w.heap.size w w' := by
  go_enter Tryz.func85, Tryz.ntmps85
  go_wp2
  go_quiet (fail)
  go_wp2
  go_ret2
  exact ⟨rfl, below_drewN ((Below.refl _ _).alloc (Nat.le_refl _) _) _⟩
theorem fromMarch_hi (y m d : Int) (w : World) (_h1 : 1 ≤ y) (_h2 : y ≤ 10000) (h3 : 3 ≤ m) (h4 : m ≤ 12) :
    Calls Tryz.prog 85 #[.agg #[.int .i64 y, .int .i64 m, .int .i64 d]] w fun e w' => e = .returned (.tuple #[.int .i64 y, .int .i64 (m - 3)]) ∧ Below w.heap.size w w' := by
  go_enter Tryz.func85, Tryz.ntmps85
  go_wp2
  go_quiet (fail)
  go_wp2
  go_ret2
  exact ⟨rfl, below_drewN ((Below.refl _ _).alloc (Nat.le_refl _) _) _⟩
theorem ahead_any (y : Int) (w : World) (h1 : 0 ≤ y) (h2 : y ≤ 400) :
    Calls Tryz.prog 86 #[.int .i64 y] w fun e w' => e = .returned (.int .i64 (Cal.ahead y)) ∧ w = w' := by
  go_enter Tryz.func86, Tryz.ntmps86
  go_wp2
  go_ret
  exact ⟨rfl, rfl⟩
theorem aheadMonth_any (m : Int) (w : World) (h1 : 0 ≤ m) (h2 : m ≤ 12) :
    Calls Tryz.prog 87 #[.int .i64 m] w fun e w' => e = .returned (.int .i64 ((153 * m + 2) / 5)) ∧ w = w' := by
  go_enter Tryz.func87, Tryz.ntmps87
  go_wp2
  go_ret
  exact ⟨rfl, rfl⟩
theorem ret_int {k : IntKind} {a b : Int} (h : a = b) : Ending.returned (.int k a) = .returned (.int k b) := by rw [h]
theorem ahead_bd (y : Int) (h1 : 0 ≤ y) (h2 : y ≤ 400) : 0 ≤ Cal.ahead y ∧ Cal.ahead y ≤ 146097 := by unfold Cal.ahead; omega
theorem number_any (y m d : Int) (w : World) (h1 : 1 ≤ y) (h2 : y ≤ 10000) (h3 : 1 ≤ m) (h4 : m ≤ 12) (h5 : 0 ≤ d) (h6 : d ≤ 31) :
    Calls Tryz.prog 69 #[.agg #[.int .i64 y, .int .i64 m, .int .i64 d]] w fun e w' => e = .returned (.int .i64 (Cal.num y m d)) ∧ Below w.heap.size w w' := by
  by_cases hm : m < 3
  · have hlo := Lib.hid (Cal.numM_lo y m d h3 hm)
    have ha := ahead_bd ((y - 1) % 400) (by omega) (by omega)
    go_enter Tryz.func69, Tryz.ntmps69
    go_wp2_with fail
    refine (fromMarch_lo _ _ _ _ (by omega) (by omega) (by omega) (by omega)).mono ?_
    rintro e w' ⟨rfl, hb⟩
    obtain ⟨hc, hf⟩ := bcell hb
    go_wp2_with fail
    go_quiet ((first | (go_at_call 86; exact quiet_left (ahead_any _ _ (by omega) (by omega))) | (go_at_call 87; exact quiet_left (aheadMonth_any _ _ (by omega) (by omega)))))
    go_wp2
    go_ret
    exact ⟨ret_int hlo.out, below_drewN (((Below.refl _ _).alloc (Nat.le_refl _) _).trans (hb.mono (by simp))) _⟩
  · have hhi := Lib.hid (Cal.numM_hi y m d (by omega))
    have ha := ahead_bd (y % 400) (by omega) (by omega)
    go_enter Tryz.func69, Tryz.ntmps69
    go_wp2_with fail
    refine (fromMarch_hi _ _ _ _ (by omega) (by omega) (by omega) (by omega)).mono ?_
    rintro e w' ⟨rfl, hb⟩
    obtain ⟨hc, hf⟩ := bcell hb
    go_wp2_with fail
    go_quiet ((first | (go_at_call 86; exact quiet_left (ahead_any _ _ (by omega) (by omega))) | (go_at_call 87; exact quiet_left (aheadMonth_any _ _ (by omega) (by omega)))))
    go_wp2
    go_ret
    exact ⟨ret_int hhi.out, below_drewN (((Below.refl _ _).alloc (Nat.le_refl _) _).trans (hb.mono (by simp))) _⟩
theorem newYear_any (y : Int) (w : World) (h1 : 1 ≤ y) (h2 : y ≤ 10000) :
    Calls Tryz.prog 71 #[.int .i64 y] w fun e w' => e = .returned (.int .i64 (Cal.fst y)) ∧ Below w.heap.size w w' := by
  have hn := Lib.hid (show Cal.num y 1 1 = Cal.fst y by unfold Cal.num; rw [Cal.cum_one]; omega)
  go_enter Tryz.func71, Tryz.ntmps71
  go_wp2_with fail
  refine (number_any _ _ _ _ (by omega) (by omega) (by omega) (by omega) (by omega) (by omega)).mono ?_
  rintro e w' ⟨rfl, hb⟩
  go_wp2
  go_ret
  exact ⟨ret_int hn.out, hb⟩
end Go.Proofs.YtgcgmmdfmcapiaaGreatDoor
