/- The contract of clock.Add. -/
import Derived.Test.YtoaemkljlphieaaDoorClock
namespace Go.Proofs.YtoaemkljlphieaaDoor
open Go.RowKit
theorem isNear_yes (t : Int) (w : World) (h1 : -1099511627776 ≤ t) (h2 : t ≤ 1099511627776) :
    Calls Tryd.prog 24 #[.int .i64 t] w fun e w' => e = .returned (.bool true) ∧ w = w' := by
  go_enter Tryd.func24, Tryd.ntmps24
  go_wp2
  go_ret
  exact ⟨rfl, rfl⟩
theorem isNear_no (t : Int) (w : World) (h : t < -1099511627776 ∨ 1099511627776 < t) :
    Calls Tryd.prog 24 #[.int .i64 t] w fun e w' => e = .returned (.bool false) ∧ w = w' := by
  rcases h with h | h
  · go_enter Tryd.func24, Tryd.ntmps24
    go_wp2
    go_ret
    exact ⟨rfl, rfl⟩
  · have h' : -1099511627776 ≤ t := by omega
    have h2 : decide (t ≤ 1099511627776) = false := by simp; omega
    go_enter Tryd.func24, Tryd.ntmps24
    go_wp2
    go_ret
    exact ⟨rfl, rfl⟩
/-- Both near, and their sum. -/
def Near (a b : Int) : Prop := -1099511627776 ≤ a ∧ a ≤ 1099511627776 ∧ -1099511627776 ≤ b ∧ b ≤ 1099511627776 ∧ -1099511627776 ≤ a + b ∧ a + b ≤ 1099511627776
theorem add_yes (a b : Int) (w : World) (h : Near a b) :
    Calls Tryd.prog 13 #[.int .i64 a, .int .i64 b] w fun e w' => e = .returned (.tuple #[.int .i64 (a + b), .int .i64 0]) ∧ w = w' := by
  obtain ⟨h1, h2, h3, h4, h5, h6⟩ := h
  go_enter Tryd.func13, Tryd.ntmps13
  go_wp2_with fail
  refine (isNear_yes a _ h1 h2).mono ?_
  rintro e w' ⟨rfl, rfl⟩
  go_wp2_with fail
  refine (isNear_yes b _ h3 h4).mono ?_
  rintro e w' ⟨rfl, rfl⟩
  go_wp2_with fail
  refine (isNear_yes (a + b) _ h5 h6).mono ?_
  rintro e w' ⟨rfl, rfl⟩
  go_wp2_with fail
  go_ret2
  exact ⟨rfl, rfl⟩
theorem add_no (a b : Int) (w : World) (h : ¬ Near a b) :
    Calls Tryd.prog 13 #[.int .i64 a, .int .i64 b] w fun e w' => e = .returned (.tuple #[.int .i64 0, .int .i64 1]) ∧ w = w' := by
  by_cases ha : -1099511627776 ≤ a ∧ a ≤ 1099511627776
  · by_cases hb : -1099511627776 ≤ b ∧ b ≤ 1099511627776
    · have hs := Lib.hid (show a + b < -1099511627776 ∨ 1099511627776 < a + b by unfold Near at h; omega)
      obtain ⟨a1, a2⟩ := ha
      obtain ⟨b1, b2⟩ := hb
      clear h
      go_enter Tryd.func13, Tryd.ntmps13
      go_wp2_with fail
      refine (isNear_yes a _ a1 a2).mono ?_
      rintro e w' ⟨rfl, rfl⟩
      go_wp2_with fail
      refine (isNear_yes b _ b1 b2).mono ?_
      rintro e w' ⟨rfl, rfl⟩
      go_wp2_with fail
      refine (isNear_no (a + b) _ hs.out).mono ?_
      rintro e w' ⟨rfl, rfl⟩
      go_wp2_with fail
      go_ret2
      exact ⟨rfl, rfl⟩
    · have hs := Lib.hid (show b < -1099511627776 ∨ 1099511627776 < b by omega)
      obtain ⟨a1, a2⟩ := ha
      clear h hb
      go_enter Tryd.func13, Tryd.ntmps13
      go_wp2_with fail
      refine (isNear_yes a _ a1 a2).mono ?_
      rintro e w' ⟨rfl, rfl⟩
      go_wp2_with fail
      refine (isNear_no b _ hs.out).mono ?_
      rintro e w' ⟨rfl, rfl⟩
      go_wp2_with fail
      go_ret2
      exact ⟨rfl, rfl⟩
  · have hs := Lib.hid (show a < -1099511627776 ∨ 1099511627776 < a by omega)
    clear h ha
    go_enter Tryd.func13, Tryd.ntmps13
    go_wp2_with fail
    refine (isNear_no a _ hs.out).mono ?_
    rintro e w' ⟨rfl, rfl⟩
    go_wp2_with fail
    go_ret2
    exact ⟨rfl, rfl⟩
end Go.Proofs.YtoaemkljlphieaaDoor
