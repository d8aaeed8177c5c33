/- Contracts of package little: Unhex. -/
import Derived.Test.YtheakfhcllgndaaHex
import Derived.OwnWalk
import Derived.BigQuiet
namespace Go.Proofs.Ytheakfhcllgndaa
open Go.RowKit
theorem digit_any (c : UInt8) (w : World) : Calls Try.prog 26 #[.int .u8 (c.toNat : Int)] w fun e w' => e = .returned (.int .i64 (Hx.val c)) ∧ w = w' := by
  have hc := c.toNat_lt
  unfold Hx.val
  by_cases h1 : 48 ≤ c.toNat ∧ c.toNat ≤ 57
  · rw [if_pos h1]
    obtain ⟨a, b⟩ := h1
    go_enter Try.func26, Try.ntmps26
    go_wp2
    go_ret
    exact ⟨rfl, rfl⟩
  · rw [if_neg h1]
    by_cases h2 : 97 ≤ c.toNat ∧ c.toNat ≤ 102
    · rw [if_pos h2]
      clear h1
      have a : 97 ≤ (c.toNat : Int) := by omega
      have b : (c.toNat : Int) ≤ 102 := by omega
      have t1 : decide ((c.toNat : Int) ≤ 57) = false := by simp; omega
      go_enter Try.func26, Try.ntmps26
      go_wp2
      go_ret
      exact ⟨rfl, rfl⟩
    · rw [if_neg h2]
      by_cases h3 : 65 ≤ c.toNat ∧ c.toNat ≤ 70
      · rw [if_pos h3]
        clear h1 h2
        have a : 65 ≤ (c.toNat : Int) := by omega
        have b : (c.toNat : Int) ≤ 70 := by omega
        have t1 : decide ((c.toNat : Int) ≤ 57) = false := by simp; omega
        have t2 : decide (97 ≤ (c.toNat : Int)) = false := by simp; omega
        go_enter Try.func26, Try.ntmps26
        go_wp2
        go_ret
        exact ⟨rfl, rfl⟩
      · rw [if_neg h3]
        have t1 : (decide (48 ≤ c.toNat) && decide (c.toNat ≤ 57)) = false := by simp; omega
        have t2 : (decide (97 ≤ c.toNat) && decide (c.toNat ≤ 102)) = false := by simp; omega
        have t3 : (decide (65 ≤ c.toNat) && decide (c.toNat ≤ 70)) = false := by simp; omega
        have hq : ¬ (48 ≤ (c.toNat : Int) ∧ (c.toNat : Int) ≤ 57) := by omega
        clear h1 h2 h3
        go_enter Try.func26, Try.ntmps26
        go_wp2
        all_goals (first | (exfalso; simp at *; omega) | (go_ret; exact ⟨rfl, rfl⟩))
end Go.Proofs.Ytheakfhcllgndaa
