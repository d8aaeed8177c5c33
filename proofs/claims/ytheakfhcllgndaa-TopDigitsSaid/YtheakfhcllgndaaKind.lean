/- Contracts of package scan: kindOf, kindAt. -/
import Derived.Test.YtheakfhcllgndaaUnh2
namespace Go.Proofs.Ytheakfhcllgndaa
open Go.RowKit
/-- What a byte does in a line: 0 it belongs to a field, 1 it parts fields, 2 it may be in a comment alone, 3 quotes, 4 it begins a comment. -/
def knd (c : UInt8) : Nat := if c = 32 ∨ c = 9 ∨ c = 13 then 1 else if c.toNat < 32 ∨ c = 127 then 2 else if c = 34 then 3 else if c = 35 then 4 else 0
theorem knd_cases (c : UInt8) : (knd c = 1 ∧ (c.toNat = 32 ∨ c.toNat = 9 ∨ c.toNat = 13)) ∨ (knd c = 2 ∧ c.toNat ≠ 32 ∧ c.toNat ≠ 9 ∧ c.toNat ≠ 13 ∧ (c.toNat < 32 ∨ c.toNat = 127)) ∨ (knd c = 3 ∧ c.toNat = 34) ∨ (knd c = 4 ∧ c.toNat = 35) ∨ (knd c = 0 ∧ 32 < c.toNat ∧ c.toNat ≠ 127 ∧ c.toNat ≠ 34 ∧ c.toNat ≠ 35) := by
  revert c
  apply Hx.all_bytes
  decide +kernel
theorem kindOf_any (c : UInt8) (w : World) : Calls Try.prog 33 #[.int .u8 (c.toNat : Int)] w fun e w' => e = .returned (.int .i64 ((knd c : Nat) : Int)) ∧ w = w' := by
  have hc := c.toNat_lt
  rcases knd_cases c with ⟨hk, h⟩ | ⟨hk, h1, h2, h3, h⟩ | ⟨hk, h⟩ | ⟨hk, h⟩ | ⟨hk, h1, h2, h3, h4⟩
  · rw [hk]
    generalize c.toNat = x at *
    clear hk
    rcases h with rfl | rfl | rfl
    all_goals
      go_enter Try.func33, Try.ntmps33
      go_wp2
      go_ret
      exact ⟨rfl, rfl⟩
  · rw [hk]
    generalize c.toNat = x at *
    clear hk
    have t1 : ((x : Int) == 32) = false := by rw [beq_eq_false_iff_ne]; omega
    have t2 : ((x : Int) == 9) = false := by rw [beq_eq_false_iff_ne]; omega
    have t3 : ((x : Int) == 13) = false := by rw [beq_eq_false_iff_ne]; omega
    clear h1 h2 h3
    rcases h with h | h
    · have h' : (x : Int) < 32 := by omega
      go_enter Try.func33, Try.ntmps33
      go_wp2
      go_ret
      exact ⟨rfl, rfl⟩
    · subst h
      clear t1 t2 t3
      go_enter Try.func33, Try.ntmps33
      go_wp2
      go_ret
      exact ⟨rfl, rfl⟩
  · rw [hk, h]
    go_enter Try.func33, Try.ntmps33
    go_wp2
    go_ret
    exact ⟨rfl, rfl⟩
  · rw [hk, h]
    go_enter Try.func33, Try.ntmps33
    go_wp2
    go_ret
    exact ⟨rfl, rfl⟩
  · rw [hk]
    generalize c.toNat = x at *
    clear hk
    have t1 : ((x : Int) == 32) = false := by rw [beq_eq_false_iff_ne]; omega
    have t2 : ((x : Int) == 9) = false := by rw [beq_eq_false_iff_ne]; omega
    have t3 : ((x : Int) == 13) = false := by rw [beq_eq_false_iff_ne]; omega
    have t4 : ((x : Int) == 127) = false := by rw [beq_eq_false_iff_ne]; omega
    have t5 : ((x : Int) == 34) = false := by rw [beq_eq_false_iff_ne]; omega
    have t6 : ((x : Int) == 35) = false := by rw [beq_eq_false_iff_ne]; omega
    have h' : 32 < (x : Int) := by omega
    clear h2 h3 h4
    go_enter Try.func33, Try.ntmps33
    go_wp2
    go_ret
    exact ⟨rfl, rfl⟩
theorem kindAt_in (S : ByteArray) (k : Nat) (hk : k < S.size) (_hl : S.size ≤ 4294967296) (w : World) : Calls Try.prog 37 #[.string S, .int .i64 k] w fun e w' => e = .returned (.int .i64 ((knd S[k] : Nat) : Int)) ∧ w = w' := by
  have hi := idx_str S k hk
  go_enter Try.func37, Try.ntmps37
  go_wp2_with fail
  refine (kindOf_any S[k] _).mono ?_
  rintro e w' ⟨rfl, rfl⟩
  go_wp2_with fail
  go_ret
  exact ⟨rfl, rfl⟩
theorem kindAt_end (S : ByteArray) (k : Nat) (hk : S.size ≤ k) (_hl : k ≤ 4294967296) (w : World) : Calls Try.prog 37 #[.string S, .int .i64 k] w fun e w' => e = .returned (.int .i64 5) ∧ w = w' := by
  go_enter Try.func37, Try.ntmps37
  go_wp2_with fail
  go_ret
  exact ⟨rfl, rfl⟩
end Go.Proofs.Ytheakfhcllgndaa
