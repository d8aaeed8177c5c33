/- Texts that are few, and short: 'small' of the laws' packages. -/
import Derived.Test.YtigmbkcjmlpfoaaGreatDoorMb
namespace Go.Proofs.YtigmbkcjmlpfoaaGreatDoor
open Go.RowKit
def smB30 (n : Nat) (L : List ByteArray) : Bool := decide (n ≤ 30 ∧ ∀ i, i < n → (L.getD i ByteArray.empty).size ≤ 1000)
set_option maxHeartbeats 1000000 in
theorem small_solsticelaw09 (A : Option Addr) (n c : Nat) (L : List ByteArray) (hn : n ≤ 9223372036854775807) (w : World) (hz : ∀ i, i < n → (L.getD i ByteArray.empty).size ≤ 9223372036854775807) (B : Nat) (hS : Sl w B A n (fun i => .string (L.getD i ByteArray.empty))) :
    Calls Tryz.prog 8 #[.slice A n c] w fun e w' => e = .returned (.bool (smB30 n L)) ∧ w = w' := by
  have HZ := Lib.hid hz
  clear hz
  go_enter Tryz.func8, Tryz.ntmps8
  go_wp2_with fail
  go_loop [7] (fun i => ∃ k : Nat, k ≤ n ∧ k ≤ 30 ∧ i = .int .i64 k ∧ Hid (∀ j, j < k → (L.getD j ByteArray.empty).size ≤ 1000)) (fun i => n - (intOf i).toNat)
  case atStart => exact ⟨0, Nat.zero_le _, Nat.zero_le _, rfl, Lib.hid fun j hj => absurd hj (by omega)⟩
  case round =>
    obtain ⟨k, hk, hkM, rfl, hA⟩ := hrel
    by_cases hlt : k < n
    · obtain ⟨ad, rfl, hal, hc⟩ := hS.at_ hlt
      change w.cell? (ad.add k) = some (.string (L.getD k ByteArray.empty)) at hc
      have hz := HZ.out k hlt
      by_cases hM : k = 30
      · have HE := Lib.hid (show false = smB30 n L by unfold smB30; symm; rw [decide_eq_false_iff_not]; omega)
        have t1 : ((k : Int) == 30) = true := by rw [beq_iff_eq]; omega
        generalize L.getD k ByteArray.empty = X at *
        clear hM
        go_wp2_with fail
        go_ret
        exact ⟨ret_bool HE.out, rfl⟩
      · have t1 : ((k : Int) == 30) = false := by rw [beq_eq_false_iff_ne]; omega
        by_cases hx : (L.getD k ByteArray.empty).size ≤ 1000
        · have HA := Lib.hid (show ∀ j, j < k + 1 → (L.getD j ByteArray.empty).size ≤ 1000 from fun j hj => by
            rcases Nat.lt_or_ge j k with h | h
            · exact hA.out j h
            · obtain rfl : j = k := by omega
              exact hx)
          have hk1 : k + 1 ≤ 30 := by omega
          generalize L.getD k ByteArray.empty = X at *
          clear hM hA
          go_wp2_with fail
          go_round
          case rel => exact ⟨k + 1, by omega, hk1, by go_num, HA⟩
          case measure => simp [intOf]; omega
        · have HE := Lib.hid (show false = smB30 n L by unfold smB30; symm; rw [decide_eq_false_iff_not]; exact fun h => hx (h.2 k hlt))
          have hx2 : 1000 < (L.getD k ByteArray.empty).size := by omega
          generalize L.getD k ByteArray.empty = X at *
          clear hM hA hx
          go_wp2_with fail
          go_ret
          exact ⟨ret_bool HE.out, rfl⟩
    · obtain rfl : k = n := by omega
      have HE := Lib.hid (show true = smB30 k L by unfold smB30; symm; rw [decide_eq_true_eq]; exact ⟨hkM, hA.out⟩)
      clear hA
      go_wp2_with fail
      go_ret
      exact ⟨ret_bool HE.out, rfl⟩
theorem small_solsticelaw09_is (A : Option Addr) (n c : Nat) (L : List ByteArray) (v : Bool) (hn : n ≤ 9223372036854775807) (w : World) (hz : ∀ i, i < n → (L.getD i ByteArray.empty).size ≤ 9223372036854775807) (B : Nat) (hS : Sl w B A n (fun i => .string (L.getD i ByteArray.empty))) (hv : smB30 n L = v) :
    Calls Tryz.prog 8 #[.slice A n c] w fun e w' => e = .returned (.bool v) ∧ w = w' := by
  subst hv
  exact small_solsticelaw09 A n c L hn w hz B hS
set_option maxHeartbeats 1000000 in
theorem small_solsticelaw10 (A : Option Addr) (n c : Nat) (L : List ByteArray) (hn : n ≤ 9223372036854775807) (w : World) (hz : ∀ i, i < n → (L.getD i ByteArray.empty).size ≤ 9223372036854775807) (B : Nat) (hS : Sl w B A n (fun i => .string (L.getD i ByteArray.empty))) :
    Calls Tryz.prog 13 #[.slice A n c] w fun e w' => e = .returned (.bool (smB30 n L)) ∧ w = w' := by
  have HZ := Lib.hid hz
  clear hz
  go_enter Tryz.func13, Tryz.ntmps13
  go_wp2_with fail
  go_loop [7] (fun i => ∃ k : Nat, k ≤ n ∧ k ≤ 30 ∧ i = .int .i64 k ∧ Hid (∀ j, j < k → (L.getD j ByteArray.empty).size ≤ 1000)) (fun i => n - (intOf i).toNat)
  case atStart => exact ⟨0, Nat.zero_le _, Nat.zero_le _, rfl, Lib.hid fun j hj => absurd hj (by omega)⟩
  case round =>
    obtain ⟨k, hk, hkM, rfl, hA⟩ := hrel
    by_cases hlt : k < n
    · obtain ⟨ad, rfl, hal, hc⟩ := hS.at_ hlt
      change w.cell? (ad.add k) = some (.string (L.getD k ByteArray.empty)) at hc
      have hz := HZ.out k hlt
      by_cases hM : k = 30
      · have HE := Lib.hid (show false = smB30 n L by unfold smB30; symm; rw [decide_eq_false_iff_not]; omega)
        have t1 : ((k : Int) == 30) = true := by rw [beq_iff_eq]; omega
        generalize L.getD k ByteArray.empty = X at *
        clear hM
        go_wp2_with fail
        go_ret
        exact ⟨ret_bool HE.out, rfl⟩
      · have t1 : ((k : Int) == 30) = false := by rw [beq_eq_false_iff_ne]; omega
        by_cases hx : (L.getD k ByteArray.empty).size ≤ 1000
        · have HA := Lib.hid (show ∀ j, j < k + 1 → (L.getD j ByteArray.empty).size ≤ 1000 from fun j hj => by
            rcases Nat.lt_or_ge j k with h | h
            · exact hA.out j h
            · obtain rfl : j = k := by omega
              exact hx)
          have hk1 : k + 1 ≤ 30 := by omega
          generalize L.getD k ByteArray.empty = X at *
          clear hM hA
          go_wp2_with fail
          go_round
          case rel => exact ⟨k + 1, by omega, hk1, by go_num, HA⟩
          case measure => simp [intOf]; omega
        · have HE := Lib.hid (show false = smB30 n L by unfold smB30; symm; rw [decide_eq_false_iff_not]; exact fun h => hx (h.2 k hlt))
          have hx2 : 1000 < (L.getD k ByteArray.empty).size := by omega
          generalize L.getD k ByteArray.empty = X at *
          clear hM hA hx
          go_wp2_with fail
          go_ret
          exact ⟨ret_bool HE.out, rfl⟩
    · obtain rfl : k = n := by omega
      have HE := Lib.hid (show true = smB30 k L by unfold smB30; symm; rw [decide_eq_true_eq]; exact ⟨hkM, hA.out⟩)
      clear hA
      go_wp2_with fail
      go_ret
      exact ⟨ret_bool HE.out, rfl⟩
theorem small_solsticelaw10_is (A : Option Addr) (n c : Nat) (L : List ByteArray) (v : Bool) (hn : n ≤ 9223372036854775807) (w : World) (hz : ∀ i, i < n → (L.getD i ByteArray.empty).size ≤ 9223372036854775807) (B : Nat) (hS : Sl w B A n (fun i => .string (L.getD i ByteArray.empty))) (hv : smB30 n L = v) :
    Calls Tryz.prog 13 #[.slice A n c] w fun e w' => e = .returned (.bool v) ∧ w = w' := by
  subst hv
  exact small_solsticelaw10 A n c L hn w hz B hS
end Go.Proofs.YtigmbkcjmlpfoaaGreatDoor
