/- Contracts of package day: isDay, isWeekday, isRight, Check, number, cutLast, onWeekday, besideDay. -/
import Derived.Test.YtgcgmmdfmcapiaaDoorDy
namespace Go.Proofs.YtgcgmmdfmcapiaaDoor
open Go.RowKit
theorem isDay_yes (n : Int) (w : World) (h1 : 1 ≤ n) (h2 : n ≤ 31) : Calls Tryd.prog 39 #[.int .i64 n] w fun e w' => e = .returned (.bool true) ∧ w = w' := by
  go_enter Tryd.func39, Tryd.ntmps39
  go_wp2
  go_ret
  exact ⟨rfl, rfl⟩
theorem isDay_no (n : Int) (w : World) (h : n < 1 ∨ 31 < n) : Calls Tryd.prog 39 #[.int .i64 n] w fun e w' => e = .returned (.bool false) ∧ w = w' := by
  rcases h with h | h
  · go_enter Tryd.func39, Tryd.ntmps39
    go_wp2
    go_ret
    exact ⟨rfl, rfl⟩
  · have h' : 1 ≤ n := by omega
    have t1 : decide (n ≤ 31) = false := by simp; omega
    go_enter Tryd.func39, Tryd.ntmps39
    go_wp2
    go_ret
    exact ⟨rfl, rfl⟩
theorem isWeekday_yes (n : Int) (w : World) (h1 : 0 ≤ n) (h2 : n ≤ 6) : Calls Tryd.prog 40 #[.int .i64 n] w fun e w' => e = .returned (.bool true) ∧ w = w' := by
  have h3 : n < 7 := by omega
  go_enter Tryd.func40, Tryd.ntmps40
  go_wp2
  go_ret
  exact ⟨rfl, rfl⟩
theorem isWeekday_no (n : Int) (w : World) (h : n < 0 ∨ 6 < n) : Calls Tryd.prog 40 #[.int .i64 n] w fun e w' => e = .returned (.bool false) ∧ w = w' := by
  rcases h with h | h
  · go_enter Tryd.func40, Tryd.ntmps40
    go_wp2
    go_ret
    exact ⟨rfl, rfl⟩
  · have h' : 0 ≤ n := by omega
    have t1 : decide (n < 7) = false := by simp; omega
    go_enter Tryd.func40, Tryd.ntmps40
    go_wp2
    go_ret
    exact ⟨rfl, rfl⟩
theorem dayk (k : Int) (h0 : k ≠ 0) (h1 : k ≠ 1) (h2 : k ≠ 2) (h3 : k ≠ 3) : (k == 0) = false ∧ (k == 1) = false ∧ (k == 2) = false ∧ (k == 3) = false :=
  ⟨by rwa [beq_eq_false_iff_ne], by rwa [beq_eq_false_iff_ne], by rwa [beq_eq_false_iff_ne], by rwa [beq_eq_false_iff_ne]⟩
theorem not_right {k n d : Int} (h : ¬ ((k = 0 ∧ 1 ≤ n ∧ n ≤ 31 ∧ d = 0) ∨ (k = 1 ∧ n = 0 ∧ 0 ≤ d ∧ d ≤ 6) ∨ ((k = 2 ∨ k = 3) ∧ 1 ≤ n ∧ n ≤ 31 ∧ 0 ≤ d ∧ d ≤ 6))) : Dy.right k n d = false := decide_eq_false h
set_option maxHeartbeats 1000000 in
theorem isRight_yes (k n d : Int) (w : World) (h : Dy.right k n d = true) : Calls Tryd.prog 28 #[.agg #[.int .u8 k, .int .i64 n, .int .i64 d]] w fun e w' => e = .returned (.bool true) ∧ Below w.heap.size w w' := by
  rw [Dy.right_iff] at h
  rcases h with ⟨rfl, h1, h2, rfl⟩ | ⟨rfl, rfl, h1, h2⟩ | ⟨rfl | rfl, h1, h2, h3, h4⟩
  · go_enter Tryd.func28, Tryd.ntmps28
    go_wp2_with fail
    refine (isDay_yes _ _ h1 h2).mono ?_
    rintro e w' ⟨rfl, rfl⟩
    go_wp2_with fail
    go_ret
    exact ⟨rfl, (Below.refl _ _).alloc (Nat.le_refl _) _⟩
  · go_enter Tryd.func28, Tryd.ntmps28
    go_wp2_with fail
    refine (isWeekday_yes _ _ h1 h2).mono ?_
    rintro e w' ⟨rfl, rfl⟩
    go_wp2_with fail
    go_ret
    exact ⟨rfl, (Below.refl _ _).alloc (Nat.le_refl _) _⟩
  all_goals
    go_enter Tryd.func28, Tryd.ntmps28
    go_wp2_with fail
    refine (isDay_yes _ _ h1 h2).mono ?_
    rintro e w' ⟨rfl, rfl⟩
    go_wp2_with fail
    refine (isWeekday_yes _ _ h3 h4).mono ?_
    rintro e w' ⟨rfl, rfl⟩
    go_wp2_with fail
    go_ret
    exact ⟨rfl, (Below.refl _ _).alloc (Nat.le_refl _) _⟩
set_option maxHeartbeats 1000000 in
theorem isRight_no (k n d : Int) (w : World) (h : Dy.right k n d = false) : Calls Tryd.prog 28 #[.agg #[.int .u8 k, .int .i64 n, .int .i64 d]] w fun e w' => e = .returned (.bool false) ∧ Below w.heap.size w w' := by
  have h := of_decide_eq_false h
  by_cases k0 : k = 0
  · subst k0
    by_cases hn : 1 ≤ n ∧ n ≤ 31
    · have t1 : (d == 0) = false := by rw [beq_eq_false_iff_ne]; omega
      clear h
      go_enter Tryd.func28, Tryd.ntmps28
      go_wp2_with fail
      refine (isDay_yes _ _ hn.1 hn.2).mono ?_
      rintro e w' ⟨rfl, rfl⟩
      go_wp2_with fail
      go_ret
      exact ⟨rfl, (Below.refl _ _).alloc (Nat.le_refl _) _⟩
    · clear h
      go_enter Tryd.func28, Tryd.ntmps28
      go_wp2_with fail
      refine (isDay_no _ _ (by omega)).mono ?_
      rintro e w' ⟨rfl, rfl⟩
      go_wp2_with fail
      go_ret
      exact ⟨rfl, (Below.refl _ _).alloc (Nat.le_refl _) _⟩
  · by_cases k1 : k = 1
    · subst k1
      by_cases hn : n = 0
      · subst hn
        have hd : d < 0 ∨ 6 < d := by omega
        clear h k0
        go_enter Tryd.func28, Tryd.ntmps28
        go_wp2_with fail
        refine (isWeekday_no _ _ hd).mono ?_
        rintro e w' ⟨rfl, rfl⟩
        go_wp2_with fail
        go_ret
        exact ⟨rfl, (Below.refl _ _).alloc (Nat.le_refl _) _⟩
      · have t1 : (n == 0) = false := by rw [beq_eq_false_iff_ne]; omega
        clear h k0 hn
        go_enter Tryd.func28, Tryd.ntmps28
        go_wp2_with fail
        go_ret
        exact ⟨rfl, (Below.refl _ _).alloc (Nat.le_refl _) _⟩
    · by_cases k23 : k = 2 ∨ k = 3
      · by_cases hn : 1 ≤ n ∧ n ≤ 31
        · have hd : d < 0 ∨ 6 < d := by omega
          clear h k0 k1
          rcases k23 with rfl | rfl
          all_goals
            go_enter Tryd.func28, Tryd.ntmps28
            go_wp2_with fail
            refine (isDay_yes _ _ hn.1 hn.2).mono ?_
            rintro e w' ⟨rfl, rfl⟩
            go_wp2_with fail
            refine (isWeekday_no _ _ hd).mono ?_
            rintro e w' ⟨rfl, rfl⟩
            go_wp2_with fail
            go_ret
            exact ⟨rfl, (Below.refl _ _).alloc (Nat.le_refl _) _⟩
        · clear h k0 k1
          rcases k23 with rfl | rfl
          all_goals
            go_enter Tryd.func28, Tryd.ntmps28
            go_wp2_with fail
            refine (isDay_no _ _ (by omega)).mono ?_
            rintro e w' ⟨rfl, rfl⟩
            go_wp2_with fail
            go_ret
            exact ⟨rfl, (Below.refl _ _).alloc (Nat.le_refl _) _⟩
      · obtain ⟨q0, q1, q2, q3⟩ := dayk k k0 k1 (by omega) (by omega)
        clear h k0 k1 k23
        go_enter Tryd.func28, Tryd.ntmps28
        go_wp2_with fail
        go_ret
        exact ⟨rfl, (Below.refl _ _).alloc (Nat.le_refl _) _⟩
theorem isd_cases (c : UInt8) : (Dy.isd c = true ∧ 48 ≤ c.toNat ∧ c.toNat ≤ 57) ∨ (Dy.isd c = false ∧ c.toNat < 48) ∨ (Dy.isd c = false ∧ 48 ≤ c.toNat ∧ 57 < c.toNat) := by
  unfold Dy.isd
  simp
  omega
/-- What number answers. -/
def NumE (o : Option Int) (e : Ending) : Prop := match o with
  | some n => e = .returned (.tuple #[.int .i64 n, .bool true])
  | none => e = .returned (.tuple #[.int .i64 0, .bool false])
theorem idx_c0 (c : UInt8) (W : World) : (Instr.index 9 (.string ⟨#[c]⟩) (.int .i64 0)).run Tryd.prog W = .ok (.int .u8 (c.toNat : Int)) W := idx_str ⟨#[c]⟩ 0 (by simp [ByteArray.size]) W
theorem idx_d0 (c d : UInt8) (W : World) : (Instr.index 9 (.string ⟨#[c, d]⟩) (.int .i64 0)).run Tryd.prog W = .ok (.int .u8 (c.toNat : Int)) W := idx_str ⟨#[c, d]⟩ 0 (by simp [ByteArray.size]) W
theorem idx_d1 (c d : UInt8) (W : World) : (Instr.index 9 (.string ⟨#[c, d]⟩) (.int .i64 1)).run Tryd.prog W = .ok (.int .u8 (d.toNat : Int)) W := idx_str ⟨#[c, d]⟩ 1 (by simp [ByteArray.size]) W
theorem size_c (c : UInt8) : (⟨#[c]⟩ : ByteArray).size = 1 := by simp [ByteArray.size]
theorem size_d (c d : UInt8) : (⟨#[c, d]⟩ : ByteArray).size = 2 := by simp [ByteArray.size]
/-- What a day and a bool answer. -/
def DayE (o : Option (Int × Int × Int)) (e : Ending) : Prop :=
  (∃ k n d : Int, o = some (k, n, d) ∧ 0 ≤ n ∧ n ≤ 99 ∧ 0 ≤ d ∧ d ≤ 6 ∧ e = .returned (.tuple #[.agg #[.int .u8 k, .int .i64 n, .int .i64 d], .bool true])) ∨
  (o = none ∧ ∃ k n d : Int, e = .returned (.tuple #[.agg #[.int .u8 k, .int .i64 n, .int .i64 d], .bool false]))
theorem num_bd {l : List UInt8} {n : Int} (h : Dy.num l = some n) : 0 ≤ n ∧ n ≤ 99 := by
  unfold Dy.num at h
  split at h
  · rename_i a
    rcases isd_cases a with ⟨ha, h1, h2⟩ | ⟨ha, _⟩ | ⟨ha, _⟩
    · rw [if_pos ha] at h
      injection h with h
      omega
    all_goals
      rw [ha] at h
      cases h
  · rename_i a b
    rcases isd_cases a with ⟨ha, h1, h2⟩ | ⟨ha, _⟩ | ⟨ha, _⟩
    · rcases isd_cases b with ⟨hb, h3, h4⟩ | ⟨hb, _⟩ | ⟨hb, _⟩
      · rw [ha, hb] at h
        injection h with h
        omega
      all_goals
        rw [ha, hb] at h
        cases h
    all_goals
      rw [ha] at h
      cases h
  · cases h
theorem pick6 (s : ByteArray) : Wd.pick s Wd.week = -1 ∨ (0 ≤ Wd.pick s Wd.week ∧ Wd.pick s Wd.week ≤ 6) := by
  have h1 := Wd.pick_ge s Wd.week
  have h2 : Wd.pick s Wd.week < 7 := Wd.pick_lt s Wd.week
  omega
end Go.Proofs.YtgcgmmdfmcapiaaDoor
