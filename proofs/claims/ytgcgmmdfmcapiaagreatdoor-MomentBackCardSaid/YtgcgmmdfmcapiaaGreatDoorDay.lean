/- Contracts of package day: isDay, isWeekday, isRight, Check, number, cutLast, onWeekday, besideDay. -/
import Derived.Test.YtgcgmmdfmcapiaaGreatDoorDy
namespace Go.Proofs.YtgcgmmdfmcapiaaGreatDoor
open Go.RowKit
theorem isDay_yes (n : Int) (w : World) (h1 : 1 ≤ n) (h2 : n ≤ 31) : Calls Tryz.prog 65 #[.int .i64 n] w fun e w' => e = .returned (.bool true) ∧ w = w' := by
  go_enter Tryz.func65, Tryz.ntmps65
  go_wp2
  go_ret
  exact ⟨rfl, rfl⟩
theorem isDay_no (n : Int) (w : World) (h : n < 1 ∨ 31 < n) : Calls Tryz.prog 65 #[.int .i64 n] w fun e w' => e = .returned (.bool false) ∧ w = w' := by
  rcases h with h | h
  · go_enter Tryz.func65, Tryz.ntmps65
    go_wp2
    go_ret
    exact ⟨rfl, rfl⟩
  · have h' : 1 ≤ n := by omega
    have t1 : decide (n ≤ 31) = false := by simp; omega
    go_enter Tryz.func65, Tryz.ntmps65
    go_wp2
    go_ret
    exact ⟨rfl, rfl⟩
theorem isWeekday_yes (n : Int) (w : World) (h1 : 0 ≤ n) (h2 : n ≤ 6) : Calls Tryz.prog 66 #[.int .i64 n] w fun e w' => e = .returned (.bool true) ∧ w = w' := by
  have h3 : n < 7 := by omega
  go_enter Tryz.func66, Tryz.ntmps66
  go_wp2
  go_ret
  exact ⟨rfl, rfl⟩
theorem isWeekday_no (n : Int) (w : World) (h : n < 0 ∨ 6 < n) : Calls Tryz.prog 66 #[.int .i64 n] w fun e w' => e = .returned (.bool false) ∧ w = w' := by
  rcases h with h | h
  · go_enter Tryz.func66, Tryz.ntmps66
    go_wp2
    go_ret
    exact ⟨rfl, rfl⟩
  · have h' : 0 ≤ n := by omega
    have t1 : decide (n < 7) = false := by simp; omega
    go_enter Tryz.func66, Tryz.ntmps66
    go_wp2
    go_ret
    exact ⟨rfl, rfl⟩
theorem dayk (k : Int) (h0 : k ≠ 0) (h1 : k ≠ 1) (h2 : k ≠ 2) (h3 : k ≠ 3) : (k == 0) = false ∧ (k == 1) = false ∧ (k == 2) = false ∧ (k == 3) = false :=
  ⟨by rwa [beq_eq_false_iff_ne], by rwa [beq_eq_false_iff_ne], by rwa [beq_eq_false_iff_ne], by rwa [beq_eq_false_iff_ne]⟩
theorem not_right {k n d : Int} (h : ¬ ((k = 0 ∧ 1 ≤ n ∧ n ≤ 31 ∧ d = 0) ∨ (k = 1 ∧ n = 0 ∧ 0 ≤ d ∧ d ≤ 6) ∨ ((k = 2 ∨ k = 3) ∧ 1 ≤ n ∧ n ≤ 31 ∧ 0 ≤ d ∧ d ≤ 6))) : Dy.right k n d = false := decide_eq_false h
set_option maxHeartbeats 1000000 in
theorem isRight_yes (k n d : Int) (w : World) (h : Dy.right k n d = true) : Calls Tryz.prog 37 #[.agg #[.int .u8 k, .int .i64 n, .int .i64 d]] w fun e w' => e = .returned (.bool true) ∧ Below w.heap.size w w' := by
  rw [Dy.right_iff] at h
  rcases h with ⟨rfl, h1, h2, rfl⟩ | ⟨rfl, rfl, h1, h2⟩ | ⟨rfl | rfl, h1, h2, h3, h4⟩
  · go_enter Tryz.func37, Tryz.ntmps37
    go_wp2_with fail
    refine (isDay_yes _ _ h1 h2).mono ?_
    rintro e w' ⟨rfl, rfl⟩
    go_wp2_with fail
    go_ret
    exact ⟨rfl, (Below.refl _ _).alloc (Nat.le_refl _) _⟩
  · go_enter Tryz.func37, Tryz.ntmps37
    go_wp2_with fail
    refine (isWeekday_yes _ _ h1 h2).mono ?_
    rintro e w' ⟨rfl, rfl⟩
    go_wp2_with fail
    go_ret
    exact ⟨rfl, (Below.refl _ _).alloc (Nat.le_refl _) _⟩
  all_goals
    go_enter Tryz.func37, Tryz.ntmps37
    go_wp2_with fail
    refine (isDay_yes _ _ h1 h2).mono ?_
    rintro e w' ⟨rfl, rfl⟩
    go_wp2_with fail
    refine (isWeekday_yes _ _ h3 h4).mono ?_
    rintro e w' ⟨rfl, rfl⟩
    go_wp2_with fail
    go_ret
    exact ⟨rfl, (Below.refl _ _).alloc (Nat.le_refl _) _⟩
set_option maxHeartbeats 1000000 in
theorem isRight_no (k n d : Int) (w : World) (h : Dy.right k n d = false) : Calls Tryz.prog 37 #[.agg #[.int .u8 k, .int .i64 n, .int .i64 d]] w fun e w' => e = .returned (.bool false) ∧ Below w.heap.size w w' := by
  have h := of_decide_eq_false h
  by_cases k0 : k = 0
  · subst k0
    by_cases hn : 1 ≤ n ∧ n ≤ 31
    · have t1 : (d == 0) = false := by rw [beq_eq_false_iff_ne]; omega
      clear h
      go_enter Tryz.func37, Tryz.ntmps37
      go_wp2_with fail
      refine (isDay_yes _ _ hn.1 hn.2).mono ?_
      rintro e w' ⟨rfl, rfl⟩
      go_wp2_with fail
      go_ret
      exact ⟨rfl, (Below.refl _ _).alloc (Nat.le_refl _) _⟩
    · clear h
      go_enter Tryz.func37, Tryz.ntmps37
      go_wp2_with fail
      refine (isDay_no _ _ (by omega)).mono ?_
      rintro e w' ⟨rfl, rfl⟩
      go_wp2_with fail
      go_ret
      exact ⟨rfl, (Below.refl _ _).alloc (Nat.le_refl _) _⟩
  · by_cases k1 : k = 1
    · subst k1
      by_cases hn : n = 0
      · subst hn
        have hd : d < 0 ∨ 6 < d := by omega
        clear h k0
        go_enter Tryz.func37, Tryz.ntmps37
        go_wp2_with fail
        refine (isWeekday_no _ _ hd).mono ?_
        rintro e w' ⟨rfl, rfl⟩
        go_wp2_with fail
        go_ret
        exact ⟨rfl, (Below.refl _ _).alloc (Nat.le_refl _) _⟩
      · have t1 : (n == 0) = false := by rw [beq_eq_false_iff_ne]; omega
        clear h k0 hn
        go_enter Tryz.func37, Tryz.ntmps37
        go_wp2_with fail
        go_ret
        exact ⟨rfl, (Below.refl _ _).alloc (Nat.le_refl _) _⟩
    · by_cases k23 : k = 2 ∨ k = 3
      · by_cases hn : 1 ≤ n ∧ n ≤ 31
        · have hd : d < 0 ∨ 6 < d := by omega
          clear h k0 k1
          rcases k23 with rfl | rfl
          all_goals
            go_enter Tryz.func37, Tryz.ntmps37
            go_wp2_with fail
            refine (isDay_yes _ _ hn.1 hn.2).mono ?_
            rintro e w' ⟨rfl, rfl⟩
            go_wp2_with fail
            refine (isWeekday_no _ _ hd).mono ?_
            rintro e w' ⟨rfl, rfl⟩
            go_wp2_with fail
            go_ret
            exact ⟨rfl, (Below.refl _ _).alloc (Nat.le_refl _) _⟩
        · clear h k0 k1
          rcases k23 with rfl | rfl
          all_goals
            go_enter Tryz.func37, Tryz.ntmps37
            go_wp2_with fail
            refine (isDay_no _ _ (by omega)).mono ?_
            rintro e w' ⟨rfl, rfl⟩
            go_wp2_with fail
            go_ret
            exact ⟨rfl, (Below.refl _ _).alloc (Nat.le_refl _) _⟩
      · obtain ⟨q0, q1, q2, q3⟩ := dayk k k0 k1 (by omega) (by omega)
        clear h k0 k1 k23
        go_enter Tryz.func37, Tryz.ntmps37
        go_wp2_with fail
        go_ret
        exact ⟨rfl, (Below.refl _ _).alloc (Nat.le_refl _) _⟩
theorem dcheck_yes (k n d : Int) (w : World) (h : Dy.right k n d = true) : Calls Tryz.prog 57 #[.agg #[.int .u8 k, .int .i64 n, .int .i64 d]] w fun e w' => e = .returned (.int .i64 0) ∧ Below w.heap.size w w' := by
  have H := Lib.hid h
  clear h
  go_enter Tryz.func57, Tryz.ntmps57
  go_wp2_with fail
  refine (isRight_yes _ _ _ _ H.out).mono ?_
  rintro e w1 ⟨rfl, b1⟩
  have a1 := ((Below.refl w.heap.size w).alloc (Nat.le_refl _) (.cells #[.int .u8 k, .int .i64 n, .int .i64 d] 24)).trans (b1.mono (by simp))
  go_wp2_with fail
  go_ret
  exact ⟨rfl, a1⟩
theorem dcheck_no (k n d : Int) (w : World) (h : Dy.right k n d = false) : Calls Tryz.prog 57 #[.agg #[.int .u8 k, .int .i64 n, .int .i64 d]] w fun e w' => e = .returned (.int .i64 2) ∧ Below w.heap.size w w' := by
  have H := Lib.hid h
  clear h
  go_enter Tryz.func57, Tryz.ntmps57
  go_wp2_with fail
  refine (isRight_no _ _ _ _ H.out).mono ?_
  rintro e w1 ⟨rfl, b1⟩
  have a1 := ((Below.refl w.heap.size w).alloc (Nat.le_refl _) (.cells #[.int .u8 k, .int .i64 n, .int .i64 d] 24)).trans (b1.mono (by simp))
  go_wp2_with fail
  go_ret
  exact ⟨rfl, a1⟩
theorem same_is (a b : ByteArray) (v : Bool) (w : World) (ha : a.size ≤ 4294967296) (hb : b.size ≤ 4294967296) (hv : Wd.one a b = v) : Calls Tryz.prog 110 #[.string a, .string b] w fun e w' => e = .returned (.bool v) ∧ Below w.heap.size w w' := by
  subst hv
  exact same_any a b w ha hb
theorem isd_cases (c : UInt8) : (Dy.isd c = true ∧ 48 ≤ c.toNat ∧ c.toNat ≤ 57) ∨ (Dy.isd c = false ∧ c.toNat < 48) ∨ (Dy.isd c = false ∧ 48 ≤ c.toNat ∧ 57 < c.toNat) := by
  unfold Dy.isd
  simp
  omega
/-- What number answers. -/
def NumE (o : Option Int) (e : Ending) : Prop := match o with
  | some n => e = .returned (.tuple #[.int .i64 n, .bool true])
  | none => e = .returned (.tuple #[.int .i64 0, .bool false])
theorem idx_c0 (c : UInt8) (W : World) : (Instr.index 9 (.string ⟨#[c]⟩) (.int .i64 0)).run Tryz.prog W = .ok (.int .u8 (c.toNat : Int)) W := idx_str ⟨#[c]⟩ 0 (by simp [ByteArray.size]) W
theorem idx_d0 (c d : UInt8) (W : World) : (Instr.index 9 (.string ⟨#[c, d]⟩) (.int .i64 0)).run Tryz.prog W = .ok (.int .u8 (c.toNat : Int)) W := idx_str ⟨#[c, d]⟩ 0 (by simp [ByteArray.size]) W
theorem idx_d1 (c d : UInt8) (W : World) : (Instr.index 9 (.string ⟨#[c, d]⟩) (.int .i64 1)).run Tryz.prog W = .ok (.int .u8 (d.toNat : Int)) W := idx_str ⟨#[c, d]⟩ 1 (by simp [ByteArray.size]) W
theorem size_c (c : UInt8) : (⟨#[c]⟩ : ByteArray).size = 1 := by simp [ByteArray.size]
theorem size_d (c d : UInt8) : (⟨#[c, d]⟩ : ByteArray).size = 2 := by simp [ByteArray.size]
set_option maxHeartbeats 1000000 in
theorem number_1 (c : UInt8) (w : World) : Calls Tryz.prog 101 #[.string ⟨#[c]⟩] w fun e w' => NumE (Dy.num [c]) e ∧ w = w' := by
  have hi0 := idx_c0 c
  have hz := size_c c
  rcases isd_cases c with ⟨hd, h1, h2⟩ | ⟨hd, h1⟩ | ⟨hd, h1, h2⟩
  · have HE := Lib.hid (show NumE (Dy.num [c]) (.returned (.tuple #[.int .i64 ((c.toNat : Int) - 48), .bool true])) by simp [Dy.num, hd, NumE])
    have t1 : ¬ (c.toNat : Int) < 48 := by omega
    have t2 : ¬ 57 < (c.toNat : Int) := by omega
    generalize (⟨#[c]⟩ : ByteArray) = S at *
    clear hd h1 h2
    go_enter Tryz.func101, Tryz.ntmps101
    go_wp2_with fail
    refine wp_loop_rounds 2 ?_
    rw [rounds_succ]
    go_wp2_with fail
    rw [rounds_succ]
    go_wp2_with fail
    go_ret2
    exact ⟨HE.out, rfl⟩
  · have HE := Lib.hid (show NumE (Dy.num [c]) (.returned (.tuple #[.int .i64 0, .bool false])) by simp [Dy.num, hd, NumE])
    have t1 : (c.toNat : Int) < 48 := by omega
    generalize (⟨#[c]⟩ : ByteArray) = S at *
    clear hd h1
    go_enter Tryz.func101, Tryz.ntmps101
    go_wp2_with fail
    refine wp_loop_rounds 2 ?_
    rw [rounds_succ]
    go_wp2_with fail
    go_ret2
    exact ⟨HE.out, rfl⟩
  · have HE := Lib.hid (show NumE (Dy.num [c]) (.returned (.tuple #[.int .i64 0, .bool false])) by simp [Dy.num, hd, NumE])
    have t1 : ¬ (c.toNat : Int) < 48 := by omega
    have t2 : 57 < (c.toNat : Int) := by omega
    generalize (⟨#[c]⟩ : ByteArray) = S at *
    clear hd h1 h2
    go_enter Tryz.func101, Tryz.ntmps101
    go_wp2_with fail
    refine wp_loop_rounds 2 ?_
    rw [rounds_succ]
    go_wp2_with fail
    go_ret2
    exact ⟨HE.out, rfl⟩
theorem cutLast_yes (s : ByteArray) (w : World) (hs : s.size ≤ 4294967296) (h : Dy.isLast s = true) :
    Calls Tryz.prog 97 #[.string s] w fun e w' => e = .returned (.tuple #[.string (s.extract 4 s.size), .bool true]) ∧ Below w.heap.size w w' := by
  unfold Dy.isLast at h
  rw [Bool.and_eq_true, decide_eq_true_eq] at h
  obtain ⟨h4, h⟩ := h
  have HO := Lib.hid h
  have HT := Lib.hid (Wd.take_size s 4 h4)
  clear h
  go_enter Tryz.func97, Tryz.ntmps97
  go_wp2_with fail
  refine (same_is (s.extract 0 4) Dy.lastW true _ (by have := HT.out; omega) (by decide) HO.out).mono ?_
  rintro e w1 ⟨rfl, b1⟩
  go_wp2_with fail
  go_ret2
  exact ⟨rfl, b1⟩
theorem cutLast_no (s : ByteArray) (w : World) (hs : s.size ≤ 4294967296) (h : Dy.isLast s = false) :
    Calls Tryz.prog 97 #[.string s] w fun e w' => e = .returned (.tuple #[.string ⟨#[]⟩, .bool false]) ∧ Below w.heap.size w w' := by
  by_cases h4 : s.size < 4
  · clear h
    go_enter Tryz.func97, Tryz.ntmps97
    go_wp2_with fail
    go_ret2
    exact ⟨rfl, Below.refl _ _⟩
  · have ho : Wd.one (s.extract 0 4) Dy.lastW = false := by
      unfold Dy.isLast at h
      rwa [show decide (4 ≤ s.size) = true by simp; omega, Bool.true_and] at h
    have HO := Lib.hid ho
    have HT := Lib.hid (Wd.take_size s 4 (by omega))
    clear h ho
    go_enter Tryz.func97, Tryz.ntmps97
    go_wp2_with fail
    refine (same_is (s.extract 0 4) Dy.lastW false _ (by have := HT.out; omega) (by decide) HO.out).mono ?_
    rintro e w1 ⟨rfl, b1⟩
    go_wp2_with fail
    go_ret2
    exact ⟨rfl, b1⟩
set_option maxHeartbeats 1000000 in
theorem number_2 (c d : UInt8) (w : World) : Calls Tryz.prog 101 #[.string ⟨#[c, d]⟩] w fun e w' => NumE (Dy.num [c, d]) e ∧ w = w' := by
  have hi0 := idx_d0 c d
  have hi1 := idx_d1 c d
  have hz := size_d c d
  rcases isd_cases c with ⟨hc, h1, h2⟩ | ⟨hc, h1⟩ | ⟨hc, h1, h2⟩
  · rcases isd_cases d with ⟨hd, g1, g2⟩ | ⟨hd, g1⟩ | ⟨hd, g1, g2⟩
    · have HE := Lib.hid (show NumE (Dy.num [c, d]) (.returned (.tuple #[.int .i64 (10 * ((c.toNat : Int) - 48) + ((d.toNat : Int) - 48)), .bool true])) by simp [Dy.num, hc, hd, NumE])
      have t1 : ¬ (c.toNat : Int) < 48 := by omega
      have t2 : ¬ 57 < (c.toNat : Int) := by omega
      have t3 : ¬ (d.toNat : Int) < 48 := by omega
      have t4 : ¬ 57 < (d.toNat : Int) := by omega
      generalize (⟨#[c, d]⟩ : ByteArray) = S at *
      clear hc hd h1 h2 g1 g2
      go_enter Tryz.func101, Tryz.ntmps101
      go_wp2_with fail
      refine wp_loop_rounds 3 ?_
      rw [rounds_succ]
      go_wp2_with fail
      rw [rounds_succ]
      go_wp2_with fail
      rw [rounds_succ]
      go_wp2_with fail
      go_ret2
      exact ⟨HE.out, rfl⟩
    · have HE := Lib.hid (show NumE (Dy.num [c, d]) (.returned (.tuple #[.int .i64 0, .bool false])) by simp [Dy.num, hc, hd, NumE])
      have t1 : ¬ (c.toNat : Int) < 48 := by omega
      have t2 : ¬ 57 < (c.toNat : Int) := by omega
      have t3 : (d.toNat : Int) < 48 := by omega
      generalize (⟨#[c, d]⟩ : ByteArray) = S at *
      clear hc hd h1 h2 g1
      go_enter Tryz.func101, Tryz.ntmps101
      go_wp2_with fail
      refine wp_loop_rounds 3 ?_
      rw [rounds_succ]
      go_wp2_with fail
      rw [rounds_succ]
      go_wp2_with fail
      go_ret2
      exact ⟨HE.out, rfl⟩
    · have HE := Lib.hid (show NumE (Dy.num [c, d]) (.returned (.tuple #[.int .i64 0, .bool false])) by simp [Dy.num, hc, hd, NumE])
      have t1 : ¬ (c.toNat : Int) < 48 := by omega
      have t2 : ¬ 57 < (c.toNat : Int) := by omega
      have t3 : ¬ (d.toNat : Int) < 48 := by omega
      have t4 : 57 < (d.toNat : Int) := by omega
      generalize (⟨#[c, d]⟩ : ByteArray) = S at *
      clear hc hd h1 h2 g1 g2
      go_enter Tryz.func101, Tryz.ntmps101
      go_wp2_with fail
      refine wp_loop_rounds 3 ?_
      rw [rounds_succ]
      go_wp2_with fail
      rw [rounds_succ]
      go_wp2_with fail
      go_ret2
      exact ⟨HE.out, rfl⟩
  · have HE := Lib.hid (show NumE (Dy.num [c, d]) (.returned (.tuple #[.int .i64 0, .bool false])) by simp [Dy.num, hc, NumE])
    have t1 : (c.toNat : Int) < 48 := by omega
    generalize (⟨#[c, d]⟩ : ByteArray) = S at *
    clear hc h1 hi1
    go_enter Tryz.func101, Tryz.ntmps101
    go_wp2_with fail
    refine wp_loop_rounds 3 ?_
    rw [rounds_succ]
    go_wp2_with fail
    go_ret2
    exact ⟨HE.out, rfl⟩
  · have HE := Lib.hid (show NumE (Dy.num [c, d]) (.returned (.tuple #[.int .i64 0, .bool false])) by simp [Dy.num, hc, NumE])
    have t1 : ¬ (c.toNat : Int) < 48 := by omega
    have t2 : 57 < (c.toNat : Int) := by omega
    generalize (⟨#[c, d]⟩ : ByteArray) = S at *
    clear hc h1 h2 hi1
    go_enter Tryz.func101, Tryz.ntmps101
    go_wp2_with fail
    refine wp_loop_rounds 3 ?_
    rw [rounds_succ]
    go_wp2_with fail
    go_ret2
    exact ⟨HE.out, rfl⟩
theorem number_bad (S : ByteArray) (w : World) (hs : S.size ≤ 4294967296) (h : S.size < 1 ∨ 2 < S.size) : Calls Tryz.prog 101 #[.string S] w fun e w' => e = .returned (.tuple #[.int .i64 0, .bool false]) ∧ w = w' := by
  rcases h with h | h
  · have h0 : S.size = 0 := by omega
    clear h
    go_enter Tryz.func101, Tryz.ntmps101
    go_wp2_with fail
    go_ret2
    exact ⟨rfl, rfl⟩
  · go_enter Tryz.func101, Tryz.ntmps101
    go_wp2_with fail
    go_ret2
    exact ⟨rfl, rfl⟩
theorem dnumber_any (S : ByteArray) (w : World) (hs : S.size ≤ 4294967296) : Calls Tryz.prog 101 #[.string S] w fun e w' => NumE (Dy.num S.data.toList) e ∧ w = w' := by
  obtain ⟨⟨l⟩⟩ := S
  match l with
  | [] => exact (number_bad ⟨#[]⟩ w hs (.inl (by simp [ByteArray.size]))).mono fun e w' ⟨he, hw⟩ => ⟨he, hw⟩
  | [c] => exact number_1 c w
  | [c, d] => exact number_2 c d w
  | a :: b :: c :: r => exact (number_bad ⟨(a :: b :: c :: r).toArray⟩ w hs (.inr (by simp [ByteArray.size]))).mono fun e w' ⟨he, hw⟩ => ⟨he, hw⟩
theorem weekday_is (s : ByteArray) (v : Int) (w : World) (hs : s.size ≤ 4294967296) (hv : Wd.pick s Wd.week = v) : Calls Tryz.prog 112 #[.string s] w fun e w' => e = .returned (.int .i64 v) ∧ Below w.heap.size w w' := by
  subst hv
  exact weekdayWord_any s w hs
theorem onWeekday_yes (k n p : Int) (s : ByteArray) (w : World) (hs : s.size ≤ 4294967296) (hp : Hid (Wd.pick s Wd.week = p)) (h : 0 ≤ p) :
    Calls Tryz.prog 98 #[.int .u8 k, .string s, .int .i64 n] w fun e w' => e = .returned (.tuple #[.agg #[.int .u8 k, .int .i64 n, .int .i64 p], .bool true]) ∧ Below w.heap.size w w' := by
  go_enter Tryz.func98, Tryz.ntmps98
  go_wp2_with fail
  refine (weekday_is s p _ hs hp.out).mono ?_
  rintro e w1 ⟨rfl, b1⟩
  obtain ⟨hc, hf⟩ := bcell b1
  have hz : w.heap.size < w1.heap.size := by have := b1.size; simp at this; omega
  have a1 : Below w.heap.size w w1 := ((Below.refl _ _).alloc (Nat.le_refl _) _).trans (b1.mono (by simp))
  go_wp2_with fail
  refine bodyPost_ret (v := .tuple #[.agg #[.int .u8 k, .int .i64 n, .int .i64 p], .bool true]) (by simp [results, Tryz.results98, go_sem, hc]) rfl ⟨rfl, ?_⟩
  repeat (first | exact Below.refl _ _ | assumption | refine below_drewN ?_ _ | refine Below.drew ?_ | refine Below.setCell ?_ (by first | omega | (simp; done) | (simp; omega)) _ | refine Below.alloc ?_ (by first | omega | (simp; done) | (simp; omega)) _)
theorem onWeekday_no (k n : Int) (s : ByteArray) (w : World) (hs : s.size ≤ 4294967296) (hp : Hid (Wd.pick s Wd.week = -1)) :
    Calls Tryz.prog 98 #[.int .u8 k, .string s, .int .i64 n] w fun e w' => e = .returned (.tuple #[.agg #[.int .u8 k, .int .i64 n, .int .i64 (-1)], .bool false]) ∧ Below w.heap.size w w' := by
  go_enter Tryz.func98, Tryz.ntmps98
  go_wp2_with fail
  refine (weekday_is s (-1) _ hs hp.out).mono ?_
  rintro e w1 ⟨rfl, b1⟩
  obtain ⟨hc, hf⟩ := bcell b1
  have hz : w.heap.size < w1.heap.size := by have := b1.size; simp at this; omega
  have a1 : Below w.heap.size w w1 := ((Below.refl _ _).alloc (Nat.le_refl _) _).trans (b1.mono (by simp))
  go_wp2_with fail
  refine bodyPost_ret (v := .tuple #[.agg #[.int .u8 k, .int .i64 n, .int .i64 (-1)], .bool false]) (by simp [results, Tryz.results98, go_sem, hc]) rfl ⟨rfl, ?_⟩
  repeat (first | exact Below.refl _ _ | assumption | refine below_drewN ?_ _ | refine Below.drew ?_ | refine Below.setCell ?_ (by first | omega | (simp; done) | (simp; omega)) _ | refine Below.alloc ?_ (by first | omega | (simp; done) | (simp; omega)) _)
/-- What a day and a bool answer. -/
def DayE (o : Option (Int × Int × Int)) (e : Ending) : Prop :=
  (∃ k n d : Int, o = some (k, n, d) ∧ 0 ≤ n ∧ n ≤ 99 ∧ 0 ≤ d ∧ d ≤ 6 ∧ e = .returned (.tuple #[.agg #[.int .u8 k, .int .i64 n, .int .i64 d], .bool true])) ∨
  (o = none ∧ ∃ k n d : Int, e = .returned (.tuple #[.agg #[.int .u8 k, .int .i64 n, .int .i64 d], .bool false]))
theorem num_bd {l : List UInt8} {n : Int} (h : Dy.num l = some n) : 0 ≤ n ∧ n ≤ 99 := by
  unfold Dy.num at h
  split at h
  · rename_i a
    rcases isd_cases a with ⟨ha, h1, h2⟩ | ⟨ha, _⟩ | ⟨ha, _⟩
    · rw [if_pos ha] at h
      injection h with h
      omega
    all_goals
      rw [ha] at h
      cases h
  · rename_i a b
    rcases isd_cases a with ⟨ha, h1, h2⟩ | ⟨ha, _⟩ | ⟨ha, _⟩
    · rcases isd_cases b with ⟨hb, h3, h4⟩ | ⟨hb, _⟩ | ⟨hb, _⟩
      · rw [ha, hb] at h
        injection h with h
        omega
      all_goals
        rw [ha, hb] at h
        cases h
    all_goals
      rw [ha] at h
      cases h
  · cases h
theorem pick6 (s : ByteArray) : Wd.pick s Wd.week = -1 ∨ (0 ≤ Wd.pick s Wd.week ∧ Wd.pick s Wd.week ≤ 6) := by
  have h1 := Wd.pick_ge s Wd.week
  have h2 : Wd.pick s Wd.week < 7 := Wd.pick_lt s Wd.week
  omega
theorem besideDay_any (k : Int) (a b : ByteArray) (w : World) (ha : a.size ≤ 4294967296) (hb : b.size ≤ 4294967296) :
    Calls Tryz.prog 100 #[.int .u8 k, .string a, .string b] w fun e w' => DayE (Dy.beside k a b) e ∧ Below w.heap.size w w' := by
  have hnum := dnumber_any b
  cases hn : Dy.num b.data.toList with
  | none =>
    rw [hn] at hnum
    have HE := Lib.hid (show DayE (Dy.beside k a b) (.returned (.tuple #[.agg #[.int .u8 0, .int .i64 0, .int .i64 0], .bool false])) from .inr ⟨by unfold Dy.beside; rw [hn], 0, 0, 0, rfl⟩)
    clear hn
    go_enter Tryz.func100, Tryz.ntmps100
    go_wp2_with fail
    refine (hnum _ hb).mono ?_
    rintro e w' ⟨rfl, rfl⟩
    go_wp2_with fail
    refine bodyPost_ret (v := .tuple #[.agg #[.int .u8 0, .int .i64 0, .int .i64 0], .bool false]) (by simp [results, Tryz.results100, go_sem]) rfl ⟨HE.out, ?_⟩
    repeat (first | exact Below.refl _ _ | assumption | refine below_drewN ?_ _ | refine Below.drew ?_ | refine Below.setCell ?_ (by first | omega | (simp; done) | (simp; omega)) _ | refine Below.alloc ?_ (by first | omega | (simp; done) | (simp; omega)) _)
  | some n =>
    rw [hn] at hnum
    obtain ⟨n1, n2⟩ := num_bd hn
    rcases pick6 a with hp | ⟨p1, p2⟩
    · have HP := Lib.hid hp
      have HE := Lib.hid (show DayE (Dy.beside k a b) (.returned (.tuple #[.agg #[.int .u8 k, .int .i64 n, .int .i64 (-1)], .bool false])) from .inr ⟨by unfold Dy.beside; rw [hn]; simp only; rw [hp, if_neg (by omega)], _, _, _, rfl⟩)
      clear hn hp
      go_enter Tryz.func100, Tryz.ntmps100
      go_wp2_with fail
      refine (hnum _ hb).mono ?_
      rintro e w' ⟨rfl, rfl⟩
      go_wp2_with fail
      refine (onWeekday_no k n a _ ha HP).mono ?_
      rintro e w1 ⟨rfl, b1⟩
      obtain ⟨hc, hf⟩ := bcell b1
      have hz : w.heap.size < w1.heap.size := by have := b1.size; simp at this; omega
      have a1 : Below w.heap.size w w1 := ((Below.refl _ _).alloc (Nat.le_refl _) _).trans (b1.mono (by simp))
      go_wp2_with fail
      refine bodyPost_ret (v := .tuple #[.agg #[.int .u8 k, .int .i64 n, .int .i64 (-1)], .bool false]) (by simp [results, Tryz.results100, go_sem, hc]) rfl ⟨HE.out, ?_⟩
      repeat (first | exact Below.refl _ _ | assumption | refine below_drewN ?_ _ | refine Below.drew ?_ | refine Below.setCell ?_ (by first | omega | (simp; done) | (simp; omega)) _ | refine Below.alloc ?_ (by first | omega | (simp; done) | (simp; omega)) _)
    · obtain ⟨p, hp⟩ : ∃ p, Wd.pick a Wd.week = p := ⟨_, rfl⟩
      have HE := Lib.hid (show DayE (Dy.beside k a b) (.returned (.tuple #[.agg #[.int .u8 k, .int .i64 n, .int .i64 p], .bool true])) from .inl ⟨k, n, p, by unfold Dy.beside; rw [hn]; simp only; rw [if_pos p1, hp], n1, n2, by omega, by omega, rfl⟩)
      rw [hp] at p1 p2
      have HP := Lib.hid hp
      clear hn hp
      go_enter Tryz.func100, Tryz.ntmps100
      go_wp2_with fail
      refine (hnum _ hb).mono ?_
      rintro e w' ⟨rfl, rfl⟩
      go_wp2_with fail
      refine (onWeekday_yes k n p a _ ha HP p1).mono ?_
      rintro e w1 ⟨rfl, b1⟩
      obtain ⟨hc, hf⟩ := bcell b1
      have hz : w.heap.size < w1.heap.size := by have := b1.size; simp at this; omega
      have a1 : Below w.heap.size w w1 := ((Below.refl _ _).alloc (Nat.le_refl _) _).trans (b1.mono (by simp))
      go_wp2_with fail
      refine bodyPost_ret (v := .tuple #[.agg #[.int .u8 k, .int .i64 n, .int .i64 p], .bool true]) (by simp [results, Tryz.results100, go_sem, hc]) rfl ⟨HE.out, ?_⟩
      repeat (first | exact Below.refl _ _ | assumption | refine below_drewN ?_ _ | refine Below.drew ?_ | refine Below.setCell ?_ (by first | omega | (simp; done) | (simp; omega)) _ | refine Below.alloc ?_ (by first | omega | (simp; done) | (simp; omega)) _)
end Go.Proofs.YtgcgmmdfmcapiaaGreatDoor
