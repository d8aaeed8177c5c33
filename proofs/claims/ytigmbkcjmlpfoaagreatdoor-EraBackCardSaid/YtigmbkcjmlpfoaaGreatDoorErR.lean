/- Contracts of package era: isTime, isKind, isEnd, isRight, Check. -/
import Derived.Test.YtigmbkcjmlpfoaaGreatDoorEl
import Derived.Test.YtigmbkcjmlpfoaaGreatDoorRuP
namespace Go.Proofs.YtigmbkcjmlpfoaaGreatDoor
open Go.RowKit
/-- The tables that eras need: times' and formats'. -/
structure Ev (w : World) : Prop where
  env : Env w
  marks : Marks w
theorem Ev.below {w w' : World} (h : Ev w) (hb : Below w.heap.size w w') : Ev w' := ⟨h.env.below hb, h.marks.below hb⟩
theorem Ev.alloc {w : World} (h : Ev w) (o : Obj) : Ev (w.alloc o) := h.below ((Below.refl _ _).alloc (Nat.le_refl _) o)
theorem Ev.mxa {w : World} (h : Ev w) : Mxa w := h.env.longest
theorem isTime_any (t : Int) (w : World) : Calls Tryz.prog 63 #[.int .i64 t] w fun e w' => e = .returned (.bool (Rl.time t)) ∧ w = w' := by
  by_cases h1 : t < -604800
  · have HE := Lib.hid (show false = Rl.time t by symm; unfold Rl.time; rw [decide_eq_false_iff_not]; omega)
    have t1 : decide (-604800 ≤ t) = false := by simp; omega
    go_enter Tryz.func63, Tryz.ntmps63
    go_wp2_with fail
    go_ret
    exact ⟨ret_bool HE.out, rfl⟩
  · have t1 : -604800 ≤ t := by omega
    by_cases h2 : t ≤ 604800
    · have HE := Lib.hid (show true = Rl.time t by symm; unfold Rl.time; rw [decide_eq_true_eq]; omega)
      clear h1
      go_enter Tryz.func63, Tryz.ntmps63
      go_wp2_with fail
      go_ret
      exact ⟨ret_bool HE.out, rfl⟩
    · have HE := Lib.hid (show false = Rl.time t by symm; unfold Rl.time; rw [decide_eq_false_iff_not]; omega)
      have t2 : decide (t ≤ 604800) = false := by simp; omega
      clear h1 h2
      go_enter Tryz.func63, Tryz.ntmps63
      go_wp2_with fail
      go_ret
      exact ⟨ret_bool HE.out, rfl⟩
theorem isTime_is (t : Int) (v : Bool) (w : World) (h : Rl.time t = v) : Calls Tryz.prog 63 #[.int .i64 t] w fun e w' => e = .returned (.bool v) ∧ w = w' := by
  subst h
  exact isTime_any t w
theorem ucheck_no (y m k n d s c : Int) (w : World) (h : Mo.unt y m k n d s c = false) : Calls Tryz.prog 89 #[untV y m k n d s c] w fun e w' => e = .returned (.int .i64 2) ∧ Below w.heap.size w w' := by
  have H := Lib.hid h
  clear h
  go_enter Tryz.func89, Tryz.ntmps89
  go_wp2_with fail
  refine (isUntil_is y m k n d s c false _ H.out).mono ?_
  rintro e w1 ⟨rfl, b1⟩
  have a1 : Below w.heap.size w w1 := ((Below.refl _ _).alloc (Nat.le_refl _) _).trans (b1.mono (by simp))
  go_wp2_with fail
  go_ret
  exact ⟨rfl, a1⟩
theorem emp {s : ByteArray} (h : s.data.toList = []) : s = ⟨#[]⟩ := ByteArray.ext (Array.toList_inj.1 h)
theorem nemp {s : ByteArray} (h : s.data.toList ≠ []) : s.toList.isEmpty = false ∧ ¬ s.toList = [] := ⟨by rw [ByteArray.toList_eq]; simpa using h, by rw [ByteArray.toList_eq]; exact h⟩
section
variable (sd k sv : Int) (ru fm : ByteArray) (en : Bool) (y m q n d s c : Int) (w : World)
theorem ekind_0ok  : Calls Tryz.prog 64 #[.agg #[.int .i64 sd, .int .u8 0, .int .i64 0, .string ⟨#[]⟩, .string fm, .bool en, .int .i64 y, .int .i64 m, .int .u8 q, .int .i64 n, .int .i64 d, .int .i64 s, .int .u8 c]] w fun e w' => e = .returned (.bool true) ∧ Below w.heap.size w w' := by
  go_enter Tryz.func64, Tryz.ntmps64
  go_wp2_with fail
  go_ret
  exact ⟨rfl, (Below.refl _ _).alloc (Nat.le_refl _) _⟩
theorem ekind_0sv (h : (sv == 0) = false) : Calls Tryz.prog 64 #[.agg #[.int .i64 sd, .int .u8 0, .int .i64 sv, .string ru, .string fm, .bool en, .int .i64 y, .int .i64 m, .int .u8 q, .int .i64 n, .int .i64 d, .int .i64 s, .int .u8 c]] w fun e w' => e = .returned (.bool false) ∧ Below w.heap.size w w' := by
  go_enter Tryz.func64, Tryz.ntmps64
  go_wp2_with fail
  go_ret
  exact ⟨rfl, (Below.refl _ _).alloc (Nat.le_refl _) _⟩
theorem ekind_0ru (h2 : ru.toList.isEmpty = false) (_h3 : ¬ ru.toList = []) : Calls Tryz.prog 64 #[.agg #[.int .i64 sd, .int .u8 0, .int .i64 0, .string ru, .string fm, .bool en, .int .i64 y, .int .i64 m, .int .u8 q, .int .i64 n, .int .i64 d, .int .i64 s, .int .u8 c]] w fun e w' => e = .returned (.bool false) ∧ Below w.heap.size w w' := by
  go_enter Tryz.func64, Tryz.ntmps64
  go_wp2_with fail
  go_ret
  exact ⟨rfl, (Below.refl _ _).alloc (Nat.le_refl _) _⟩
theorem ekind_1no (H : Hid (Rl.time sv = false)) : Calls Tryz.prog 64 #[.agg #[.int .i64 sd, .int .u8 1, .int .i64 sv, .string ru, .string fm, .bool en, .int .i64 y, .int .i64 m, .int .u8 q, .int .i64 n, .int .i64 d, .int .i64 s, .int .u8 c]] w fun e w' => e = .returned (.bool false) ∧ Below w.heap.size w w' := by
  go_enter Tryz.func64, Tryz.ntmps64
  go_wp2_with fail
  refine (isTime_is sv false _ H.out).mono ?_
  rintro e w' ⟨rfl, rfl⟩
  go_wp2_with fail
  go_ret
  exact ⟨rfl, (Below.refl _ _).alloc (Nat.le_refl _) _⟩
theorem ekind_1ru (H : Hid (Rl.time sv = true)) (h2 : ru.toList.isEmpty = false) (_h3 : ¬ ru.toList = []) : Calls Tryz.prog 64 #[.agg #[.int .i64 sd, .int .u8 1, .int .i64 sv, .string ru, .string fm, .bool en, .int .i64 y, .int .i64 m, .int .u8 q, .int .i64 n, .int .i64 d, .int .i64 s, .int .u8 c]] w fun e w' => e = .returned (.bool false) ∧ Below w.heap.size w w' := by
  go_enter Tryz.func64, Tryz.ntmps64
  go_wp2_with fail
  refine (isTime_is sv true _ H.out).mono ?_
  rintro e w' ⟨rfl, rfl⟩
  go_wp2_with fail
  go_ret
  exact ⟨rfl, (Below.refl _ _).alloc (Nat.le_refl _) _⟩
theorem ekind_1ok (H : Hid (Rl.time sv = true)) : Calls Tryz.prog 64 #[.agg #[.int .i64 sd, .int .u8 1, .int .i64 sv, .string ⟨#[]⟩, .string fm, .bool en, .int .i64 y, .int .i64 m, .int .u8 q, .int .i64 n, .int .i64 d, .int .i64 s, .int .u8 c]] w fun e w' => e = .returned (.bool true) ∧ Below w.heap.size w w' := by
  go_enter Tryz.func64, Tryz.ntmps64
  go_wp2_with fail
  refine (isTime_is sv true _ H.out).mono ?_
  rintro e w' ⟨rfl, rfl⟩
  go_wp2_with fail
  go_ret
  exact ⟨rfl, (Below.refl _ _).alloc (Nat.le_refl _) _⟩
theorem ekind_2sv (h : (sv == 0) = false) : Calls Tryz.prog 64 #[.agg #[.int .i64 sd, .int .u8 2, .int .i64 sv, .string ru, .string fm, .bool en, .int .i64 y, .int .i64 m, .int .u8 q, .int .i64 n, .int .i64 d, .int .i64 s, .int .u8 c]] w fun e w' => e = .returned (.bool false) ∧ Below w.heap.size w w' := by
  go_enter Tryz.func64, Tryz.ntmps64
  go_wp2_with fail
  go_ret
  exact ⟨rfl, (Below.refl _ _).alloc (Nat.le_refl _) _⟩
theorem ekind_2 (v : Bool) (hs : ru.size ≤ 9223372036854775807) (H : Hid (Rl.name ru.data.toList = v)) : Calls Tryz.prog 64 #[.agg #[.int .i64 sd, .int .u8 2, .int .i64 0, .string ru, .string fm, .bool en, .int .i64 y, .int .i64 m, .int .u8 q, .int .i64 n, .int .i64 d, .int .i64 s, .int .u8 c]] w fun e w' => e = .returned (.bool v) ∧ Below w.heap.size w w' := by
  go_enter Tryz.func64, Tryz.ntmps64
  go_wp2_with fail
  refine (rname_is ru v _ hs H.out).mono ?_
  rintro e w' ⟨rfl, rfl⟩
  go_wp2_with fail
  go_ret
  exact ⟨rfl, (Below.refl _ _).alloc (Nat.le_refl _) _⟩
theorem ekind_3 (h0 : (k == 0) = false) (h1 : (k == 1) = false) (h2 : (k == 2) = false) : Calls Tryz.prog 64 #[.agg #[.int .i64 sd, .int .u8 k, .int .i64 sv, .string ru, .string fm, .bool en, .int .i64 y, .int .i64 m, .int .u8 q, .int .i64 n, .int .i64 d, .int .i64 s, .int .u8 c]] w fun e w' => e = .returned (.bool false) ∧ Below w.heap.size w w' := by
  go_enter Tryz.func64, Tryz.ntmps64
  go_wp2_with fail
  go_ret
  exact ⟨rfl, (Below.refl _ _).alloc (Nat.le_refl _) _⟩
theorem ekind_any (hs : ru.size ≤ 9223372036854775807) : Calls Tryz.prog 64 #[.agg #[.int .i64 sd, .int .u8 k, .int .i64 sv, .string ru, .string fm, .bool en, .int .i64 y, .int .i64 m, .int .u8 q, .int .i64 n, .int .i64 d, .int .i64 s, .int .u8 c]] w fun e w' => e = .returned (.bool (El.kind k sv ru.data.toList)) ∧ Below w.heap.size w w' := by
  unfold El.kind
  by_cases h0 : k = 0
  · rw [if_pos h0]
    subst h0
    by_cases h1 : sv = 0
    · subst h1
      by_cases h2 : ru.data.toList = []
      · obtain rfl := emp h2
        exact ekind_0ok sd fm en y m q n d s c w
      · have := nemp h2
        rw [show (decide ((0 : Int) = 0) && decide (ru.data.toList = [])) = false by first | (simp; done) | (simp; exact fun h => h2 (by rw [h]))]
        exact ekind_0ru sd ru fm en y m q n d s c w this.1 this.2
    · rw [show (decide (sv = 0) && decide (ru.data.toList = [])) = false by simp [h1]]
      exact ekind_0sv sd sv ru fm en y m q n d s c w (by rw [beq_eq_false_iff_ne]; exact h1)
  · rw [if_neg h0]
    by_cases h1 : k = 1
    · rw [if_pos h1]
      subst h1
      cases h2 : Rl.time sv with
      | false =>
        exact ekind_1no sd sv ru fm en y m q n d s c w (Lib.hid h2)
      | true =>
        by_cases h3 : ru.data.toList = []
        · obtain rfl := emp h3
          exact ekind_1ok sd sv fm en y m q n d s c w (Lib.hid h2)
        · have := nemp h3
          rw [show (true && decide (ru.data.toList = [])) = false by first | (simp; done) | (simp; exact fun h => h3 (by rw [h]))]
          exact ekind_1ru sd sv ru fm en y m q n d s c w (Lib.hid h2) this.1 this.2
    · rw [if_neg h1]
      by_cases h2 : k = 2
      · rw [if_pos h2]
        subst h2
        by_cases h3 : sv = 0
        · subst h3
          rw [show (decide ((0 : Int) = 0) && Rl.name ru.data.toList) = Rl.name ru.data.toList by simp]
          exact ekind_2 sd ru fm en y m q n d s c w _ hs (Lib.hid rfl)
        · rw [show (decide (sv = 0) && Rl.name ru.data.toList) = false by simp [h3]]
          exact ekind_2sv sd sv ru fm en y m q n d s c w (by rw [beq_eq_false_iff_ne]; exact h3)
      · rw [if_neg h2]
        exact ekind_3 sd k sv ru fm en y m q n d s c w (by rw [beq_eq_false_iff_ne]; exact h0) (by rw [beq_eq_false_iff_ne]; exact h1) (by rw [beq_eq_false_iff_ne]; exact h2)
theorem eend_yes (H : Hid (Mo.unt y m q n d s c = true)) : Calls Tryz.prog 66 #[.agg #[.int .i64 sd, .int .u8 k, .int .i64 sv, .string ru, .string fm, .bool true, .int .i64 y, .int .i64 m, .int .u8 q, .int .i64 n, .int .i64 d, .int .i64 s, .int .u8 c]] w fun e w' => e = .returned (.bool true) ∧ Below w.heap.size w w' := by
  go_enter Tryz.func66, Tryz.ntmps66
  go_wp2_with fail
  refine (ucheck_yes y m q n d s c _ H.out).mono ?_
  rintro e w1 ⟨rfl, b1⟩
  have a1 := ((Below.refl w.heap.size w).alloc (Nat.le_refl _) (.cells #[.int .i64 sd, .int .u8 k, .int .i64 sv, .string ru, .string fm, .bool true, .int .i64 y, .int .i64 m, .int .u8 q, .int .i64 n, .int .i64 d, .int .i64 s, .int .u8 c] 44)).trans (b1.mono (by simp))
  go_wp2_with fail
  go_ret
  exact ⟨rfl, a1⟩
theorem eend_no (H : Hid (Mo.unt y m q n d s c = false)) : Calls Tryz.prog 66 #[.agg #[.int .i64 sd, .int .u8 k, .int .i64 sv, .string ru, .string fm, .bool true, .int .i64 y, .int .i64 m, .int .u8 q, .int .i64 n, .int .i64 d, .int .i64 s, .int .u8 c]] w fun e w' => e = .returned (.bool false) ∧ Below w.heap.size w w' := by
  go_enter Tryz.func66, Tryz.ntmps66
  go_wp2_with fail
  refine (ucheck_no y m q n d s c _ H.out).mono ?_
  rintro e w1 ⟨rfl, b1⟩
  have a1 := ((Below.refl w.heap.size w).alloc (Nat.le_refl _) (.cells #[.int .i64 sd, .int .u8 k, .int .i64 sv, .string ru, .string fm, .bool true, .int .i64 y, .int .i64 m, .int .u8 q, .int .i64 n, .int .i64 d, .int .i64 s, .int .u8 c] 44)).trans (b1.mono (by simp))
  go_wp2_with fail
  go_ret
  exact ⟨rfl, a1⟩
theorem eend_nil : Calls Tryz.prog 66 #[.agg #[.int .i64 sd, .int .u8 k, .int .i64 sv, .string ru, .string fm, .bool false, .int .i64 y, .int .i64 m, .int .u8 q, .int .i64 n, .int .i64 d, .int .i64 s, .int .u8 c]] w fun e w' => e = .returned (.bool (Ut.nil ⟨y, m, q, n, d, s, c⟩)) ∧ Below w.heap.size w w' := by
  have HN := Lib.hid (show ∀ b : Bool, (b = true ↔ (y = 0 ∧ m = 0 ∧ q = 0 ∧ n = 0 ∧ d = 0 ∧ s = 0 ∧ c = 0)) → b = Ut.nil ⟨y, m, q, n, d, s, c⟩ from fun b h => by
    unfold Ut.nil
    rw [Bool.eq_iff_iff, decide_eq_true_eq]
    exact h)
  go_enter Tryz.func66, Tryz.ntmps66
  go_wp2_with fail
  all_goals
    go_ret
    exact ⟨ret_bool (HN.out _ ⟨fun h => by first | (cases h; done) | omega, fun h => by first | rfl | (exfalso; omega)⟩), (Below.refl _ _).alloc (Nat.le_refl _) _⟩
theorem eend_any : Calls Tryz.prog 66 #[.agg #[.int .i64 sd, .int .u8 k, .int .i64 sv, .string ru, .string fm, .bool en, .int .i64 y, .int .i64 m, .int .u8 q, .int .i64 n, .int .i64 d, .int .i64 s, .int .u8 c]] w fun e w' => e = .returned (.bool (El.ends en ⟨y, m, q, n, d, s, c⟩)) ∧ Below w.heap.size w w' := by
  unfold El.ends
  cases en with
  | false =>
    rw [if_neg (by decide)]
    exact eend_nil sd k sv ru fm y m q n d s c w
  | true =>
    rw [if_pos rfl]
    cases h : Mo.un ⟨y, m, q, n, d, s, c⟩ with
    | false => exact eend_no sd k sv ru fm y m q n d s c w (Lib.hid h)
    | true => exact eend_yes sd k sv ru fm y m q n d s c w (Lib.hid h)
end
set_option maxHeartbeats 1000000 in
theorem eright_0 (sd k sv : Int) (ru fm : ByteArray) (en : Bool) (y m q n d s c : Int) (w : World) (_HE : Hid (Ev w)) (_hs : ru.size ≤ 9223372036854775807) (H0 : Hid (Rl.time sd = false)) : Calls Tryz.prog 30 #[.agg #[.int .i64 sd, .int .u8 k, .int .i64 sv, .string ru, .string fm, .bool en, .int .i64 y, .int .i64 m, .int .u8 q, .int .i64 n, .int .i64 d, .int .i64 s, .int .u8 c]] w fun e w' => e = .returned (.bool false) ∧ Below w.heap.size w w' := by
  go_enter Tryz.func30, Tryz.ntmps30
  go_wp2_with fail
  refine (isTime_is sd false _ H0.out).mono ?_
  rintro e w' ⟨rfl, rfl⟩
  have a0 : Below w.heap.size w (w.alloc (.cells #[.int .i64 sd, .int .u8 k, .int .i64 sv, .string ru, .string fm, .bool en, .int .i64 y, .int .i64 m, .int .u8 q, .int .i64 n, .int .i64 d, .int .i64 s, .int .u8 c] 44)) := (Below.refl _ _).alloc (Nat.le_refl _) _
  have k0 : Below (w.heap.size + 1) (w.alloc (.cells #[.int .i64 sd, .int .u8 k, .int .i64 sv, .string ru, .string fm, .bool en, .int .i64 y, .int .i64 m, .int .u8 q, .int .i64 n, .int .i64 d, .int .i64 s, .int .u8 c] 44)) (w.alloc (.cells #[.int .i64 sd, .int .u8 k, .int .i64 sv, .string ru, .string fm, .bool en, .int .i64 y, .int .i64 m, .int .u8 q, .int .i64 n, .int .i64 d, .int .i64 s, .int .u8 c] 44)) := Below.refl _ _
  have z0 : w.heap.size + 1 ≤ (w.alloc (.cells #[.int .i64 sd, .int .u8 k, .int .i64 sv, .string ru, .string fm, .bool en, .int .i64 y, .int .i64 m, .int .u8 q, .int .i64 n, .int .i64 d, .int .i64 s, .int .u8 c] 44)).heap.size := by simp
  go_wp2_with fail
  go_ret
  exact ⟨rfl, a0.trans (k0.mono (Nat.le_succ _))⟩
set_option maxHeartbeats 1000000 in
theorem eright_1 (sd k sv : Int) (ru fm : ByteArray) (en : Bool) (y m q n d s c : Int) (w : World) (_HE : Hid (Ev w)) (hs : ru.size ≤ 9223372036854775807) (H0 : Hid (Rl.time sd = true)) (H1 : Hid (El.kind k sv ru.data.toList = false)) : Calls Tryz.prog 30 #[.agg #[.int .i64 sd, .int .u8 k, .int .i64 sv, .string ru, .string fm, .bool en, .int .i64 y, .int .i64 m, .int .u8 q, .int .i64 n, .int .i64 d, .int .i64 s, .int .u8 c]] w fun e w' => e = .returned (.bool false) ∧ Below w.heap.size w w' := by
  have HK := Lib.hid (fun W => ekind_any sd k sv ru fm en y m q n d s c W hs)
  rw [H1.out] at HK
  go_enter Tryz.func30, Tryz.ntmps30
  go_wp2_with fail
  refine (isTime_is sd true _ H0.out).mono ?_
  rintro e w' ⟨rfl, rfl⟩
  have a0 : Below w.heap.size w (w.alloc (.cells #[.int .i64 sd, .int .u8 k, .int .i64 sv, .string ru, .string fm, .bool en, .int .i64 y, .int .i64 m, .int .u8 q, .int .i64 n, .int .i64 d, .int .i64 s, .int .u8 c] 44)) := (Below.refl _ _).alloc (Nat.le_refl _) _
  have k0 : Below (w.heap.size + 1) (w.alloc (.cells #[.int .i64 sd, .int .u8 k, .int .i64 sv, .string ru, .string fm, .bool en, .int .i64 y, .int .i64 m, .int .u8 q, .int .i64 n, .int .i64 d, .int .i64 s, .int .u8 c] 44)) (w.alloc (.cells #[.int .i64 sd, .int .u8 k, .int .i64 sv, .string ru, .string fm, .bool en, .int .i64 y, .int .i64 m, .int .u8 q, .int .i64 n, .int .i64 d, .int .i64 s, .int .u8 c] 44)) := Below.refl _ _
  have z0 : w.heap.size + 1 ≤ (w.alloc (.cells #[.int .i64 sd, .int .u8 k, .int .i64 sv, .string ru, .string fm, .bool en, .int .i64 y, .int .i64 m, .int .u8 q, .int .i64 n, .int .i64 d, .int .i64 s, .int .u8 c] 44)).heap.size := by simp
  go_wp2_with fail
  refine (HK.out _).mono ?_
  rintro e w1 ⟨rfl, b1⟩
  have k1 := k0.trans (b1.mono z0)
  have z1 : w.heap.size + 1 ≤ w1.heap.size := Nat.le_trans z0 k1.size
  have hc1 : ∀ o, w1.cell? ⟨w.heap.size, o, none⟩ = (w.alloc (.cells #[.int .i64 sd, .int .u8 k, .int .i64 sv, .string ru, .string fm, .bool en, .int .i64 y, .int .i64 m, .int .u8 q, .int .i64 n, .int .i64 d, .int .i64 s, .int .u8 c] 44)).cell? ⟨w.heap.size, o, none⟩ := fun o => k1.cell (p := ⟨w.heap.size, o, none⟩) (Nat.lt_succ_self _)
  go_wp2_with fail
  go_ret
  exact ⟨rfl, a0.trans (k1.mono (Nat.le_succ _))⟩
set_option maxHeartbeats 1000000 in
theorem eright_2 (sd k sv : Int) (ru fm : ByteArray) (en : Bool) (y m q n d s c : Int) (w : World) (HE : Hid (Ev w)) (hs : ru.size ≤ 9223372036854775807) (H0 : Hid (Rl.time sd = true)) (H1 : Hid (El.kind k sv ru.data.toList = true)) (H2 : Hid (Fm.fmt fm.data.toList = false)) : Calls Tryz.prog 30 #[.agg #[.int .i64 sd, .int .u8 k, .int .i64 sv, .string ru, .string fm, .bool en, .int .i64 y, .int .i64 m, .int .u8 q, .int .i64 n, .int .i64 d, .int .i64 s, .int .u8 c]] w fun e w' => e = .returned (.bool false) ∧ Below w.heap.size w w' := by
  have HK := Lib.hid (fun W => ekind_any sd k sv ru fm en y m q n d s c W hs)
  rw [H1.out] at HK
  go_enter Tryz.func30, Tryz.ntmps30
  go_wp2_with fail
  refine (isTime_is sd true _ H0.out).mono ?_
  rintro e w' ⟨rfl, rfl⟩
  have a0 : Below w.heap.size w (w.alloc (.cells #[.int .i64 sd, .int .u8 k, .int .i64 sv, .string ru, .string fm, .bool en, .int .i64 y, .int .i64 m, .int .u8 q, .int .i64 n, .int .i64 d, .int .i64 s, .int .u8 c] 44)) := (Below.refl _ _).alloc (Nat.le_refl _) _
  have k0 : Below (w.heap.size + 1) (w.alloc (.cells #[.int .i64 sd, .int .u8 k, .int .i64 sv, .string ru, .string fm, .bool en, .int .i64 y, .int .i64 m, .int .u8 q, .int .i64 n, .int .i64 d, .int .i64 s, .int .u8 c] 44)) (w.alloc (.cells #[.int .i64 sd, .int .u8 k, .int .i64 sv, .string ru, .string fm, .bool en, .int .i64 y, .int .i64 m, .int .u8 q, .int .i64 n, .int .i64 d, .int .i64 s, .int .u8 c] 44)) := Below.refl _ _
  have z0 : w.heap.size + 1 ≤ (w.alloc (.cells #[.int .i64 sd, .int .u8 k, .int .i64 sv, .string ru, .string fm, .bool en, .int .i64 y, .int .i64 m, .int .u8 q, .int .i64 n, .int .i64 d, .int .i64 s, .int .u8 c] 44)).heap.size := by simp
  go_wp2_with fail
  refine (HK.out _).mono ?_
  rintro e w1 ⟨rfl, b1⟩
  have k1 := k0.trans (b1.mono z0)
  have z1 : w.heap.size + 1 ≤ w1.heap.size := Nat.le_trans z0 k1.size
  have hc1 : ∀ o, w1.cell? ⟨w.heap.size, o, none⟩ = (w.alloc (.cells #[.int .i64 sd, .int .u8 k, .int .i64 sv, .string ru, .string fm, .bool en, .int .i64 y, .int .i64 m, .int .u8 q, .int .i64 n, .int .i64 d, .int .i64 s, .int .u8 c] 44)).cell? ⟨w.heap.size, o, none⟩ := fun o => k1.cell (p := ⟨w.heap.size, o, none⟩) (Nat.lt_succ_self _)
  go_wp2_with fail
  refine (fcheck_no fm _ ((HE.out.alloc _).below b1).marks ((HE.out.alloc _).below b1).mxa H2.out).mono ?_
  rintro e w2 ⟨rfl, b2⟩
  have k2 := k1.trans (b2.mono z1)
  have z2 : w.heap.size + 1 ≤ w2.heap.size := Nat.le_trans z0 k2.size
  have hc2 : ∀ o, w2.cell? ⟨w.heap.size, o, none⟩ = (w.alloc (.cells #[.int .i64 sd, .int .u8 k, .int .i64 sv, .string ru, .string fm, .bool en, .int .i64 y, .int .i64 m, .int .u8 q, .int .i64 n, .int .i64 d, .int .i64 s, .int .u8 c] 44)).cell? ⟨w.heap.size, o, none⟩ := fun o => k2.cell (p := ⟨w.heap.size, o, none⟩) (Nat.lt_succ_self _)
  clear hc1
  go_wp2_with fail
  go_ret
  exact ⟨rfl, a0.trans (k2.mono (Nat.le_succ _))⟩
set_option maxHeartbeats 1000000 in
theorem eright_3 (sd k sv : Int) (ru fm : ByteArray) (en : Bool) (y m q n d s c : Int) (w : World) (HE : Hid (Ev w)) (hs : ru.size ≤ 9223372036854775807) (H0 : Hid (Rl.time sd = true)) (H1 : Hid (El.kind k sv ru.data.toList = true)) (H2 : Hid (Fm.fmt fm.data.toList = true)) (H3 : Hid (El.ends en ⟨y, m, q, n, d, s, c⟩ = false)) : Calls Tryz.prog 30 #[.agg #[.int .i64 sd, .int .u8 k, .int .i64 sv, .string ru, .string fm, .bool en, .int .i64 y, .int .i64 m, .int .u8 q, .int .i64 n, .int .i64 d, .int .i64 s, .int .u8 c]] w fun e w' => e = .returned (.bool false) ∧ Below w.heap.size w w' := by
  have HK := Lib.hid (fun W => ekind_any sd k sv ru fm en y m q n d s c W hs)
  rw [H1.out] at HK
  have HF := Lib.hid (fun W => eend_any sd k sv ru fm en y m q n d s c W)
  rw [H3.out] at HF
  go_enter Tryz.func30, Tryz.ntmps30
  go_wp2_with fail
  refine (isTime_is sd true _ H0.out).mono ?_
  rintro e w' ⟨rfl, rfl⟩
  have a0 : Below w.heap.size w (w.alloc (.cells #[.int .i64 sd, .int .u8 k, .int .i64 sv, .string ru, .string fm, .bool en, .int .i64 y, .int .i64 m, .int .u8 q, .int .i64 n, .int .i64 d, .int .i64 s, .int .u8 c] 44)) := (Below.refl _ _).alloc (Nat.le_refl _) _
  have k0 : Below (w.heap.size + 1) (w.alloc (.cells #[.int .i64 sd, .int .u8 k, .int .i64 sv, .string ru, .string fm, .bool en, .int .i64 y, .int .i64 m, .int .u8 q, .int .i64 n, .int .i64 d, .int .i64 s, .int .u8 c] 44)) (w.alloc (.cells #[.int .i64 sd, .int .u8 k, .int .i64 sv, .string ru, .string fm, .bool en, .int .i64 y, .int .i64 m, .int .u8 q, .int .i64 n, .int .i64 d, .int .i64 s, .int .u8 c] 44)) := Below.refl _ _
  have z0 : w.heap.size + 1 ≤ (w.alloc (.cells #[.int .i64 sd, .int .u8 k, .int .i64 sv, .string ru, .string fm, .bool en, .int .i64 y, .int .i64 m, .int .u8 q, .int .i64 n, .int .i64 d, .int .i64 s, .int .u8 c] 44)).heap.size := by simp
  go_wp2_with fail
  refine (HK.out _).mono ?_
  rintro e w1 ⟨rfl, b1⟩
  have k1 := k0.trans (b1.mono z0)
  have z1 : w.heap.size + 1 ≤ w1.heap.size := Nat.le_trans z0 k1.size
  have hc1 : ∀ o, w1.cell? ⟨w.heap.size, o, none⟩ = (w.alloc (.cells #[.int .i64 sd, .int .u8 k, .int .i64 sv, .string ru, .string fm, .bool en, .int .i64 y, .int .i64 m, .int .u8 q, .int .i64 n, .int .i64 d, .int .i64 s, .int .u8 c] 44)).cell? ⟨w.heap.size, o, none⟩ := fun o => k1.cell (p := ⟨w.heap.size, o, none⟩) (Nat.lt_succ_self _)
  go_wp2_with fail
  refine (fcheck_yes fm _ ((HE.out.alloc _).below b1).marks ((HE.out.alloc _).below b1).mxa H2.out).mono ?_
  rintro e w2 ⟨rfl, b2⟩
  have k2 := k1.trans (b2.mono z1)
  have z2 : w.heap.size + 1 ≤ w2.heap.size := Nat.le_trans z0 k2.size
  have hc2 : ∀ o, w2.cell? ⟨w.heap.size, o, none⟩ = (w.alloc (.cells #[.int .i64 sd, .int .u8 k, .int .i64 sv, .string ru, .string fm, .bool en, .int .i64 y, .int .i64 m, .int .u8 q, .int .i64 n, .int .i64 d, .int .i64 s, .int .u8 c] 44)).cell? ⟨w.heap.size, o, none⟩ := fun o => k2.cell (p := ⟨w.heap.size, o, none⟩) (Nat.lt_succ_self _)
  clear hc1
  go_wp2_with fail
  refine (HF.out _).mono ?_
  rintro e w3 ⟨rfl, b3⟩
  have k3 := k2.trans (b3.mono z2)
  have z3 : w.heap.size + 1 ≤ w3.heap.size := Nat.le_trans z0 k3.size
  have hc3 : ∀ o, w3.cell? ⟨w.heap.size, o, none⟩ = (w.alloc (.cells #[.int .i64 sd, .int .u8 k, .int .i64 sv, .string ru, .string fm, .bool en, .int .i64 y, .int .i64 m, .int .u8 q, .int .i64 n, .int .i64 d, .int .i64 s, .int .u8 c] 44)).cell? ⟨w.heap.size, o, none⟩ := fun o => k3.cell (p := ⟨w.heap.size, o, none⟩) (Nat.lt_succ_self _)
  clear hc2
  go_wp2_with fail
  go_ret
  exact ⟨rfl, a0.trans (k3.mono (Nat.le_succ _))⟩
set_option maxHeartbeats 1000000 in
theorem eright_4 (sd k sv : Int) (ru fm : ByteArray) (en : Bool) (y m q n d s c : Int) (w : World) (HE : Hid (Ev w)) (hs : ru.size ≤ 9223372036854775807) (H0 : Hid (Rl.time sd = true)) (H1 : Hid (El.kind k sv ru.data.toList = true)) (H2 : Hid (Fm.fmt fm.data.toList = true)) (H3 : Hid (El.ends en ⟨y, m, q, n, d, s, c⟩ = true)) : Calls Tryz.prog 30 #[.agg #[.int .i64 sd, .int .u8 k, .int .i64 sv, .string ru, .string fm, .bool en, .int .i64 y, .int .i64 m, .int .u8 q, .int .i64 n, .int .i64 d, .int .i64 s, .int .u8 c]] w fun e w' => e = .returned (.bool true) ∧ Below w.heap.size w w' := by
  have HK := Lib.hid (fun W => ekind_any sd k sv ru fm en y m q n d s c W hs)
  rw [H1.out] at HK
  have HF := Lib.hid (fun W => eend_any sd k sv ru fm en y m q n d s c W)
  rw [H3.out] at HF
  go_enter Tryz.func30, Tryz.ntmps30
  go_wp2_with fail
  refine (isTime_is sd true _ H0.out).mono ?_
  rintro e w' ⟨rfl, rfl⟩
  have a0 : Below w.heap.size w (w.alloc (.cells #[.int .i64 sd, .int .u8 k, .int .i64 sv, .string ru, .string fm, .bool en, .int .i64 y, .int .i64 m, .int .u8 q, .int .i64 n, .int .i64 d, .int .i64 s, .int .u8 c] 44)) := (Below.refl _ _).alloc (Nat.le_refl _) _
  have k0 : Below (w.heap.size + 1) (w.alloc (.cells #[.int .i64 sd, .int .u8 k, .int .i64 sv, .string ru, .string fm, .bool en, .int .i64 y, .int .i64 m, .int .u8 q, .int .i64 n, .int .i64 d, .int .i64 s, .int .u8 c] 44)) (w.alloc (.cells #[.int .i64 sd, .int .u8 k, .int .i64 sv, .string ru, .string fm, .bool en, .int .i64 y, .int .i64 m, .int .u8 q, .int .i64 n, .int .i64 d, .int .i64 s, .int .u8 c] 44)) := Below.refl _ _
  have z0 : w.heap.size + 1 ≤ (w.alloc (.cells #[.int .i64 sd, .int .u8 k, .int .i64 sv, .string ru, .string fm, .bool en, .int .i64 y, .int .i64 m, .int .u8 q, .int .i64 n, .int .i64 d, .int .i64 s, .int .u8 c] 44)).heap.size := by simp
  go_wp2_with fail
  refine (HK.out _).mono ?_
  rintro e w1 ⟨rfl, b1⟩
  have k1 := k0.trans (b1.mono z0)
  have z1 : w.heap.size + 1 ≤ w1.heap.size := Nat.le_trans z0 k1.size
  have hc1 : ∀ o, w1.cell? ⟨w.heap.size, o, none⟩ = (w.alloc (.cells #[.int .i64 sd, .int .u8 k, .int .i64 sv, .string ru, .string fm, .bool en, .int .i64 y, .int .i64 m, .int .u8 q, .int .i64 n, .int .i64 d, .int .i64 s, .int .u8 c] 44)).cell? ⟨w.heap.size, o, none⟩ := fun o => k1.cell (p := ⟨w.heap.size, o, none⟩) (Nat.lt_succ_self _)
  go_wp2_with fail
  refine (fcheck_yes fm _ ((HE.out.alloc _).below b1).marks ((HE.out.alloc _).below b1).mxa H2.out).mono ?_
  rintro e w2 ⟨rfl, b2⟩
  have k2 := k1.trans (b2.mono z1)
  have z2 : w.heap.size + 1 ≤ w2.heap.size := Nat.le_trans z0 k2.size
  have hc2 : ∀ o, w2.cell? ⟨w.heap.size, o, none⟩ = (w.alloc (.cells #[.int .i64 sd, .int .u8 k, .int .i64 sv, .string ru, .string fm, .bool en, .int .i64 y, .int .i64 m, .int .u8 q, .int .i64 n, .int .i64 d, .int .i64 s, .int .u8 c] 44)).cell? ⟨w.heap.size, o, none⟩ := fun o => k2.cell (p := ⟨w.heap.size, o, none⟩) (Nat.lt_succ_self _)
  clear hc1
  go_wp2_with fail
  refine (HF.out _).mono ?_
  rintro e w3 ⟨rfl, b3⟩
  have k3 := k2.trans (b3.mono z2)
  have z3 : w.heap.size + 1 ≤ w3.heap.size := Nat.le_trans z0 k3.size
  have hc3 : ∀ o, w3.cell? ⟨w.heap.size, o, none⟩ = (w.alloc (.cells #[.int .i64 sd, .int .u8 k, .int .i64 sv, .string ru, .string fm, .bool en, .int .i64 y, .int .i64 m, .int .u8 q, .int .i64 n, .int .i64 d, .int .i64 s, .int .u8 c] 44)).cell? ⟨w.heap.size, o, none⟩ := fun o => k3.cell (p := ⟨w.heap.size, o, none⟩) (Nat.lt_succ_self _)
  clear hc2
  go_wp2_with fail
  go_ret
  exact ⟨rfl, a0.trans (k3.mono (Nat.le_succ _))⟩
theorem eisRight_any (e : Er) (w : World) (hE : Ev w) (hs : e.ru.size ≤ 9223372036854775807) : Calls Tryz.prog 30 #[erV e] w fun x w' => x = .returned (.bool (El.right e)) ∧ Below w.heap.size w w' := by
  unfold El.right
  obtain ⟨sd, k, sv, ru, fm, en, ⟨y, m, q, n, d, s, c⟩⟩ := e
  simp only at hs ⊢
  cases h0 : Rl.time sd with
  | false => exact eright_0 sd k sv ru fm en y m q n d s c w (Lib.hid hE) hs (Lib.hid h0)
  | true =>
    cases h1 : El.kind k sv ru.data.toList with
    | false => exact eright_1 sd k sv ru fm en y m q n d s c w (Lib.hid hE) hs (Lib.hid h0) (Lib.hid h1)
    | true =>
      cases h2 : Fm.fmt fm.data.toList with
      | false => exact eright_2 sd k sv ru fm en y m q n d s c w (Lib.hid hE) hs (Lib.hid h0) (Lib.hid h1) (Lib.hid h2)
      | true =>
        cases h3 : El.ends en ⟨y, m, q, n, d, s, c⟩ with
        | false => exact eright_3 sd k sv ru fm en y m q n d s c w (Lib.hid hE) hs (Lib.hid h0) (Lib.hid h1) (Lib.hid h2) (Lib.hid h3)
        | true =>
          exact eright_4 sd k sv ru fm en y m q n d s c w (Lib.hid hE) hs (Lib.hid h0) (Lib.hid h1) (Lib.hid h2) (Lib.hid h3)
theorem eisRight_is (e : Er) (v : Bool) (w : World) (hE : Ev w) (hs : e.ru.size ≤ 9223372036854775807) (h : El.right e = v) : Calls Tryz.prog 30 #[erV e] w fun x w' => x = .returned (.bool v) ∧ Below w.heap.size w w' := by
  subst h
  exact eisRight_any e w hE hs
theorem echeck_is (e : Er) (v : Bool) (w : World) (hE : Ev w) (hs : e.ru.size ≤ 9223372036854775807) (h : El.right e = v) : Calls Tryz.prog 16 #[erV e] w fun x w' => x = .returned (.int .i64 (if v = true then 0 else 2)) ∧ Below w.heap.size w w' := by
  have HH := Lib.hid (fun W (hE : Ev W) => eisRight_is e v W hE hs h)
  have HE := Lib.hid hE
  obtain ⟨sd, k, sv, ru, fm, en, ⟨y, m, q, n, d, s, c⟩⟩ := e
  clear h hE
  cases v with
  | false =>
    go_enter Tryz.func16, Tryz.ntmps16
    go_wp2_with fail
    refine (HH.out _ (HE.out.alloc _)).mono ?_
    rintro e w1 ⟨rfl, b1⟩
    have a1 := ((Below.refl w.heap.size w).alloc (Nat.le_refl _) (.cells #[.int .i64 sd, .int .u8 k, .int .i64 sv, .string ru, .string fm, .bool en, .int .i64 y, .int .i64 m, .int .u8 q, .int .i64 n, .int .i64 d, .int .i64 s, .int .u8 c] 44)).trans (b1.mono (by simp))
    go_wp2_with fail
    go_ret
    exact ⟨rfl, a1⟩
  | true =>
    go_enter Tryz.func16, Tryz.ntmps16
    go_wp2_with fail
    refine (HH.out _ (HE.out.alloc _)).mono ?_
    rintro e w1 ⟨rfl, b1⟩
    have a1 := ((Below.refl w.heap.size w).alloc (Nat.le_refl _) (.cells #[.int .i64 sd, .int .u8 k, .int .i64 sv, .string ru, .string fm, .bool en, .int .i64 y, .int .i64 m, .int .u8 q, .int .i64 n, .int .i64 d, .int .i64 s, .int .u8 c] 44)).trans (b1.mono (by simp))
    go_wp2_with fail
    go_ret
    exact ⟨rfl, a1⟩
end Go.Proofs.YtigmbkcjmlpfoaaGreatDoor
