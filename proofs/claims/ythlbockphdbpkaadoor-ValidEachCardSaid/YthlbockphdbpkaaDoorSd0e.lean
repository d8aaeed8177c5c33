/- What is wanted of the texts behind: a piece, by program. -/
import Derived.Test.YthlbockphdbpkaaDoorProg
import Derived.Test.YthlbockphdbpkaaDoorShelf
import Derived.Lib.Join
import Derived.Shelf.Abstract
import Init
import Derived.WalkKit
import Derived.Lib.Hide
import Derived.Deep.QuietTactic
import Derived.BigQuiet
import Derived.Outline
import Derived.Lib.ItoaNum
import Derived.Lib.Split
import Derived.LoopTactic
import Derived.Lib.LaidTab
import Derived.Lib.AppendIntMem
import Derived.LoopN
import Derived.Handy
import Derived.Deep.RegionHeld3
import Derived.Below
import Derived.ChangeSlices
import Derived.SliceStrings
import Derived.WideShapes
import Derived.Deep.Slices
import Derived.OpenShut
import Derived.Calls
import Derived.Lib.IndexMore
import Derived.Laws.IdiomStrings
import Derived.Laws.AppendOwn
import Derived.Lib.BufferWrite
import Derived.Deep.RegionLaw
import Derived.Lib.LazyBuf
import Derived.OwnWalk
import Derived.ChangeArms
import Derived.Deep.LoopGhost
import Derived.Scope
import Derived.ScopeJumps
import Derived.WalkMore
import Derived.Lib.BufferRead
import Derived.Laws.OwnMore
import Derived.Maps.AppendAt
import Derived.Deep.AppendLies
import Derived.Lib.AppendZeros
import Derived.Laws.AppendOwnNone
import Derived.Lib.SplitLaws
import Derived.Lib.SmallJoins
import Derived.Test.YthlbockphdbpkaaDoorSd0a
import Derived.Test.YthlbockphdbpkaaDoorSd0b
import Derived.Test.YthlbockphdbpkaaDoorSd0c
import Derived.Test.YthlbockphdbpkaaDoorSd0d
namespace Go.Proofs.YthlbockphdbpkaaDoor
open Go.RowKit
/-- The tables that eras need: times' and formats'. -/
structure Ev (w : World) : Prop where
  env : Env w
  marks : Marks w
theorem Ev.below {w w' : World} (h : Ev w) (hb : Below w.heap.size w w') : Ev w' := ⟨h.env.below hb, h.marks.below hb⟩
theorem Ev.alloc {w : World} (h : Ev w) (o : Obj) : Ev (w.alloc o) := h.below ((Below.refl _ _).alloc (Nat.le_refl _) o)
theorem Ev.mxa {w : World} (h : Ev w) : Mxa w := h.env.longest
theorem isTime_any (t : Int) (w : World) : Calls Tryd.prog 86 #[.int .i64 t] w fun e w' => e = .returned (.bool (Rl.time t)) ∧ w = w' := by
  by_cases h1 : t < -604800
  · have HE := Lib.hid (show false = Rl.time t by symm; unfold Rl.time; rw [decide_eq_false_iff_not]; omega)
    have t1 : decide (-604800 ≤ t) = false := by simp; omega
    go_enter Tryd.func86, Tryd.ntmps86
    go_wp2_with fail
    go_ret
    exact ⟨ret_bool HE.out, rfl⟩
  · have t1 : -604800 ≤ t := by omega
    by_cases h2 : t ≤ 604800
    · have HE := Lib.hid (show true = Rl.time t by symm; unfold Rl.time; rw [decide_eq_true_eq]; omega)
      clear h1
      go_enter Tryd.func86, Tryd.ntmps86
      go_wp2_with fail
      go_ret
      exact ⟨ret_bool HE.out, rfl⟩
    · have HE := Lib.hid (show false = Rl.time t by symm; unfold Rl.time; rw [decide_eq_false_iff_not]; omega)
      have t2 : decide (t ≤ 604800) = false := by simp; omega
      clear h1 h2
      go_enter Tryd.func86, Tryd.ntmps86
      go_wp2_with fail
      go_ret
      exact ⟨ret_bool HE.out, rfl⟩
theorem isTime_is (t : Int) (v : Bool) (w : World) (h : Rl.time t = v) : Calls Tryd.prog 86 #[.int .i64 t] w fun e w' => e = .returned (.bool v) ∧ w = w' := by
  subst h
  exact isTime_any t w
theorem ucheck_no (y m k n d s c : Int) (w : World) (h : Mo.unt y m k n d s c = false) : Calls Tryd.prog 96 #[untV y m k n d s c] w fun e w' => e = .returned (.int .i64 2) ∧ Below w.heap.size w w' := by
  have H := Lib.hid h
  clear h
  go_enter Tryd.func96, Tryd.ntmps96
  go_wp2_with fail
  refine (isUntil_is y m k n d s c false _ H.out).mono ?_
  rintro e w1 ⟨rfl, b1⟩
  have a1 : Below w.heap.size w w1 := ((Below.refl _ _).alloc (Nat.le_refl _) _).trans (b1.mono (by simp))
  go_wp2_with fail
  go_ret
  exact ⟨rfl, a1⟩
theorem emp {s : ByteArray} (h : s.data.toList = []) : s = ⟨#[]⟩ := ByteArray.ext (Array.toList_inj.1 h)
theorem nemp {s : ByteArray} (h : s.data.toList ≠ []) : s.toList.isEmpty = false ∧ ¬ s.toList = [] := ⟨by rw [ByteArray.toList_eq]; simpa using h, by rw [ByteArray.toList_eq]; exact h⟩
section
variable (sd k sv : Int) (ru fm : ByteArray) (en : Bool) (y m q n d s c : Int) (w : World)
theorem ekind_0ok  : Calls Tryd.prog 87 #[.agg #[.int .i64 sd, .int .u8 0, .int .i64 0, .string ⟨#[]⟩, .string fm, .bool en, .int .i64 y, .int .i64 m, .int .u8 q, .int .i64 n, .int .i64 d, .int .i64 s, .int .u8 c]] w fun e w' => e = .returned (.bool true) ∧ Below w.heap.size w w' := by
  go_enter Tryd.func87, Tryd.ntmps87
  go_wp2_with fail
  go_ret
  exact ⟨rfl, (Below.refl _ _).alloc (Nat.le_refl _) _⟩
theorem ekind_0sv (h : (sv == 0) = false) : Calls Tryd.prog 87 #[.agg #[.int .i64 sd, .int .u8 0, .int .i64 sv, .string ru, .string fm, .bool en, .int .i64 y, .int .i64 m, .int .u8 q, .int .i64 n, .int .i64 d, .int .i64 s, .int .u8 c]] w fun e w' => e = .returned (.bool false) ∧ Below w.heap.size w w' := by
  go_enter Tryd.func87, Tryd.ntmps87
  go_wp2_with fail
  go_ret
  exact ⟨rfl, (Below.refl _ _).alloc (Nat.le_refl _) _⟩
theorem ekind_0ru (h2 : ru.toList.isEmpty = false) (_h3 : ¬ ru.toList = []) : Calls Tryd.prog 87 #[.agg #[.int .i64 sd, .int .u8 0, .int .i64 0, .string ru, .string fm, .bool en, .int .i64 y, .int .i64 m, .int .u8 q, .int .i64 n, .int .i64 d, .int .i64 s, .int .u8 c]] w fun e w' => e = .returned (.bool false) ∧ Below w.heap.size w w' := by
  go_enter Tryd.func87, Tryd.ntmps87
  go_wp2_with fail
  go_ret
  exact ⟨rfl, (Below.refl _ _).alloc (Nat.le_refl _) _⟩
theorem ekind_1no (H : Hid (Rl.time sv = false)) : Calls Tryd.prog 87 #[.agg #[.int .i64 sd, .int .u8 1, .int .i64 sv, .string ru, .string fm, .bool en, .int .i64 y, .int .i64 m, .int .u8 q, .int .i64 n, .int .i64 d, .int .i64 s, .int .u8 c]] w fun e w' => e = .returned (.bool false) ∧ Below w.heap.size w w' := by
  go_enter Tryd.func87, Tryd.ntmps87
  go_wp2_with fail
  refine (isTime_is sv false _ H.out).mono ?_
  rintro e w' ⟨rfl, rfl⟩
  go_wp2_with fail
  go_ret
  exact ⟨rfl, (Below.refl _ _).alloc (Nat.le_refl _) _⟩
theorem ekind_1ru (H : Hid (Rl.time sv = true)) (h2 : ru.toList.isEmpty = false) (_h3 : ¬ ru.toList = []) : Calls Tryd.prog 87 #[.agg #[.int .i64 sd, .int .u8 1, .int .i64 sv, .string ru, .string fm, .bool en, .int .i64 y, .int .i64 m, .int .u8 q, .int .i64 n, .int .i64 d, .int .i64 s, .int .u8 c]] w fun e w' => e = .returned (.bool false) ∧ Below w.heap.size w w' := by
  go_enter Tryd.func87, Tryd.ntmps87
  go_wp2_with fail
  refine (isTime_is sv true _ H.out).mono ?_
  rintro e w' ⟨rfl, rfl⟩
  go_wp2_with fail
  go_ret
  exact ⟨rfl, (Below.refl _ _).alloc (Nat.le_refl _) _⟩
theorem ekind_1ok (H : Hid (Rl.time sv = true)) : Calls Tryd.prog 87 #[.agg #[.int .i64 sd, .int .u8 1, .int .i64 sv, .string ⟨#[]⟩, .string fm, .bool en, .int .i64 y, .int .i64 m, .int .u8 q, .int .i64 n, .int .i64 d, .int .i64 s, .int .u8 c]] w fun e w' => e = .returned (.bool true) ∧ Below w.heap.size w w' := by
  go_enter Tryd.func87, Tryd.ntmps87
  go_wp2_with fail
  refine (isTime_is sv true _ H.out).mono ?_
  rintro e w' ⟨rfl, rfl⟩
  go_wp2_with fail
  go_ret
  exact ⟨rfl, (Below.refl _ _).alloc (Nat.le_refl _) _⟩
theorem ekind_2sv (h : (sv == 0) = false) : Calls Tryd.prog 87 #[.agg #[.int .i64 sd, .int .u8 2, .int .i64 sv, .string ru, .string fm, .bool en, .int .i64 y, .int .i64 m, .int .u8 q, .int .i64 n, .int .i64 d, .int .i64 s, .int .u8 c]] w fun e w' => e = .returned (.bool false) ∧ Below w.heap.size w w' := by
  go_enter Tryd.func87, Tryd.ntmps87
  go_wp2_with fail
  go_ret
  exact ⟨rfl, (Below.refl _ _).alloc (Nat.le_refl _) _⟩
theorem ekind_2 (v : Bool) (hs : ru.size ≤ 9223372036854775807) (H : Hid (Rl.name ru.data.toList = v)) : Calls Tryd.prog 87 #[.agg #[.int .i64 sd, .int .u8 2, .int .i64 0, .string ru, .string fm, .bool en, .int .i64 y, .int .i64 m, .int .u8 q, .int .i64 n, .int .i64 d, .int .i64 s, .int .u8 c]] w fun e w' => e = .returned (.bool v) ∧ Below w.heap.size w w' := by
  go_enter Tryd.func87, Tryd.ntmps87
  go_wp2_with fail
  refine (rname_is ru v _ hs H.out).mono ?_
  rintro e w' ⟨rfl, rfl⟩
  go_wp2_with fail
  go_ret
  exact ⟨rfl, (Below.refl _ _).alloc (Nat.le_refl _) _⟩
theorem ekind_3 (h0 : (k == 0) = false) (h1 : (k == 1) = false) (h2 : (k == 2) = false) : Calls Tryd.prog 87 #[.agg #[.int .i64 sd, .int .u8 k, .int .i64 sv, .string ru, .string fm, .bool en, .int .i64 y, .int .i64 m, .int .u8 q, .int .i64 n, .int .i64 d, .int .i64 s, .int .u8 c]] w fun e w' => e = .returned (.bool false) ∧ Below w.heap.size w w' := by
  go_enter Tryd.func87, Tryd.ntmps87
  go_wp2_with fail
  go_ret
  exact ⟨rfl, (Below.refl _ _).alloc (Nat.le_refl _) _⟩
theorem ekind_any (hs : ru.size ≤ 9223372036854775807) : Calls Tryd.prog 87 #[.agg #[.int .i64 sd, .int .u8 k, .int .i64 sv, .string ru, .string fm, .bool en, .int .i64 y, .int .i64 m, .int .u8 q, .int .i64 n, .int .i64 d, .int .i64 s, .int .u8 c]] w fun e w' => e = .returned (.bool (El.kind k sv ru.data.toList)) ∧ Below w.heap.size w w' := by
  unfold El.kind
  by_cases h0 : k = 0
  · rw [if_pos h0]
    subst h0
    by_cases h1 : sv = 0
    · subst h1
      by_cases h2 : ru.data.toList = []
      · obtain rfl := emp h2
        exact ekind_0ok sd fm en y m q n d s c w
      · have := nemp h2
        rw [show (decide ((0 : Int) = 0) && decide (ru.data.toList = [])) = false by first | (simp; done) | (simp; exact fun h => h2 (by rw [h]))]
        exact ekind_0ru sd ru fm en y m q n d s c w this.1 this.2
    · rw [show (decide (sv = 0) && decide (ru.data.toList = [])) = false by simp [h1]]
      exact ekind_0sv sd sv ru fm en y m q n d s c w (by rw [beq_eq_false_iff_ne]; exact h1)
  · rw [if_neg h0]
    by_cases h1 : k = 1
    · rw [if_pos h1]
      subst h1
      cases h2 : Rl.time sv with
      | false =>
        exact ekind_1no sd sv ru fm en y m q n d s c w (Lib.hid h2)
      | true =>
        by_cases h3 : ru.data.toList = []
        · obtain rfl := emp h3
          exact ekind_1ok sd sv fm en y m q n d s c w (Lib.hid h2)
        · have := nemp h3
          rw [show (true && decide (ru.data.toList = [])) = false by first | (simp; done) | (simp; exact fun h => h3 (by rw [h]))]
          exact ekind_1ru sd sv ru fm en y m q n d s c w (Lib.hid h2) this.1 this.2
    · rw [if_neg h1]
      by_cases h2 : k = 2
      · rw [if_pos h2]
        subst h2
        by_cases h3 : sv = 0
        · subst h3
          rw [show (decide ((0 : Int) = 0) && Rl.name ru.data.toList) = Rl.name ru.data.toList by simp]
          exact ekind_2 sd ru fm en y m q n d s c w _ hs (Lib.hid rfl)
        · rw [show (decide (sv = 0) && Rl.name ru.data.toList) = false by simp [h3]]
          exact ekind_2sv sd sv ru fm en y m q n d s c w (by rw [beq_eq_false_iff_ne]; exact h3)
      · rw [if_neg h2]
        exact ekind_3 sd k sv ru fm en y m q n d s c w (by rw [beq_eq_false_iff_ne]; exact h0) (by rw [beq_eq_false_iff_ne]; exact h1) (by rw [beq_eq_false_iff_ne]; exact h2)
theorem eend_yes (H : Hid (Mo.unt y m q n d s c = true)) : Calls Tryd.prog 89 #[.agg #[.int .i64 sd, .int .u8 k, .int .i64 sv, .string ru, .string fm, .bool true, .int .i64 y, .int .i64 m, .int .u8 q, .int .i64 n, .int .i64 d, .int .i64 s, .int .u8 c]] w fun e w' => e = .returned (.bool true) ∧ Below w.heap.size w w' := by
  go_enter Tryd.func89, Tryd.ntmps89
  go_wp2_with fail
  refine (ucheck_yes y m q n d s c _ H.out).mono ?_
  rintro e w1 ⟨rfl, b1⟩
  have a1 := ((Below.refl w.heap.size w).alloc (Nat.le_refl _) (.cells #[.int .i64 sd, .int .u8 k, .int .i64 sv, .string ru, .string fm, .bool true, .int .i64 y, .int .i64 m, .int .u8 q, .int .i64 n, .int .i64 d, .int .i64 s, .int .u8 c] 50)).trans (b1.mono (by simp))
  go_wp2_with fail
  go_ret
  exact ⟨rfl, a1⟩
theorem eend_no (H : Hid (Mo.unt y m q n d s c = false)) : Calls Tryd.prog 89 #[.agg #[.int .i64 sd, .int .u8 k, .int .i64 sv, .string ru, .string fm, .bool true, .int .i64 y, .int .i64 m, .int .u8 q, .int .i64 n, .int .i64 d, .int .i64 s, .int .u8 c]] w fun e w' => e = .returned (.bool false) ∧ Below w.heap.size w w' := by
  go_enter Tryd.func89, Tryd.ntmps89
  go_wp2_with fail
  refine (ucheck_no y m q n d s c _ H.out).mono ?_
  rintro e w1 ⟨rfl, b1⟩
  have a1 := ((Below.refl w.heap.size w).alloc (Nat.le_refl _) (.cells #[.int .i64 sd, .int .u8 k, .int .i64 sv, .string ru, .string fm, .bool true, .int .i64 y, .int .i64 m, .int .u8 q, .int .i64 n, .int .i64 d, .int .i64 s, .int .u8 c] 50)).trans (b1.mono (by simp))
  go_wp2_with fail
  go_ret
  exact ⟨rfl, a1⟩
theorem eend_nil : Calls Tryd.prog 89 #[.agg #[.int .i64 sd, .int .u8 k, .int .i64 sv, .string ru, .string fm, .bool false, .int .i64 y, .int .i64 m, .int .u8 q, .int .i64 n, .int .i64 d, .int .i64 s, .int .u8 c]] w fun e w' => e = .returned (.bool (Ut.nil ⟨y, m, q, n, d, s, c⟩)) ∧ Below w.heap.size w w' := by
  have HN := Lib.hid (show ∀ b : Bool, (b = true ↔ (y = 0 ∧ m = 0 ∧ q = 0 ∧ n = 0 ∧ d = 0 ∧ s = 0 ∧ c = 0)) → b = Ut.nil ⟨y, m, q, n, d, s, c⟩ from fun b h => by
    unfold Ut.nil
    rw [Bool.eq_iff_iff, decide_eq_true_eq]
    exact h)
  go_enter Tryd.func89, Tryd.ntmps89
  go_wp2_with fail
  all_goals
    go_ret
    exact ⟨ret_bool (HN.out _ ⟨fun h => by first | (cases h; done) | omega, fun h => by first | rfl | (exfalso; omega)⟩), (Below.refl _ _).alloc (Nat.le_refl _) _⟩
theorem eend_any : Calls Tryd.prog 89 #[.agg #[.int .i64 sd, .int .u8 k, .int .i64 sv, .string ru, .string fm, .bool en, .int .i64 y, .int .i64 m, .int .u8 q, .int .i64 n, .int .i64 d, .int .i64 s, .int .u8 c]] w fun e w' => e = .returned (.bool (El.ends en ⟨y, m, q, n, d, s, c⟩)) ∧ Below w.heap.size w w' := by
  unfold El.ends
  cases en with
  | false =>
    rw [if_neg (by decide)]
    exact eend_nil sd k sv ru fm y m q n d s c w
  | true =>
    rw [if_pos rfl]
    cases h : Mo.un ⟨y, m, q, n, d, s, c⟩ with
    | false => exact eend_no sd k sv ru fm y m q n d s c w (Lib.hid h)
    | true => exact eend_yes sd k sv ru fm y m q n d s c w (Lib.hid h)
end
set_option maxHeartbeats 1000000 in
theorem eright_0 (sd k sv : Int) (ru fm : ByteArray) (en : Bool) (y m q n d s c : Int) (w : World) (_HE : Hid (Ev w)) (_hs : ru.size ≤ 9223372036854775807) (H0 : Hid (Rl.time sd = false)) : Calls Tryd.prog 77 #[.agg #[.int .i64 sd, .int .u8 k, .int .i64 sv, .string ru, .string fm, .bool en, .int .i64 y, .int .i64 m, .int .u8 q, .int .i64 n, .int .i64 d, .int .i64 s, .int .u8 c]] w fun e w' => e = .returned (.bool false) ∧ Below w.heap.size w w' := by
  go_enter Tryd.func77, Tryd.ntmps77
  go_wp2_with fail
  refine (isTime_is sd false _ H0.out).mono ?_
  rintro e w' ⟨rfl, rfl⟩
  have a0 : Below w.heap.size w (w.alloc (.cells #[.int .i64 sd, .int .u8 k, .int .i64 sv, .string ru, .string fm, .bool en, .int .i64 y, .int .i64 m, .int .u8 q, .int .i64 n, .int .i64 d, .int .i64 s, .int .u8 c] 50)) := (Below.refl _ _).alloc (Nat.le_refl _) _
  have k0 : Below (w.heap.size + 1) (w.alloc (.cells #[.int .i64 sd, .int .u8 k, .int .i64 sv, .string ru, .string fm, .bool en, .int .i64 y, .int .i64 m, .int .u8 q, .int .i64 n, .int .i64 d, .int .i64 s, .int .u8 c] 50)) (w.alloc (.cells #[.int .i64 sd, .int .u8 k, .int .i64 sv, .string ru, .string fm, .bool en, .int .i64 y, .int .i64 m, .int .u8 q, .int .i64 n, .int .i64 d, .int .i64 s, .int .u8 c] 50)) := Below.refl _ _
  have z0 : w.heap.size + 1 ≤ (w.alloc (.cells #[.int .i64 sd, .int .u8 k, .int .i64 sv, .string ru, .string fm, .bool en, .int .i64 y, .int .i64 m, .int .u8 q, .int .i64 n, .int .i64 d, .int .i64 s, .int .u8 c] 50)).heap.size := by simp
  go_wp2_with fail
  go_ret
  exact ⟨rfl, a0.trans (k0.mono (Nat.le_succ _))⟩
set_option maxHeartbeats 1000000 in
theorem eright_1 (sd k sv : Int) (ru fm : ByteArray) (en : Bool) (y m q n d s c : Int) (w : World) (_HE : Hid (Ev w)) (hs : ru.size ≤ 9223372036854775807) (H0 : Hid (Rl.time sd = true)) (H1 : Hid (El.kind k sv ru.data.toList = false)) : Calls Tryd.prog 77 #[.agg #[.int .i64 sd, .int .u8 k, .int .i64 sv, .string ru, .string fm, .bool en, .int .i64 y, .int .i64 m, .int .u8 q, .int .i64 n, .int .i64 d, .int .i64 s, .int .u8 c]] w fun e w' => e = .returned (.bool false) ∧ Below w.heap.size w w' := by
  have HK := Lib.hid (fun W => ekind_any sd k sv ru fm en y m q n d s c W hs)
  rw [H1.out] at HK
  go_enter Tryd.func77, Tryd.ntmps77
  go_wp2_with fail
  refine (isTime_is sd true _ H0.out).mono ?_
  rintro e w' ⟨rfl, rfl⟩
  have a0 : Below w.heap.size w (w.alloc (.cells #[.int .i64 sd, .int .u8 k, .int .i64 sv, .string ru, .string fm, .bool en, .int .i64 y, .int .i64 m, .int .u8 q, .int .i64 n, .int .i64 d, .int .i64 s, .int .u8 c] 50)) := (Below.refl _ _).alloc (Nat.le_refl _) _
  have k0 : Below (w.heap.size + 1) (w.alloc (.cells #[.int .i64 sd, .int .u8 k, .int .i64 sv, .string ru, .string fm, .bool en, .int .i64 y, .int .i64 m, .int .u8 q, .int .i64 n, .int .i64 d, .int .i64 s, .int .u8 c] 50)) (w.alloc (.cells #[.int .i64 sd, .int .u8 k, .int .i64 sv, .string ru, .string fm, .bool en, .int .i64 y, .int .i64 m, .int .u8 q, .int .i64 n, .int .i64 d, .int .i64 s, .int .u8 c] 50)) := Below.refl _ _
  have z0 : w.heap.size + 1 ≤ (w.alloc (.cells #[.int .i64 sd, .int .u8 k, .int .i64 sv, .string ru, .string fm, .bool en, .int .i64 y, .int .i64 m, .int .u8 q, .int .i64 n, .int .i64 d, .int .i64 s, .int .u8 c] 50)).heap.size := by simp
  go_wp2_with fail
  refine (HK.out _).mono ?_
  rintro e w1 ⟨rfl, b1⟩
  have k1 := k0.trans (b1.mono z0)
  have z1 : w.heap.size + 1 ≤ w1.heap.size := Nat.le_trans z0 k1.size
  have hc1 : ∀ o, w1.cell? ⟨w.heap.size, o, none⟩ = (w.alloc (.cells #[.int .i64 sd, .int .u8 k, .int .i64 sv, .string ru, .string fm, .bool en, .int .i64 y, .int .i64 m, .int .u8 q, .int .i64 n, .int .i64 d, .int .i64 s, .int .u8 c] 50)).cell? ⟨w.heap.size, o, none⟩ := fun o => k1.cell (p := ⟨w.heap.size, o, none⟩) (Nat.lt_succ_self _)
  go_wp2_with fail
  go_ret
  exact ⟨rfl, a0.trans (k1.mono (Nat.le_succ _))⟩
set_option maxHeartbeats 1000000 in
theorem eright_2 (sd k sv : Int) (ru fm : ByteArray) (en : Bool) (y m q n d s c : Int) (w : World) (HE : Hid (Ev w)) (hs : ru.size ≤ 9223372036854775807) (H0 : Hid (Rl.time sd = true)) (H1 : Hid (El.kind k sv ru.data.toList = true)) (H2 : Hid (Fm.fmt fm.data.toList = false)) : Calls Tryd.prog 77 #[.agg #[.int .i64 sd, .int .u8 k, .int .i64 sv, .string ru, .string fm, .bool en, .int .i64 y, .int .i64 m, .int .u8 q, .int .i64 n, .int .i64 d, .int .i64 s, .int .u8 c]] w fun e w' => e = .returned (.bool false) ∧ Below w.heap.size w w' := by
  have HK := Lib.hid (fun W => ekind_any sd k sv ru fm en y m q n d s c W hs)
  rw [H1.out] at HK
  go_enter Tryd.func77, Tryd.ntmps77
  go_wp2_with fail
  refine (isTime_is sd true _ H0.out).mono ?_
  rintro e w' ⟨rfl, rfl⟩
  have a0 : Below w.heap.size w (w.alloc (.cells #[.int .i64 sd, .int .u8 k, .int .i64 sv, .string ru, .string fm, .bool en, .int .i64 y, .int .i64 m, .int .u8 q, .int .i64 n, .int .i64 d, .int .i64 s, .int .u8 c] 50)) := (Below.refl _ _).alloc (Nat.le_refl _) _
  have k0 : Below (w.heap.size + 1) (w.alloc (.cells #[.int .i64 sd, .int .u8 k, .int .i64 sv, .string ru, .string fm, .bool en, .int .i64 y, .int .i64 m, .int .u8 q, .int .i64 n, .int .i64 d, .int .i64 s, .int .u8 c] 50)) (w.alloc (.cells #[.int .i64 sd, .int .u8 k, .int .i64 sv, .string ru, .string fm, .bool en, .int .i64 y, .int .i64 m, .int .u8 q, .int .i64 n, .int .i64 d, .int .i64 s, .int .u8 c] 50)) := Below.refl _ _
  have z0 : w.heap.size + 1 ≤ (w.alloc (.cells #[.int .i64 sd, .int .u8 k, .int .i64 sv, .string ru, .string fm, .bool en, .int .i64 y, .int .i64 m, .int .u8 q, .int .i64 n, .int .i64 d, .int .i64 s, .int .u8 c] 50)).heap.size := by simp
  go_wp2_with fail
  refine (HK.out _).mono ?_
  rintro e w1 ⟨rfl, b1⟩
  have k1 := k0.trans (b1.mono z0)
  have z1 : w.heap.size + 1 ≤ w1.heap.size := Nat.le_trans z0 k1.size
  have hc1 : ∀ o, w1.cell? ⟨w.heap.size, o, none⟩ = (w.alloc (.cells #[.int .i64 sd, .int .u8 k, .int .i64 sv, .string ru, .string fm, .bool en, .int .i64 y, .int .i64 m, .int .u8 q, .int .i64 n, .int .i64 d, .int .i64 s, .int .u8 c] 50)).cell? ⟨w.heap.size, o, none⟩ := fun o => k1.cell (p := ⟨w.heap.size, o, none⟩) (Nat.lt_succ_self _)
  go_wp2_with fail
  refine (fcheck_no fm _ ((HE.out.alloc _).below b1).marks ((HE.out.alloc _).below b1).mxa H2.out).mono ?_
  rintro e w2 ⟨rfl, b2⟩
  have k2 := k1.trans (b2.mono z1)
  have z2 : w.heap.size + 1 ≤ w2.heap.size := Nat.le_trans z0 k2.size
  have hc2 : ∀ o, w2.cell? ⟨w.heap.size, o, none⟩ = (w.alloc (.cells #[.int .i64 sd, .int .u8 k, .int .i64 sv, .string ru, .string fm, .bool en, .int .i64 y, .int .i64 m, .int .u8 q, .int .i64 n, .int .i64 d, .int .i64 s, .int .u8 c] 50)).cell? ⟨w.heap.size, o, none⟩ := fun o => k2.cell (p := ⟨w.heap.size, o, none⟩) (Nat.lt_succ_self _)
  clear hc1
  go_wp2_with fail
  go_ret
  exact ⟨rfl, a0.trans (k2.mono (Nat.le_succ _))⟩
set_option maxHeartbeats 1000000 in
theorem eright_3 (sd k sv : Int) (ru fm : ByteArray) (en : Bool) (y m q n d s c : Int) (w : World) (HE : Hid (Ev w)) (hs : ru.size ≤ 9223372036854775807) (H0 : Hid (Rl.time sd = true)) (H1 : Hid (El.kind k sv ru.data.toList = true)) (H2 : Hid (Fm.fmt fm.data.toList = true)) (H3 : Hid (El.ends en ⟨y, m, q, n, d, s, c⟩ = false)) : Calls Tryd.prog 77 #[.agg #[.int .i64 sd, .int .u8 k, .int .i64 sv, .string ru, .string fm, .bool en, .int .i64 y, .int .i64 m, .int .u8 q, .int .i64 n, .int .i64 d, .int .i64 s, .int .u8 c]] w fun e w' => e = .returned (.bool false) ∧ Below w.heap.size w w' := by
  have HK := Lib.hid (fun W => ekind_any sd k sv ru fm en y m q n d s c W hs)
  rw [H1.out] at HK
  have HF := Lib.hid (fun W => eend_any sd k sv ru fm en y m q n d s c W)
  rw [H3.out] at HF
  go_enter Tryd.func77, Tryd.ntmps77
  go_wp2_with fail
  refine (isTime_is sd true _ H0.out).mono ?_
  rintro e w' ⟨rfl, rfl⟩
  have a0 : Below w.heap.size w (w.alloc (.cells #[.int .i64 sd, .int .u8 k, .int .i64 sv, .string ru, .string fm, .bool en, .int .i64 y, .int .i64 m, .int .u8 q, .int .i64 n, .int .i64 d, .int .i64 s, .int .u8 c] 50)) := (Below.refl _ _).alloc (Nat.le_refl _) _
  have k0 : Below (w.heap.size + 1) (w.alloc (.cells #[.int .i64 sd, .int .u8 k, .int .i64 sv, .string ru, .string fm, .bool en, .int .i64 y, .int .i64 m, .int .u8 q, .int .i64 n, .int .i64 d, .int .i64 s, .int .u8 c] 50)) (w.alloc (.cells #[.int .i64 sd, .int .u8 k, .int .i64 sv, .string ru, .string fm, .bool en, .int .i64 y, .int .i64 m, .int .u8 q, .int .i64 n, .int .i64 d, .int .i64 s, .int .u8 c] 50)) := Below.refl _ _
  have z0 : w.heap.size + 1 ≤ (w.alloc (.cells #[.int .i64 sd, .int .u8 k, .int .i64 sv, .string ru, .string fm, .bool en, .int .i64 y, .int .i64 m, .int .u8 q, .int .i64 n, .int .i64 d, .int .i64 s, .int .u8 c] 50)).heap.size := by simp
  go_wp2_with fail
  refine (HK.out _).mono ?_
  rintro e w1 ⟨rfl, b1⟩
  have k1 := k0.trans (b1.mono z0)
  have z1 : w.heap.size + 1 ≤ w1.heap.size := Nat.le_trans z0 k1.size
  have hc1 : ∀ o, w1.cell? ⟨w.heap.size, o, none⟩ = (w.alloc (.cells #[.int .i64 sd, .int .u8 k, .int .i64 sv, .string ru, .string fm, .bool en, .int .i64 y, .int .i64 m, .int .u8 q, .int .i64 n, .int .i64 d, .int .i64 s, .int .u8 c] 50)).cell? ⟨w.heap.size, o, none⟩ := fun o => k1.cell (p := ⟨w.heap.size, o, none⟩) (Nat.lt_succ_self _)
  go_wp2_with fail
  refine (fcheck_yes fm _ ((HE.out.alloc _).below b1).marks ((HE.out.alloc _).below b1).mxa H2.out).mono ?_
  rintro e w2 ⟨rfl, b2⟩
  have k2 := k1.trans (b2.mono z1)
  have z2 : w.heap.size + 1 ≤ w2.heap.size := Nat.le_trans z0 k2.size
  have hc2 : ∀ o, w2.cell? ⟨w.heap.size, o, none⟩ = (w.alloc (.cells #[.int .i64 sd, .int .u8 k, .int .i64 sv, .string ru, .string fm, .bool en, .int .i64 y, .int .i64 m, .int .u8 q, .int .i64 n, .int .i64 d, .int .i64 s, .int .u8 c] 50)).cell? ⟨w.heap.size, o, none⟩ := fun o => k2.cell (p := ⟨w.heap.size, o, none⟩) (Nat.lt_succ_self _)
  clear hc1
  go_wp2_with fail
  refine (HF.out _).mono ?_
  rintro e w3 ⟨rfl, b3⟩
  have k3 := k2.trans (b3.mono z2)
  have z3 : w.heap.size + 1 ≤ w3.heap.size := Nat.le_trans z0 k3.size
  have hc3 : ∀ o, w3.cell? ⟨w.heap.size, o, none⟩ = (w.alloc (.cells #[.int .i64 sd, .int .u8 k, .int .i64 sv, .string ru, .string fm, .bool en, .int .i64 y, .int .i64 m, .int .u8 q, .int .i64 n, .int .i64 d, .int .i64 s, .int .u8 c] 50)).cell? ⟨w.heap.size, o, none⟩ := fun o => k3.cell (p := ⟨w.heap.size, o, none⟩) (Nat.lt_succ_self _)
  clear hc2
  go_wp2_with fail
  go_ret
  exact ⟨rfl, a0.trans (k3.mono (Nat.le_succ _))⟩
set_option maxHeartbeats 1000000 in
theorem eright_4 (sd k sv : Int) (ru fm : ByteArray) (en : Bool) (y m q n d s c : Int) (w : World) (HE : Hid (Ev w)) (hs : ru.size ≤ 9223372036854775807) (H0 : Hid (Rl.time sd = true)) (H1 : Hid (El.kind k sv ru.data.toList = true)) (H2 : Hid (Fm.fmt fm.data.toList = true)) (H3 : Hid (El.ends en ⟨y, m, q, n, d, s, c⟩ = true)) : Calls Tryd.prog 77 #[.agg #[.int .i64 sd, .int .u8 k, .int .i64 sv, .string ru, .string fm, .bool en, .int .i64 y, .int .i64 m, .int .u8 q, .int .i64 n, .int .i64 d, .int .i64 s, .int .u8 c]] w fun e w' => e = .returned (.bool true) ∧ Below w.heap.size w w' := by
  have HK := Lib.hid (fun W => ekind_any sd k sv ru fm en y m q n d s c W hs)
  rw [H1.out] at HK
  have HF := Lib.hid (fun W => eend_any sd k sv ru fm en y m q n d s c W)
  rw [H3.out] at HF
  go_enter Tryd.func77, Tryd.ntmps77
  go_wp2_with fail
  refine (isTime_is sd true _ H0.out).mono ?_
  rintro e w' ⟨rfl, rfl⟩
  have a0 : Below w.heap.size w (w.alloc (.cells #[.int .i64 sd, .int .u8 k, .int .i64 sv, .string ru, .string fm, .bool en, .int .i64 y, .int .i64 m, .int .u8 q, .int .i64 n, .int .i64 d, .int .i64 s, .int .u8 c] 50)) := (Below.refl _ _).alloc (Nat.le_refl _) _
  have k0 : Below (w.heap.size + 1) (w.alloc (.cells #[.int .i64 sd, .int .u8 k, .int .i64 sv, .string ru, .string fm, .bool en, .int .i64 y, .int .i64 m, .int .u8 q, .int .i64 n, .int .i64 d, .int .i64 s, .int .u8 c] 50)) (w.alloc (.cells #[.int .i64 sd, .int .u8 k, .int .i64 sv, .string ru, .string fm, .bool en, .int .i64 y, .int .i64 m, .int .u8 q, .int .i64 n, .int .i64 d, .int .i64 s, .int .u8 c] 50)) := Below.refl _ _
  have z0 : w.heap.size + 1 ≤ (w.alloc (.cells #[.int .i64 sd, .int .u8 k, .int .i64 sv, .string ru, .string fm, .bool en, .int .i64 y, .int .i64 m, .int .u8 q, .int .i64 n, .int .i64 d, .int .i64 s, .int .u8 c] 50)).heap.size := by simp
  go_wp2_with fail
  refine (HK.out _).mono ?_
  rintro e w1 ⟨rfl, b1⟩
  have k1 := k0.trans (b1.mono z0)
  have z1 : w.heap.size + 1 ≤ w1.heap.size := Nat.le_trans z0 k1.size
  have hc1 : ∀ o, w1.cell? ⟨w.heap.size, o, none⟩ = (w.alloc (.cells #[.int .i64 sd, .int .u8 k, .int .i64 sv, .string ru, .string fm, .bool en, .int .i64 y, .int .i64 m, .int .u8 q, .int .i64 n, .int .i64 d, .int .i64 s, .int .u8 c] 50)).cell? ⟨w.heap.size, o, none⟩ := fun o => k1.cell (p := ⟨w.heap.size, o, none⟩) (Nat.lt_succ_self _)
  go_wp2_with fail
  refine (fcheck_yes fm _ ((HE.out.alloc _).below b1).marks ((HE.out.alloc _).below b1).mxa H2.out).mono ?_
  rintro e w2 ⟨rfl, b2⟩
  have k2 := k1.trans (b2.mono z1)
  have z2 : w.heap.size + 1 ≤ w2.heap.size := Nat.le_trans z0 k2.size
  have hc2 : ∀ o, w2.cell? ⟨w.heap.size, o, none⟩ = (w.alloc (.cells #[.int .i64 sd, .int .u8 k, .int .i64 sv, .string ru, .string fm, .bool en, .int .i64 y, .int .i64 m, .int .u8 q, .int .i64 n, .int .i64 d, .int .i64 s, .int .u8 c] 50)).cell? ⟨w.heap.size, o, none⟩ := fun o => k2.cell (p := ⟨w.heap.size, o, none⟩) (Nat.lt_succ_self _)
  clear hc1
  go_wp2_with fail
  refine (HF.out _).mono ?_
  rintro e w3 ⟨rfl, b3⟩
  have k3 := k2.trans (b3.mono z2)
  have z3 : w.heap.size + 1 ≤ w3.heap.size := Nat.le_trans z0 k3.size
  have hc3 : ∀ o, w3.cell? ⟨w.heap.size, o, none⟩ = (w.alloc (.cells #[.int .i64 sd, .int .u8 k, .int .i64 sv, .string ru, .string fm, .bool en, .int .i64 y, .int .i64 m, .int .u8 q, .int .i64 n, .int .i64 d, .int .i64 s, .int .u8 c] 50)).cell? ⟨w.heap.size, o, none⟩ := fun o => k3.cell (p := ⟨w.heap.size, o, none⟩) (Nat.lt_succ_self _)
  clear hc2
  go_wp2_with fail
  go_ret
  exact ⟨rfl, a0.trans (k3.mono (Nat.le_succ _))⟩
theorem eisRight_any (e : Er) (w : World) (hE : Ev w) (hs : e.ru.size ≤ 9223372036854775807) : Calls Tryd.prog 77 #[erV e] w fun x w' => x = .returned (.bool (El.right e)) ∧ Below w.heap.size w w' := by
  unfold El.right
  obtain ⟨sd, k, sv, ru, fm, en, ⟨y, m, q, n, d, s, c⟩⟩ := e
  simp only at hs ⊢
  cases h0 : Rl.time sd with
  | false => exact eright_0 sd k sv ru fm en y m q n d s c w (Lib.hid hE) hs (Lib.hid h0)
  | true =>
    cases h1 : El.kind k sv ru.data.toList with
    | false => exact eright_1 sd k sv ru fm en y m q n d s c w (Lib.hid hE) hs (Lib.hid h0) (Lib.hid h1)
    | true =>
      cases h2 : Fm.fmt fm.data.toList with
      | false => exact eright_2 sd k sv ru fm en y m q n d s c w (Lib.hid hE) hs (Lib.hid h0) (Lib.hid h1) (Lib.hid h2)
      | true =>
        cases h3 : El.ends en ⟨y, m, q, n, d, s, c⟩ with
        | false => exact eright_3 sd k sv ru fm en y m q n d s c w (Lib.hid hE) hs (Lib.hid h0) (Lib.hid h1) (Lib.hid h2) (Lib.hid h3)
        | true =>
          exact eright_4 sd k sv ru fm en y m q n d s c w (Lib.hid hE) hs (Lib.hid h0) (Lib.hid h1) (Lib.hid h2) (Lib.hid h3)
theorem eisRight_is (e : Er) (v : Bool) (w : World) (hE : Ev w) (hs : e.ru.size ≤ 9223372036854775807) (h : El.right e = v) : Calls Tryd.prog 77 #[erV e] w fun x w' => x = .returned (.bool v) ∧ Below w.heap.size w w' := by
  subst h
  exact eisRight_any e w hE hs
theorem echeck_is (e : Er) (v : Bool) (w : World) (hE : Ev w) (hs : e.ru.size ≤ 9223372036854775807) (h : El.right e = v) : Calls Tryd.prog 60 #[erV e] w fun x w' => x = .returned (.int .i64 (if v = true then 0 else 2)) ∧ Below w.heap.size w w' := by
  have HH := Lib.hid (fun W (hE : Ev W) => eisRight_is e v W hE hs h)
  have HE := Lib.hid hE
  obtain ⟨sd, k, sv, ru, fm, en, ⟨y, m, q, n, d, s, c⟩⟩ := e
  clear h hE
  cases v with
  | false =>
    go_enter Tryd.func60, Tryd.ntmps60
    go_wp2_with fail
    refine (HH.out _ (HE.out.alloc _)).mono ?_
    rintro e w1 ⟨rfl, b1⟩
    have a1 := ((Below.refl w.heap.size w).alloc (Nat.le_refl _) (.cells #[.int .i64 sd, .int .u8 k, .int .i64 sv, .string ru, .string fm, .bool en, .int .i64 y, .int .i64 m, .int .u8 q, .int .i64 n, .int .i64 d, .int .i64 s, .int .u8 c] 50)).trans (b1.mono (by simp))
    go_wp2_with fail
    go_ret
    exact ⟨rfl, a1⟩
  | true =>
    go_enter Tryd.func60, Tryd.ntmps60
    go_wp2_with fail
    refine (HH.out _ (HE.out.alloc _)).mono ?_
    rintro e w1 ⟨rfl, b1⟩
    have a1 := ((Below.refl w.heap.size w).alloc (Nat.le_refl _) (.cells #[.int .i64 sd, .int .u8 k, .int .i64 sv, .string ru, .string fm, .bool en, .int .i64 y, .int .i64 m, .int .u8 q, .int .i64 n, .int .i64 d, .int .i64 s, .int .u8 c] 50)).trans (b1.mono (by simp))
    go_wp2_with fail
    go_ret
    exact ⟨rfl, a1⟩
end Go.Proofs.YthlbockphdbpkaaDoor
namespace Go.Proofs.YthlbockphdbpkaaDoor
open Go.RowKit
/-- An era at block g. -/
structure En (w : World) (B g : Nat) (e : Er) : Prop where
  base : B ≤ g
  lt : g < w.heap.size
  c0 : w.cell? ⟨g, 0, none⟩ = some (.int .i64 e.sd)
  c1 : w.cell? ⟨g, 1, none⟩ = some (.int .u8 e.k)
  c2 : w.cell? ⟨g, 2, none⟩ = some (.int .i64 e.sv)
  c3 : w.cell? ⟨g, 3, none⟩ = some (.string e.ru)
  c4 : w.cell? ⟨g, 4, none⟩ = some (.string e.fm)
  c5 : w.cell? ⟨g, 5, none⟩ = some (.bool e.en)
  c6 : w.cell? ⟨g, 6, none⟩ = some (.int .i64 e.u.y)
  c7 : w.cell? ⟨g, 7, none⟩ = some (.int .i64 e.u.m)
  c8 : w.cell? ⟨g, 8, none⟩ = some (.int .u8 e.u.k)
  c9 : w.cell? ⟨g, 9, none⟩ = some (.int .i64 e.u.n)
  c10 : w.cell? ⟨g, 10, none⟩ = some (.int .i64 e.u.d)
  c11 : w.cell? ⟨g, 11, none⟩ = some (.int .i64 e.u.s)
  c12 : w.cell? ⟨g, 12, none⟩ = some (.int .u8 e.u.c)
  f0 : w.frozen? ⟨g, 0, none⟩ = false
  f1 : w.frozen? ⟨g, 1, none⟩ = false
  f2 : w.frozen? ⟨g, 2, none⟩ = false
  f3 : w.frozen? ⟨g, 3, none⟩ = false
  f4 : w.frozen? ⟨g, 4, none⟩ = false
  f5 : w.frozen? ⟨g, 5, none⟩ = false
  f6 : w.frozen? ⟨g, 6, none⟩ = false
  f7 : w.frozen? ⟨g, 7, none⟩ = false
  f8 : w.frozen? ⟨g, 8, none⟩ = false
  f9 : w.frozen? ⟨g, 9, none⟩ = false
  f10 : w.frozen? ⟨g, 10, none⟩ = false
  f11 : w.frozen? ⟨g, 11, none⟩ = false
  f12 : w.frozen? ⟨g, 12, none⟩ = false
theorem En.below {w w' : World} {B g : Nat} {e : Er} (h : En w B g e) (hb : Below w.heap.size w w') : En w' B g e := by
  obtain ⟨hc, hf⟩ := bcell hb
  have hl := h.lt
  exact ⟨h.base, Nat.lt_of_lt_of_le hl hb.size, (hc _ _ hl).trans h.c0, (hc _ _ hl).trans h.c1, (hc _ _ hl).trans h.c2, (hc _ _ hl).trans h.c3, (hc _ _ hl).trans h.c4, (hc _ _ hl).trans h.c5, (hc _ _ hl).trans h.c6, (hc _ _ hl).trans h.c7, (hc _ _ hl).trans h.c8, (hc _ _ hl).trans h.c9, (hc _ _ hl).trans h.c10, (hc _ _ hl).trans h.c11, (hc _ _ hl).trans h.c12,
    (hf _ _ hl).trans h.f0, (hf _ _ hl).trans h.f1, (hf _ _ hl).trans h.f2, (hf _ _ hl).trans h.f3, (hf _ _ hl).trans h.f4, (hf _ _ hl).trans h.f5, (hf _ _ hl).trans h.f6, (hf _ _ hl).trans h.f7, (hf _ _ hl).trans h.f8, (hf _ _ hl).trans h.f9, (hf _ _ hl).trans h.f10, (hf _ _ hl).trans h.f11, (hf _ _ hl).trans h.f12⟩
theorem En.stay {w w' : World} {B B' g : Nat} {e : Er} (h : En w B g e) (hb : Below B' w w') (hg : g < B') : En w' B g e := by
  have hc : ∀ o, w'.cell? ⟨g, o, none⟩ = w.cell? ⟨g, o, none⟩ := fun o => hb.cell (p := ⟨g, o, none⟩) hg
  have hf : ∀ o, w'.frozen? ⟨g, o, none⟩ = w.frozen? ⟨g, o, none⟩ := fun o => hb.frozen (p := ⟨g, o, none⟩) hg
  exact ⟨h.base, Nat.lt_of_lt_of_le h.lt hb.size, (hc _).trans h.c0, (hc _).trans h.c1, (hc _).trans h.c2, (hc _).trans h.c3, (hc _).trans h.c4, (hc _).trans h.c5, (hc _).trans h.c6, (hc _).trans h.c7, (hc _).trans h.c8, (hc _).trans h.c9, (hc _).trans h.c10, (hc _).trans h.c11, (hc _).trans h.c12,
    (hf _).trans h.f0, (hf _).trans h.f1, (hf _).trans h.f2, (hf _).trans h.f3, (hf _).trans h.f4, (hf _).trans h.f5, (hf _).trans h.f6, (hf _).trans h.f7, (hf _).trans h.f8, (hf _).trans h.f9, (hf _).trans h.f10, (hf _).trans h.f11, (hf _).trans h.f12⟩
section
variable (B g : Nat) (t : ByteArray) (e : Er) (w : World)
end
end Go.Proofs.YthlbockphdbpkaaDoor
namespace Go.Proofs.YthlbockphdbpkaaDoor
open Go.RowKit
theorem En.drew {w : World} {B g : Nat} {e : Er} (h : En w B g e) : En w.drew B g e := ⟨h.base, h.lt, h.c0, h.c1, h.c2, h.c3, h.c4, h.c5, h.c6, h.c7, h.c8, h.c9, h.c10, h.c11, h.c12, h.f0, h.f1, h.f2, h.f3, h.f4, h.f5, h.f6, h.f7, h.f8, h.f9, h.f10, h.f11, h.f12⟩
theorem cell_beside {w : World} {g g2 o i : Nat} {v : Value} (h : g2 ≠ g) : (w.setCell ⟨g2, i, none⟩ v).cell? ⟨g, o, none⟩ = w.cell? ⟨g, o, none⟩ := World.cell?_setCell_other _ _ _ _ (by intro e; injection e with e; exact h e)
theorem En.other {w : World} {B g g2 : Nat} {e : Er} (h : En w B g e) (hg : g2 ≠ g) (i : Nat) (v : Value) : En (w.setCell ⟨g2, i, none⟩ v) B g e := ⟨h.base, by simpa using h.lt, (cell_beside hg).trans h.c0, (cell_beside hg).trans h.c1, (cell_beside hg).trans h.c2, (cell_beside hg).trans h.c3, (cell_beside hg).trans h.c4, (cell_beside hg).trans h.c5, (cell_beside hg).trans h.c6, (cell_beside hg).trans h.c7, (cell_beside hg).trans h.c8, (cell_beside hg).trans h.c9, (cell_beside hg).trans h.c10, (cell_beside hg).trans h.c11, (cell_beside hg).trans h.c12, (World.frozen?_setCell _ _ _ _).trans h.f0, (World.frozen?_setCell _ _ _ _).trans h.f1, (World.frozen?_setCell _ _ _ _).trans h.f2, (World.frozen?_setCell _ _ _ _).trans h.f3, (World.frozen?_setCell _ _ _ _).trans h.f4, (World.frozen?_setCell _ _ _ _).trans h.f5, (World.frozen?_setCell _ _ _ _).trans h.f6, (World.frozen?_setCell _ _ _ _).trans h.f7, (World.frozen?_setCell _ _ _ _).trans h.f8, (World.frozen?_setCell _ _ _ _).trans h.f9, (World.frozen?_setCell _ _ _ _).trans h.f10, (World.frozen?_setCell _ _ _ _).trans h.f11, (World.frozen?_setCell _ _ _ _).trans h.f12⟩
end Go.Proofs.YthlbockphdbpkaaDoor
namespace Go.Proofs.YthlbockphdbpkaaDoor
open Go.RowKit
/-- Texts at block g. -/
structure Txs (w : World) (g : Nat) (L : List ByteArray) : Prop where
  lt : g < w.heap.size
  at_ : ∀ i, i < L.length → w.cell? ⟨g, i, none⟩ = some (.string (L.getD i ByteArray.empty))
theorem Txs.below {w w' : World} {g : Nat} {L : List ByteArray} (h : Txs w g L) (hb : Below w.heap.size w w') : Txs w' g L := by
  obtain ⟨hc, _⟩ := bcell hb
  exact ⟨Nat.lt_of_lt_of_le h.lt hb.size, fun i hi => (hc _ _ h.lt).trans (h.at_ i hi)⟩
theorem Txs.sl {w : World} {g : Nat} {L : List ByteArray} (h : Txs w g L) (n : Nat) (hn : n ≤ L.length) (L' : List ByteArray) (hL : ∀ i, i < n → L'.getD i ByteArray.empty = L.getD i ByteArray.empty) : Sl w w.heap.size (some ⟨g, 0, none⟩) n (fun i => .string (L'.getD i ByteArray.empty)) := fun _ =>
  ⟨_, rfl, h.lt, fun i hi => by rw [addr_at]; show _ = some (Value.string (L'.getD i ByteArray.empty)); rw [hL i hi]; exact h.at_ i (by omega)⟩
section
variable {B : Nat} {w0 w w1 : World} {x0 x1 x2 x3 x4 x5 x6 x7 x8 x9 x10 : Value}
end
section
variable (nm : ByteArray) (fr tl m k n d s c sv : Int) (lt : ByteArray) (w : World)
end
end Go.Proofs.YthlbockphdbpkaaDoor
namespace Go.Proofs.YthlbockphdbpkaaDoor
namespace Hx
/-- A digit. -/
def dg (n : Nat) : UInt8 := if n < 10 then UInt8.ofNat (48 + n) else UInt8.ofNat (87 + n)
def h2 (c : UInt8) : List UInt8 := [dg (c.toNat / 16), dg (c.toNat % 16)]
def h3 (c : UInt8) : List UInt8 := [dg (c.toNat / 16), dg (c.toNat % 16), 44]
/-- What a digit counts, or -1. -/
def val (c : UInt8) : Int :=
  if 48 ≤ c.toNat ∧ c.toNat ≤ 57 then (c.toNat : Int) - 48 else if 97 ≤ c.toNat ∧ c.toNat ≤ 102 then (c.toNat : Int) - 97 + 10 else if 65 ≤ c.toNat ∧ c.toNat ≤ 70 then (c.toNat : Int) - 65 + 10 else -1
/-- What a small digit counts, or 16. -/
def num (c : UInt8) : Nat :=
  if 48 ≤ c.toNat ∧ c.toNat ≤ 57 then c.toNat - 48 else if 97 ≤ c.toNat ∧ c.toNat ≤ 102 then c.toNat - 87 else 16
def at_ (s : List UInt8) (i : Nat) : UInt8 := s.getD i 0
def byt (s : List UInt8) (k : Nat) : UInt8 := UInt8.ofNat (16 * (val (at_ s (3 * k))).toNat + (val (at_ s (3 * k + 1))).toNat)
def bytes (s : List UInt8) (j : Nat) : List UInt8 := (List.range j).map (byt s)
end Hx
end Go.Proofs.YthlbockphdbpkaaDoor
namespace Go.Proofs.YthlbockphdbpkaaDoor
open Go.RowKit
/-- What a byte does in a line: 0 it belongs to a field, 1 it parts fields, 2 it may be in a comment alone, 3 quotes, 4 it begins a comment. -/
def knd (c : UInt8) : Nat := if c = 32 ∨ c = 9 ∨ c = 13 then 1 else if c.toNat < 32 ∨ c = 127 then 2 else if c = 34 then 3 else if c = 35 then 4 else 0
end Go.Proofs.YthlbockphdbpkaaDoor
namespace Go.Proofs.YthlbockphdbpkaaDoor
open Go.RowKit
def wantq (c : UInt8) : Bool := decide (knd c = 1) || decide (knd c = 4)
/-- A text as it may stand in a line as one field. -/
def qt (s : List UInt8) : List UInt8 := if (s.isEmpty || s.any wantq) = true then 34 :: (s ++ [34]) else s
end Go.Proofs.YthlbockphdbpkaaDoor
namespace Go.Proofs.YthlbockphdbpkaaDoor
open Go.RowKit
/-- A row of strings of the call's own, its first block: it has n places, and the first ones hold l. -/
structure Sb (w : World) (n : Nat) (l : List (List UInt8)) (wr : World) : Prop where
  cells : ∀ j (hj : j < l.length), wr.cell? ⟨w.heap.size, j, none⟩ = some (.string ⟨l[j].toArray⟩)
  some_ : ∀ j, j < n → (wr.cell? ⟨w.heap.size, j, none⟩).isSome = true
  free : ∀ j, wr.frozen? ⟨w.heap.size, j, none⟩ = false
  below : Below w.heap.size w wr
  more : w.heap.size < wr.heap.size
theorem Sb.new (w : World) (n : Nat) (z : Array Value) (hz : z.size = n) (t : TypeId) : Sb w n [] (w.alloc (.cells z t)) := by
  have hn : (w.alloc (.cells z t)).heap[w.heap.size]? = some (.cells z t (0, 0)) := heap_alloc_new _ _
  exact ⟨fun j hj => absurd hj (by simp), fun j hj => isSome_blk hn j (by omega), fun j => frozen_blk hn j, (Below.refl _ _).alloc (Nat.le_refl _) _, by simp⟩
theorem Sb.put {w wr : World} {n : Nat} {l : List (List UInt8)} (h : Sb w n l wr) (s : List UInt8) (hn : l.length < n) (k : Nat) (hk : k = l.length) : Sb w n (l ++ [s]) (wr.setCell ⟨w.heap.size, k, none⟩ (.string ⟨s.toArray⟩)) := by
  subst hk
  have hs := h.some_ l.length hn
  refine ⟨fun j hj => ?_, fun j hj => ?_, fun j => by rw [World.frozen?_setCell]; exact h.free j, h.below.setCell (Nat.le_refl _) _, by simpa using h.more⟩
  · by_cases hjl : j = l.length
    · subst hjl
      rw [World.cell?_setCell_same' _ _ _ hs]
      simp
    · have hj' : j < l.length := by simp at hj; omega
      rw [World.cell?_setCell_other _ _ _ _ (by intro e; apply hjl; injection e with _ e; exact e.symm), h.cells j hj']
      simp [List.getElem_append_left hj']
  · by_cases hjl : j = l.length
    · subst hjl
      rw [World.cell?_setCell_same' _ _ _ hs]; rfl
    · rw [World.cell?_setCell_other _ _ _ _ (by intro e; apply hjl; injection e with _ e; exact e.symm)]
      exact h.some_ j hj
theorem str_info : (Tryd.prog.info? 9).map (fun i => (i.zero, i.size, i.bytes)) = some (some (.string ⟨#[]⟩), 1, 16) := by kernel_rfl
/-- A line whose fields are l. -/
def lineOf (l : List (List UInt8)) : List UInt8 := Lib.join (l.map qt) [32]
end Go.Proofs.YthlbockphdbpkaaDoor
namespace Go.Proofs.YthlbockphdbpkaaDoor
/-- What cutting a line answers: the fields, each with its column; or a column, and why. -/
abbrev CRes := Sum (List (List UInt8 × Nat)) (Nat × Nat)
/-- Where a line is gone through: between fields; in one, with its text so far and where it began; in quotes, and where they began. -/
abbrev CSt := Option (List UInt8 × Nat × Option Nat)
def cutL : List UInt8 → CSt → List (List UInt8 × Nat) → Nat → CRes
  | [], none, fs, _ => .inl fs
  | [], some (t, b, none), fs, _ => .inl (fs ++ [(t, b + 1)])
  | [], some (_, _, some q), _, _ => .inr (q + 1, 5)
  | c :: r, none, fs, i => if knd c = 1 then cutL r none fs (i + 1) else if knd c = 2 then .inr (i + 1, 4) else if knd c = 4 then .inl fs else if fs.length = 24 then .inr (i + 1, 6) else if knd c = 0 then cutL r (some ([c], i, none)) fs (i + 1) else cutL r (some ([], i, some i)) fs (i + 1)
  | c :: r, some (t, b, none), fs, i => if knd c = 0 then cutL r (some ((t ++ [c]), b, none)) fs (i + 1) else if knd c = 3 then cutL r (some (t, b, some i)) fs (i + 1) else if knd c = 1 then cutL r none (fs ++ [(t, b + 1)]) (i + 1) else if knd c = 2 then .inr (i + 1, 4) else .inl (fs ++ [(t, b + 1)])
  | c :: r, some (t, b, some q), fs, i => if knd c = 2 then .inr (i + 1, 4) else if knd c = 3 then cutL r (some (t, b, none)) fs (i + 1) else cutL r (some ((t ++ [c]), b, some q)) fs (i + 1)
/-- The texts of fields. -/
def texts (r : CRes) : Option (List (List UInt8)) := match r with
  | .inl fs => some (fs.map (·.1))
  | .inr _ => none
end Go.Proofs.YthlbockphdbpkaaDoor
namespace Go.Proofs.YthlbockphdbpkaaDoor
open Go.RowKit
/-- What stands behind a label's mark. -/
def behind : Code → Code
  | .seq .skip x => x
  | .seq a _ => behind a
  | x => x
theorem own_base {w : World} {b : Nat} {e : TypeId} {s n : Nat} {v : Value} {xs : List Value} (h : w.ownsRow b e s v n xs) : ∀ k, v.ownBlock = some k → b ≤ k := fun k hk => (h.lt k hk).1
end Go.Proofs.YthlbockphdbpkaaDoor
namespace Go.Proofs.YthlbockphdbpkaaDoor
open Go.RowKit
theorem grown_of_below {a w : World} (h : Below a.heap.size a w) (row : Option Nat) : a.grownBy w row := ⟨h.os, h.tape, h.output, h.size, fun i hi _ => h.block i hi⟩
section
variable (sd k sv : Int) (ru fm : ByteArray) (en : Bool) (y m q n d s c : Int) (w : World)
end
section
variable {B : Nat} {w0 w w1 : World} {x0 x1 x2 x3 x4 x5 x6 x7 x8 x9 x10 x11 x12 : Value}
end
end Go.Proofs.YthlbockphdbpkaaDoor
namespace Go.Proofs.YthlbockphdbpkaaDoor
open Go.RowKit
/-- Block g holds these values. -/
structure Bx (W : World) (g : Nat) (cs : List Value) : Prop where
  lt : g < W.heap.size
  at_ : ∀ i v, cs[i]? = some v → W.cell? ⟨g, i, none⟩ = some v
theorem Bx.on {W W' : World} {g : Nat} {cs : List Value} (h : Bx W g cs) (hb : Below W.heap.size W W') : Bx W' g cs := by
  obtain ⟨hc, _⟩ := bcell hb
  exact ⟨Nat.lt_of_lt_of_le h.lt hb.size, fun i v hv => (hc _ _ h.lt).trans (h.at_ i v hv)⟩
theorem Bx.mk' (W : World) (g : Nat) (cs : Array Value) (t : TypeId) (h : g = W.heap.size) : Bx (W.alloc (.cells cs t)) g cs.toList := by
  subst h
  exact ⟨by simp, fun i v hv => by rw [cell_blk (heap_alloc_new _ _)]; simpa using hv⟩
theorem Txs.bx {W : World} {g : Nat} {L : List ByteArray} (h : Txs W g L) : Bx W g (L.map Value.string) :=
  ⟨h.lt, fun i v hv => by
    rw [List.getElem?_map] at hv
    obtain ⟨x, hx, rfl⟩ := Option.map_eq_some_iff.1 hv
    obtain ⟨hi, e⟩ := List.getElem?_eq_some_iff.1 hx
    rw [h.at_ i hi, List.getD_eq_getElem?_getD, hx]
    rfl⟩
/-- What is kept through all calls: the tables, and what was there. -/
structure Cx (w W : World) : Prop where
  env : Env W
  bel : Below w.heap.size w W
theorem Cx.on {w W W' : World} (h : Cx w W) (hb : Below W.heap.size W W') : Cx w W' := ⟨h.env.below hb, h.bel.trans (hb.mono h.bel.size)⟩
end Go.Proofs.YthlbockphdbpkaaDoor
namespace Go.Proofs.YthlbockphdbpkaaDoor
open Go.RowKit
/-- What is kept through all calls: the tables, and what was there. -/
structure Cy (w W : World) : Prop where
  env : Ev W
  bel : Below w.heap.size w W
theorem Cy.on {w W W' : World} (h : Cy w W) (hb : Below W.heap.size W W') : Cy w W' := ⟨h.env.below hb, h.bel.trans (hb.mono h.bel.size)⟩
end Go.Proofs.YthlbockphdbpkaaDoor
namespace Go.Proofs.YthlbockphdbpkaaDoor
open Go.RowKit
def bts (L : List ByteArray) : List (List UInt8) := L.map (·.data.toList)
end Go.Proofs.YthlbockphdbpkaaDoor
namespace Go.Proofs.YthlbockphdbpkaaDoor
open Go.RowKit
def gr (c : UInt8) : Bool := decide (33 ≤ c.toNat ∧ c.toNat ≤ 126 ∧ c.toNat ≠ 34)
end Go.Proofs.YthlbockphdbpkaaDoor
namespace Go.Proofs.YthlbockphdbpkaaDoor
open Go.RowKit
/-- A text cut at its line feeds. -/
def Ln.cut : List UInt8 → List (List UInt8)
  | [] => [[]]
  | c :: r => if c = 10 then [] :: Ln.cut r else match Ln.cut r with
    | [] => [[c]]
    | x :: l => (c :: x) :: l
/-- How long the lines are. -/
def Ln.size (l : List (List UInt8)) : Nat := (l.map fun x => x.length + 1).sum
/-- The fields of a line, or the column of what is not right, and why. -/
def Ln.fld (l : List UInt8) : CRes := if 2048 < l.length then .inr (2049, 6) else cutL l none [] 0
abbrev LRes := Sum (List (Nat × List (List UInt8 × Nat))) (Nat × Nat × Nat)
/-- The lines that have fields, from a number on; or the number of the first one that is not right, the column, and why. -/
def Ln.scan : Nat → List (List UInt8) → LRes
  | _, [] => .inl []
  | i, l :: ls => match Ln.fld l with
    | .inr p => .inr (i, p.1, p.2)
    | .inl fs => match Ln.scan (i + 1) ls with
      | .inr f => .inr f
      | .inl r => .inl (if fs = [] then r else (i, fs) :: r)
def Ln.join (a : List (Nat × List (List UInt8 × Nat))) : LRes → LRes
  | .inl r => .inl (a ++ r)
  | .inr f => .inr f
/-- Numbers further on. -/
def Ln.on (n : Nat) : LRes → LRes
  | .inl r => .inl (r.map fun x => (x.1 + n, x.2))
  | .inr f => .inr (f.1 + n, f.2)
end Go.Proofs.YthlbockphdbpkaaDoor
namespace Go.Proofs.YthlbockphdbpkaaDoor
open Go.RowKit
/-- A zone: its name and its eras. -/
structure Zn where
  nm : ByteArray
  es : List Er
/-- A link: where it leads, its name. -/
structure Lk where
  tg : ByteArray
  nm : ByteArray
structure Src where
  rs : List Ru
  zs : List Zn
  ls : List Lk
def Src.zero : Src := ⟨[], [], []⟩
/-- Two sources, one behind the other. -/
def Src.with (a b : Src) : Src := ⟨a.rs ++ b.rs, a.zs ++ b.zs, a.ls ++ b.ls⟩
/-- All but the last era end. -/
def So.ends : List Er → Bool
  | [] => false
  | e :: l => if l = [] then !e.en else e.en && So.ends l
def So.eras (l : List Er) : Bool := decide (1 ≤ l.length ∧ l.length ≤ 64) && (l.all El.right && So.ends l)
def So.zone (z : Zn) : Bool := Rl.name z.nm.data.toList && So.eras z.es
def So.link (k : Lk) : Bool := Rl.name k.tg.data.toList && Rl.name k.nm.data.toList
/-- A source is right. -/
def So.right (s : Src) : Bool := decide (s.rs.length ≤ 4096 ∧ s.zs.length ≤ 1024 ∧ s.ls.length ≤ 4096) && (s.rs.all Rl.right && (s.zs.all So.zone && s.ls.all So.link))
/-- Clocks' kinds are no less than nothing (as a byte is not). -/
structure So.nn (s : Src) : Prop where
  r : ∀ r ∈ s.rs, 0 ≤ r.c
  z : ∀ z ∈ s.zs, ∀ e ∈ z.es, 0 ≤ e.u.c
/-- How far lines are read: rules, zones, links, and a zone whose next era is to come. -/
structure St where
  rs : List Ru
  zs : List Zn
  ls : List Lk
  cur : Option Zn
def St.zero : St := ⟨[], [], [], none⟩
def St.src (s : St) : Src := ⟨s.rs, s.zs, s.ls⟩
abbrev SRes := Sum St (Nat × Int)
def So.kinds : List ByteArray := [⟨#[82, 117, 108, 101]⟩, ⟨#[90, 111, 110, 101]⟩, ⟨#[76, 105, 110, 107]⟩]
def So.at_ (L : List ByteArray) (i : Nat) : ByteArray := L.getD i ByteArray.empty
def So.isN (t : ByteArray) : Bool := Rl.name t.data.toList
/-- A zone goes on, or not. -/
def St.put (s : St) (z : Zn) (en : Bool) : St := if en = true then { s with cur := some z } else { s with zs := s.zs ++ [z], cur := none }
def So.rule (s : St) (L : List ByteArray) : SRes :=
  if s.rs.length = 4096 then .inr (0, 6) else if (Rl.prs (L.drop 1)).2.2 ≠ 0 then .inr (1 + (Rl.prs (L.drop 1)).2.1, (Rl.prs (L.drop 1)).2.2) else .inl { s with rs := s.rs ++ [(Rl.prs (L.drop 1)).1] }
def So.zoneL (s : St) (L : List ByteArray) : SRes :=
  if s.zs.length = 1024 then .inr (0, 6) else if L.length = 1 then .inr (1, 5) else if (El.prs (L.drop 2)).2.2 ≠ 0 then .inr (2 + (El.prs (L.drop 2)).2.1, (El.prs (L.drop 2)).2.2)
  else if So.isN (So.at_ L 1) = true then .inl (s.put ⟨So.at_ L 1, [(El.prs (L.drop 2)).1]⟩ (El.prs (L.drop 2)).1.en) else .inr (1, 7)
def So.eraL (s : St) (z : Zn) (L : List ByteArray) : SRes :=
  if z.es.length = 64 then .inr (0, 6) else if (El.prs L).2.2 ≠ 0 then .inr ((El.prs L).2.1, (El.prs L).2.2) else .inl (s.put ⟨z.nm, z.es ++ [(El.prs L).1]⟩ (El.prs L).1.en)
def So.linkL (s : St) (L : List ByteArray) : SRes :=
  if s.ls.length = 4096 then .inr (0, 6) else if 1 < L.length ∧ So.isN (So.at_ L 1) = false then .inr (1, 7) else if 2 < L.length ∧ So.isN (So.at_ L 2) = false then .inr (2, 7)
  else if L.length < 3 then .inr (L.length, 5) else if 3 < L.length then .inr (3, 6) else .inl { s with ls := s.ls ++ [⟨So.at_ L 1, So.at_ L 2⟩] }
def So.first (s : St) (L : List ByteArray) : SRes :=
  if Wd.pick (So.at_ L 0) So.kinds = 0 then So.rule s L else if Wd.pick (So.at_ L 0) So.kinds = 1 then So.zoneL s L else if Wd.pick (So.at_ L 0) So.kinds = 2 then So.linkL s L else .inr (0, 7)
/-- What a line's texts make of what is read, or the place of what is wrong, and why. -/
def So.rd (s : St) (L : List ByteArray) : SRes := match s.cur with
  | some z => So.eraL s z L
  | none => So.first s L
abbrev LnD := Nat × List (List UInt8 × Nat)
def LnD.texts (l : LnD) : List ByteArray := l.2.map fun f => ⟨f.1.toArray⟩
/-- The column of a line's field at a place; of its last one, if there is none at it. -/
def LnD.col (l : LnD) (at_ : Nat) : Nat := (l.2.getD (min at_ (l.2.length - 1)) ([], 0)).2
abbrev PRes := Sum St (Nat × Nat × Int)
def So.run : St → List LnD → PRes
  | s, [] => .inl s
  | s, l :: ls => match So.rd s l.texts with
    | .inr p => .inr (l.1, l.col p.1, p.2)
    | .inl s' => So.run s' ls
abbrev QRes := Sum Src (Nat × Nat × Int)
/-- What is told of lines that are read: the source, or that the last zone has no end. -/
def So.done (ls : List LnD) : PRes → QRes
  | .inr f => .inr f
  | .inl s => match s.cur with
    | none => .inl s.src
    | some _ => .inr (((ls.getLast?).getD (0, [])).1, LnD.col ((ls.getLast?).getD (0, [])) 0, 5)
/-- What a text tells. -/
def So.prs (l : List UInt8) : QRes :=
  if 1048576 < l.length then .inr (0, 0, 6) else match Ln.scan 1 (Ln.cut l) with
    | .inr f => .inr (f.1, f.2.1, (f.2.2 : Int))
    | .inl ls => So.done ls (So.run St.zero ls)
/-- Behind what was read already. -/
def St.behind (a : Src) (s : St) : St := ⟨a.rs ++ s.rs, a.zs ++ s.zs, a.ls ++ s.ls, s.cur⟩
def SRes.on (a : Src) : SRes → SRes
  | .inl s => .inl (s.behind a)
  | .inr p => .inr p
def PRes.on (a : Src) : PRes → PRes
  | .inl s => .inl (s.behind a)
  | .inr p => .inr p
/-- What holds of all that is read. -/
structure St.good (s : St) : Prop where
  r : ∀ r ∈ s.rs, Rl.right r = true ∧ 0 ≤ r.c
  z : ∀ z ∈ s.zs, So.zone z = true ∧ ∀ e ∈ z.es, 0 ≤ e.u.c
  l : ∀ k ∈ s.ls, So.link k = true
  c : ∀ z, s.cur = some z → Rl.name z.nm.data.toList = true ∧ 1 ≤ z.es.length ∧ z.es.length ≤ 64 ∧ ∀ e ∈ z.es, El.right e = true ∧ 0 ≤ e.u.c ∧ e.en = true
  nr : s.rs.length ≤ 4096
  nz : s.zs.length + (if s.cur.isSome = true then 1 else 0) ≤ 1024
  nl : s.ls.length ≤ 4096
end Go.Proofs.YthlbockphdbpkaaDoor
namespace Go.Proofs.YthlbockphdbpkaaDoor
open Go.RowKit
/-- A slice reads these cells, from below block B. -/
def Rk (w : World) (B : Nat) (A : Option Addr) (xs : List Value) : Prop := 0 < xs.length → ∃ b o, A = some ⟨b, o, none⟩ ∧ b < B ∧ ∀ j u, xs[j]? = some u → w.cell? ⟨b, o + j, none⟩ = some u
theorem Rk.nil {w : World} {B : Nat} {A : Option Addr} : Rk w B A [] := fun h => absurd h (by simp)
theorem Rk.keep {w w' : World} {B : Nat} {A : Option Addr} {xs : List Value} (h : Rk w B A xs) (hk : ∀ p : Addr, p.block < B → w'.cell? p = w.cell? p) : Rk w' B A xs := fun hn => by
  obtain ⟨b, o, e, hb, hc⟩ := h hn
  exact ⟨b, o, e, hb, fun j u hu => (hk ⟨b, o + j, none⟩ hb).trans (hc j u hu)⟩
theorem Rk.more {w : World} {B B' : Nat} {A : Option Addr} {xs : List Value} (h : Rk w B A xs) (hB : B ≤ B') : Rk w B' A xs := fun hn => by
  obtain ⟨b, o, e, hb, hc⟩ := h hn
  exact ⟨b, o, e, by omega, hc⟩
theorem Rk.below {w w' : World} {B : Nat} {A : Option Addr} {xs : List Value} (h : Rk w B A xs) (hb : Below B w w') : Rk w' B A xs := h.keep fun _ hp => hb.cell hp
theorem Rk.on {w w' : World} {A : Option Addr} {xs : List Value} (h : Rk w w.heap.size A xs) (hb : Below w.heap.size w w') : Rk w' w'.heap.size A xs := (h.below hb).more hb.size
theorem Rk.of_own {w : World} {base size n c : Nat} {e : TypeId} {A : Option Addr} {m : Nat} {xs : List Value} (h : w.ownsRow base e size (.slice A m c) n xs) : Rk w w.heap.size A xs := fun hn => by
  rcases h.2 with ⟨_, h0⟩ | ⟨g, cap, cur, hv, _, hg, _⟩
  · have := h.1
    rw [h0, Nat.zero_mul] at this
    omega
  · injection hv with h1 _ _
    subst h1
    refine ⟨g, 0, rfl, lt_blk hg, fun j u hu => ?_⟩
    have := h.cells (g := g) rfl j u hu
    rw [addr_add] at this
    rw [Nat.zero_add]
    exact this
/-- A cell of an element of a row. -/
theorem flat_at {α : Type} {enc : α → List Value} {k : Nat} (hk : ∀ x, (enc x).length = k) : ∀ (l : List α) (i : Nat) (x : α), l[i]? = some x → ∀ j v, (enc x)[j]? = some v → (l.flatMap enc)[i * k + j]? = some v
  | [], i, x, h => by simp at h
  | y :: l, 0, x, h => by
    intro j v hv
    obtain rfl : y = x := by simpa using h
    have hj : j < (enc y).length := by
      rcases Nat.lt_or_ge j (enc y).length with hl | hg
      · exact hl
      · rw [List.getElem?_eq_none hg] at hv; cases hv
    rw [Nat.zero_mul, Nat.zero_add, List.flatMap_cons, List.getElem?_append_left hj]
    exact hv
  | y :: l, i + 1, x, h => by
    intro j v hv
    have ih := flat_at hk l i x (by simpa using h) j v hv
    rw [List.flatMap_cons, List.getElem?_append_right (by rw [hk, Nat.add_mul]; omega), hk]
    rw [show (i + 1) * k + j - k = i * k + j by rw [Nat.add_mul]; omega]
    exact ih
theorem flat_len {α : Type} {enc : α → List Value} {k : Nat} (hk : ∀ x, (enc x).length = k) : ∀ l : List α, (l.flatMap enc).length = l.length * k
  | [] => by simp
  | y :: l => by rw [List.flatMap_cons, List.length_append, hk, flat_len hk l, List.length_cons, Nat.add_mul]; omega
theorem flat_snoc {α : Type} (enc : α → List Value) (l : List α) (x : α) : (l ++ [x]).flatMap enc = l.flatMap enc ++ enc x := by
  rw [List.flatMap_append]
  simp
theorem Rk.at_ {α : Type} {enc : α → List Value} {k : Nat} {w : World} {B : Nat} {A : Option Addr} {l : List α} (h : Rk w B A (l.flatMap enc)) (hk : ∀ x, (enc x).length = k) (h0 : 0 < k) {i : Nat} {x : α} (hx : l[i]? = some x) :
    ∃ b o, A = some ⟨b, o, none⟩ ∧ b < B ∧ ∀ j v, (enc x)[j]? = some v → w.cell? ⟨b, o + i * k + j, none⟩ = some v := by
  have hi : i < l.length := by
    rcases Nat.lt_or_ge i l.length with hl | hg
    · exact hl
    · rw [List.getElem?_eq_none hg] at hx; cases hx
  obtain ⟨b, o, e, hb, hc⟩ := h (by rw [flat_len hk]; exact Nat.mul_pos (by omega) h0)
  refine ⟨b, o, e, hb, fun j v hv => ?_⟩
  rw [Nat.add_assoc]
  exact hc _ _ (flat_at hk l i x hx j v hv)
def rcell (r : Ru) : List Value := [.string r.nm, .int .i64 r.fr, .int .i64 r.tl, .int .i64 r.m, .int .u8 r.k, .int .i64 r.n, .int .i64 r.d, .int .i64 r.s, .int .u8 r.c, .int .i64 r.sv, .string r.lt]
def ecell (e : Er) : List Value := [.int .i64 e.sd, .int .u8 e.k, .int .i64 e.sv, .string e.ru, .string e.fm, .bool e.en, .int .i64 e.u.y, .int .i64 e.u.m, .int .u8 e.u.k, .int .i64 e.u.n, .int .i64 e.u.d, .int .i64 e.u.s, .int .u8 e.u.c]
def lcell (k : Lk) : List Value := [.string k.tg, .string k.nm]
/-- A zone in memory: its name, and where its eras lie. -/
structure Zd where
  nm : ByteArray
  A : Option Addr
  c : Nat
  es : List Er
def zcell (z : Zd) : List Value := [.string z.nm, .slice z.A z.es.length z.c]
def Zd.zn (z : Zd) : Zn := ⟨z.nm, z.es⟩
theorem rcell_len (r : Ru) : (rcell r).length = 11 := rfl
theorem ecell_len (e : Er) : (ecell e).length = 13 := rfl
theorem lcell_len (k : Lk) : (lcell k).length = 2 := rfl
theorem zcell_len (z : Zd) : (zcell z).length = 2 := rfl
/-- A source in memory. -/
structure Sd where
  rA : Option Addr
  rc : Nat
  rs : List Ru
  zA : Option Addr
  zc : Nat
  zs : List Zd
  lA : Option Addr
  lc : Nat
  ls : List Lk
@[reducible] def Sd.val (d : Sd) : Value := .agg #[.slice d.rA d.rs.length d.rc, .slice d.zA d.zs.length d.zc, .slice d.lA d.ls.length d.lc]
def Sd.src (d : Sd) : Src := ⟨d.rs, d.zs.map Zd.zn, d.ls⟩
/-- How great a source's parts may be. -/
structure Sd.fits (d : Sd) : Prop where
  r : d.rs.length ≤ 9223372036854775807
  z : d.zs.length ≤ 9223372036854775807
  l : d.ls.length ≤ 9223372036854775807
  rn : ∀ r ∈ d.rs, r.nm.size ≤ 9223372036854775807 ∧ r.lt.size ≤ 9223372036854775807
  zn : ∀ z ∈ d.zs, z.nm.size ≤ 9223372036854775807 ∧ z.es.length ≤ 9223372036854775807 ∧ ∀ e ∈ z.es, e.ru.size ≤ 9223372036854775807 ∧ e.fm.size ≤ 9223372036854775807
  ln : ∀ k ∈ d.ls, k.tg.size ≤ 9223372036854775807 ∧ k.nm.size ≤ 9223372036854775807
/-- Where a source's parts lie. -/
structure Sd.at_ (W : World) (B : Nat) (d : Sd) : Prop where
  r : Rk W B d.rA (d.rs.flatMap rcell)
  z : Rk W B d.zA (d.zs.flatMap zcell)
  e : ∀ z ∈ d.zs, Rk W B z.A (z.es.flatMap ecell)
  l : Rk W B d.lA (d.ls.flatMap lcell)
theorem Sd.at_.below {W W' : World} {B : Nat} {d : Sd} (h : d.at_ W B) (hb : Below B W W') : d.at_ W' B := ⟨h.r.below hb, h.z.below hb, fun z hz => (h.e z hz).below hb, h.l.below hb⟩
theorem Sd.at_.more {W : World} {B B' : Nat} {d : Sd} (h : d.at_ W B) (hb : B ≤ B') : d.at_ W B' := ⟨h.r.more hb, h.z.more hb, fun z hz => (h.e z hz).more hb, h.l.more hb⟩
theorem Sd.at_.on {W W' : World} {d : Sd} (h : d.at_ W W.heap.size) (hb : Below W.heap.size W W') : d.at_ W' W'.heap.size := (h.below hb).more hb.size
def Sd.zero : Sd := ⟨none, 0, [], none, 0, [], none, 0, []⟩
theorem zero_at (W : World) (B : Nat) : Sd.zero.at_ W B := ⟨Rk.nil, Rk.nil, (fun _ h => by cases h), Rk.nil⟩
end Go.Proofs.YthlbockphdbpkaaDoor
namespace Go.Proofs.YthlbockphdbpkaaDoor
open Go.RowKit
/-- The words that begin a rule, a zone, a link. -/
def Pt.ruleW : ByteArray := ⟨#[82, 117, 108, 101]⟩
def Pt.zoneW : ByteArray := ⟨#[90, 111, 110, 101]⟩
def Pt.linkW : ByteArray := ⟨#[76, 105, 110, 107]⟩
/-- A line: what is ahead of its texts, and these. -/
abbrev PL := List UInt8 × List ByteArray
def Pt.rule (r : Ru) : PL := ([], Pt.ruleW :: Rl.texts r)
def Pt.era (e : Er) : PL := ([9], El.texts e)
def Pt.zone (z : Zn) : List PL := match z.es with
  | [] => []
  | e :: l => ([], Pt.zoneW :: z.nm :: El.texts e) :: l.map Pt.era
def Pt.link (k : Lk) : PL := ([], [Pt.linkW, k.tg, k.nm])
def Pt.lines (s : Src) : List PL := s.rs.map Pt.rule ++ (s.zs.flatMap Pt.zone ++ s.ls.map Pt.link)
def PL.line (p : PL) : List UInt8 := p.1 ++ lineOf (bts p.2)
def Pt.bytes (l : List PL) : List UInt8 := l.flatMap fun p => p.line ++ [10]
/-- What is written of a source. -/
def Pt.text (s : Src) : List UInt8 := Pt.bytes (Pt.lines s)
/-- What holds of each line that is written. -/
structure PL.ok (p : PL) : Prop where
  pre : p.1 = [] ∨ p.1 = [9]
  gr : ∀ t ∈ p.2, t.data.toList.all gr = true
  small : ∀ t ∈ p.2, t.size ≤ 64
  some_ : 1 ≤ p.2.length
  few : p.2.length ≤ 10
/-- A source is put behind what is read. -/
def St.add (s : St) (b : Src) : St := ⟨s.rs ++ b.rs, s.zs ++ b.zs, s.ls ++ b.ls, none⟩
/-- A line tells these texts. -/
def Ln.tells (l : List UInt8) (L : List ByteArray) : Prop := ∃ fs, Ln.fld l = .inl fs ∧ fs.map (fun f => (⟨f.1.toArray⟩ : ByteArray)) = L
end Go.Proofs.YthlbockphdbpkaaDoor
