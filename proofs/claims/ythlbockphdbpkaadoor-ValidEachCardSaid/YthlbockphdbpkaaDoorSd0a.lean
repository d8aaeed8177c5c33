/- What is wanted of the texts behind: a piece, by program. -/
import Derived.Test.YthlbockphdbpkaaDoorProg
import Derived.Test.YthlbockphdbpkaaDoorShelf
import Derived.Lib.Join
import Derived.Shelf.Abstract
import Init
import Derived.WalkKit
import Derived.Lib.Hide
import Derived.Deep.QuietTactic
import Derived.BigQuiet
import Derived.Outline
import Derived.Lib.ItoaNum
import Derived.Lib.Split
import Derived.LoopTactic
import Derived.Lib.LaidTab
import Derived.Lib.AppendIntMem
import Derived.LoopN
import Derived.Handy
import Derived.Deep.RegionHeld3
import Derived.Below
import Derived.ChangeSlices
import Derived.SliceStrings
import Derived.WideShapes
import Derived.Deep.Slices
import Derived.OpenShut
import Derived.Calls
import Derived.Lib.IndexMore
import Derived.Laws.IdiomStrings
import Derived.Laws.AppendOwn
import Derived.Lib.BufferWrite
import Derived.Deep.RegionLaw
import Derived.Lib.LazyBuf
import Derived.OwnWalk
import Derived.ChangeArms
import Derived.Deep.LoopGhost
import Derived.Scope
import Derived.ScopeJumps
import Derived.WalkMore
import Derived.Lib.BufferRead
import Derived.Laws.OwnMore
import Derived.Maps.AppendAt
import Derived.Deep.AppendLies
import Derived.Lib.AppendZeros
import Derived.Laws.AppendOwnNone
import Derived.Lib.SplitLaws
import Derived.Lib.SmallJoins
namespace Go.Proofs.YthlbockphdbpkaaDoor
namespace Cal
def lp (y : Int) : Int := if y % 4 = 0 ∧ (y % 100 ≠ 0 ∨ y % 400 = 0) then 1 else 0
def len (y m : Int) : Int := if m = 2 then 28 + lp y else if m = 4 ∨ m = 6 ∨ m = 9 ∨ m = 11 then 30 else 31
def fst (y : Int) : Int := 365 * (y - 1) + (y - 1) / 4 - (y - 1) / 100 + (y - 1) / 400 - 719162
def cum (y m : Int) : Int := if m ≤ 2 then 31 * (m - 1) else (153 * (m - 3) + 2) / 5 + 59 + lp y
def num (y m d : Int) : Int := fst y + cum y m + d - 1
def Valid (y m d : Int) : Prop := 1 ≤ y ∧ y ≤ 9999 ∧ 1 ≤ m ∧ m ≤ 12 ∧ 1 ≤ d ∧ d ≤ len y m
def ahead (y : Int) : Int := 365 * y + y / 4 - y / 100
theorem lp_01 (y : Int) : 0 ≤ lp y ∧ lp y ≤ 1 := by unfold lp; split <;> omega
theorem lp_eq (y : Int) : (y % 4 = 0 ∧ (y % 100 ≠ 0 ∨ y % 400 = 0) ∧ lp y = 1) ∨ (¬ (y % 4 = 0 ∧ (y % 100 ≠ 0 ∨ y % 400 = 0)) ∧ lp y = 0) := by
  unfold lp
  by_cases h : y % 4 = 0 ∧ (y % 100 ≠ 0 ∨ y % 400 = 0)
  · rw [if_pos h]; exact .inl ⟨h.1, h.2, rfl⟩
  · rw [if_neg h]; exact .inr ⟨h, rfl⟩
theorem len_bd (y m : Int) : 28 ≤ len y m ∧ len y m ≤ 31 := by
  have := lp_01 y
  unfold len
  repeat' split
  all_goals omega
theorem fst_succ (y : Int) : fst (y + 1) = fst y + 365 + lp y := by
  have := lp_eq y
  unfold fst
  omega
theorem cum_one (y : Int) : cum y 1 = 0 := by unfold cum; simp
theorem cum_end (y : Int) : cum y 13 = 365 + lp y := by unfold cum; simp
theorem cum_succ (y m : Int) (h1 : 1 ≤ m) (h2 : m ≤ 12) : cum y (m + 1) = cum y m + len y m := by
  have := lp_01 y
  unfold cum len
  have : m = 1 ∨ m = 2 ∨ m = 3 ∨ m = 4 ∨ m = 5 ∨ m = 6 ∨ m = 7 ∨ m = 8 ∨ m = 9 ∨ m = 10 ∨ m = 11 ∨ m = 12 := by omega
  rcases this with rfl | rfl | rfl | rfl | rfl | rfl | rfl | rfl | rfl | rfl | rfl | rfl <;> simp <;> omega
theorem fst_mono (a b : Int) (h : a ≤ b) : fst a ≤ fst b := by unfold fst; omega
theorem cum_mono (y a b : Int) (h0 : 1 ≤ a) (h : a ≤ b) : cum y a ≤ cum y b := by
  have := lp_01 y
  unfold cum
  split <;> split <;> omega
theorem cum_bd (y m : Int) (h1 : 1 ≤ m) (h2 : m ≤ 13) : 0 ≤ cum y m ∧ cum y m ≤ 365 + lp y := by
  have a := cum_mono y 1 m (by omega) h1
  have b := cum_mono y m 13 h1 h2
  rw [cum_one] at a
  rw [cum_end] at b
  exact ⟨a, b⟩
theorem fst_one : fst 1 = -719162 := by rfl
theorem fst_end : fst 10000 = 2932897 := by rfl
theorem fst_bd (y : Int) (h1 : 1 ≤ y) (h2 : y ≤ 10000) : -719162 ≤ fst y ∧ fst y ≤ 2932897 := by
  have a := fst_mono 1 y h1
  have b := fst_mono y 10000 h2
  rw [fst_one] at a
  rw [fst_end] at b
  exact ⟨a, b⟩
/-- A date's number lies within its month, and its month within its year. -/
theorem num_in (y m d : Int) (h : Valid y m d) : fst y ≤ num y m d ∧ num y m d < fst (y + 1) ∧ fst y + cum y m ≤ num y m d ∧ num y m d < fst y + cum y (m + 1) := by
  obtain ⟨a, b, c, e, f, g⟩ := h
  have h1 := cum_succ y m c e
  have h2 := cum_bd y m c (by omega)
  have h3 := cum_bd y (m + 1) (by omega) (by omega)
  have h4 := fst_succ y
  unfold num
  omega
theorem num_range (y m d : Int) (h : Valid y m d) : -719162 ≤ num y m d ∧ num y m d ≤ 2932896 := by
  have h1 := num_in y m d h
  obtain ⟨a, b, _⟩ := h
  have h2 := fst_bd y a (by omega)
  have h3 := fst_bd (y + 1) (by omega) (by omega)
  omega
/-- The year that begins in March, of four hundred. -/
theorem yoe (r : Int) (h0 : 0 ≤ r) (h1 : r < 146097) (y : Int) (hy : y = (r - r/1460 + r/36524 - r/146096)/365) :
   0 ≤ y ∧ y ≤ 399 ∧ ahead y ≤ r ∧ r ≤ ahead y + 365 ∧ (r = ahead y + 365 → y % 4 = 3 ∧ (y % 100 = 99 → y = 399)) := by
  unfold ahead
  obtain ⟨e, t, he, ht0, ht1⟩ : ∃ e t : Int, r = 1460 * e + t ∧ 0 ≤ t ∧ t < 1460 := ⟨r / 1460, r % 1460, by omega, by omega, by omega⟩
  obtain ⟨g, hg⟩ : ∃ g, g = r/146096 := ⟨_, rfl⟩
  obtain ⟨f, hf⟩ : ∃ f, f = r/36524 := ⟨_, rfl⟩
  have e1 : r / 1460 = e := by omega
  rw [← hf, ← hg, e1] at hy
  obtain ⟨k, hk⟩ : ∃ k, k = (t - e + f - g)/365 := ⟨_, rfl⟩
  have hy2 : y = 4 * e + k := by omega
  clear hy e1
  have : f = 0 ∨ f = 1 ∨ f = 2 ∨ f = 3 ∨ f = 4 := by omega
  have : k = -1 ∨ k = 0 ∨ k = 1 ∨ k = 2 ∨ k = 3 ∨ k = 4 := by omega
  have : g = 0 ∨ g = 1 := by omega
  obtain ⟨q, hq⟩ : ∃ q, q = y/4 := ⟨_, rfl⟩
  obtain ⟨d, hd⟩ : ∃ d, d = y/100 := ⟨_, rfl⟩
  rcases ‹f = 0 ∨ _› with rfl | rfl | rfl | rfl | rfl <;> rcases ‹g = 0 ∨ _› with rfl | rfl <;> rcases ‹k = -1 ∨ _› with rfl | rfl | rfl | rfl | rfl | rfl <;> subst he <;> first | (exfalso; omega) | (subst hy2; omega)
/-- The number of a date, counted by years that begin in March. -/
def numM (Y M d : Int) : Int := Y / 400 * 146097 + ahead (Y % 400) + (153 * M + 2) / 5 + d - 1 - 719468
theorem numM_lo (y m d : Int) (h1 : 1 ≤ m) (h2 : m < 3) : numM (y - 1) (m + 9) d = num y m d := by
  have := lp_eq y
  unfold numM num ahead fst cum
  rw [if_pos (by omega)]
  have : m = 1 ∨ m = 2 := by omega
  rcases this with rfl | rfl <;> omega
theorem numM_hi (y m d : Int) (h1 : 3 ≤ m) : numM y (m - 3) d = num y m d := by
  have := lp_eq y
  unfold numM num ahead fst cum
  rw [if_neg (by omega)]
  omega
/-- The parts of the date of a day: n is the number of days from the first of March of the year 0 on. -/
def dY (n : Int) : Int := (n % 146097 - n % 146097 / 1460 + n % 146097 / 36524 - n % 146097 / 146096) / 365
def dR (n : Int) : Int := n % 146097 - ahead (dY n)
def dM (n : Int) : Int := (5 * dR n + 2) / 153
def dD (n : Int) : Int := dR n - (153 * dM n + 2) / 5 + 1
theorem dY_bd (n : Int) : 0 ≤ dY n ∧ dY n ≤ 399 ∧ 0 ≤ dR n ∧ dR n ≤ 365 ∧ (dR n = 365 → dY n % 4 = 3 ∧ (dY n % 100 = 99 → dY n = 399)) := by
  have := yoe (n % 146097) (by omega) (by omega) (dY n) rfl
  unfold dR
  omega
theorem dM_bd (n : Int) : 0 ≤ dM n ∧ dM n ≤ 11 ∧ 1 ≤ dD n ∧ dD n ≤ 31 := by
  have := dY_bd n
  unfold dD dM
  omega
/-- The year and the month of the day n: what the program makes of its parts. -/
def yearOf (n : Int) : Int := if dM (n + 719468) ≤ 9 then (n + 719468) / 146097 * 400 + dY (n + 719468) else (n + 719468) / 146097 * 400 + dY (n + 719468) + 1
def monthOf (n : Int) : Int := if dM (n + 719468) ≤ 9 then dM (n + 719468) + 3 else dM (n + 719468) - 9
def dayOf (n : Int) : Int := dD (n + 719468)
theorem len_ge (y m d : Int) (h : Valid y m d) : d ≤ 31 := by
  have := len_bd y m
  obtain ⟨_, _, _, _, _, g⟩ := h
  omega
end Cal
end Go.Proofs.YthlbockphdbpkaaDoor
namespace Go.Proofs.YthlbockphdbpkaaDoor
open Go.RowKit
/-- Is it a leap year? -/
def lpB (y : Int) : Bool := decide (Cal.lp y = 1)
theorem tmod_zero (y k : Int) : (y.tmod k = 0) ↔ (y % k = 0) := by
  rw [← Int.dvd_iff_tmod_eq_zero, Int.dvd_iff_emod_eq_zero]
theorem tmod_yes {y k : Int} (h : y % k = 0) : (y.tmod k == 0) = true ∧ (y.tmod k != 0) = false := by
  have := (tmod_zero y k).2 h
  simp [this]
theorem tmod_no {y k : Int} (h : ¬ y % k = 0) : (y.tmod k == 0) = false ∧ (y.tmod k != 0) = true := by
  have := fun e => h ((tmod_zero y k).1 e)
  exact ⟨beq_eq_false_iff_ne.2 this, bne_iff_ne.2 this⟩
theorem lpB_of (y : Int) : lpB y = (y % 4 == 0 && (y % 100 != 0 || y % 400 == 0)) := by
  have := Cal.lp_eq y
  unfold lpB
  rw [Bool.eq_iff_iff]
  simp
  omega
set_option maxHeartbeats 400000 in
theorem leap_any (y : Int) (w : World) : Calls Tryd.prog 80 #[.int .i64 y] w fun e w' => e = .returned (.bool (lpB y)) ∧ w = w' := by
  have hl := Lib.hid (lpB_of y)
  by_cases h4 : y % 4 = 0 <;> by_cases h100 : y % 100 = 0 <;> by_cases h400 : y % 400 = 0
  all_goals
    have H := Lib.hid (And.intro h4 (And.intro h100 h400))
    obtain ⟨a4, b4⟩ := (by first | exact tmod_yes h4 | exact tmod_no h4 : _ ∧ _)
    obtain ⟨a100, b100⟩ := (by first | exact tmod_yes h100 | exact tmod_no h100 : _ ∧ _)
    obtain ⟨a400, b400⟩ := (by first | exact tmod_yes h400 | exact tmod_no h400 : _ ∧ _)
    clear h4 h100 h400
    go_enter Tryd.func80, Tryd.ntmps80
    go_wp2
    go_ret
    obtain ⟨h4, h100, h400⟩ := H.out
    exact ⟨by rw [hl.out]; simp [h4, h100, h400], rfl⟩
theorem below_drewN {B : Nat} {a w : World} (h : Below B a w) (n : Nat) : Below B a (w.drewN n) := ⟨h.os, h.tape, h.output, h.size, h.block⟩
theorem bcell {W w1 : World} (hb : Below W.heap.size W w1) : (∀ b o, b < W.heap.size → w1.cell? ⟨b, o, none⟩ = W.cell? ⟨b, o, none⟩) ∧ (∀ b o, b < W.heap.size → w1.frozen? ⟨b, o, none⟩ = W.frozen? ⟨b, o, none⟩) :=
  ⟨fun b o h => hb.cell (p := ⟨b, o, none⟩) h, fun b o h => hb.frozen (p := ⟨b, o, none⟩) h⟩
theorem quiet_left {P : Program} {f : FuncId} {args : Array Value} {w : World} {n : Nat} {v : Value}
    (h : Calls P f args (w.drewN n) fun e w' => e = .returned v ∧ w.drewN n = w') : Calls P f args (w.drewN n) fun e w'' => e = .returned v ∧ ∃ m, w'' = w.drewN m :=
  h.mono fun _ _ ⟨he, hm⟩ => ⟨he, n, hm.symm⟩
theorem lpB_iff (y : Int) : (lpB y = true ∧ Cal.lp y = 1) ∨ (lpB y = false ∧ Cal.lp y = 0) := by
  have := Cal.lp_eq y
  unfold lpB
  simp
  omega
theorem len_lit (y m : Int) (h3 : 1 ≤ m) (h4 : m ≤ 12) : (m = 2 ∧ lpB y = true ∧ Cal.len y m = 29) ∨ (m = 2 ∧ lpB y = false ∧ Cal.len y m = 28) ∨ ((m = 4 ∨ m = 6 ∨ m = 9 ∨ m = 11) ∧ Cal.len y m = 30) ∨ ((m = 1 ∨ m = 3 ∨ m = 5 ∨ m = 7 ∨ m = 8 ∨ m = 10 ∨ m = 12) ∧ Cal.len y m = 31) := by
  have hb := lpB_iff y
  have : m = 1 ∨ m = 2 ∨ m = 3 ∨ m = 4 ∨ m = 5 ∨ m = 6 ∨ m = 7 ∨ m = 8 ∨ m = 9 ∨ m = 10 ∨ m = 11 ∨ m = 12 := by omega
  unfold Cal.len
  rcases hb with ⟨h, h'⟩ | ⟨h, h'⟩ <;> rcases this with rfl | rfl | rfl | rfl | rfl | rfl | rfl | rfl | rfl | rfl | rfl | rfl <;> simp [h, h']
theorem length_yes (y m : Int) (w : World) (h1 : 1 ≤ y) (h2 : y ≤ 9999) (h3 : 1 ≤ m) (h4 : m ≤ 12) :
    Calls Tryd.prog 72 #[.int .i64 y, .int .i64 m] w fun e w' => e = .returned (.tuple #[.int .i64 (Cal.len y m), .int .i64 0]) ∧ w = w' := by
  rcases len_lit y m h3 h4 with ⟨rfl, hb, hl⟩ | ⟨rfl, hb, hl⟩ | ⟨rfl | rfl | rfl | rfl, hl⟩ | ⟨rfl | rfl | rfl | rfl | rfl | rfl | rfl, hl⟩
  all_goals
    rw [hl]
    clear hl
    try have HB := Lib.hid hb
    try clear hb
    go_enter Tryd.func72, Tryd.ntmps72
    go_wp2_with (first | (go_at_call 80; refine (leap_any _ _).mono ?_; rintro e w' ⟨rfl, rfl⟩; rw [HB.out]))
    go_ret2
    exact ⟨rfl, rfl⟩
theorem length_no (y m : Int) (w : World) (h : ¬ (1 ≤ y ∧ y ≤ 9999 ∧ 1 ≤ m ∧ m ≤ 12)) :
    Calls Tryd.prog 72 #[.int .i64 y, .int .i64 m] w fun e w' => e = .returned (.tuple #[.int .i64 0, .int .i64 1]) ∧ w = w' := by
  by_cases h1 : y < 1
  · clear h
    go_enter Tryd.func72, Tryd.ntmps72
    go_wp2
    go_ret2
    exact ⟨rfl, rfl⟩
  · by_cases h2 : 9999 < y
    · clear h
      go_enter Tryd.func72, Tryd.ntmps72
      go_wp2
      go_ret2
      exact ⟨rfl, rfl⟩
    · by_cases h3 : m < 1
      · clear h
        go_enter Tryd.func72, Tryd.ntmps72
        go_wp2
        go_ret2
        exact ⟨rfl, rfl⟩
      · have h4 : 12 < m := by omega
        clear h
        go_enter Tryd.func72, Tryd.ntmps72
        go_wp2
        go_ret2
        exact ⟨rfl, rfl⟩
theorem fromMarch_lo (y m d : Int) (w : World) (h1 : 1 ≤ y) (h2 : y ≤ 10000) (h3 : 1 ≤ m) (h4 : m < 3) :
    Calls Tryd.prog 91 #[.agg #[.int .i64 y, .int .i64 m, .int .i64 d]] w fun e w' => e = .returned (.tuple #[.int .i64 (y - 1), .int .i64 (m + 9)]) ∧ Below w.heap.size w w' := by
  go_enter Tryd.func91, Tryd.ntmps91
  go_wp2
  go_quiet (fail)
  go_wp2
  go_ret2
  exact ⟨rfl, below_drewN ((Below.refl _ _).alloc (Nat.le_refl _) _) _⟩
theorem fromMarch_hi (y m d : Int) (w : World) (_h1 : 1 ≤ y) (_h2 : y ≤ 10000) (h3 : 3 ≤ m) (h4 : m ≤ 12) :
    Calls Tryd.prog 91 #[.agg #[.int .i64 y, .int .i64 m, .int .i64 d]] w fun e w' => e = .returned (.tuple #[.int .i64 y, .int .i64 (m - 3)]) ∧ Below w.heap.size w w' := by
  go_enter Tryd.func91, Tryd.ntmps91
  go_wp2
  go_quiet (fail)
  go_wp2
  go_ret2
  exact ⟨rfl, below_drewN ((Below.refl _ _).alloc (Nat.le_refl _) _) _⟩
theorem ahead_any (y : Int) (w : World) (h1 : 0 ≤ y) (h2 : y ≤ 400) :
    Calls Tryd.prog 92 #[.int .i64 y] w fun e w' => e = .returned (.int .i64 (Cal.ahead y)) ∧ w = w' := by
  go_enter Tryd.func92, Tryd.ntmps92
  go_wp2
  go_ret
  exact ⟨rfl, rfl⟩
theorem aheadMonth_any (m : Int) (w : World) (h1 : 0 ≤ m) (h2 : m ≤ 12) :
    Calls Tryd.prog 93 #[.int .i64 m] w fun e w' => e = .returned (.int .i64 ((153 * m + 2) / 5)) ∧ w = w' := by
  go_enter Tryd.func93, Tryd.ntmps93
  go_wp2
  go_ret
  exact ⟨rfl, rfl⟩
theorem ret_int {k : IntKind} {a b : Int} (h : a = b) : Ending.returned (.int k a) = .returned (.int k b) := by rw [h]
theorem ahead_bd (y : Int) (h1 : 0 ≤ y) (h2 : y ≤ 400) : 0 ≤ Cal.ahead y ∧ Cal.ahead y ≤ 146097 := by unfold Cal.ahead; omega
theorem number_any (y m d : Int) (w : World) (h1 : 1 ≤ y) (h2 : y ≤ 10000) (h3 : 1 ≤ m) (h4 : m ≤ 12) (h5 : 0 ≤ d) (h6 : d ≤ 31) :
    Calls Tryd.prog 82 #[.agg #[.int .i64 y, .int .i64 m, .int .i64 d]] w fun e w' => e = .returned (.int .i64 (Cal.num y m d)) ∧ Below w.heap.size w w' := by
  by_cases hm : m < 3
  · have hlo := Lib.hid (Cal.numM_lo y m d h3 hm)
    have ha := ahead_bd ((y - 1) % 400) (by omega) (by omega)
    go_enter Tryd.func82, Tryd.ntmps82
    go_wp2_with fail
    refine (fromMarch_lo _ _ _ _ (by omega) (by omega) (by omega) (by omega)).mono ?_
    rintro e w' ⟨rfl, hb⟩
    obtain ⟨hc, hf⟩ := bcell hb
    go_wp2_with fail
    go_quiet ((first | (go_at_call 92; exact quiet_left (ahead_any _ _ (by omega) (by omega))) | (go_at_call 93; exact quiet_left (aheadMonth_any _ _ (by omega) (by omega)))))
    go_wp2
    go_ret
    exact ⟨ret_int hlo.out, below_drewN (((Below.refl _ _).alloc (Nat.le_refl _) _).trans (hb.mono (by simp))) _⟩
  · have hhi := Lib.hid (Cal.numM_hi y m d (by omega))
    have ha := ahead_bd (y % 400) (by omega) (by omega)
    go_enter Tryd.func82, Tryd.ntmps82
    go_wp2_with fail
    refine (fromMarch_hi _ _ _ _ (by omega) (by omega) (by omega) (by omega)).mono ?_
    rintro e w' ⟨rfl, hb⟩
    obtain ⟨hc, hf⟩ := bcell hb
    go_wp2_with fail
    go_quiet ((first | (go_at_call 92; exact quiet_left (ahead_any _ _ (by omega) (by omega))) | (go_at_call 93; exact quiet_left (aheadMonth_any _ _ (by omega) (by omega)))))
    go_wp2
    go_ret
    exact ⟨ret_int hhi.out, below_drewN (((Below.refl _ _).alloc (Nat.le_refl _) _).trans (hb.mono (by simp))) _⟩
theorem newYear_any (y : Int) (w : World) (h1 : 1 ≤ y) (h2 : y ≤ 10000) :
    Calls Tryd.prog 84 #[.int .i64 y] w fun e w' => e = .returned (.int .i64 (Cal.fst y)) ∧ Below w.heap.size w w' := by
  have hn := Lib.hid (show Cal.num y 1 1 = Cal.fst y by unfold Cal.num; rw [Cal.cum_one]; omega)
  go_enter Tryd.func84, Tryd.ntmps84
  go_wp2_with fail
  refine (number_any _ _ _ _ (by omega) (by omega) (by omega) (by omega) (by omega) (by omega)).mono ?_
  rintro e w' ⟨rfl, hb⟩
  go_wp2
  go_ret
  exact ⟨ret_int hn.out, hb⟩
end Go.Proofs.YthlbockphdbpkaaDoor
namespace Go.Proofs.YthlbockphdbpkaaDoor
open Go.RowKit
theorem tmod7 (n : Int) : n.tmod 7 = n % 7 ∨ n.tmod 7 = n % 7 - 7 := by
  rw [Int.tmod_eq_emod]
  split
  · left; omega
  · right; rfl
theorem weekday_any (n : Int) (w : World) (_h1 : -9223372036854775808 ≤ n) (_h2 : n ≤ 9223372036854775807) :
    Calls Tryd.prog 94 #[.int .i64 n] w fun e w' => e = .returned (.int .i64 ((n + 4) % 7)) ∧ w = w' := by
  have hq := tmod7 n
  have hb : -7 ≤ n.tmod 7 ∧ n.tmod 7 ≤ 7 := by omega
  have he := Lib.hid (show (n.tmod 7 + 11) % 7 = (n + 4) % 7 by omega)
  obtain ⟨hb1, hb2⟩ := hb
  clear hq
  go_enter Tryd.func94, Tryd.ntmps94
  go_wp2
  go_ret
  exact ⟨ret_int he.out, rfl⟩
set_option maxHeartbeats 1000000 in
theorem date_any (n : Int) (w : World) (h1 : -719162 ≤ n) (h2 : n ≤ 2932896) :
    Calls Tryd.prog 85 #[.int .i64 n] w fun e w' => e = .returned (.agg #[.int .i64 (Cal.yearOf n), .int .i64 (Cal.monthOf n), .int .i64 (Cal.dayOf n)]) ∧ Below w.heap.size w w' := by
  have b1 := Cal.dY_bd (n + 719468)
  have b2 := Cal.dM_bd (n + 719468)
  by_cases hm : Cal.dM (n + 719468) ≤ 9
  · have hfin : Hid (Cal.yearOf n = (n + 719468) / 146097 * 400 + Cal.dY (n + 719468) ∧ Cal.monthOf n = Cal.dM (n + 719468) + 3 ∧ Cal.dayOf n = Cal.dD (n + 719468)) := by
      refine ⟨?_, ?_, rfl⟩
      · unfold Cal.yearOf; rw [if_pos hm]
      · unfold Cal.monthOf; rw [if_pos hm]
    unfold Cal.dM Cal.dD Cal.dM Cal.dR Cal.dY at b2
    unfold Cal.dM Cal.dR Cal.dY at hm
    unfold Cal.dR Cal.dY at b1
    obtain ⟨_, _, c1, c2, _⟩ := b1
    obtain ⟨d1, d2, d3, d4⟩ := b2
    have ha := ahead_bd (((n + 719468) % 146097 - (n + 719468) % 146097 / 1460 + (n + 719468) % 146097 / 36524 - (n + 719468) % 146097 / 146096) / 365) (by omega) (by omega)
    obtain ⟨ha1, ha2⟩ := ha
    go_enter Tryd.func85, Tryd.ntmps85
    go_wp2_with (first | (go_at_call 92; refine (ahead_any _ _ (by omega) (by omega)).mono ?_; rintro e w' ⟨rfl, rfl⟩) | (go_at_call 93; refine (aheadMonth_any _ _ (by omega) (by omega)).mono ?_; rintro e w' ⟨rfl, rfl⟩))
    obtain ⟨e1, e2, e3⟩ := hfin
    rw [e1, e2, e3]
    refine bodyPost_ret (v := .agg #[.int .i64 _, .int .i64 _, .int .i64 _]) (by simp [results, Tryd.results85, go_sem]; exact ⟨rfl, rfl, rfl⟩) rfl ⟨rfl, ?_⟩
    repeat (first | exact Below.refl _ _ | assumption | refine below_drewN ?_ _ | refine Below.drew ?_ | refine Below.setCell ?_ (by first | omega | (simp; done) | (simp; omega)) _ | refine Below.alloc ?_ (by first | omega | (simp; done) | (simp; omega)) _)
  · have hfin : Hid (Cal.yearOf n = (n + 719468) / 146097 * 400 + Cal.dY (n + 719468) + 1 ∧ Cal.monthOf n = Cal.dM (n + 719468) + 3 - 12 ∧ Cal.dayOf n = Cal.dD (n + 719468)) := by
      refine ⟨?_, ?_, rfl⟩
      · unfold Cal.yearOf; rw [if_neg hm]
      · unfold Cal.monthOf; rw [if_neg hm]; omega
    unfold Cal.dM Cal.dD Cal.dM Cal.dR Cal.dY at b2
    unfold Cal.dM Cal.dR Cal.dY at hm
    unfold Cal.dR Cal.dY at b1
    obtain ⟨_, _, c1, c2, _⟩ := b1
    obtain ⟨d1, d2, d3, d4⟩ := b2
    have ha := ahead_bd (((n + 719468) % 146097 - (n + 719468) % 146097 / 1460 + (n + 719468) % 146097 / 36524 - (n + 719468) % 146097 / 146096) / 365) (by omega) (by omega)
    obtain ⟨ha1, ha2⟩ := ha
    go_enter Tryd.func85, Tryd.ntmps85
    go_wp2_with (first | (go_at_call 92; refine (ahead_any _ _ (by omega) (by omega)).mono ?_; rintro e w' ⟨rfl, rfl⟩) | (go_at_call 93; refine (aheadMonth_any _ _ (by omega) (by omega)).mono ?_; rintro e w' ⟨rfl, rfl⟩))
    obtain ⟨e1, e2, e3⟩ := hfin
    rw [e1, e2, e3]
    refine bodyPost_ret (v := .agg #[.int .i64 _, .int .i64 _, .int .i64 _]) (by simp [results, Tryd.results85, go_sem]; exact ⟨rfl, rfl, rfl⟩) rfl ⟨rfl, ?_⟩
    repeat (first | exact Below.refl _ _ | assumption | refine below_drewN ?_ _ | refine Below.drew ?_ | refine Below.setCell ?_ (by first | omega | (simp; done) | (simp; omega)) _ | refine Below.alloc ?_ (by first | omega | (simp; done) | (simp; omega)) _)
theorem of_yes (n : Int) (w : World) (h1 : -719162 ≤ n) (h2 : n ≤ 2932896) :
    Calls Tryd.prog 75 #[.int .i64 n] w fun e w' => e = .returned (.tuple #[.agg #[.int .i64 (Cal.yearOf n), .int .i64 (Cal.monthOf n), .int .i64 (Cal.dayOf n)], .int .i64 0]) ∧ Below w.heap.size w w' := by
  have l1 : decide (n < Cal.fst 1) = false := by have := Cal.fst_one; simp; omega
  have l2 : decide (Cal.fst 10000 ≤ n) = false := by have := Cal.fst_end; simp; omega
  go_enter Tryd.func75, Tryd.ntmps75
  go_wp2_with fail
  refine (newYear_any 1 _ (by omega) (by omega)).mono ?_
  rintro e w1 ⟨rfl, hb1⟩
  obtain ⟨hc1, hf1⟩ := bcell hb1
  have hz1 : w.heap.size < w1.heap.size := by have := hb1.size; simp at this; omega
  go_wp2_with fail
  refine (newYear_any 10000 _ (by omega) (by omega)).mono ?_
  rintro e w2 ⟨rfl, hb2⟩
  obtain ⟨hc2, hf2⟩ := bcell hb2
  have hz2 : w.heap.size < w2.heap.size := by have := hb2.size; omega
  go_wp2_with fail
  refine (date_any n _ (by omega) (by omega)).mono ?_
  rintro e w3 ⟨rfl, hb3⟩
  obtain ⟨hc3, hf3⟩ := bcell hb3
  have hz3 : w.heap.size < w3.heap.size := by have := hb3.size; omega
  have ha3 : Below w.heap.size w w3 := (((Below.refl _ _).alloc (Nat.le_refl _) _).trans (hb1.mono (by simp))).trans ((hb2.mono (by omega)).trans (hb3.mono (by omega)))
  go_wp2_with fail
  refine bodyPost_ret (v := .tuple #[.agg #[.int .i64 (Cal.yearOf n), .int .i64 (Cal.monthOf n), .int .i64 (Cal.dayOf n)], .int .i64 0]) (by simp [results, Tryd.results75, go_sem, hz1, hz2, hc1, hc2, hc3]) rfl ⟨rfl, ?_⟩
  repeat (first | exact Below.refl _ _ | assumption | refine below_drewN ?_ _ | refine Below.drew ?_ | refine Below.setCell ?_ (by first | omega | (simp; done) | (simp; omega)) _ | refine Below.alloc ?_ (by first | omega | (simp; done) | (simp; omega)) _)
theorem of_no (n : Int) (w : World) (h : n < -719162 ∨ 2932896 < n) :
    Calls Tryd.prog 75 #[.int .i64 n] w fun e w' => e = .returned (.tuple #[.agg #[.int .i64 0, .int .i64 0, .int .i64 0], .int .i64 1]) ∧ Below w.heap.size w w' := by
  rcases h with h | h
  · have l1 : decide (n < Cal.fst 1) = true := by have := Cal.fst_one; simp; omega
    go_enter Tryd.func75, Tryd.ntmps75
    go_wp2_with fail
    refine (newYear_any 1 _ (by omega) (by omega)).mono ?_
    rintro e w1 ⟨rfl, hb1⟩
    obtain ⟨hc1, hf1⟩ := bcell hb1
    have hz1 : w.heap.size < w1.heap.size := by have := hb1.size; simp at this; omega
    have ha1 : Below w.heap.size w w1 := ((Below.refl _ _).alloc (Nat.le_refl _) _).trans (hb1.mono (by simp))
    go_wp2_with fail
    refine bodyPost_ret (v := .tuple #[.agg #[.int .i64 0, .int .i64 0, .int .i64 0], .int .i64 1]) (by simp [results, Tryd.results75, go_sem, hc1]) rfl ⟨rfl, ?_⟩
    repeat (first | exact Below.refl _ _ | assumption | refine below_drewN ?_ _ | refine Below.drew ?_ | refine Below.setCell ?_ (by first | omega | (simp; done) | (simp; omega)) _ | refine Below.alloc ?_ (by first | omega | (simp; done) | (simp; omega)) _)
  · have l1 : decide (n < Cal.fst 1) = false := by have := Cal.fst_one; simp; omega
    have l2 : decide (Cal.fst 10000 ≤ n) = true := by have := Cal.fst_end; simp; omega
    go_enter Tryd.func75, Tryd.ntmps75
    go_wp2_with fail
    refine (newYear_any 1 _ (by omega) (by omega)).mono ?_
    rintro e w1 ⟨rfl, hb1⟩
    obtain ⟨hc1, hf1⟩ := bcell hb1
    have hz1 : w.heap.size < w1.heap.size := by have := hb1.size; simp at this; omega
    go_wp2_with fail
    refine (newYear_any 10000 _ (by omega) (by omega)).mono ?_
    rintro e w2 ⟨rfl, hb2⟩
    obtain ⟨hc2, hf2⟩ := bcell hb2
    have hz2 : w.heap.size < w2.heap.size := by have := hb2.size; omega
    have ha2 : Below w.heap.size w w2 := (((Below.refl _ _).alloc (Nat.le_refl _) _).trans (hb1.mono (by simp))).trans (hb2.mono (by omega))
    go_wp2_with fail
    refine bodyPost_ret (v := .tuple #[.agg #[.int .i64 0, .int .i64 0, .int .i64 0], .int .i64 1]) (by simp [results, Tryd.results75, go_sem, hz1, hc1, hc2]) rfl ⟨rfl, ?_⟩
    repeat (first | exact Below.refl _ _ | assumption | refine below_drewN ?_ _ | refine Below.drew ?_ | refine Below.setCell ?_ (by first | omega | (simp; done) | (simp; omega)) _ | refine Below.alloc ?_ (by first | omega | (simp; done) | (simp; omega)) _)
theorem check_yes (y m d : Int) (w : World) (h : Cal.Valid y m d) :
    Calls Tryd.prog 81 #[.agg #[.int .i64 y, .int .i64 m, .int .i64 d]] w fun e w' => e = .returned (.int .i64 0) ∧ Below w.heap.size w w' := by
  obtain ⟨h1, h2, h3, h4, h5, h6⟩ := h
  have hl := Cal.len_bd y m
  have g1 : decide (d < 1) = false := by simp; omega
  have g2 : decide (Cal.len y m < d) = false := by simp; omega
  go_enter Tryd.func81, Tryd.ntmps81
  go_wp2_with fail
  refine (length_yes _ _ _ (by omega) (by omega) (by omega) (by omega)).mono ?_
  rintro e w1 ⟨rfl, rfl⟩
  go_wp2_with fail
  go_ret
  refine ⟨rfl, ?_⟩
  repeat (first | exact Below.refl _ _ | assumption | refine below_drewN ?_ _ | refine Below.drew ?_ | refine Below.setCell ?_ (by first | omega | (simp; done) | (simp; omega)) _ | refine Below.alloc ?_ (by first | omega | (simp; done) | (simp; omega)) _)
theorem days_yes (y m d : Int) (w : World) (h : Cal.Valid y m d) :
    Calls Tryd.prog 73 #[.agg #[.int .i64 y, .int .i64 m, .int .i64 d]] w fun e w' => e = .returned (.tuple #[.int .i64 (Cal.num y m d), .int .i64 0]) ∧ Below w.heap.size w w' := by
  have hd := Cal.len_ge y m d h
  have hV := Lib.hid h
  obtain ⟨h1, h2, h3, h4, h5, h6⟩ := h
  clear h6
  go_enter Tryd.func73, Tryd.ntmps73
  go_wp2_with fail
  refine (check_yes _ _ _ _ hV).mono ?_
  rintro e w1 ⟨rfl, hb1⟩
  obtain ⟨hc1, hf1⟩ := bcell hb1
  go_wp2_with fail
  refine (number_any _ _ _ _ (by omega) (by omega) (by omega) (by omega) (by omega) (by omega)).mono ?_
  rintro e w2 ⟨rfl, hb2⟩
  go_wp2_with fail
  go_ret2
  exact ⟨rfl, (((Below.refl _ _).alloc (Nat.le_refl _) _).trans (hb1.mono (by simp))).trans (hb2.mono (by have := hb1.size; simp at this; omega))⟩
end Go.Proofs.YthlbockphdbpkaaDoor
namespace Go.Proofs.YthlbockphdbpkaaDoor
open Go.RowKit
theorem isTime_yes (t : Int) (w : World) (h1 : -604800 ≤ t) (h2 : t ≤ 604800) :
    Calls Tryd.prog 76 #[.int .i64 t] w fun e w' => e = .returned (.bool true) ∧ w = w' := by
  go_enter Tryd.func76, Tryd.ntmps76
  go_wp2
  go_ret
  exact ⟨rfl, rfl⟩
theorem at_yes (d t : Int) (w : World) (h1 : -719162 ≤ d) (h2 : d ≤ 2932896) (h3 : -604800 ≤ t) (h4 : t ≤ 604800) :
    Calls Tryd.prog 58 #[.int .i64 d, .int .i64 t] w fun e w' => e = .returned (.tuple #[.int .i64 (d * 86400 + t), .int .i64 0]) ∧ Below w.heap.size w w' := by
  go_enter Tryd.func58, Tryd.ntmps58
  go_wp2_with fail
  refine (of_yes _ _ (by omega) (by omega)).mono ?_
  rintro e w1 ⟨rfl, hb1⟩
  go_wp2_with (go_at_call 76; refine (isTime_yes _ _ (by omega) (by omega)).mono ?_; rintro e w' ⟨rfl, rfl⟩)
  go_ret2
  refine ⟨rfl, ?_⟩
  have := hb1.size
  repeat (first | exact Below.refl _ _ | assumption | refine below_drewN ?_ _ | refine Below.drew ?_ | refine Below.setCell ?_ (by first | omega | (simp; done) | (simp; omega)) _ | refine Below.alloc ?_ (by first | omega | (simp; done) | (simp; omega)) _)
end Go.Proofs.YthlbockphdbpkaaDoor
namespace Go.Proofs.YthlbockphdbpkaaDoor
namespace Txt
def isD (c : UInt8) : Bool := decide (48 ≤ c.toNat) && decide (c.toNat ≤ 57)
def val (l : List UInt8) : Int := l.foldl (fun n c => 10 * n + ((c.toNat : Int) - 48)) 0
def okDig (l : List UInt8) (least most : Nat) : Bool := decide (least ≤ l.length) && decide (l.length ≤ most) && l.all isD
/-- What a piece tells: the hours (idx 0), or the minutes or seconds. -/
def piece (idx : Nat) (l : List UInt8) : Option Int :=
  if idx = 0 then (if okDig l 1 3 then some (val l) else none) else (if okDig l 2 2 && decide (val l < 60) then some (val l) else none)
/-- What pieces tell, from the one numbered idx on, the first of which begins with p. -/
def G (idx : Nat) (p : List UInt8) : List UInt8 → Option (List Int)
  | [] => (piece idx p).map fun v => [v]
  | c :: r => if c = 58 then (if 2 ≤ idx then none else (piece idx p).bind fun v => (G (idx + 1) [] r).map fun vs => v :: vs) else G idx (p ++ [c]) r
/-- The program's way: pieces, the last of which is not cut. -/
def Q (idx : Nat) : List (List UInt8) → Option (List Int)
  | [] => some []
  | p :: ps => (piece idx p).bind fun v => (Q (idx + 1) ps).map fun vs => v :: vs
end Txt
end Go.Proofs.YthlbockphdbpkaaDoor
namespace Go.Proofs.YthlbockphdbpkaaDoor
open Go.RowKit
theorem take_snoc (s : ByteArray) (k : Nat) (h : k < s.size) : s.data.toList.take (k + 1) = s.data.toList.take k ++ [s[k]] := by
  rw [List.take_succ_eq_append_getElem (by simpa using h)]; rfl
theorem take_all (s : ByteArray) : s.data.toList.take s.size = s.data.toList := List.take_of_length_le (by simp)
end Go.Proofs.YthlbockphdbpkaaDoor
namespace Go.Proofs.YthlbockphdbpkaaDoor
open Go.RowKit
/-- The three units of a time, the powers of ten that the library keeps, and the length up to which the library looks for a byte by itself. -/
structure Env (w : World) : Prop where
  
  
  longest : ∃ m : Int, w.cell? ⟨1, 0, none⟩ = some (.int .i64 m)
theorem lt_of_cell {w : World} {b o : Nat} {v : Value} (h : w.cell? ⟨b, o, none⟩ = some v) : b < w.heap.size := by
  rcases Nat.lt_or_ge b w.heap.size with h' | h'
  · exact h'
  · exfalso
    unfold World.cell? at h
    rw [Array.getElem?_eq_none h'] at h
    cases h
theorem Env.below {w w' : World} (h : Env w) (hb : Below w.heap.size w w') : Env w' :=
  ⟨by
    obtain ⟨m, hm⟩ := h.longest
    exact ⟨m, (hb.cell (lt_of_cell hm)).trans hm⟩⟩
theorem Env.alloc {w : World} (h : Env w) (o : Obj) : Env (w.alloc o) := h.below ((Below.refl _ _).alloc (Nat.le_refl _) o)
theorem Env.drew {w : World} (h : Env w) : Env w.drew := h.below (Below.refl _ _).drew
/-- Two digits. -/
def two (n : Int) : List UInt8 := [UInt8.ofNat (48 + n.toNat / 10), UInt8.ofNat (48 + n.toNat % 10)]
/-- The text of a time that is not below nought, and of any. -/
def txt0 (t : Int) : List UInt8 := Lib.itoa (t / 3600) ++ [58] ++ two (t % 3600 / 60) ++ (if t % 60 = 0 then [] else 58 :: two (t % 60))
def txt (t : Int) : List UInt8 := if t < 0 then 45 :: txt0 (-t) else txt0 t
end Go.Proofs.YthlbockphdbpkaaDoor
namespace Go.Proofs.YthlbockphdbpkaaDoor
open Go.RowKit
/-- The pieces of a text, as the program has them. -/
def pieces (s : ByteArray) : List ByteArray := Lib.splitB ⟨#[58]⟩ 0 (min 3 (s.size + 1) - 1) s
end Go.Proofs.YthlbockphdbpkaaDoor
namespace Go.Proofs.YthlbockphdbpkaaDoor
open Go.RowKit
/-- How many seconds the pieces are. -/
def secs (vs : List Int) : Int := vs.getD 0 0 * 3600 + vs.getD 1 0 * 60 + vs.getD 2 0
/-- The time that a text tells, and why not. -/
def parseL (l : List UInt8) : Int × Int :=
  match Txt.G 0 [] (Lib.trimPrefix l [45]) with
  | none => (0, 4)
  | some vs => if -604800 ≤ (if Lib.hasPrefix l [45] then -(secs vs) else secs vs) ∧ (if Lib.hasPrefix l [45] then -(secs vs) else secs vs) ≤ 604800 then ((if Lib.hasPrefix l [45] then -(secs vs) else secs vs), 0) else (0, 1)
end Go.Proofs.YthlbockphdbpkaaDoor
namespace Go.Proofs.YthlbockphdbpkaaDoor
namespace Wd
/-- The small letter of a great one. -/
def sm (c : UInt8) : UInt8 := if 65 ≤ c.toNat ∧ c.toNat ≤ 90 then UInt8.ofNat (c.toNat + 32) else c
def lo (s : ByteArray) : List UInt8 := s.data.toList.map sm
/-- x begins with s, letters alike. -/
def beg (x s : ByteArray) : Bool := (lo s).isPrefixOf (lo x)
/-- a and b are one, letters alike. -/
def one (a b : ByteArray) : Bool := decide (lo a = lo b)
/-- The scan for the name that a word means: the place, the last name so far that begins so, and how many. -/
def go (s : ByteArray) (i : Nat) (f : Int) (c : Nat) : List ByteArray → Int
  | [] => if c = 1 then f else -1
  | x :: r => if one s x = true then (i : Int) else if beg x s = true then go s (i + 1) (i : Int) (c + 1) r else go s (i + 1) f c r
/-- The place of the name that s means, or -1. -/
def pick (s : ByteArray) (l : List ByteArray) : Int := if s.size = 0 then -1 else go s 0 (-1) 0 l
def Ex (s : ByteArray) (l : List ByteArray) (j : Nat) : Prop := ∃ x, l[j]? = some x ∧ one s x = true
def Bg (s : ByteArray) (l : List ByteArray) (j : Nat) : Prop := ∃ x, l[j]? = some x ∧ beg x s = true
def Inv (s : ByteArray) (p : List ByteArray) (f : Int) (c : Nat) : Prop :=
  (∀ j, ¬ Ex s p j) ∧ ((c = 0 ∧ ∀ j, ¬ Bg s p j) ∨ (c = 1 ∧ ∃ k : Nat, f = k ∧ Bg s p k ∧ ∀ j, Bg s p j → j = k) ∨ (2 ≤ c ∧ ∃ j k, j ≠ k ∧ Bg s p j ∧ Bg s p k))
end Wd
end Go.Proofs.YthlbockphdbpkaaDoor
namespace Go.Proofs.YthlbockphdbpkaaDoor
open Go.RowKit Go.ChangeShapes Go.WideShapes Go.Deep
theorem app_ba (a b : List UInt8) : (⟨a.toArray⟩ : ByteArray) ++ ⟨b.toArray⟩ = ⟨(a ++ b).toArray⟩ := by
  apply ByteArray.ext
  simp
theorem size_ba (l : List UInt8) : (⟨l.toArray⟩ : ByteArray).size = l.length := by simp [ByteArray.size]
/-- A slice that reads as n cells, from below block B; nil let in. -/
def Sl (w : World) (B : Nat) (A : Option Addr) (n : Nat) (v : Nat → Value) : Prop := 0 < n → ∃ ad, A = some ad ∧ ad.block < B ∧ ∀ i, i < n → w.cell? (ad.add i) = some (v i)
theorem block_of_add (a : Addr) (n : Nat) : (a.add n).block = a.block := by unfold Addr.add; split <;> rfl
theorem Sl.below {w w' : World} {B : Nat} {A : Option Addr} {n : Nat} {v : Nat → Value} (h : Sl w B A n v) (hb : Below B w w') : Sl w' B A n v := by
  intro hn
  obtain ⟨ad, e, hl, hc⟩ := h hn
  exact ⟨ad, e, hl, fun i hi => (hb.cell (by rw [block_of_add]; exact hl)).trans (hc i hi)⟩
theorem Sl.at_ {w : World} {B : Nat} {A : Option Addr} {n : Nat} {v : Nat → Value} (h : Sl w B A n v) {k : Nat} (hk : k < n) : ∃ ad, A = some ad ∧ ad.block < B ∧ w.cell? (ad.add k) = some (v k) := by
  obtain ⟨ad, e, hl, hc⟩ := h (by omega)
  exact ⟨ad, e, hl, hc k hk⟩
theorem lt_cell {w : World} {p : Addr} {v : Value} (h : w.cell? p = some v) : p.block < w.heap.size := World.block_lt_of_cell? w p h
section
variable {H : Type} {enc : TypeId × Value → H} {P : Program} {w : World} {base : Nat} {spare : Nat → Bool} {held : Bool}
theorem open_sl_ints {r : Reach} {b0 : Nat} {t e : TypeId} {k : IntKind} {v : Value} {d : DataW H} {p : List MemPlace} (ht : P.underlying t = some (.slice e)) (he : P.underlying e = some (.int k)) (hc : P.cellsOf e = 1)
    (hv : Value.okWide P w r b0 t v) (h : DataW.Trod enc P w base spare held t v d p) :
    ∃ (A : Option Addr) (n c : Nat) (zs : List Int), v = .slice A n c ∧ n ≤ maxLen ∧ zs.length = n ∧ (∀ i, i < n → (Lit.int k (zs.getD i 0)).wf = true) ∧ Sl w w.heap.size A n (fun i => .int k (zs.getD i 0)) := by
  obtain ⟨a0, len, cap, rfl⟩ := okWide_slice ht hv
  obtain ⟨fuel, hf⟩ := h
  rcases open_ints ht he hc hf with ⟨hcs, hx⟩ | ⟨a, len', cap', zs, hcs, _, hl, hm, hz, hx, hcell, hw⟩
  · simp [Value.cells] at hcs
    obtain ⟨rfl, rfl, rfl⟩ := hcs
    exact ⟨none, 0, 0, [], rfl, Nat.zero_le _, rfl, fun i hi => absurd hi (by omega), fun hn => absurd hn (by omega)⟩
  · simp [Value.cells] at hcs
    obtain ⟨rfl, rfl, rfl⟩ := hcs
    have hle : len ≤ zs.length := by rw [hz]; split <;> omega
    have hg : ∀ i, i < len → (zs.take len).getD i 0 = zs.getD i 0 := fun i hi => by simp [List.getD_eq_getElem?_getD, List.getElem?_take_of_lt hi]
    refine ⟨some a, len, cap, zs.take len, rfl, by omega, by simp; omega, fun i hi => ?_, fun hn => ⟨a, rfl, ?_, fun i hi => ?_⟩⟩
    · rw [hg i hi, List.getD_eq_getElem?_getD, List.getElem?_eq_getElem (by omega)]
      exact hw _ (List.getElem_mem _)
    · have := lt_cell (hcell 0 (by omega))
      rwa [block_of_add] at this
    · show _ = some (Value.int k ((zs.take len).getD i 0))
      rw [hg i hi]
      exact hcell i (by omega)
theorem open_sl_strs {r : Reach} {b0 : Nat} {t e : TypeId} {v : Value} {d : DataW H} {p : List MemPlace} (ht : P.underlying t = some (.slice e)) (he : P.underlying e = some .string) (hc : P.cellsOf e = 1)
    (hv : Value.okWide P w r b0 t v) (h : DataW.Trod enc P w base spare held t v d p) :
    ∃ (A : Option Addr) (n c : Nat) (ss : List ByteArray), v = .slice A n c ∧ n ≤ maxLen ∧ ss.length = n ∧ (∀ i, i < n → (ss.getD i ByteArray.empty).size ≤ maxLen) ∧ Sl w w.heap.size A n (fun i => .string (ss.getD i ByteArray.empty)) := by
  obtain ⟨a0, len, cap, rfl⟩ := okWide_slice ht hv
  obtain ⟨fuel, hf⟩ := h
  rcases open_strings ht he hc hf with ⟨hcs, hx⟩ | ⟨a, len', cap', zs, hcs, _, hl, hm, hz, hx, hcell, hw⟩
  · simp [Value.cells] at hcs
    obtain ⟨rfl, rfl, rfl⟩ := hcs
    exact ⟨none, 0, 0, [], rfl, Nat.zero_le _, rfl, fun i hi => absurd hi (by omega), fun hn => absurd hn (by omega)⟩
  · simp [Value.cells] at hcs
    obtain ⟨rfl, rfl, rfl⟩ := hcs
    have hle : len ≤ zs.length := by rw [hz]; split <;> omega
    have hg : ∀ i, i < len → (zs.take len).getD i ByteArray.empty = zs.getD i ByteArray.empty := fun i hi => by simp [List.getD_eq_getElem?_getD, List.getElem?_take_of_lt hi]
    refine ⟨some a, len, cap, zs.take len, rfl, by omega, by simp; omega, fun i hi => ?_, fun hn => ⟨a, rfl, ?_, fun i hi => ?_⟩⟩
    · rw [hg i hi, List.getD_eq_getElem?_getD, List.getElem?_eq_getElem (by omega)]
      exact hw _ (List.getElem_mem _)
    · have := lt_cell (hcell 0 (by omega))
      rwa [block_of_add] at this
    · show _ = some (Value.string ((zs.take len).getD i ByteArray.empty))
      rw [hg i hi]
      exact hcell i (by omega)
end
end Go.Proofs.YthlbockphdbpkaaDoor
namespace Go.Proofs.YthlbockphdbpkaaDoor
open Go.RowKit
theorem idx_any (S : ByteArray) (kd : IntKind) (k : Nat) (hk : k < S.size) (W : World) : (Instr.index 9 (.string S) (.int kd (k : Int))).run Tryd.prog W = .ok (.int .u8 (S[k].toNat : Int)) W := by
  rw [run_index_string (P := Tryd.prog) W 9 S kd k Tryd.underlying9, dif_pos ⟨by omega, by omega⟩]
  rfl
theorem ret_bool {a b : Bool} (h : a = b) : Ending.returned (.bool a) = .returned (.bool b) := by rw [h]
end Go.Proofs.YthlbockphdbpkaaDoor
namespace Go.Proofs.YthlbockphdbpkaaDoor
open Go.RowKit
namespace Wd
/-- The names of the days of the week, and of the months. -/
def week : List ByteArray := [⟨#[83, 117, 110, 100, 97, 121]⟩, ⟨#[77, 111, 110, 100, 97, 121]⟩, ⟨#[84, 117, 101, 115, 100, 97, 121]⟩, ⟨#[87, 101, 100, 110, 101, 115, 100, 97, 121]⟩, ⟨#[84, 104, 117, 114, 115, 100, 97, 121]⟩, ⟨#[70, 114, 105, 100, 97, 121]⟩, ⟨#[83, 97, 116, 117, 114, 100, 97, 121]⟩]
def mons : List ByteArray := [⟨#[74, 97, 110, 117, 97, 114, 121]⟩, ⟨#[70, 101, 98, 114, 117, 97, 114, 121]⟩, ⟨#[77, 97, 114, 99, 104]⟩, ⟨#[65, 112, 114, 105, 108]⟩, ⟨#[77, 97, 121]⟩, ⟨#[74, 117, 110, 101]⟩, ⟨#[74, 117, 108, 121]⟩, ⟨#[65, 117, 103, 117, 115, 116]⟩, ⟨#[83, 101, 112, 116, 101, 109, 98, 101, 114]⟩, ⟨#[79, 99, 116, 111, 98, 101, 114]⟩, ⟨#[78, 111, 118, 101, 109, 98, 101, 114]⟩, ⟨#[68, 101, 99, 101, 109, 98, 101, 114]⟩]
/-- The name at the place i of a list. -/
def nth (l : List ByteArray) (i : Nat) : ByteArray := l.getD i ByteArray.empty
/-- The first three letters of it. -/
def three (l : List ByteArray) (i : Nat) : ByteArray := (nth l i).extract 0 3
theorem mons_back : ∀ i, i < 12 → pick (three mons i) mons = i ∧ (three mons i).size = 3 ∧ (nth mons i).size ≤ 9 ∧ 3 ≤ (nth mons i).size := by decide +kernel
end Wd
theorem Sl.drew {w : World} {B : Nat} {A : Option Addr} {n : Nat} {v : Nat → Value} (h : Sl w B A n v) : Sl w.drew B A n v := h
end Go.Proofs.YthlbockphdbpkaaDoor
namespace Go.Proofs.YthlbockphdbpkaaDoor
namespace Dy
/-- Is it a right day? k: how it is told; n: the day of the month; d: the day of the week. -/
def right (k n d : Int) : Bool := decide ((k = 0 ∧ 1 ≤ n ∧ n ≤ 31 ∧ d = 0) ∨ (k = 1 ∧ n = 0 ∧ 0 ≤ d ∧ d ≤ 6) ∨ ((k = 2 ∨ k = 3) ∧ 1 ≤ n ∧ n ≤ 31 ∧ 0 ≤ d ∧ d ≤ 6))
theorem right_iff (k n d : Int) : right k n d = true ↔ ((k = 0 ∧ 1 ≤ n ∧ n ≤ 31 ∧ d = 0) ∨ (k = 1 ∧ n = 0 ∧ 0 ≤ d ∧ d ≤ 6) ∨ ((k = 2 ∨ k = 3) ∧ 1 ≤ n ∧ n ≤ 31 ∧ 0 ≤ d ∧ d ≤ 6)) := decide_eq_true_iff
/-- The digits of a number below a hundred. -/
def dig (n : Nat) : List UInt8 := if n < 10 then [UInt8.ofNat (48 + n)] else [UInt8.ofNat (48 + n / 10), UInt8.ofNat (48 + n % 10)]
/-- The number of one or two digits. -/
def isd (c : UInt8) : Bool := decide (48 ≤ c.toNat) && decide (c.toNat ≤ 57)
def num : List UInt8 → Option Int
  | [a] => if isd a then some ((a.toNat : Int) - 48) else none
  | [a, b] => if isd a && isd b then some (10 * ((a.toNat : Int) - 48) + ((b.toNat : Int) - 48)) else none
  | _ => none
def lastW : ByteArray := ⟨#[108, 97, 115, 116]⟩
/-- A day of the week, from the day on, or up to it, that digits tell. -/
def beside (k : Int) (a b : ByteArray) : Option (Int × Int × Int) :=
  match num b.data.toList with
  | none => none
  | some n => if 0 ≤ Wd.pick a Wd.week then some (k, n, Wd.pick a Wd.week) else none
def isLast (s : ByteArray) : Bool := decide (4 ≤ s.size) && Wd.one (s.extract 0 4) lastW
/-- What s tells, right or not. -/
def rd (s : ByteArray) : Option (Int × Int × Int) :=
  if isLast s then (if 0 ≤ Wd.pick (s.extract 4 s.size) Wd.week then some (1, 0, Wd.pick (s.extract 4 s.size) Wd.week) else none)
  else if (Lib.cut s.data.toList [62, 61]).2.2 then beside 2 ⟨(Lib.cut s.data.toList [62, 61]).1.toArray⟩ ⟨(Lib.cut s.data.toList [62, 61]).2.1.toArray⟩
  else if (Lib.cut s.data.toList [60, 61]).2.2 then beside 3 ⟨(Lib.cut s.data.toList [60, 61]).1.toArray⟩ ⟨(Lib.cut s.data.toList [60, 61]).2.1.toArray⟩
  else match num s.data.toList with
    | none => none
    | some n => some (0, n, 0)
/-- The right day that s tells. -/
def prs (s : ByteArray) : Option (Int × Int × Int) :=
  match rd s with
  | none => none
  | some (k, n, d) => if right k n d then some (k, n, d) else none
/-- The text of a day. -/
def txt (k n d : Int) : ByteArray :=
  if k = 1 then lastW ++ Wd.three Wd.week d.toNat
  else if k = 2 then Wd.three Wd.week d.toNat ++ ⟨#[62, 61]⟩ ++ ⟨(dig n.toNat).toArray⟩
  else if k = 3 then Wd.three Wd.week d.toNat ++ ⟨#[60, 61]⟩ ++ ⟨(dig n.toNat).toArray⟩
  else ⟨(dig n.toNat).toArray⟩
set_option maxRecDepth 100000 in
theorem back0 : ∀ n, n < 32 → 1 ≤ n → prs (txt 0 (n : Nat) 0) = some ((0 : Int), ((n : Nat) : Int), (0 : Int)) := by decide +kernel
set_option maxRecDepth 100000 in
theorem back1 : ∀ d, d < 7 → prs (txt 1 0 (d : Nat)) = some ((1 : Int), (0 : Int), ((d : Nat) : Int)) := by decide +kernel
def backs (k : Int) : Bool := (List.range 32).all fun n => (List.range 7).all fun d => decide (n = 0) || decide (prs (txt k (n : Nat) (d : Nat)) = some (k, ((n : Nat) : Int), ((d : Nat) : Int)))
set_option maxRecDepth 100000 in
theorem backs2 : backs 2 = true := by decide +kernel
set_option maxRecDepth 100000 in
theorem backs3 : backs 3 = true := by decide +kernel
theorem back_of {k : Int} (h : backs k = true) (n d : Nat) (h1 : n < 32) (h2 : 1 ≤ n) (h3 : d < 7) : prs (txt k (n : Nat) (d : Nat)) = some (k, ((n : Nat) : Int), ((d : Nat) : Int)) := by
  unfold backs at h
  have h4 := List.all_eq_true.1 (List.all_eq_true.1 h n (List.mem_range.2 h1)) d (List.mem_range.2 h3)
  rcases Bool.or_eq_true_iff.1 h4 with h5 | h5
  · have := of_decide_eq_true h5; omega
  · exact of_decide_eq_true h5
/-- A right day is read from its text. -/
theorem back {k n d : Int} (h : right k n d = true) : prs (txt k n d) = some (k, n, d) := by
  rw [right_iff] at h
  rcases h with ⟨rfl, h1, h2, rfl⟩ | ⟨rfl, rfl, h1, h2⟩ | ⟨rfl | rfl, h1, h2, h3, h4⟩
  · have := back0 n.toNat (by omega) (by omega)
    rwa [show ((n.toNat : Nat) : Int) = n by omega] at this
  · have := back1 d.toNat (by omega)
    rwa [show ((d.toNat : Nat) : Int) = d by omega] at this
  · have := back_of backs2 n.toNat d.toNat (by omega) (by omega) (by omega)
    rwa [show ((d.toNat : Nat) : Int) = d by omega, show ((n.toNat : Nat) : Int) = n by omega] at this
  · have := back_of backs3 n.toNat d.toNat (by omega) (by omega) (by omega)
    rwa [show ((d.toNat : Nat) : Int) = d by omega, show ((n.toNat : Nat) : Int) = n by omega] at this
/-- The last day up to x that is the day d of the week. -/
def upto (x d : Int) : Int := x - ((x + 4) % 7 - d) % 7
/-- The number of a right day of a month of so many days that begins on the day b. -/
def find (k n d b len : Int) : Int :=
  if k = 1 then upto (b + len - 1) d else if k = 2 then upto (b + n + 5) d else if k = 3 then upto (b + n - 1) d else b + n - 1
end Dy
end Go.Proofs.YthlbockphdbpkaaDoor
namespace Go.Proofs.YthlbockphdbpkaaDoor
open Go.RowKit
theorem isDay_yes (n : Int) (w : World) (h1 : 1 ≤ n) (h2 : n ≤ 31) : Calls Tryd.prog 68 #[.int .i64 n] w fun e w' => e = .returned (.bool true) ∧ w = w' := by
  go_enter Tryd.func68, Tryd.ntmps68
  go_wp2
  go_ret
  exact ⟨rfl, rfl⟩
theorem isDay_no (n : Int) (w : World) (h : n < 1 ∨ 31 < n) : Calls Tryd.prog 68 #[.int .i64 n] w fun e w' => e = .returned (.bool false) ∧ w = w' := by
  rcases h with h | h
  · go_enter Tryd.func68, Tryd.ntmps68
    go_wp2
    go_ret
    exact ⟨rfl, rfl⟩
  · have h' : 1 ≤ n := by omega
    have t1 : decide (n ≤ 31) = false := by simp; omega
    go_enter Tryd.func68, Tryd.ntmps68
    go_wp2
    go_ret
    exact ⟨rfl, rfl⟩
theorem isWeekday_yes (n : Int) (w : World) (h1 : 0 ≤ n) (h2 : n ≤ 6) : Calls Tryd.prog 69 #[.int .i64 n] w fun e w' => e = .returned (.bool true) ∧ w = w' := by
  have h3 : n < 7 := by omega
  go_enter Tryd.func69, Tryd.ntmps69
  go_wp2
  go_ret
  exact ⟨rfl, rfl⟩
theorem isWeekday_no (n : Int) (w : World) (h : n < 0 ∨ 6 < n) : Calls Tryd.prog 69 #[.int .i64 n] w fun e w' => e = .returned (.bool false) ∧ w = w' := by
  rcases h with h | h
  · go_enter Tryd.func69, Tryd.ntmps69
    go_wp2
    go_ret
    exact ⟨rfl, rfl⟩
  · have h' : 0 ≤ n := by omega
    have t1 : decide (n < 7) = false := by simp; omega
    go_enter Tryd.func69, Tryd.ntmps69
    go_wp2
    go_ret
    exact ⟨rfl, rfl⟩
theorem dayk (k : Int) (h0 : k ≠ 0) (h1 : k ≠ 1) (h2 : k ≠ 2) (h3 : k ≠ 3) : (k == 0) = false ∧ (k == 1) = false ∧ (k == 2) = false ∧ (k == 3) = false :=
  ⟨by rwa [beq_eq_false_iff_ne], by rwa [beq_eq_false_iff_ne], by rwa [beq_eq_false_iff_ne], by rwa [beq_eq_false_iff_ne]⟩
set_option maxHeartbeats 1000000 in
theorem isRight_yes (k n d : Int) (w : World) (h : Dy.right k n d = true) : Calls Tryd.prog 54 #[.agg #[.int .u8 k, .int .i64 n, .int .i64 d]] w fun e w' => e = .returned (.bool true) ∧ Below w.heap.size w w' := by
  rw [Dy.right_iff] at h
  rcases h with ⟨rfl, h1, h2, rfl⟩ | ⟨rfl, rfl, h1, h2⟩ | ⟨rfl | rfl, h1, h2, h3, h4⟩
  · go_enter Tryd.func54, Tryd.ntmps54
    go_wp2_with fail
    refine (isDay_yes _ _ h1 h2).mono ?_
    rintro e w' ⟨rfl, rfl⟩
    go_wp2_with fail
    go_ret
    exact ⟨rfl, (Below.refl _ _).alloc (Nat.le_refl _) _⟩
  · go_enter Tryd.func54, Tryd.ntmps54
    go_wp2_with fail
    refine (isWeekday_yes _ _ h1 h2).mono ?_
    rintro e w' ⟨rfl, rfl⟩
    go_wp2_with fail
    go_ret
    exact ⟨rfl, (Below.refl _ _).alloc (Nat.le_refl _) _⟩
  all_goals
    go_enter Tryd.func54, Tryd.ntmps54
    go_wp2_with fail
    refine (isDay_yes _ _ h1 h2).mono ?_
    rintro e w' ⟨rfl, rfl⟩
    go_wp2_with fail
    refine (isWeekday_yes _ _ h3 h4).mono ?_
    rintro e w' ⟨rfl, rfl⟩
    go_wp2_with fail
    go_ret
    exact ⟨rfl, (Below.refl _ _).alloc (Nat.le_refl _) _⟩
set_option maxHeartbeats 1000000 in
theorem isRight_no (k n d : Int) (w : World) (h : Dy.right k n d = false) : Calls Tryd.prog 54 #[.agg #[.int .u8 k, .int .i64 n, .int .i64 d]] w fun e w' => e = .returned (.bool false) ∧ Below w.heap.size w w' := by
  have h := of_decide_eq_false h
  by_cases k0 : k = 0
  · subst k0
    by_cases hn : 1 ≤ n ∧ n ≤ 31
    · have t1 : (d == 0) = false := by rw [beq_eq_false_iff_ne]; omega
      clear h
      go_enter Tryd.func54, Tryd.ntmps54
      go_wp2_with fail
      refine (isDay_yes _ _ hn.1 hn.2).mono ?_
      rintro e w' ⟨rfl, rfl⟩
      go_wp2_with fail
      go_ret
      exact ⟨rfl, (Below.refl _ _).alloc (Nat.le_refl _) _⟩
    · clear h
      go_enter Tryd.func54, Tryd.ntmps54
      go_wp2_with fail
      refine (isDay_no _ _ (by omega)).mono ?_
      rintro e w' ⟨rfl, rfl⟩
      go_wp2_with fail
      go_ret
      exact ⟨rfl, (Below.refl _ _).alloc (Nat.le_refl _) _⟩
  · by_cases k1 : k = 1
    · subst k1
      by_cases hn : n = 0
      · subst hn
        have hd : d < 0 ∨ 6 < d := by omega
        clear h k0
        go_enter Tryd.func54, Tryd.ntmps54
        go_wp2_with fail
        refine (isWeekday_no _ _ hd).mono ?_
        rintro e w' ⟨rfl, rfl⟩
        go_wp2_with fail
        go_ret
        exact ⟨rfl, (Below.refl _ _).alloc (Nat.le_refl _) _⟩
      · have t1 : (n == 0) = false := by rw [beq_eq_false_iff_ne]; omega
        clear h k0 hn
        go_enter Tryd.func54, Tryd.ntmps54
        go_wp2_with fail
        go_ret
        exact ⟨rfl, (Below.refl _ _).alloc (Nat.le_refl _) _⟩
    · by_cases k23 : k = 2 ∨ k = 3
      · by_cases hn : 1 ≤ n ∧ n ≤ 31
        · have hd : d < 0 ∨ 6 < d := by omega
          clear h k0 k1
          rcases k23 with rfl | rfl
          all_goals
            go_enter Tryd.func54, Tryd.ntmps54
            go_wp2_with fail
            refine (isDay_yes _ _ hn.1 hn.2).mono ?_
            rintro e w' ⟨rfl, rfl⟩
            go_wp2_with fail
            refine (isWeekday_no _ _ hd).mono ?_
            rintro e w' ⟨rfl, rfl⟩
            go_wp2_with fail
            go_ret
            exact ⟨rfl, (Below.refl _ _).alloc (Nat.le_refl _) _⟩
        · clear h k0 k1
          rcases k23 with rfl | rfl
          all_goals
            go_enter Tryd.func54, Tryd.ntmps54
            go_wp2_with fail
            refine (isDay_no _ _ (by omega)).mono ?_
            rintro e w' ⟨rfl, rfl⟩
            go_wp2_with fail
            go_ret
            exact ⟨rfl, (Below.refl _ _).alloc (Nat.le_refl _) _⟩
      · obtain ⟨q0, q1, q2, q3⟩ := dayk k k0 k1 (by omega) (by omega)
        clear h k0 k1 k23
        go_enter Tryd.func54, Tryd.ntmps54
        go_wp2_with fail
        go_ret
        exact ⟨rfl, (Below.refl _ _).alloc (Nat.le_refl _) _⟩
theorem dcheck_yes (k n d : Int) (w : World) (h : Dy.right k n d = true) : Calls Tryd.prog 34 #[.agg #[.int .u8 k, .int .i64 n, .int .i64 d]] w fun e w' => e = .returned (.int .i64 0) ∧ Below w.heap.size w w' := by
  have H := Lib.hid h
  clear h
  go_enter Tryd.func34, Tryd.ntmps34
  go_wp2_with fail
  refine (isRight_yes _ _ _ _ H.out).mono ?_
  rintro e w1 ⟨rfl, b1⟩
  have a1 := ((Below.refl w.heap.size w).alloc (Nat.le_refl _) (.cells #[.int .u8 k, .int .i64 n, .int .i64 d] 29)).trans (b1.mono (by simp))
  go_wp2_with fail
  go_ret
  exact ⟨rfl, a1⟩
theorem dcheck_no (k n d : Int) (w : World) (h : Dy.right k n d = false) : Calls Tryd.prog 34 #[.agg #[.int .u8 k, .int .i64 n, .int .i64 d]] w fun e w' => e = .returned (.int .i64 2) ∧ Below w.heap.size w w' := by
  have H := Lib.hid h
  clear h
  go_enter Tryd.func34, Tryd.ntmps34
  go_wp2_with fail
  refine (isRight_no _ _ _ _ H.out).mono ?_
  rintro e w1 ⟨rfl, b1⟩
  have a1 := ((Below.refl w.heap.size w).alloc (Nat.le_refl _) (.cells #[.int .u8 k, .int .i64 n, .int .i64 d] 29)).trans (b1.mono (by simp))
  go_wp2_with fail
  go_ret
  exact ⟨rfl, a1⟩
end Go.Proofs.YthlbockphdbpkaaDoor
namespace Go.Proofs.YthlbockphdbpkaaDoor
open Go.RowKit
theorem weekday_q (n q : Int) (w : World) (h1 : -9223372036854775808 ≤ n) (h2 : n ≤ 9223372036854775807) (hq : (n + 4) % 7 = q) :
    Calls Tryd.prog 94 #[.int .i64 n] w fun e w' => e = .returned (.int .i64 q) ∧ w = w' := by
  subst hq
  exact weekday_any n w h1 h2
theorem dupto_any (x d : Int) (w : World) (h1 : -719300 ≤ x) (h2 : x ≤ 2933000) (h3 : 0 ≤ d) (h4 : d ≤ 6) : Calls Tryd.prog 83 #[.int .i64 x, .int .i64 d] w fun e w' => e = .returned (.int .i64 (Dy.upto x d)) ∧ w = w' := by
  obtain ⟨q, hq⟩ : ∃ q, (x + 4) % 7 = q := ⟨_, rfl⟩
  have q1 : 0 ≤ q := by omega
  have q2 : q ≤ 6 := by omega
  have HU := Lib.hid (show Dy.upto x d = x - (q - d) % 7 by unfold Dy.upto; rw [hq])
  have HQ := Lib.hid hq
  clear hq
  go_enter Tryd.func83, Tryd.ntmps83
  go_wp2_with fail
  refine (weekday_q x q _ (by omega) (by omega) HQ.out).mono ?_
  rintro e w' ⟨rfl, rfl⟩
  go_wp2_with fail
  go_ret
  exact ⟨ret_int HU.out.symm, rfl⟩
theorem dfind_any (k n d b len : Int) (w : World) (h : Dy.right k n d = true) (h1 : -719162 ≤ b) (h2 : b ≤ 2932896) (h3 : 28 ≤ len) (h4 : len ≤ 31) :
    Calls Tryd.prog 74 #[.agg #[.int .u8 k, .int .i64 n, .int .i64 d], .int .i64 b, .int .i64 len] w fun e w' => e = .returned (.int .i64 (Dy.find k n d b len)) ∧ Below w.heap.size w w' := by
  rw [Dy.right_iff] at h
  rcases h with ⟨rfl, g1, g2, rfl⟩ | ⟨rfl, rfl, g1, g2⟩ | ⟨rfl | rfl, g1, g2, g3, g4⟩
  · have HE := Lib.hid (show Dy.find 0 n 0 b len = b + n - 1 from rfl)
    go_enter Tryd.func74, Tryd.ntmps74
    go_wp2_with fail
    go_ret
    exact ⟨ret_int HE.out.symm, (Below.refl _ _).alloc (Nat.le_refl _) _⟩
  · have HE := Lib.hid (show Dy.find 1 0 d b len = Dy.upto (b + len - 1) d from rfl)
    go_enter Tryd.func74, Tryd.ntmps74
    go_wp2_with fail
    refine (dupto_any (b + len - 1) d _ (by omega) (by omega) g1 g2).mono ?_
    rintro e w' ⟨rfl, rfl⟩
    go_wp2_with fail
    go_ret
    exact ⟨ret_int HE.out.symm, (Below.refl _ _).alloc (Nat.le_refl _) _⟩
  · have HE := Lib.hid (show Dy.find 2 n d b len = Dy.upto (b + n + 5) d from rfl)
    have HX := Lib.hid (show b + n - 1 + 7 - 1 = b + n + 5 by omega)
    go_enter Tryd.func74, Tryd.ntmps74
    go_wp2_with fail
    refine (dupto_any (b + n - 1 + 7 - 1) d _ (by omega) (by omega) g3 g4).mono ?_
    rintro e w' ⟨rfl, rfl⟩
    go_wp2_with fail
    go_ret
    exact ⟨ret_int (by rw [HE.out, ← HX.out]), (Below.refl _ _).alloc (Nat.le_refl _) _⟩
  · have HE := Lib.hid (show Dy.find 3 n d b len = Dy.upto (b + n - 1) d from rfl)
    go_enter Tryd.func74, Tryd.ntmps74
    go_wp2_with fail
    refine (dupto_any (b + n - 1) d _ (by omega) (by omega) g3 g4).mono ?_
    rintro e w' ⟨rfl, rfl⟩
    go_wp2_with fail
    go_ret
    exact ⟨ret_int HE.out.symm, (Below.refl _ _).alloc (Nat.le_refl _) _⟩
theorem dfind_is (k n d b len v : Int) (w : World) (h : Dy.right k n d = true) (h1 : -719162 ≤ b) (h2 : b ≤ 2932896) (h3 : 28 ≤ len) (h4 : len ≤ 31) (hv : Dy.find k n d b len = v) :
    Calls Tryd.prog 74 #[.agg #[.int .u8 k, .int .i64 n, .int .i64 d], .int .i64 b, .int .i64 len] w fun e w' => e = .returned (.int .i64 v) ∧ Below w.heap.size w w' := by
  subst hv
  exact dfind_any k n d b len w h h1 h2 h3 h4
theorem din_form (k n d y m : Int) (w : World) (h : Dy.right k n d = false) : Calls Tryd.prog 57 #[.agg #[.int .u8 k, .int .i64 n, .int .i64 d], .int .i64 y, .int .i64 m] w fun e w' => e = .returned (.tuple #[.int .i64 0, .int .i64 2]) ∧ Below w.heap.size w w' := by
  have H := Lib.hid h
  clear h
  go_enter Tryd.func57, Tryd.ntmps57
  go_wp2_with fail
  refine (isRight_no _ _ _ _ H.out).mono ?_
  rintro e w1 ⟨rfl, b1⟩
  have a1 := ((Below.refl w.heap.size w).alloc (Nat.le_refl _) (.cells #[.int .u8 k, .int .i64 n, .int .i64 d] 29)).trans (b1.mono (by simp))
  go_wp2_with fail
  go_ret2
  exact ⟨rfl, a1⟩
theorem din_month (k n d y m : Int) (w : World) (h : Dy.right k n d = true) (hm : ¬ (1 ≤ y ∧ y ≤ 9999 ∧ 1 ≤ m ∧ m ≤ 12)) : Calls Tryd.prog 57 #[.agg #[.int .u8 k, .int .i64 n, .int .i64 d], .int .i64 y, .int .i64 m] w fun e w' => e = .returned (.tuple #[.int .i64 0, .int .i64 1]) ∧ Below w.heap.size w w' := by
  have H := Lib.hid h
  have HM := Lib.hid hm
  clear h hm
  go_enter Tryd.func57, Tryd.ntmps57
  go_wp2_with fail
  refine (isRight_yes _ _ _ _ H.out).mono ?_
  rintro e w1 ⟨rfl, b1⟩
  have a1 := ((Below.refl w.heap.size w).alloc (Nat.le_refl _) (.cells #[.int .u8 k, .int .i64 n, .int .i64 d] 29)).trans (b1.mono (by simp))
  go_wp2_with fail
  refine (length_no y m _ HM.out).mono ?_
  rintro e w' ⟨rfl, rfl⟩
  go_wp2_with fail
  go_ret2
  exact ⟨rfl, a1⟩
theorem din_few (k n d y m : Int) (w : World) (h : Dy.right k n d = true) (y1 : 1 ≤ y) (y2 : y ≤ 9999) (m1 : 1 ≤ m) (m2 : m ≤ 12) (hn : Cal.len y m < n) : Calls Tryd.prog 57 #[.agg #[.int .u8 k, .int .i64 n, .int .i64 d], .int .i64 y, .int .i64 m] w fun e w' => e = .returned (.tuple #[.int .i64 0, .int .i64 3]) ∧ Below w.heap.size w w' := by
  have H := Lib.hid h
  clear h
  go_enter Tryd.func57, Tryd.ntmps57
  go_wp2_with fail
  refine (isRight_yes _ _ _ _ H.out).mono ?_
  rintro e w1 ⟨rfl, b1⟩
  obtain ⟨hc, hf⟩ := bcell b1
  have a1 := ((Below.refl w.heap.size w).alloc (Nat.le_refl _) (.cells #[.int .u8 k, .int .i64 n, .int .i64 d] 29)).trans (b1.mono (by simp))
  go_wp2_with fail
  refine (length_yes y m _ y1 y2 m1 m2).mono ?_
  rintro e w' ⟨rfl, rfl⟩
  go_wp2_with fail
  go_ret2
  exact ⟨rfl, a1⟩
/-- The day that a right day is. -/
def Dy.at_ (k n d y m : Int) : Int := Dy.find k n d (Cal.num y m 1) (Cal.len y m)
theorem valid_one {y m : Int} (y1 : 1 ≤ y) (y2 : y ≤ 9999) (m1 : 1 ≤ m) (m2 : m ≤ 12) : Cal.Valid y m 1 := by
  have := Cal.len_bd y m
  exact ⟨y1, y2, m1, m2, by omega, by omega⟩
set_option maxHeartbeats 1000000 in
theorem din_yes (k n d y m v : Int) (w : World) (h : Dy.right k n d = true) (y1 : 1 ≤ y) (y2 : y ≤ 9999) (m1 : 1 ≤ m) (m2 : m ≤ 12) (hn : n ≤ Cal.len y m) (hv : Hid (Dy.at_ k n d y m = v)) (v1 : -719162 ≤ v) (v2 : v ≤ 2932896) :
    Calls Tryd.prog 57 #[.agg #[.int .u8 k, .int .i64 n, .int .i64 d], .int .i64 y, .int .i64 m] w fun e w' => e = .returned (.tuple #[.int .i64 v, .int .i64 0]) ∧ Below w.heap.size w w' := by
  have H := Lib.hid h
  have hV := valid_one y1 y2 m1 m2
  have HV := Lib.hid hV
  have HL := Cal.len_bd y m
  have HR := Cal.num_range y m 1 hV
  clear h hV
  go_enter Tryd.func57, Tryd.ntmps57
  go_wp2_with fail
  refine (isRight_yes _ _ _ _ H.out).mono ?_
  rintro e w1 ⟨rfl, b1⟩
  obtain ⟨hc, hf⟩ := bcell b1
  have a1 := ((Below.refl w.heap.size w).alloc (Nat.le_refl _) (.cells #[.int .u8 k, .int .i64 n, .int .i64 d] 29)).trans (b1.mono (by simp))
  have z1 : w.heap.size < w1.heap.size := by have := b1.size; simp at this; omega
  go_wp2_with fail
  refine (length_yes y m _ y1 y2 m1 m2).mono ?_
  rintro e w' ⟨rfl, rfl⟩
  go_wp2_with fail
  refine (days_yes y m 1 _ HV.out).mono ?_
  rintro e w2 ⟨rfl, b2⟩
  obtain ⟨hc2, hf2⟩ := bcell b2
  have a2 := a1.trans (b2.mono a1.size)
  have z2 : w.heap.size < w2.heap.size := by have := b2.size; omega
  go_wp2_with fail
  refine (dfind_is k n d _ _ v _ H.out HR.1 HR.2 HL.1 HL.2 hv.out).mono ?_
  rintro e w3 ⟨rfl, b3⟩
  have a3 := a2.trans (b3.mono a2.size)
  go_wp2_with fail
  refine (of_yes v _ v1 v2).mono ?_
  rintro e w4 ⟨rfl, b4⟩
  have a4 := a3.trans (b4.mono a3.size)
  have z4 := a4.size
  go_wp2_with fail
  go_ret2
  refine ⟨rfl, ?_⟩
  repeat (first | exact Below.refl _ _ | assumption | refine below_drewN ?_ _ | refine Below.drew ?_ | refine Below.setCell ?_ (by first | omega | (simp; done) | (simp; omega)) _ | refine Below.alloc ?_ (by first | omega | (simp; done) | (simp; omega)) _)
set_option maxHeartbeats 1000000 in
theorem din_no (k n d y m v : Int) (w : World) (h : Dy.right k n d = true) (y1 : 1 ≤ y) (y2 : y ≤ 9999) (m1 : 1 ≤ m) (m2 : m ≤ 12) (hn : n ≤ Cal.len y m) (hv : Hid (Dy.at_ k n d y m = v)) (vv : Hid (v < -719162 ∨ 2932896 < v)) :
    Calls Tryd.prog 57 #[.agg #[.int .u8 k, .int .i64 n, .int .i64 d], .int .i64 y, .int .i64 m] w fun e w' => e = .returned (.tuple #[.int .i64 0, .int .i64 1]) ∧ Below w.heap.size w w' := by
  have H := Lib.hid h
  have hV := valid_one y1 y2 m1 m2
  have HV := Lib.hid hV
  have HL := Cal.len_bd y m
  have HR := Cal.num_range y m 1 hV
  clear h hV
  go_enter Tryd.func57, Tryd.ntmps57
  go_wp2_with fail
  refine (isRight_yes _ _ _ _ H.out).mono ?_
  rintro e w1 ⟨rfl, b1⟩
  obtain ⟨hc, hf⟩ := bcell b1
  have a1 := ((Below.refl w.heap.size w).alloc (Nat.le_refl _) (.cells #[.int .u8 k, .int .i64 n, .int .i64 d] 29)).trans (b1.mono (by simp))
  have z1 : w.heap.size < w1.heap.size := by have := b1.size; simp at this; omega
  go_wp2_with fail
  refine (length_yes y m _ y1 y2 m1 m2).mono ?_
  rintro e w' ⟨rfl, rfl⟩
  go_wp2_with fail
  refine (days_yes y m 1 _ HV.out).mono ?_
  rintro e w2 ⟨rfl, b2⟩
  obtain ⟨hc2, hf2⟩ := bcell b2
  have a2 := a1.trans (b2.mono a1.size)
  have z2 : w.heap.size < w2.heap.size := by have := b2.size; omega
  go_wp2_with fail
  refine (dfind_is k n d _ _ v _ H.out HR.1 HR.2 HL.1 HL.2 hv.out).mono ?_
  rintro e w3 ⟨rfl, b3⟩
  have a3 := a2.trans (b3.mono a2.size)
  go_wp2_with fail
  refine (of_no v _ vv.out).mono ?_
  rintro e w4 ⟨rfl, b4⟩
  have a4 := a3.trans (b4.mono a3.size)
  have z4 := a4.size
  go_wp2_with fail
  go_ret2
  refine ⟨rfl, ?_⟩
  repeat (first | exact Below.refl _ _ | assumption | refine below_drewN ?_ _ | refine Below.drew ?_ | refine Below.setCell ?_ (by first | omega | (simp; done) | (simp; omega)) _ | refine Below.alloc ?_ (by first | omega | (simp; done) | (simp; omega)) _)
end Go.Proofs.YthlbockphdbpkaaDoor
namespace Go.Proofs.YthlbockphdbpkaaDoor
open Go.RowKit
/-- The length up to which the library looks for a byte by itself is some number. -/
def Mx (w : World) : Prop := ∃ m : Int, w.cell? ⟨1, 0, none⟩ = some (.int .i64 m)
theorem Mx.below {w w' : World} (h : Mx w) (hb : Below w.heap.size w w') : Mx w' := by
  obtain ⟨m, hm⟩ := h
  exact ⟨m, (hb.cell (lt_cell hm)).trans hm⟩
end Go.Proofs.YthlbockphdbpkaaDoor
