/- Cal, Civil, Civil2, Clock, Txt, Clock2, Env, Parse, Parse2, Txt2, one behind the other. -/
import Init
import Derived.Test.YtkcbmnboccjnnaaGreatDoorProg
import Derived.WalkKit
import Derived.Lib.Hide
import Derived.Deep.QuietTactic
import Derived.BigQuiet
import Derived.Outline
import Derived.Lib.ItoaNum
import Derived.Lib.Split
import Derived.LoopTactic
import Derived.Test.YtkcbmnboccjnnaaGreatDoorShelf
import Derived.Lib.LaidTab
import Derived.Lib.AppendIntMem
import Derived.LoopN
import Derived.Handy
import Derived.Deep.RegionHeld3
/- Plain arithmetic of the calendar: what a leap year, a month's length, a year's first day and a date's number are, and that each day of the years 1 to 9999 is the number of just one date. Imports nothing of the program. -/

namespace Go.Proofs.YtkcbmnboccjnnaaGreatDoor
namespace Cal

def lp (y : Int) : Int := if y % 4 = 0 ∧ (y % 100 ≠ 0 ∨ y % 400 = 0) then 1 else 0
def len (y m : Int) : Int := if m = 2 then 28 + lp y else if m = 4 ∨ m = 6 ∨ m = 9 ∨ m = 11 then 30 else 31
def fst (y : Int) : Int := 365 * (y - 1) + (y - 1) / 4 - (y - 1) / 100 + (y - 1) / 400 - 719162
def cum (y m : Int) : Int := if m ≤ 2 then 31 * (m - 1) else (153 * (m - 3) + 2) / 5 + 59 + lp y
def num (y m d : Int) : Int := fst y + cum y m + d - 1
def Valid (y m d : Int) : Prop := 1 ≤ y ∧ y ≤ 9999 ∧ 1 ≤ m ∧ m ≤ 12 ∧ 1 ≤ d ∧ d ≤ len y m
def ahead (y : Int) : Int := 365 * y + y / 4 - y / 100

theorem lp_01 (y : Int) : 0 ≤ lp y ∧ lp y ≤ 1 := by unfold lp; split <;> omega
theorem lp_eq (y : Int) : (y % 4 = 0 ∧ (y % 100 ≠ 0 ∨ y % 400 = 0) ∧ lp y = 1) ∨ (¬ (y % 4 = 0 ∧ (y % 100 ≠ 0 ∨ y % 400 = 0)) ∧ lp y = 0) := by
  unfold lp
  by_cases h : y % 4 = 0 ∧ (y % 100 ≠ 0 ∨ y % 400 = 0)
  · rw [if_pos h]; exact .inl ⟨h.1, h.2, rfl⟩
  · rw [if_neg h]; exact .inr ⟨h, rfl⟩
theorem len_bd (y m : Int) : 28 ≤ len y m ∧ len y m ≤ 31 := by
  have := lp_01 y
  unfold len
  repeat' split
  all_goals omega
theorem fst_succ (y : Int) : fst (y + 1) = fst y + 365 + lp y := by
  have := lp_eq y
  unfold fst
  omega
theorem cum_one (y : Int) : cum y 1 = 0 := by unfold cum; simp
theorem cum_end (y : Int) : cum y 13 = 365 + lp y := by unfold cum; simp
theorem cum_succ (y m : Int) (h1 : 1 ≤ m) (h2 : m ≤ 12) : cum y (m + 1) = cum y m + len y m := by
  have := lp_01 y
  unfold cum len
  have : m = 1 ∨ m = 2 ∨ m = 3 ∨ m = 4 ∨ m = 5 ∨ m = 6 ∨ m = 7 ∨ m = 8 ∨ m = 9 ∨ m = 10 ∨ m = 11 ∨ m = 12 := by omega
  rcases this with rfl | rfl | rfl | rfl | rfl | rfl | rfl | rfl | rfl | rfl | rfl | rfl <;> simp <;> omega
theorem fst_mono (a b : Int) (h : a ≤ b) : fst a ≤ fst b := by unfold fst; omega
theorem fst_400 (y : Int) : fst (y + 400) = fst y + 146097 := by unfold fst; omega
theorem fst_lt (a b : Int) (h : a < b) : fst a + 365 ≤ fst b := by
  have h1 := fst_succ a
  have h2 := fst_mono (a + 1) b (by omega)
  have := lp_01 a
  omega
theorem cum_mono (y a b : Int) (h0 : 1 ≤ a) (h : a ≤ b) : cum y a ≤ cum y b := by
  have := lp_01 y
  unfold cum
  split <;> split <;> omega
theorem cum_bd (y m : Int) (h1 : 1 ≤ m) (h2 : m ≤ 13) : 0 ≤ cum y m ∧ cum y m ≤ 365 + lp y := by
  have a := cum_mono y 1 m (by omega) h1
  have b := cum_mono y m 13 h1 h2
  rw [cum_one] at a
  rw [cum_end] at b
  exact ⟨a, b⟩
theorem fst_one : fst 1 = -719162 := by rfl
theorem fst_end : fst 10000 = 2932897 := by rfl
theorem fst_bd (y : Int) (h1 : 1 ≤ y) (h2 : y ≤ 10000) : -719162 ≤ fst y ∧ fst y ≤ 2932897 := by
  have a := fst_mono 1 y h1
  have b := fst_mono y 10000 h2
  rw [fst_one] at a
  rw [fst_end] at b
  exact ⟨a, b⟩
/-- A date's number lies within its month, and its month within its year. -/
theorem num_in (y m d : Int) (h : Valid y m d) : fst y ≤ num y m d ∧ num y m d < fst (y + 1) ∧ fst y + cum y m ≤ num y m d ∧ num y m d < fst y + cum y (m + 1) := by
  obtain ⟨a, b, c, e, f, g⟩ := h
  have h1 := cum_succ y m c e
  have h2 := cum_bd y m c (by omega)
  have h3 := cum_bd y (m + 1) (by omega) (by omega)
  have h4 := fst_succ y
  unfold num
  omega
theorem num_range (y m d : Int) (h : Valid y m d) : -719162 ≤ num y m d ∧ num y m d ≤ 2932896 := by
  have h1 := num_in y m d h
  obtain ⟨a, b, _⟩ := h
  have h2 := fst_bd y a (by omega)
  have h3 := fst_bd (y + 1) (by omega) (by omega)
  omega
theorem num_inj (y m d y' m' d' : Int) (h : Valid y m d) (h' : Valid y' m' d') (e : num y m d = num y' m' d') : y = y' ∧ m = m' ∧ d = d' := by
  have a := num_in y m d h
  have b := num_in y' m' d' h'
  obtain rfl : y = y' := by
    rcases Int.lt_trichotomy y y' with c | c | c
    · have := fst_mono (y + 1) y' (by omega); omega
    · exact c
    · have := fst_mono (y' + 1) y (by omega); omega
  obtain ⟨_, _, h3, h4, _⟩ := h
  obtain ⟨_, _, k3, k4, _⟩ := h'
  obtain rfl : m = m' := by
    rcases Int.lt_trichotomy m m' with c | c | c
    · have := cum_mono y (m + 1) m' (by omega) (by omega); omega
    · exact c
    · have := cum_mono y (m' + 1) m (by omega) (by omega); omega
  refine ⟨rfl, rfl, ?_⟩
  unfold num at e
  omega
/-- The year that begins in March, of four hundred. -/
theorem yoe (r : Int) (h0 : 0 ≤ r) (h1 : r < 146097) (y : Int) (hy : y = (r - r/1460 + r/36524 - r/146096)/365) :
   0 ≤ y ∧ y ≤ 399 ∧ ahead y ≤ r ∧ r ≤ ahead y + 365 ∧ (r = ahead y + 365 → y % 4 = 3 ∧ (y % 100 = 99 → y = 399)) := by
  unfold ahead
  obtain ⟨e, t, he, ht0, ht1⟩ : ∃ e t : Int, r = 1460 * e + t ∧ 0 ≤ t ∧ t < 1460 := ⟨r / 1460, r % 1460, by omega, by omega, by omega⟩
  obtain ⟨g, hg⟩ : ∃ g, g = r/146096 := ⟨_, rfl⟩
  obtain ⟨f, hf⟩ : ∃ f, f = r/36524 := ⟨_, rfl⟩
  have e1 : r / 1460 = e := by omega
  rw [← hf, ← hg, e1] at hy
  obtain ⟨k, hk⟩ : ∃ k, k = (t - e + f - g)/365 := ⟨_, rfl⟩
  have hy2 : y = 4 * e + k := by omega
  clear hy e1
  have : f = 0 ∨ f = 1 ∨ f = 2 ∨ f = 3 ∨ f = 4 := by omega
  have : k = -1 ∨ k = 0 ∨ k = 1 ∨ k = 2 ∨ k = 3 ∨ k = 4 := by omega
  have : g = 0 ∨ g = 1 := by omega
  obtain ⟨q, hq⟩ : ∃ q, q = y/4 := ⟨_, rfl⟩
  obtain ⟨d, hd⟩ : ∃ d, d = y/100 := ⟨_, rfl⟩
  rcases ‹f = 0 ∨ _› with rfl | rfl | rfl | rfl | rfl <;> rcases ‹g = 0 ∨ _› with rfl | rfl <;> rcases ‹k = -1 ∨ _› with rfl | rfl | rfl | rfl | rfl | rfl <;> subst he <;> first | (exfalso; omega) | (subst hy2; omega)
/-- The number of a date, counted by years that begin in March. -/
def numM (Y M d : Int) : Int := Y / 400 * 146097 + ahead (Y % 400) + (153 * M + 2) / 5 + d - 1 - 719468
theorem numM_lo (y m d : Int) (h1 : 1 ≤ m) (h2 : m < 3) : numM (y - 1) (m + 9) d = num y m d := by
  have := lp_eq y
  unfold numM num ahead fst cum
  rw [if_pos (by omega)]
  have : m = 1 ∨ m = 2 := by omega
  rcases this with rfl | rfl <;> omega
theorem numM_hi (y m d : Int) (h1 : 3 ≤ m) : numM y (m - 3) d = num y m d := by
  have := lp_eq y
  unfold numM num ahead fst cum
  rw [if_neg (by omega)]
  omega
/-- The parts of the date of a day: n is the number of days from the first of March of the year 0 on. -/
def dY (n : Int) : Int := (n % 146097 - n % 146097 / 1460 + n % 146097 / 36524 - n % 146097 / 146096) / 365
def dR (n : Int) : Int := n % 146097 - ahead (dY n)
def dM (n : Int) : Int := (5 * dR n + 2) / 153
def dD (n : Int) : Int := dR n - (153 * dM n + 2) / 5 + 1
theorem dY_bd (n : Int) : 0 ≤ dY n ∧ dY n ≤ 399 ∧ 0 ≤ dR n ∧ dR n ≤ 365 ∧ (dR n = 365 → dY n % 4 = 3 ∧ (dY n % 100 = 99 → dY n = 399)) := by
  have := yoe (n % 146097) (by omega) (by omega) (dY n) rfl
  unfold dR
  omega
theorem dM_bd (n : Int) : 0 ≤ dM n ∧ dM n ≤ 11 ∧ 1 ≤ dD n ∧ dD n ≤ 31 := by
  have := dY_bd n
  unfold dD dM
  omega
/-- The year and the month of the day n: what the program makes of its parts. -/
def yearOf (n : Int) : Int := if dM (n + 719468) ≤ 9 then (n + 719468) / 146097 * 400 + dY (n + 719468) else (n + 719468) / 146097 * 400 + dY (n + 719468) + 1
def monthOf (n : Int) : Int := if dM (n + 719468) ≤ 9 then dM (n + 719468) + 3 else dM (n + 719468) - 9
def dayOf (n : Int) : Int := dD (n + 719468)
theorem numM_of (n : Int) : numM (n / 146097 * 400 + dY n) (dM n) (dD n) = n - 719468 := by
  have h := dY_bd n
  have e1 : (n / 146097 * 400 + dY n) / 400 = n / 146097 := by omega
  have e2 : (n / 146097 * 400 + dY n) % 400 = dY n := by omega
  unfold numM
  rw [e1, e2]
  unfold dD dR
  omega
theorem num_of (n : Int) : num (yearOf n) (monthOf n) (dayOf n) = n := by
  have h := numM_of (n + 719468)
  have b := dM_bd (n + 719468)
  unfold yearOf monthOf dayOf
  split
  · rw [← numM_hi _ _ _ (by omega)]
    rw [show dM (n + 719468) + 3 - 3 = dM (n + 719468) by omega]
    omega
  · rw [← numM_lo _ _ _ (by omega) (by omega)]
    rw [show dM (n + 719468) - 9 + 9 = dM (n + 719468) by omega, Int.add_sub_cancel]
    omega
theorem valid_of (n : Int) (h1 : -719162 ≤ n) (h2 : n ≤ 2932896) : Valid (yearOf n) (monthOf n) (dayOf n) := by
  have hn := num_of n
  have b := dM_bd (n + 719468)
  have c := dY_bd (n + 719468)
  have hm : 1 ≤ monthOf n ∧ monthOf n ≤ 12 := by unfold monthOf; split <;> omega
  have hd : 1 ≤ dayOf n ∧ dayOf n ≤ len (yearOf n) (monthOf n) := by
    refine ⟨by unfold dayOf; omega, ?_⟩
    have hl := lp_eq (yearOf n)
    unfold dayOf yearOf monthOf len
    unfold yearOf at hl
    generalize hY : dY (n + 719468) = Y at *
    generalize hc : (n + 719468) / 146097 = q at *
    generalize hR : dR (n + 719468) = R at *
    have hMe : dM (n + 719468) = (5 * R + 2) / 153 := by unfold dM; rw [hR]
    have hDe : dD (n + 719468) = R - (153 * dM (n + 719468) + 2) / 5 + 1 := by unfold dD; rw [hR]
    rw [hDe]
    generalize dM (n + 719468) = M at *
    have hM : M = 0 ∨ M = 1 ∨ M = 2 ∨ M = 3 ∨ M = 4 ∨ M = 5 ∨ M = 6 ∨ M = 7 ∨ M = 8 ∨ M = 9 ∨ M = 10 ∨ M = 11 := by omega
    rcases hM with rfl | rfl | rfl | rfl | rfl | rfl | rfl | rfl | rfl | rfl | rfl | rfl <;> simp at hl ⊢ <;> omega
  have hy : 1 ≤ yearOf n ∧ yearOf n ≤ 9999 := by
    have hcb := cum_bd (yearOf n) (monthOf n) hm.1 (by omega)
    have hcs := cum_succ (yearOf n) (monthOf n) hm.1 hm.2
    have hce := cum_bd (yearOf n) (monthOf n + 1) (by omega) (by omega)
    have hf := fst_succ (yearOf n)
    unfold num at hn
    constructor
    · rcases Int.lt_or_le (yearOf n) 1 with k | k
      · have := fst_mono (yearOf n + 1) 1 (by omega)
        rw [fst_one] at this
        omega
      · exact k
    · rcases Int.lt_or_le 9999 (yearOf n) with k | k
      · have := fst_mono 10000 (yearOf n) (by omega)
        rw [fst_end] at this
        omega
      · exact k
  exact ⟨hy.1, hy.2, hm.1, hm.2, hd.1, hd.2⟩
/-- A date that has the number n is the date of n. -/
theorem of_num (y m d n : Int) (h : Valid y m d) (e : num y m d = n) : yearOf n = y ∧ monthOf n = m ∧ dayOf n = d := by
  have hr := num_range y m d h
  have hv := valid_of n (by omega) (by omega)
  exact num_inj _ _ _ _ _ _ hv h ((num_of n).trans e.symm)
theorem len_ge (y m d : Int) (h : Valid y m d) : d ≤ 31 := by
  have := len_bd y m
  obtain ⟨_, _, _, _, _, g⟩ := h
  omega
end Cal
end Go.Proofs.YtkcbmnboccjnnaaGreatDoor
/- The contracts of package civil's functions: each call returns what the calendar's arithmetic says, for every input, and writes nothing that was there. -/







namespace Go.Proofs.YtkcbmnboccjnnaaGreatDoor
open Go.RowKit

/-- Is it a leap year? -/
def lpB (y : Int) : Bool := decide (Cal.lp y = 1)
theorem tmod_zero (y k : Int) : (y.tmod k = 0) ↔ (y % k = 0) := by
  rw [← Int.dvd_iff_tmod_eq_zero, Int.dvd_iff_emod_eq_zero]
theorem tmod_yes {y k : Int} (h : y % k = 0) : (y.tmod k == 0) = true ∧ (y.tmod k != 0) = false := by
  have := (tmod_zero y k).2 h
  simp [this]
theorem tmod_no {y k : Int} (h : ¬ y % k = 0) : (y.tmod k == 0) = false ∧ (y.tmod k != 0) = true := by
  have := fun e => h ((tmod_zero y k).1 e)
  exact ⟨beq_eq_false_iff_ne.2 this, bne_iff_ne.2 this⟩
theorem lpB_of (y : Int) : lpB y = (y % 4 == 0 && (y % 100 != 0 || y % 400 == 0)) := by
  have := Cal.lp_eq y
  unfold lpB
  rw [Bool.eq_iff_iff]
  simp
  omega
theorem below_drewN {B : Nat} {a w : World} (h : Below B a w) (n : Nat) : Below B a (w.drewN n) := ⟨h.os, h.tape, h.output, h.size, h.block⟩
theorem bcell {W w1 : World} (hb : Below W.heap.size W w1) : (∀ b o, b < W.heap.size → w1.cell? ⟨b, o, none⟩ = W.cell? ⟨b, o, none⟩) ∧ (∀ b o, b < W.heap.size → w1.frozen? ⟨b, o, none⟩ = W.frozen? ⟨b, o, none⟩) :=
  ⟨fun b o h => hb.cell (p := ⟨b, o, none⟩) h, fun b o h => hb.frozen (p := ⟨b, o, none⟩) h⟩
theorem quiet_left {P : Program} {f : FuncId} {args : Array Value} {w : World} {n : Nat} {v : Value}
    (h : Calls P f args (w.drewN n) fun e w' => e = .returned v ∧ w.drewN n = w') : Calls P f args (w.drewN n) fun e w'' => e = .returned v ∧ ∃ m, w'' = w.drewN m :=
  h.mono fun _ _ ⟨he, hm⟩ => ⟨he, n, hm.symm⟩
theorem lpB_iff (y : Int) : (lpB y = true ∧ Cal.lp y = 1) ∨ (lpB y = false ∧ Cal.lp y = 0) := by
  have := Cal.lp_eq y
  unfold lpB
  simp
  omega
theorem len_lit (y m : Int) (h3 : 1 ≤ m) (h4 : m ≤ 12) : (m = 2 ∧ lpB y = true ∧ Cal.len y m = 29) ∨ (m = 2 ∧ lpB y = false ∧ Cal.len y m = 28) ∨ ((m = 4 ∨ m = 6 ∨ m = 9 ∨ m = 11) ∧ Cal.len y m = 30) ∨ ((m = 1 ∨ m = 3 ∨ m = 5 ∨ m = 7 ∨ m = 8 ∨ m = 10 ∨ m = 12) ∧ Cal.len y m = 31) := by
  have hb := lpB_iff y
  have : m = 1 ∨ m = 2 ∨ m = 3 ∨ m = 4 ∨ m = 5 ∨ m = 6 ∨ m = 7 ∨ m = 8 ∨ m = 9 ∨ m = 10 ∨ m = 11 ∨ m = 12 := by omega
  unfold Cal.len
  rcases hb with ⟨h, h'⟩ | ⟨h, h'⟩ <;> rcases this with rfl | rfl | rfl | rfl | rfl | rfl | rfl | rfl | rfl | rfl | rfl | rfl <;> simp [h, h']
theorem ret_int {k : IntKind} {a b : Int} (h : a = b) : Ending.returned (.int k a) = .returned (.int k b) := by rw [h]
theorem ahead_bd (y : Int) (h1 : 0 ≤ y) (h2 : y ≤ 400) : 0 ≤ Cal.ahead y ∧ Cal.ahead y ≤ 146097 := by unfold Cal.ahead; omega
end Go.Proofs.YtkcbmnboccjnnaaGreatDoor
/- The contracts of package civil, second part: the day of a date, the date of a day. -/

namespace Go.Proofs.YtkcbmnboccjnnaaGreatDoor
open Go.RowKit

theorem tmod7 (n : Int) : n.tmod 7 = n % 7 ∨ n.tmod 7 = n % 7 - 7 := by
  rw [Int.tmod_eq_emod]
  split
  · left; omega
  · right; rfl
end Go.Proofs.YtkcbmnboccjnnaaGreatDoor
/- The contracts of package clock's functions of numbers: Split, Year, At, isTime. -/

namespace Go.Proofs.YtkcbmnboccjnnaaGreatDoor
open Go.RowKit
theorem tdiv_neg (t : Int) (h2 : t % 86400 ≠ 0) (h : t < 0) : t.tmod 86400 = t % 86400 - 86400 ∧ t.tdiv 86400 = t / 86400 + 1 := by
  have h1 := Int.tmod_eq_emod (a := t) (b := 86400)
  have h3 := Int.mul_tdiv_add_tmod t 86400
  rw [if_neg (by omega)] at h1
  simp at h1
  omega
theorem tdiv_zero (t : Int) (h2 : t % 86400 = 0) : t.tmod 86400 = 0 ∧ t.tdiv 86400 = t / 86400 := by
  have h1 := Int.tmod_eq_emod (a := t) (b := 86400)
  have h3 := Int.mul_tdiv_add_tmod t 86400
  rw [if_pos (.inr (by omega))] at h1
  omega
theorem ret2_int {k l : IntKind} {a b c d : Int} (h : a = c) (h' : b = d) : Ending.returned (.tuple #[.int k a, .int l b]) = .returned (.tuple #[.int k c, .int l d]) := by rw [h, h']
theorem isTime_yes (t : Int) (w : World) (h1 : -604800 ≤ t) (h2 : t ≤ 604800) :
    Calls Tryz.prog 120 #[.int .i64 t] w fun e w' => e = .returned (.bool true) ∧ w = w' := by
  go_enter Tryz.func120, Tryz.ntmps120
  go_wp2
  go_ret
  exact ⟨rfl, rfl⟩
theorem isTime_no (t : Int) (w : World) (h : t < -604800 ∨ 604800 < t) :
    Calls Tryz.prog 120 #[.int .i64 t] w fun e w' => e = .returned (.bool false) ∧ w = w' := by
  rcases h with h | h
  · go_enter Tryz.func120, Tryz.ntmps120
    go_wp2
    go_ret
    exact ⟨rfl, rfl⟩
  · have h' : -604800 ≤ t := by omega
    have h2 : decide (t ≤ 604800) = false := by simp; omega
    go_enter Tryz.func120, Tryz.ntmps120
    go_wp2
    go_ret
    exact ⟨rfl, rfl⟩
end Go.Proofs.YtkcbmnboccjnnaaGreatDoor
/- Plain lists of bytes: what a time's text is, and what a text tells, as the document says it. Imports nothing of the program. -/


namespace Go.Proofs.YtkcbmnboccjnnaaGreatDoor
namespace Txt
def isD (c : UInt8) : Bool := decide (48 ≤ c.toNat) && decide (c.toNat ≤ 57)
def val (l : List UInt8) : Int := l.foldl (fun n c => 10 * n + ((c.toNat : Int) - 48)) 0
def okDig (l : List UInt8) (least most : Nat) : Bool := decide (least ≤ l.length) && decide (l.length ≤ most) && l.all isD
/-- What a piece tells: the hours (idx 0), or the minutes or seconds. -/
def piece (idx : Nat) (l : List UInt8) : Option Int :=
  if idx = 0 then (if okDig l 1 3 then some (val l) else none) else (if okDig l 2 2 && decide (val l < 60) then some (val l) else none)
theorem val_nil : val [] = 0 := rfl
theorem val_snoc (l : List UInt8) (c : UInt8) : val (l ++ [c]) = 10 * val l + ((c.toNat : Int) - 48) := by unfold val; rw [List.foldl_append]; rfl
theorem val_bd (l : List UInt8) (h : l.all isD = true) : 0 ≤ val l ∧ val l < 10 ^ l.length := by
  have key : ∀ (l : List UInt8) (a : Int) (k : Nat), 0 ≤ a → a < 10 ^ k → l.all isD = true → 0 ≤ l.foldl (fun n c => 10 * n + ((c.toNat : Int) - 48)) a ∧ l.foldl (fun n c => 10 * n + ((c.toNat : Int) - 48)) a < 10 ^ (k + l.length) := by
    intro l
    induction l with
    | nil => intro a k h0 h1 _; exact ⟨h0, h1⟩
    | cons c r ih =>
      intro a k h0 h1 h
      simp only [List.all_cons, Bool.and_eq_true] at h
      have hc := h.1
      unfold isD at hc
      simp only [Bool.and_eq_true, decide_eq_true_eq] at hc
      have := ih (10 * a + ((c.toNat : Int) - 48)) (k + 1) (by omega) (by rw [Int.pow_succ]; omega) h.2
      rw [List.foldl_cons, List.length_cons, show k + (r.length + 1) = k + 1 + r.length by omega]
      exact this
  have := key l 0 0 (by omega) (by decide) h
  rw [Nat.zero_add] at this
  exact this
/-- What pieces tell, from the one numbered idx on, the first of which begins with p. -/
def G (idx : Nat) (p : List UInt8) : List UInt8 → Option (List Int)
  | [] => (piece idx p).map fun v => [v]
  | c :: r => if c = 58 then (if 2 ≤ idx then none else (piece idx p).bind fun v => (G (idx + 1) [] r).map fun vs => v :: vs) else G idx (p ++ [c]) r
theorem piece_none (idx : Nat) (l : List UInt8) (h : l.all isD = false ∨ 3 < l.length) : piece idx l = none := by
  unfold piece okDig
  rcases h with h | h
  · simp [h]
  · have h1 : decide (l.length ≤ 3) = false := by simp; omega
    have h2 : decide (l.length ≤ 2) = false := by simp; omega
    simp [h1, h2]
theorem G_none (s : List UInt8) : ∀ (idx : Nat) (p : List UInt8), (p.all isD = false ∨ 3 < p.length) → G idx p s = none := by
  induction s with
  | nil => intro idx p h; unfold G; rw [piece_none idx p h]; rfl
  | cons c r ih =>
    intro idx p h
    unfold G
    split
    · split
      · rfl
      · rw [piece_none idx p h]; rfl
    · refine ih _ _ ?_
      rcases h with h | h
      · left; simp [h]
      · right; simp; omega
theorem isD_58 : isD 58 = false := by decide
/-- The document's own way: a byte at a time. -/
def R (l : List Int) (n : Int) (d : Nat) : List UInt8 → Option (List Int)
  | [] => if d < 1 ∨ 3 < d ∨ (0 < l.length ∧ (d ≠ 2 ∨ 60 ≤ n)) ∨ l.length = 3 then none else some (l ++ [n])
  | c :: r => if c = 58 then (if d < 1 ∨ 3 < d ∨ (0 < l.length ∧ (d ≠ 2 ∨ 60 ≤ n)) ∨ l.length = 3 then none else R (l ++ [n]) 0 0 r)
      else if c.toNat < 48 ∨ 57 < c.toNat ∨ d = 3 then none else R l (10 * n + ((c.toNat : Int) - 48)) (d + 1) r
theorem piece_some (idx : Nat) (p : List UInt8) (h : p.all isD = true) :
    piece idx p = if p.length < 1 ∨ 3 < p.length ∨ (0 < idx ∧ (p.length ≠ 2 ∨ 60 ≤ val p)) then none else some (val p) := by
  unfold piece okDig
  rw [h]
  by_cases h0 : idx = 0
  · subst h0
    simp only [Bool.and_true, Bool.and_eq_true, decide_eq_true_eq, if_true]
    by_cases hl : 1 ≤ p.length ∧ p.length ≤ 3
    · rw [if_pos hl, if_neg (by omega)]
    · rw [if_neg hl, if_pos (by omega)]
  · rw [if_neg h0]
    simp only [Bool.and_true, Bool.and_eq_true, decide_eq_true_eq]
    by_cases hl : (2 ≤ p.length ∧ p.length ≤ 2) ∧ val p < 60
    · rw [if_pos hl, if_neg (by omega)]
    · rw [if_neg hl, if_pos (by omega)]
theorem R_three (s : List UInt8) : ∀ (l : List Int) (n : Int) (d : Nat), l.length = 3 → R l n d s = none := by
  induction s with
  | nil => intro l n d h; unfold R; rw [if_pos (by omega)]
  | cons c r ih =>
    intro l n d h
    unfold R
    split
    · rw [if_pos (by omega)]
    · split
      · rfl
      · exact ih _ _ _ h
theorem R_eq (s : List UInt8) : ∀ (l : List Int) (p : List UInt8), p.all isD = true → p.length ≤ 3 → l.length ≤ 2 → R l (val p) p.length s = (G l.length p s).map fun vs => l ++ vs := by
  induction s with
  | nil =>
    intro l p hp h3 hl
    unfold R G
    rw [piece_some l.length p hp]
    by_cases hc : p.length < 1 ∨ 3 < p.length ∨ (0 < l.length ∧ (p.length ≠ 2 ∨ 60 ≤ val p))
    · rw [if_pos (by omega), if_pos hc]; rfl
    · rw [if_neg (by omega), if_neg hc]; rfl
  | cons c r ih =>
    intro l p hp h3 hl
    unfold R G
    by_cases hc : c = 58
    · rw [if_pos hc, if_pos hc, piece_some l.length p hp]
      by_cases hb : p.length < 1 ∨ 3 < p.length ∨ (0 < l.length ∧ (p.length ≠ 2 ∨ 60 ≤ val p))
      · rw [if_pos (by omega), if_pos hb]
        split <;> rfl
      · rw [if_neg (by omega), if_neg hb]
        by_cases h2 : 2 ≤ l.length
        · rw [if_pos h2, R_three _ _ _ _ (by simp; omega)]; rfl
        · rw [if_neg h2]
          have := ih (l ++ [val p]) [] rfl (by simp) (by simp; omega)
          rw [val_nil, List.length_nil] at this
          rw [this]
          simp only [List.length_append, List.length_cons, List.length_nil, Nat.zero_add, Option.bind_some, Option.map_map]
          congr 1
          funext vs
          simp
    · rw [if_neg hc, if_neg hc]
      by_cases hd : c.toNat < 48 ∨ 57 < c.toNat
      · rw [if_pos (by omega), G_none]
        · rfl
        · left
          have : isD c = false := by unfold isD; rw [Bool.and_eq_false_iff]; simp; omega
          simp [this]
      · by_cases h4 : p.length = 3
        · rw [if_pos (by omega), G_none]
          · rfl
          · right; simp; omega
        · rw [if_neg (by omega)]
          have hD : isD c = true := by unfold isD; simp; omega
          have := ih l (p ++ [c]) (by simp [hp, hD]) (by simp; omega) hl
          rw [val_snoc] at this
          simp only [List.length_append, List.length_cons, List.length_nil, Nat.zero_add] at this
          exact this
/-- The program's way: pieces, the last of which is not cut. -/
def Q (idx : Nat) : List (List UInt8) → Option (List Int)
  | [] => some []
  | p :: ps => (piece idx p).bind fun v => (Q (idx + 1) ps).map fun vs => v :: vs
theorem G_append (a : List UInt8) (b : List UInt8) : ∀ (idx : Nat) (p : List UInt8), (∀ c ∈ a, c ≠ 58) → G idx p (a ++ b) = G idx (p ++ a) b := by
  induction a with
  | nil => intro idx p _; simp
  | cons c r ih =>
    intro idx p h
    rw [List.cons_append]
    conv => lhs; unfold G
    rw [if_neg (h c (by simp)), ih idx (p ++ [c]) (fun x hx => h x (by simp [hx]))]
    simp
theorem G_plain (a : List UInt8) (idx : Nat) (h : ∀ c ∈ a, c ≠ 58) : G idx [] a = (piece idx a).map fun v => [v] := by
  have := G_append a [] idx [] h
  rw [List.append_nil, List.nil_append] at this
  rw [this]
  rfl
theorem all_false (a b : List UInt8) : (a ++ 58 :: b).all isD = false := by
  rw [List.all_append, List.all_cons, isD_58]
  simp
theorem Q_cut (a b : List UInt8) (idx : Nat) (h : ∀ c ∈ a, c ≠ 58) (hi : idx < 2) : G idx [] (a ++ 58 :: b) = (piece idx a).bind fun v => (G (idx + 1) [] b).map fun vs => v :: vs := by
  rw [G_append a _ idx [] h, List.nil_append]
  conv => lhs; unfold G
  rw [if_pos rfl, if_neg (by omega)]
theorem Q_last (a b : List UInt8) (idx : Nat) (h : ∀ c ∈ a, c ≠ 58) (hi : 2 ≤ idx) : G idx [] (a ++ 58 :: b) = none := by
  rw [G_append a _ idx [] h, List.nil_append]
  conv => lhs; unfold G
  rw [if_pos rfl, if_pos hi]
theorem index58 (s : List UInt8) : (Lib.index s [58] = -1 ∧ ∀ c ∈ s, c ≠ 58) ∨ ∃ a b, s = a ++ 58 :: b ∧ (∀ c ∈ a, c ≠ 58) ∧ Lib.index s [58] = (a.length : Int) := by
  induction s with
  | nil => left; exact ⟨rfl, by simp⟩
  | cons c r ih =>
    by_cases hc : c = 58
    · right
      subst hc
      exact ⟨[], r, rfl, by simp, by simp [Lib.index]⟩
    · have hp : ([58] : List UInt8).isPrefixOf (c :: r) = false := by
        simp [List.isPrefixOf]
        exact fun e => hc e.symm
      unfold Lib.index
      rw [hp]
      rcases ih with ⟨h1, h2⟩ | ⟨a, b, rfl, ha, h1⟩
      · left
        rw [h1]
        exact ⟨rfl, by intro x hx; rcases List.mem_cons.1 hx with rfl | hx; exact hc; exact h2 x hx⟩
      · right
        refine ⟨c :: a, b, rfl, by intro x hx; rcases List.mem_cons.1 hx with rfl | hx; exact hc; exact ha x hx, ?_⟩
        have hn : ((Lib.index (a ++ 58 :: b) [58]) == -1) = false := by rw [h1, beq_eq_false_iff_ne]; omega
        rw [hn, h1]
        simp
theorem split_miss (k : Nat) (s : List UInt8) (h : Lib.index s [58] = -1) : Lib.splitK [58] 0 k s = [s] := by
  cases k with
  | zero => rfl
  | succ k => unfold Lib.splitK; rw [h]; rfl
theorem split_hit (k : Nat) (a b : List UInt8) (h : Lib.index (a ++ 58 :: b) [58] = (a.length : Int)) : Lib.splitK [58] 0 (k + 1) (a ++ 58 :: b) = a :: Lib.splitK [58] 0 k b := by
  have hn : ((a.length : Int) == -1) = false := by rw [beq_eq_false_iff_ne]; omega
  rw [Lib.splitK, h, hn]
  have e1 : ((a.length : Int)).toNat = a.length := by omega
  rw [e1]
  simp
theorem Q_split (k : Nat) : ∀ (idx : Nat) (s : List UInt8), idx + k = 2 → Q idx (Lib.splitK [58] 0 k s) = G idx [] s := by
  induction k with
  | zero =>
    intro idx s h
    show (piece idx s).bind (fun v => (some []).map fun vs => v :: vs) = _
    rcases index58 s with ⟨_, hs⟩ | ⟨a, b, rfl, ha, _⟩
    · rw [G_plain s idx hs]
      cases piece idx s <;> rfl
    · rw [Q_last a b idx ha (by omega), piece_none idx _ (.inl (all_false a b))]
      rfl
  | succ k ih =>
    intro idx s h
    rcases index58 s with ⟨hi, hs⟩ | ⟨a, b, rfl, ha, hi⟩
    · rw [split_miss _ _ hi, G_plain s idx hs]
      show (piece idx s).bind (fun v => (some []).map fun vs => v :: vs) = _
      cases piece idx s <;> rfl
    · rw [split_hit k a b hi, Q_cut a b idx ha (by omega)]
      show (piece idx a).bind (fun v => (Q (idx + 1) (Lib.splitK [58] 0 k b)).map fun vs => v :: vs) = _
      rw [ih (idx + 1) b (by omega)]
theorem split_min (s : List UInt8) : Lib.splitK [58] 0 (min 3 (s.length + 1) - 1) s = Lib.splitK [58] 0 2 s := by
  match s with
  | [] => rfl
  | [c] =>
    show Lib.splitK [58] 0 1 [c] = Lib.splitK [58] 0 2 [c]
    rcases index58 [c] with ⟨hi, _⟩ | ⟨a, b, e, _, hi⟩
    · rw [split_miss _ _ hi, split_miss _ _ hi]
    · rw [e] at hi ⊢
      rw [split_hit 0 a b hi, split_hit 1 a b hi]
      have hb : b = [] := by
        have := congrArg List.length e
        simp at this
        exact List.eq_nil_of_length_eq_zero (by omega)
      subst hb
      rfl
  | c :: d :: r =>
    have : min 3 ((c :: d :: r).length + 1) - 1 = 2 := by simp <;> omega
    rw [this]
theorem split_len (k : Nat) (s : List UInt8) : 1 ≤ (Lib.splitK [58] 0 k s).length ∧ (Lib.splitK [58] 0 k s).length ≤ k + 1 := by
  induction k generalizing s with
  | zero => exact ⟨Nat.le_refl _, Nat.le_refl _⟩
  | succ k ih =>
    rcases index58 s with ⟨hi, _⟩ | ⟨a, b, rfl, _, hi⟩
    · rw [split_miss _ _ hi]; simp
    · rw [split_hit k a b hi]
      have := ih b
      simp only [List.length_cons]
      omega
theorem G_len (s : List UInt8) : ∀ (idx : Nat) (p : List UInt8) (vs : List Int), G idx p s = some vs → idx ≤ 2 → 1 ≤ vs.length ∧ idx + vs.length ≤ 3 := by
  induction s with
  | nil =>
    intro idx p vs h hi
    unfold G at h
    cases hp : piece idx p with
    | none => rw [hp] at h; cases h
    | some v =>
      rw [hp] at h
      cases h
      simp
      omega
  | cons c r ih =>
    intro idx p vs h hi
    unfold G at h
    split at h
    · split at h
      · cases h
      · cases hp : piece idx p with
        | none => rw [hp] at h; cases h
        | some v =>
          rw [hp] at h
          simp only [Option.bind_some] at h
          cases hg : G (idx + 1) [] r with
          | none => rw [hg] at h; cases h
          | some ws =>
            rw [hg] at h
            cases h
            have := ih (idx + 1) [] ws hg (by omega)
            simp only [List.length_cons]
            omega
    · exact ih idx _ vs h hi
end Txt
end Go.Proofs.YtkcbmnboccjnnaaGreatDoor
/- The contracts of package clock's functions of texts, first part: digits, a piece. -/



namespace Go.Proofs.YtkcbmnboccjnnaaGreatDoor
open Go.RowKit
theorem ret_ib {k : IntKind} {a b : Int} {c : Bool} (h : a = b) : Ending.returned (.tuple #[.int k a, .bool c]) = .returned (.tuple #[.int k b, .bool c]) := by rw [h]
theorem take_snoc (s : ByteArray) (k : Nat) (h : k < s.size) : s.data.toList.take (k + 1) = s.data.toList.take k ++ [s[k]] := by
  rw [List.take_succ_eq_append_getElem (by simpa using h)]; rfl
theorem isD_iff (c : UInt8) : Txt.isD c = true ↔ 48 ≤ (c.toNat : Int) ∧ (c.toNat : Int) ≤ 57 := by
  unfold Txt.isD
  simp only [Bool.and_eq_true, decide_eq_true_eq]
  omega
theorem all_snoc (l : List UInt8) (c : UInt8) : (l ++ [c]).all Txt.isD = (l.all Txt.isD && Txt.isD c) := by simp
theorem take_all (s : ByteArray) : s.data.toList.take s.size = s.data.toList := List.take_of_length_le (by simp)
theorem take_bd (s : ByteArray) (k : Nat) (h3 : k ≤ 3) (h : (s.data.toList.take k).all Txt.isD = true) : 0 ≤ Txt.val (s.data.toList.take k) ∧ Txt.val (s.data.toList.take k) < 1000 := by
  have := Txt.val_bd _ h
  have hl : (s.data.toList.take k).length ≤ 3 := by have := List.length_take_le k s.data.toList; omega
  refine ⟨this.1, Int.lt_of_lt_of_le this.2 ?_⟩
  have : (10 : Int) ^ (s.data.toList.take k).length ≤ 10 ^ 3 := by
    have := Nat.pow_le_pow_right (n := 10) (by omega) hl
    exact_mod_cast this
  omega
theorem digits_yes (s : ByteArray) (least most : Nat) (w : World) (h1 : least ≤ s.size) (h2 : s.size ≤ most) (h3 : most ≤ 3) (hd : Hid (s.data.toList.all Txt.isD = true)) :
    Calls Tryz.prog 233 #[.string s, .int .i64 least, .int .i64 most] w fun e w' => e = .returned (.tuple #[.int .i64 (Txt.val s.data.toList), .bool true]) ∧ w = w' := by
  have t1 : decide (s.size < least) = false := by simp; omega
  have t2 : decide (most < s.size) = false := by simp; omega
  go_enter Tryz.func233, Tryz.ntmps233
  go_wp2_with fail
  go_loop [8, 9] (fun n i => ∃ k : Nat, k ≤ s.size ∧ i = .int .i64 k ∧ n = .int .i64 (Txt.val (s.data.toList.take k))) (fun _ i => s.size - (intOf i).toNat)
  case atStart => exact ⟨0, Nat.zero_le _, rfl, rfl⟩
  case round =>
    obtain ⟨k, hk, rfl, rfl⟩ := hrel
    by_cases hlt : k < s.size
    · have hall : ∀ x ∈ s.data.toList, Txt.isD x = true := List.all_eq_true.1 hd.out
      have hpre : (s.data.toList.take k).all Txt.isD = true := List.all_eq_true.2 fun x hx => hall x (List.mem_of_mem_take hx)
      obtain ⟨b1, b2⟩ := take_bd s k (by omega) hpre
      have hc : Txt.isD s[k] = true := hall _ (by have : s[k] = s.data.toList[k]'(by simpa using hlt) := rfl; rw [this]; exact List.getElem_mem _)
      obtain ⟨c1, c2⟩ := (isD_iff _).1 hc
      have HS := Lib.hid (show Txt.val (s.data.toList.take (k + 1)) = 10 * Txt.val (s.data.toList.take k) + ((s[k].toNat : Int) - 48) by rw [take_snoc s k hlt, Txt.val_snoc])
      clear hall hpre hc
      go_wp2_with fail
      go_round
      case rel => exact ⟨k + 1, by omega, by go_num, by rw [HS.out]⟩
      case measure => simp [intOf]; omega
    · have HS := Lib.hid (show s.data.toList.take k = s.data.toList by rw [show k = s.size by omega, take_all])
      go_wp2_with fail
      go_ret2
      exact ⟨ret_ib (congrArg Txt.val HS.out), rfl⟩
theorem digits_no (s : ByteArray) (least most : Nat) (w : World) (h3 : most ≤ 3) (_h0 : least ≤ 3) (hd : Hid (Txt.okDig s.data.toList least most = false)) :
    Calls Tryz.prog 233 #[.string s, .int .i64 least, .int .i64 most] w fun e w' => e = .returned (.tuple #[.int .i64 0, .bool false]) ∧ w = w' := by
  by_cases h1 : s.size < least
  · go_enter Tryz.func233, Tryz.ntmps233
    go_wp2_with fail
    go_ret2
    exact ⟨rfl, rfl⟩
  · by_cases h2 : most < s.size
    · go_enter Tryz.func233, Tryz.ntmps233
      go_wp2_with fail
      go_ret2
      exact ⟨rfl, rfl⟩
    · have hd2 : Hid (s.data.toList.all Txt.isD = false) := by
        have := hd.out
        unfold Txt.okDig at this
        have e1 : decide (least ≤ s.data.toList.length) = true := by simp; omega
        have e2 : decide (s.data.toList.length ≤ most) = true := by simp; omega
        rw [e1, e2] at this
        exact this
      clear hd
      have t1 : decide (s.size < least) = false := by simp; omega
      have t2 : decide (most < s.size) = false := by simp; omega
      go_enter Tryz.func233, Tryz.ntmps233
      go_wp2_with fail
      go_loop [8, 9] (fun n i => ∃ k : Nat, k ≤ s.size ∧ i = .int .i64 k ∧ n = .int .i64 (Txt.val (s.data.toList.take k)) ∧ Hid ((s.data.toList.take k).all Txt.isD = true)) (fun _ i => s.size - (intOf i).toNat)
      case atStart => exact ⟨0, Nat.zero_le _, rfl, rfl, rfl⟩
      case round =>
        obtain ⟨k, hk, rfl, rfl, hpre⟩ := hrel
        by_cases hlt : k < s.size
        · obtain ⟨b1, b2⟩ := take_bd s k (by omega) hpre.out
          have HS := Lib.hid (show Txt.val (s.data.toList.take (k + 1)) = 10 * Txt.val (s.data.toList.take k) + ((s[k].toNat : Int) - 48) by rw [take_snoc s k hlt, Txt.val_snoc])
          have HA := Lib.hid (show (s.data.toList.take (k + 1)).all Txt.isD = ((s.data.toList.take k).all Txt.isD && Txt.isD s[k]) by rw [take_snoc s k hlt, all_snoc])
          by_cases c1 : (s[k].toNat : Int) < 48
          · go_wp2_with fail
            go_ret2
            exact ⟨rfl, rfl⟩
          · by_cases c2 : 57 < (s[k].toNat : Int)
            · go_wp2_with fail
              go_ret2
              exact ⟨rfl, rfl⟩
            · have HD := Lib.hid ((isD_iff s[k]).2 ⟨by omega, by omega⟩)
              go_wp2_with fail
              go_round
              case rel => exact ⟨k + 1, by omega, by go_num, by rw [HS.out], by rw [HA.out, hpre.out, HD.out]; rfl⟩
              case measure => simp [intOf]; omega
        · obtain rfl : k = s.size := by omega
          exfalso
          have := hpre.out
          rw [take_all, hd2.out] at this
          cases this
theorem piece_zero (l : List UInt8) : Txt.piece 0 l = if Txt.okDig l 1 3 then some (Txt.val l) else none := rfl
theorem piece_later (i : Nat) (l : List UInt8) (h : i ≠ 0) : Txt.piece i l = if Txt.okDig l 2 2 && decide (Txt.val l < 60) then some (Txt.val l) else none := by unfold Txt.piece; rw [if_neg h]
theorem okDig_parts (l : List UInt8) (a b : Nat) (h : Txt.okDig l a b = true) : a ≤ l.length ∧ l.length ≤ b ∧ l.all Txt.isD = true := by
  unfold Txt.okDig at h
  simp only [Bool.and_eq_true, decide_eq_true_eq] at h
  exact ⟨h.1.1, h.1.2, h.2⟩
theorem piece_bd (i : Nat) (l : List UInt8) (v : Int) (h : Txt.piece i l = some v) : 0 ≤ v ∧ v < 1000 ∧ (i ≠ 0 → v < 60) := by
  by_cases hi : i = 0
  · subst hi
    rw [piece_zero] at h
    split at h
    · rename_i ho
      cases h
      have hp := okDig_parts _ _ _ ho
      have hb := Txt.val_bd l hp.2.2
      have : (10 : Int) ^ l.length ≤ 10 ^ 3 := by
        have := Nat.pow_le_pow_right (n := 10) (by omega) hp.2.1
        exact_mod_cast this
      omega
    · cases h
  · rw [piece_later i l hi] at h
    split at h
    · rename_i ho
      simp only [Bool.and_eq_true, decide_eq_true_eq] at ho
      cases h
      have hp := okDig_parts _ _ _ ho.1
      have hb := Txt.val_bd l hp.2.2
      omega
    · cases h
theorem readPart_yes (i : Nat) (s : ByteArray) (v : Int) (w : World) (hi : i < 3) (hp : Hid (Txt.piece i s.data.toList = some v)) :
    Calls Tryz.prog 230 #[.int .i64 i, .string s] w fun e w' => e = .returned (.tuple #[.int .i64 v, .bool true]) ∧ w = w' := by
  by_cases h0 : i = 0
  · subst h0
    have hp := hp.out
    rw [piece_zero] at hp
    by_cases ho : Txt.okDig s.data.toList 1 3 = true
    · rw [if_pos ho] at hp
      injection hp with hp
      obtain ⟨o1, o2, o3⟩ := okDig_parts _ _ _ ho
      have o4 : s.data.toList.length = s.size := by simp
      have V := Lib.hid hp
      have O3 := Lib.hid o3
      clear hp ho o3
      rw [o4] at o1 o2
      clear o4
      go_enter Tryz.func230, Tryz.ntmps230
      go_wp2_with fail
      refine (digits_yes s 1 3 _ (by omega) (by omega) (by omega) O3).mono ?_
      rintro e w' ⟨rfl, rfl⟩
      go_wp2_with fail
      go_ret2
      exact ⟨ret_ib V.out, rfl⟩
    · rw [if_neg ho] at hp
      cases hp
  · have hp := hp.out
    rw [piece_later i _ h0] at hp
    by_cases ho : (Txt.okDig s.data.toList 2 2 && decide (Txt.val s.data.toList < 60)) = true
    · rw [if_pos ho] at hp
      injection hp with hp
      rw [Bool.and_eq_true] at ho
      obtain ⟨o1, o2, o3⟩ := okDig_parts _ _ _ ho.1
      have o4 : s.data.toList.length = s.size := by simp
      have V := Lib.hid hp
      have O3 := Lib.hid o3
      have o5 := ho.2
      clear hp ho o3
      rw [o4] at o1 o2
      clear o4
      have t0 : ((i : Int) == 0) = false := by rw [beq_eq_false_iff_ne]; omega
      go_enter Tryz.func230, Tryz.ntmps230
      go_wp2_with fail
      refine (digits_yes s 2 2 _ (by omega) (by omega) (by omega) O3).mono ?_
      rintro e w' ⟨rfl, rfl⟩
      go_wp2_with fail
      go_ret2
      exact ⟨ret_ib V.out, rfl⟩
    · rw [if_neg ho] at hp
      cases hp
theorem readPart_no (i : Nat) (s : ByteArray) (w : World) (hi : i < 3) (hp : Hid (Txt.piece i s.data.toList = none)) :
    ∃ v : Int, Calls Tryz.prog 230 #[.int .i64 i, .string s] w fun e w' => e = .returned (.tuple #[.int .i64 v, .bool false]) ∧ w = w' := by
  by_cases h0 : i = 0
  · subst h0
    have hp := hp.out
    rw [piece_zero] at hp
    by_cases ho : Txt.okDig s.data.toList 1 3 = true
    · rw [if_pos ho] at hp
      cases hp
    · have O := Lib.hid (Bool.not_eq_true _ ▸ ho : Txt.okDig s.data.toList 1 3 = false)
      clear ho hp
      refine ⟨0, ?_⟩
      go_enter Tryz.func230, Tryz.ntmps230
      go_wp2_with fail
      refine (digits_no s 1 3 _ (by omega) (by omega) O).mono ?_
      rintro e w' ⟨rfl, rfl⟩
      go_wp2_with fail
      go_ret2
      exact ⟨rfl, rfl⟩
  · have hp := hp.out
    rw [piece_later i _ h0] at hp
    have t0 : ((i : Int) == 0) = false := by rw [beq_eq_false_iff_ne]; omega
    by_cases ho : Txt.okDig s.data.toList 2 2 = true
    · have hv : decide (Txt.val s.data.toList < 60) = false := by
        cases hd : decide (Txt.val s.data.toList < 60)
        · rfl
        · rw [ho, hd] at hp
          cases hp
      obtain ⟨o1, o2, o3⟩ := okDig_parts _ _ _ ho
      have o4 : s.data.toList.length = s.size := by simp
      have O3 := Lib.hid o3
      clear hp ho o3
      rw [o4] at o1 o2
      clear o4
      refine ⟨Txt.val s.data.toList, ?_⟩
      go_enter Tryz.func230, Tryz.ntmps230
      go_wp2_with fail
      refine (digits_yes s 2 2 _ (by omega) (by omega) (by omega) O3).mono ?_
      rintro e w' ⟨rfl, rfl⟩
      go_wp2_with fail
      go_ret2
      exact ⟨rfl, rfl⟩
    · have O := Lib.hid (Bool.not_eq_true _ ▸ ho : Txt.okDig s.data.toList 2 2 = false)
      clear ho hp
      refine ⟨0, ?_⟩
      go_enter Tryz.func230, Tryz.ntmps230
      go_wp2_with fail
      refine (digits_no s 2 2 _ (by omega) (by omega) O).mono ?_
      rintro e w' ⟨rfl, rfl⟩
      go_wp2_with fail
      go_ret2
      exact ⟨rfl, rfl⟩
end Go.Proofs.YtkcbmnboccjnnaaGreatDoor
/- What the calls below read of package-level variables, and that it stays so while only new memory is written. -/







namespace Go.Proofs.YtkcbmnboccjnnaaGreatDoor
open Go.RowKit
/-- The three units of a time, the powers of ten that the library keeps, and the length up to which the library looks for a byte by itself. -/
structure Env (w : World) : Prop where
  units : Lib.TabIs Tryz.prog w "solstice/clock.units" .i64 [3600, 60, 1]
  tens : Lib.TabIs Tryz.prog w "internal/strconv.uint64pow10" .u64 Lib.pow10Tab
  longest : ∃ m : Int, w.cell? ⟨1, 0, none⟩ = some (.int .i64 m)
theorem gUnits : Tryz.prog.globalNamed "solstice/clock.units" = some 0 := by kernel_rfl
theorem Env.unit0 {w : World} (h : Env w) : w.cell? ⟨0, 0, none⟩ = some (.int .i64 3600) := h.units.cell gUnits 0 (by decide)
theorem Env.unit1 {w : World} (h : Env w) : w.cell? ⟨0, 1, none⟩ = some (.int .i64 60) := h.units.cell gUnits 1 (by decide)
theorem Env.unit2 {w : World} (h : Env w) : w.cell? ⟨0, 2, none⟩ = some (.int .i64 1) := h.units.cell gUnits 2 (by decide)
theorem lt_of_cell {w : World} {b o : Nat} {v : Value} (h : w.cell? ⟨b, o, none⟩ = some v) : b < w.heap.size := by
  rcases Nat.lt_or_ge b w.heap.size with h' | h'
  · exact h'
  · exfalso
    unfold World.cell? at h
    rw [Array.getElem?_eq_none h'] at h
    cases h
theorem Env.below {w w' : World} (h : Env w) (hb : Below w.heap.size w w') : Env w' :=
  ⟨Lib.tabBelow_of_tabIs h.units w' hb, Lib.tabBelow_of_tabIs h.tens w' hb, by
    obtain ⟨m, hm⟩ := h.longest
    exact ⟨m, (hb.cell (lt_of_cell hm)).trans hm⟩⟩
theorem Env.alloc {w : World} (h : Env w) (o : Obj) : Env (w.alloc o) := h.below ((Below.refl _ _).alloc (Nat.le_refl _) o)
theorem Env.drew {w : World} (h : Env w) : Env w.drew := h.below (Below.refl _ _).drew
set_option maxRecDepth 100000 in
set_option maxHeartbeats 1000000 in
theorem together_any (a b c : Int) (w : World) (hE : Env w) (a1 : 0 ≤ a) (a2 : a < 1000) (b1 : 0 ≤ b) (b2 : b < 1000) (c1 : 0 ≤ c) (c2 : c < 1000) :
    Calls Tryz.prog 219 #[.agg #[.int .i64 a, .int .i64 b, .int .i64 c]] w fun e w' => e = .returned (.int .i64 (a * 3600 + b * 60 + c)) ∧ Below w.heap.size w w' := by
  have u0 := hE.unit0
  have u1 := hE.unit1
  have u2 := hE.unit2
  have l0 := lt_of_cell u0
  clear hE
  go_enter Tryz.func219, Tryz.ntmps219
  go_wp2_with fail
  refine wp_loop_rounds 4 ?_
  rw [rounds_succ]
  go_wp2_with fail
  go_quiet (fail)
  go_wp2_with fail
  rw [rounds_succ]
  go_wp2_with fail
  go_quiet (fail)
  go_wp2_with fail
  rw [rounds_succ]
  go_wp2_with fail
  go_quiet (fail)
  go_wp2_with fail
  rw [rounds_succ]
  go_wp2_with fail
  go_ret
  refine ⟨ret_int (by simp), ?_⟩
  repeat (first | exact Below.refl _ _ | assumption | refine below_drewN ?_ _ | refine Below.drew ?_ | refine Below.setCell ?_ (by first | omega | (simp; done) | (simp; omega)) _ | refine Below.alloc ?_ (by first | omega | (simp; done) | (simp; omega)) _)
set_option maxRecDepth 100000 in
set_option maxHeartbeats 1000000 in
theorem cut_any (t : Int) (w : World) (hE : Env w) (h1 : 0 ≤ t) (h2 : t ≤ 604800) :
    Calls Tryz.prog 121 #[.int .i64 t] w fun e w' => e = .returned (.agg #[.int .i64 (t / 3600), .int .i64 (t % 3600 / 60), .int .i64 (t % 60)]) ∧ Below w.heap.size w w' := by
  have u0 := hE.unit0
  have u1 := hE.unit1
  have u2 := hE.unit2
  have l0 := lt_of_cell u0
  clear hE
  go_enter Tryz.func121, Tryz.ntmps121
  go_wp2_with fail
  refine wp_loop_rounds 4 ?_
  rw [rounds_succ]
  go_wp2_with fail
  rw [rounds_succ]
  go_wp2_with fail
  rw [rounds_succ]
  go_wp2_with fail
  rw [rounds_succ]
  go_wp2_with fail
  refine bodyPost_ret (v := .agg #[.int .i64 (t / 3600), .int .i64 (t % 3600 / 60), .int .i64 (t % 60)]) (by simp [results, Tryz.results121, go_sem]) rfl ⟨rfl, ?_⟩
  repeat (first | exact Below.refl _ _ | assumption | refine below_drewN ?_ _ | refine Below.drew ?_ | refine Below.setCell ?_ (by first | omega | (simp; done) | (simp; omega)) _ | refine Below.alloc ?_ (by first | omega | (simp; done) | (simp; omega)) _)
theorem fmt_any (n : Int) (w : World) (hE : Env w) (h0 : -9223372036854775808 ≤ n) (h1 : n ≤ 9223372036854775807) :
    Calls Tryz.prog 122 #[.int .i64 n, .int .i64 10] w fun e w' => e = .returned (.string ⟨(Lib.itoa n).toArray⟩) ∧ Below w.heap.size w w' :=
  (Tryz.strconv_FormatInt_10 n h0 h1 w hE.tens).mono fun _ _ ⟨he, k, os, hw⟩ => ⟨he, by rw [hw]; exact Lib.below_grow _ w (Nat.le_refl _) k os⟩
/-- Two digits. -/
def two (n : Int) : List UInt8 := [UInt8.ofNat (48 + n.toNat / 10), UInt8.ofNat (48 + n.toNat % 10)]
theorem itoa_lt10 (n : Int) (h0 : 0 ≤ n) (h1 : n < 10) : (48 : UInt8) :: Lib.itoa n = two n := by
  unfold Lib.itoa two
  rw [if_neg (by omega), Lib.decDigits, dif_pos (by omega)]
  have e1 : n.toNat / 10 = 0 := by omega
  have e2 : n.toNat % 10 = n.toNat := by omega
  rw [e1, e2]
  rfl
theorem itoa_ge10 (n : Int) (h0 : 10 ≤ n) (h1 : n < 100) : Lib.itoa n = two n := by
  unfold Lib.itoa two
  rw [if_neg (by omega), Lib.decDigits, dif_neg (by omega), Lib.decDigits, dif_pos (by omega)]
  rfl
theorem ret_str {a b : List UInt8} (h : a = b) : Ending.returned (.string ⟨a.toArray⟩) = .returned (.string ⟨b.toArray⟩) := by rw [h]
theorem ret_bytes {a b : ByteArray} (h : a = b) : Ending.returned (.string a) = .returned (.string b) := by rw [h]
theorem bytes_app (a b : List UInt8) : (⟨a.toArray⟩ : ByteArray) ++ ⟨b.toArray⟩ = ⟨(a ++ b).toArray⟩ := by
  apply ByteArray.ext
  simp
theorem itoa_len (n : Int) (h0 : 0 ≤ n) (h1 : n < 1000) : (Lib.itoa n).length ≤ 3 := by
  unfold Lib.itoa
  rw [if_neg (by omega), Lib.decDigits]
  split
  · simp
  · rw [Lib.decDigits]
    split
    · simp
    · rw [Lib.decDigits]
      rw [dif_pos (by omega)]
      simp
theorem twoDigits_any (n : Int) (w : World) (hE : Env w) (h0 : 0 ≤ n) (h1 : n < 100) :
    Calls Tryz.prog 123 #[.int .i64 n] w fun e w' => e = .returned (.string ⟨(two n).toArray⟩) ∧ Below w.heap.size w w' := by
  have hl := itoa_len n h0 (by omega)
  by_cases h : n < 10
  · have H := Lib.hid (itoa_lt10 n h0 h)
    go_enter Tryz.func123, Tryz.ntmps123
    go_wp2_with fail
    refine (fmt_any n _ hE (by omega) (by omega)).mono ?_
    rintro e w1 ⟨rfl, hb⟩
    go_wp2_with fail
    go_ret
    exact ⟨ret_bytes ((bytes_app [48] (Lib.itoa n)).trans (by rw [← H.out]; rfl)), hb⟩
  · have H := Lib.hid (itoa_ge10 n (by omega) h1)
    go_enter Tryz.func123, Tryz.ntmps123
    go_wp2_with fail
    refine (fmt_any n _ hE (by omega) (by omega)).mono ?_
    rintro e w1 ⟨rfl, hb⟩
    go_wp2_with fail
    go_ret
    exact ⟨ret_str H.out, hb⟩
/-- The text of a time that is not below nought, and of any. -/
def txt0 (t : Int) : List UInt8 := Lib.itoa (t / 3600) ++ [58] ++ two (t % 3600 / 60) ++ (if t % 60 = 0 then [] else 58 :: two (t % 60))
def txt (t : Int) : List UInt8 := if t < 0 then 45 :: txt0 (-t) else txt0 t
theorem two_len (n : Int) : (two n).length = 2 := rfl
theorem keep_parts {B b1 : Nat} {w0 w w1 : World} {x1 x2 x3 : Value}
    (h : w.cell? ⟨b1, 0, none⟩ = some x1 ∧ w.cell? ⟨b1, 1, none⟩ = some x2 ∧ w.cell? ⟨b1, 2, none⟩ = some x3 ∧ b1 < w.heap.size ∧ B ≤ w.heap.size ∧ Env w ∧ Below B w0 w) (hb : Below w.heap.size w w1) :
    w1.cell? ⟨b1, 0, none⟩ = some x1 ∧ w1.cell? ⟨b1, 1, none⟩ = some x2 ∧ w1.cell? ⟨b1, 2, none⟩ = some x3 ∧ b1 < w1.heap.size ∧ B ≤ w1.heap.size ∧ Env w1 ∧ Below B w0 w1 := by
  obtain ⟨h1, h2, h3, l1, l4, he, h0⟩ := h
  obtain ⟨hc, _⟩ := bcell hb
  have := hb.size
  refine ⟨?_, ?_, ?_, by omega, by omega, he.below hb, h0.trans (hb.mono l4)⟩
  all_goals (rw [hc _ _ (by assumption)]; assumption)
theorem env_of_parts {B b1 : Nat} {w0 w : World} {x1 x2 x3 : Value}
    (h : w.cell? ⟨b1, 0, none⟩ = some x1 ∧ w.cell? ⟨b1, 1, none⟩ = some x2 ∧ w.cell? ⟨b1, 2, none⟩ = some x3 ∧ b1 < w.heap.size ∧ B ≤ w.heap.size ∧ Env w ∧ Below B w0 w) : Env w := by
  obtain ⟨h1, h2, h3, l1, l4, he, h0⟩ := h
  exact he
theorem below_trans_parts {B b1 : Nat} {w0 w w1 : World} {x1 x2 x3 : Value}
    (h : w.cell? ⟨b1, 0, none⟩ = some x1 ∧ w.cell? ⟨b1, 1, none⟩ = some x2 ∧ w.cell? ⟨b1, 2, none⟩ = some x3 ∧ b1 < w.heap.size ∧ B ≤ w.heap.size ∧ Env w ∧ Below B w0 w) (hb : Below w.heap.size w w1) : Below B w0 w1 := by
  obtain ⟨h1, h2, h3, l1, l4, he, h0⟩ := h
  exact h0.trans (hb.mono l4)
theorem txt0_yes (t : Int) (h : (t % 60 != 0) = true) : ((((⟨#[]⟩ : ByteArray) ++ ⟨(Lib.itoa (t / 3600)).toArray⟩) ++ ⟨#[58]⟩) ++ ⟨(two (t % 3600 / 60)).toArray⟩) ++ ((⟨#[58]⟩ : ByteArray) ++ ⟨(two (t % 60)).toArray⟩) = ⟨(txt0 t).toArray⟩ := by
  have h : ¬ t % 60 = 0 := bne_iff_ne.1 h
  unfold txt0
  rw [if_neg h]
  apply ByteArray.ext
  simp
theorem txt0_no (t : Int) (h : (t % 60 != 0) = false) : ((((⟨#[]⟩ : ByteArray) ++ ⟨(Lib.itoa (t / 3600)).toArray⟩) ++ ⟨#[58]⟩) ++ ⟨(two (t % 3600 / 60)).toArray⟩) = ⟨(txt0 t).toArray⟩ := by
  have h : t % 60 = 0 := by simpa using h
  unfold txt0
  rw [if_pos h]
  apply ByteArray.ext
  simp
theorem txtn_yes (t : Int) (h : (t % 60 != 0) = true) : ((((⟨#[45]⟩ : ByteArray) ++ ⟨(Lib.itoa (t / 3600)).toArray⟩) ++ ⟨#[58]⟩) ++ ⟨(two (t % 3600 / 60)).toArray⟩) ++ ((⟨#[58]⟩ : ByteArray) ++ ⟨(two (t % 60)).toArray⟩) = ⟨(45 :: txt0 t).toArray⟩ := by
  have h : ¬ t % 60 = 0 := bne_iff_ne.1 h
  unfold txt0
  rw [if_neg h]
  apply ByteArray.ext
  simp
theorem txtn_no (t : Int) (h : (t % 60 != 0) = false) : ((((⟨#[45]⟩ : ByteArray) ++ ⟨(Lib.itoa (t / 3600)).toArray⟩) ++ ⟨#[58]⟩) ++ ⟨(two (t % 3600 / 60)).toArray⟩) = ⟨(45 :: txt0 t).toArray⟩ := by
  have h : t % 60 = 0 := by simpa using h
  unfold txt0
  rw [if_pos h]
  apply ByteArray.ext
  simp
set_option maxHeartbeats 4000000 in
set_option maxRecDepth 100000 in
theorem text_pos (t : Int) (w : World) (hE : Env w) (h1 : 0 ≤ t) (h2 : t ≤ 604800) :
    Calls Tryz.prog 73 #[.int .i64 t] w fun e w' => e = .returned (.string ⟨(txt0 t).toArray⟩) ∧ Below w.heap.size w w' := by
  have hl := itoa_len (t / 3600) (by omega) (by omega)
  have hl2 : (two (t % 3600 / 60)).length ≤ 2 := Nat.le_refl _
  have q1 : ¬ 9223372036854775807 < (Lib.itoa (t / 3600)).length := by omega
  have q2 : ¬ 9223372036854775807 < (Lib.itoa (t / 3600)).length + 1 := by omega
  have q3 : ¬ 9223372036854775807 < (Lib.itoa (t / 3600)).length + 1 + (two (t % 3600 / 60)).length := by omega
  go_enter Tryz.func73, Tryz.ntmps73
  go_wp2_with fail
  refine (isTime_yes t _ (by omega) (by omega)).mono ?_
  rintro e w' ⟨rfl, rfl⟩
  go_wp2_with fail
  refine (cut_any t _ hE h1 h2).mono ?_
  rintro e w1 ⟨rfl, hb1⟩
  have hE1 := hE.below hb1
  go_wp2_with fail
  have S0 : (w1.alloc (.cells #[.int .i64 (t / 3600), .int .i64 (t % 3600 / 60), .int .i64 (t % 60)] 155)).drew.cell? ⟨w1.heap.size, 0, none⟩ = some (.int .i64 (t / 3600)) ∧
      (w1.alloc (.cells #[.int .i64 (t / 3600), .int .i64 (t % 3600 / 60), .int .i64 (t % 60)] 155)).drew.cell? ⟨w1.heap.size, 1, none⟩ = some (.int .i64 (t % 3600 / 60)) ∧
      (w1.alloc (.cells #[.int .i64 (t / 3600), .int .i64 (t % 3600 / 60), .int .i64 (t % 60)] 155)).drew.cell? ⟨w1.heap.size, 2, none⟩ = some (.int .i64 (t % 60)) ∧
      w1.heap.size < (w1.alloc (.cells #[.int .i64 (t / 3600), .int .i64 (t % 3600 / 60), .int .i64 (t % 60)] 155)).drew.heap.size ∧
      w.heap.size ≤ (w1.alloc (.cells #[.int .i64 (t / 3600), .int .i64 (t % 3600 / 60), .int .i64 (t % 60)] 155)).drew.heap.size ∧
      Env (w1.alloc (.cells #[.int .i64 (t / 3600), .int .i64 (t % 3600 / 60), .int .i64 (t % 60)] 155)).drew ∧
      Below w.heap.size w (w1.alloc (.cells #[.int .i64 (t / 3600), .int .i64 (t % 3600 / 60), .int .i64 (t % 60)] 155)).drew := by
    have hs := hb1.size
    refine ⟨?_, ?_, ?_, ?_, ?_, (hE1.alloc _).drew, (hb1.alloc hb1.size _).drew⟩
    · show (w1.alloc _).cell? _ = _; go_simp
    · show (w1.alloc _).cell? _ = _; go_simp
    · show (w1.alloc _).cell? _ = _; go_simp
    · show _ < (w1.alloc _).heap.size; simp
    · show _ ≤ (w1.alloc _).heap.size; simp; omega
  clear hE1 hE hb1
  go_region_held3 (fun w' => w'.cell? ⟨w1.heap.size, 0, none⟩ = some (.int .i64 (t / 3600)) ∧ w'.cell? ⟨w1.heap.size, 1, none⟩ = some (.int .i64 (t % 3600 / 60)) ∧ w'.cell? ⟨w1.heap.size, 2, none⟩ = some (.int .i64 (t % 60)) ∧ w1.heap.size < w'.heap.size ∧ w.heap.size ≤ w'.heap.size ∧ Env w' ∧ Below w.heap.size w w')
    (first | assumption | exact keep_parts (by assumption) (by assumption))
    (first
      | (go_at_call 122; refine (fmt_any _ _ (env_of_parts (B := w.heap.size) (b1 := w1.heap.size) (w0 := w) (x1 := .int .i64 (t / 3600)) (x2 := .int .i64 (t % 3600 / 60)) (x3 := .int .i64 (t % 60)) (by assumption)) (by omega) (by omega)).mono ?_; rintro e w' ⟨rfl, hb⟩)
      | (go_at_call 123; refine (twoDigits_any _ _ (env_of_parts (B := w.heap.size) (b1 := w1.heap.size) (w0 := w) (x1 := .int .i64 (t / 3600)) (x2 := .int .i64 (t % 3600 / 60)) (x3 := .int .i64 (t % 60)) (by assumption)) (by omega) (by omega)).mono ?_; rintro e w' ⟨rfl, hb⟩))
  all_goals go_wp2_with fail
  · refine (twoDigits_any _ _ (env_of_parts (B := w.heap.size) (b1 := w1.heap.size) (w0 := w) (x1 := .int .i64 (t / 3600)) (x2 := .int .i64 (t % 3600 / 60)) (x3 := .int .i64 (t % 60)) (by assumption)) (by omega) (by omega)).mono ?_
    rintro e w2 ⟨rfl, hb2⟩
    have q4 : (two (t % 60)).length ≤ 2 := Nat.le_refl _
    go_wp2_with fail
    go_ret
    exact ⟨ret_bytes (txt0_yes t (by assumption)), below_trans_parts (b1 := w1.heap.size) (x1 := .int .i64 (t / 3600)) (x2 := .int .i64 (t % 3600 / 60)) (x3 := .int .i64 (t % 60)) (by assumption) hb2⟩
  · go_ret
    exact ⟨ret_bytes (txt0_no t (by assumption)), below_trans_parts (b1 := w1.heap.size) (x1 := .int .i64 (t / 3600)) (x2 := .int .i64 (t % 3600 / 60)) (x3 := .int .i64 (t % 60)) (by assumption) (Below.refl _ _)⟩
set_option maxHeartbeats 4000000 in
set_option maxRecDepth 100000 in
theorem text_neg (t : Int) (w : World) (hE : Env w) (h1 : 1 ≤ t) (h2 : t ≤ 604800) :
    Calls Tryz.prog 73 #[.int .i64 (-t)] w fun e w' => e = .returned (.string ⟨(45 :: txt0 t).toArray⟩) ∧ Below w.heap.size w w' := by
  have hl := itoa_len (t / 3600) (by omega) (by omega)
  have hl2 : (two (t % 3600 / 60)).length ≤ 2 := Nat.le_refl _
  have ht0 : -t < 0 := by omega
  have q1 : ¬ 9223372036854775807 < 1 + (Lib.itoa (t / 3600)).length := by omega
  have q2 : ¬ 9223372036854775807 < 1 + (Lib.itoa (t / 3600)).length + 1 := by omega
  have q3 : ¬ 9223372036854775807 < 1 + (Lib.itoa (t / 3600)).length + 1 + (two (t % 3600 / 60)).length := by omega
  go_enter Tryz.func73, Tryz.ntmps73
  go_wp2_with fail
  refine (isTime_yes (-t) _ (by omega) (by omega)).mono ?_
  rintro e w' ⟨rfl, rfl⟩
  go_wp2_with fail
  refine (cut_any t _ hE (by omega) h2).mono ?_
  rintro e w1 ⟨rfl, hb1⟩
  have hE1 := hE.below hb1
  go_wp2_with fail
  have S0 : (w1.alloc (.cells #[.int .i64 (t / 3600), .int .i64 (t % 3600 / 60), .int .i64 (t % 60)] 155)).drew.cell? ⟨w1.heap.size, 0, none⟩ = some (.int .i64 (t / 3600)) ∧
      (w1.alloc (.cells #[.int .i64 (t / 3600), .int .i64 (t % 3600 / 60), .int .i64 (t % 60)] 155)).drew.cell? ⟨w1.heap.size, 1, none⟩ = some (.int .i64 (t % 3600 / 60)) ∧
      (w1.alloc (.cells #[.int .i64 (t / 3600), .int .i64 (t % 3600 / 60), .int .i64 (t % 60)] 155)).drew.cell? ⟨w1.heap.size, 2, none⟩ = some (.int .i64 (t % 60)) ∧
      w1.heap.size < (w1.alloc (.cells #[.int .i64 (t / 3600), .int .i64 (t % 3600 / 60), .int .i64 (t % 60)] 155)).drew.heap.size ∧
      w.heap.size ≤ (w1.alloc (.cells #[.int .i64 (t / 3600), .int .i64 (t % 3600 / 60), .int .i64 (t % 60)] 155)).drew.heap.size ∧
      Env (w1.alloc (.cells #[.int .i64 (t / 3600), .int .i64 (t % 3600 / 60), .int .i64 (t % 60)] 155)).drew ∧
      Below w.heap.size w (w1.alloc (.cells #[.int .i64 (t / 3600), .int .i64 (t % 3600 / 60), .int .i64 (t % 60)] 155)).drew := by
    have hs := hb1.size
    refine ⟨?_, ?_, ?_, ?_, ?_, (hE1.alloc _).drew, (hb1.alloc hb1.size _).drew⟩
    · show (w1.alloc _).cell? _ = _; go_simp
    · show (w1.alloc _).cell? _ = _; go_simp
    · show (w1.alloc _).cell? _ = _; go_simp
    · show _ < (w1.alloc _).heap.size; simp
    · show _ ≤ (w1.alloc _).heap.size; simp; omega
  clear hE1 hE hb1
  go_region_held3 (fun w' => w'.cell? ⟨w1.heap.size, 0, none⟩ = some (.int .i64 (t / 3600)) ∧ w'.cell? ⟨w1.heap.size, 1, none⟩ = some (.int .i64 (t % 3600 / 60)) ∧ w'.cell? ⟨w1.heap.size, 2, none⟩ = some (.int .i64 (t % 60)) ∧ w1.heap.size < w'.heap.size ∧ w.heap.size ≤ w'.heap.size ∧ Env w' ∧ Below w.heap.size w w')
    (first | assumption | exact keep_parts (by assumption) (by assumption))
    (first
      | (go_at_call 122; refine (fmt_any _ _ (env_of_parts (B := w.heap.size) (b1 := w1.heap.size) (w0 := w) (x1 := .int .i64 (t / 3600)) (x2 := .int .i64 (t % 3600 / 60)) (x3 := .int .i64 (t % 60)) (by assumption)) (by omega) (by omega)).mono ?_; rintro e w' ⟨rfl, hb⟩)
      | (go_at_call 123; refine (twoDigits_any _ _ (env_of_parts (B := w.heap.size) (b1 := w1.heap.size) (w0 := w) (x1 := .int .i64 (t / 3600)) (x2 := .int .i64 (t % 3600 / 60)) (x3 := .int .i64 (t % 60)) (by assumption)) (by omega) (by omega)).mono ?_; rintro e w' ⟨rfl, hb⟩))
  all_goals go_wp2_with fail
  · refine (twoDigits_any _ _ (env_of_parts (B := w.heap.size) (b1 := w1.heap.size) (w0 := w) (x1 := .int .i64 (t / 3600)) (x2 := .int .i64 (t % 3600 / 60)) (x3 := .int .i64 (t % 60)) (by assumption)) (by omega) (by omega)).mono ?_
    rintro e w2 ⟨rfl, hb2⟩
    have q4 : (two (t % 60)).length ≤ 2 := Nat.le_refl _
    go_wp2_with fail
    go_ret
    exact ⟨ret_bytes (txtn_yes t (by assumption)), below_trans_parts (b1 := w1.heap.size) (x1 := .int .i64 (t / 3600)) (x2 := .int .i64 (t % 3600 / 60)) (x3 := .int .i64 (t % 60)) (by assumption) hb2⟩
  · go_ret
    exact ⟨ret_bytes (txtn_no t (by assumption)), below_trans_parts (b1 := w1.heap.size) (x1 := .int .i64 (t / 3600)) (x2 := .int .i64 (t % 3600 / 60)) (x3 := .int .i64 (t % 60)) (by assumption) (Below.refl _ _)⟩
theorem text_out (t : Int) (w : World) (h : t < -604800 ∨ 604800 < t) :
    Calls Tryz.prog 73 #[.int .i64 t] w fun e w' => e = .returned (.string ByteArray.empty) ∧ Below w.heap.size w w' := by
  have H := Lib.hid h
  clear h
  go_enter Tryz.func73, Tryz.ntmps73
  go_wp2_with fail
  refine (isTime_no t _ H.out).mono ?_
  rintro e w' ⟨rfl, rfl⟩
  go_wp2_with fail
  go_ret
  exact ⟨rfl, Below.refl _ _⟩
theorem text_in (t : Int) (w : World) (hE : Env w) (h1 : -604800 ≤ t) (h2 : t ≤ 604800) :
    Calls Tryz.prog 73 #[.int .i64 t] w fun e w' => e = .returned (.string ⟨(txt t).toArray⟩) ∧ Below w.heap.size w w' := by
  unfold txt
  by_cases h : t < 0
  · rw [if_pos h]
    have := text_neg (-t) w hE (by omega) (by omega)
    rw [Int.neg_neg] at this
    exact this
  · rw [if_neg h]
    exact text_pos t w hE (by omega) h2
end Go.Proofs.YtkcbmnboccjnnaaGreatDoor
/- The contract of clock.Parse, first part: a text cut to pieces, and what they tell. -/

namespace Go.Proofs.YtkcbmnboccjnnaaGreatDoor
open Go.RowKit
theorem splitn_any (s : ByteArray) (L : List ByteArray) (w : World) (hE : Env w) (hs : s.size ≤ 4096) (hL : Hid (Lib.splitB ⟨#[58]⟩ 0 (min 3 (s.size + 1) - 1) s = L)) :
    Calls Tryz.prog 229 #[.string s, .string ⟨#[58]⟩, .int .i64 3] w fun e w' => e = .returned (.slice (some ⟨w.heap.size, 0, none⟩) L.length (min 3 (s.size + 1))) ∧ Below w.heap.size w w' ∧ w.heap.size < w'.heap.size ∧
      ∀ i p, L[i]? = some p → w'.cell? ⟨w.heap.size, i, none⟩ = some (.string p) := by
  obtain ⟨m, hm⟩ := hE.longest
  have h := Tryz.strings_SplitN s ⟨#[58]⟩ 3 m w (by omega) hm (by decide) (by omega) (by omega)
  refine h.mono fun e w' ⟨he, hw⟩ => ?_
  rw [hL.out] at he hw
  subst hw
  refine ⟨he, (Below.refl _ _).alloc (Nat.le_refl _) _, by simp, fun i p hp => ?_⟩
  have hi : i < L.length := (List.getElem?_eq_some_iff.1 hp).1
  rw [World.cell?_alloc_new]
  unfold Lib.cellsOf
  simp [List.getElem?_append, hi]
  exact (List.getElem?_eq_some_iff.1 hp).2
theorem bytes_list (s : ByteArray) : (⟨s.data.toList.toArray⟩ : ByteArray) = s := by simp
/-- The pieces of a text, as the program has them. -/
def pieces (s : ByteArray) : List ByteArray := Lib.splitB ⟨#[58]⟩ 0 (min 3 (s.size + 1) - 1) s
theorem pieces_data (s : ByteArray) : (pieces s).map (·.data.toList) = Lib.splitK [58] 0 2 s.data.toList := by
  unfold pieces
  rw [Lib.splitB_data, ← Txt.split_min]
  rw [Lib.size_eq]
theorem pieces_Q (s : ByteArray) : Txt.Q 0 ((pieces s).map (·.data.toList)) = Txt.G 0 [] s.data.toList := by
  rw [pieces_data, Txt.Q_split 2 0 _ rfl]
theorem pieces_len (s : ByteArray) : 1 ≤ (pieces s).length ∧ (pieces s).length ≤ 3 := by
  have := Txt.split_len 2 s.data.toList
  rw [← pieces_data, List.length_map] at this
  exact this
/-- The world in the midst of reading: what has been read stands in the second new block, the result's place in the first one, the pieces in the third one. -/
structure Mid (w W : World) (a b c : Int) (L : List ByteArray) : Prop where
  p0 : W.cell? ⟨w.heap.size + 1, 0, none⟩ = some (.int .i64 a)
  p1 : W.cell? ⟨w.heap.size + 1, 1, none⟩ = some (.int .i64 b)
  p2 : W.cell? ⟨w.heap.size + 1, 2, none⟩ = some (.int .i64 c)
  r0 : W.cell? ⟨w.heap.size, 0, none⟩ = some (.int .i64 0)
  r1 : W.cell? ⟨w.heap.size, 1, none⟩ = some (.int .i64 0)
  r2 : W.cell? ⟨w.heap.size, 2, none⟩ = some (.int .i64 0)
  pf : ∀ o, W.frozen? ⟨w.heap.size + 1, o, none⟩ = false
  rf : ∀ o, W.frozen? ⟨w.heap.size, o, none⟩ = false
  sz : w.heap.size + 2 < W.heap.size
  bl : Below w.heap.size w W
  ps : ∀ i p, L[i]? = some p → W.cell? ⟨w.heap.size + 1 + 1, i, none⟩ = some (.string p)
theorem addr_ne_off {b i j : Nat} (h : i ≠ j) : (⟨b, i, none⟩ : Addr) ≠ ⟨b, j, none⟩ := fun e => h (by injection e)
theorem addr_ne_block {b c i j : Nat} (h : b ≠ c) : (⟨b, i, none⟩ : Addr) ≠ ⟨c, j, none⟩ := fun e => h (by injection e)
theorem Mid.set0 {w W : World} {a b c : Int} {L : List ByteArray} (h : Mid w W a b c L) (v : Int) : Mid w (W.setCell ⟨w.heap.size + 1, 0, none⟩ (.int .i64 v)) v b c L where
  p0 := World.cell?_setCell_same _ _ _ h.p0
  p1 := (World.cell?_setCell_other _ _ _ _ (addr_ne_off (by omega))).trans h.p1
  p2 := (World.cell?_setCell_other _ _ _ _ (addr_ne_off (by omega))).trans h.p2
  r0 := (World.cell?_setCell_other _ _ _ _ (addr_ne_block (by omega))).trans h.r0
  r1 := (World.cell?_setCell_other _ _ _ _ (addr_ne_block (by omega))).trans h.r1
  r2 := (World.cell?_setCell_other _ _ _ _ (addr_ne_block (by omega))).trans h.r2
  pf := fun o => by rw [World.frozen?_setCell]; exact h.pf o
  rf := fun o => by rw [World.frozen?_setCell]; exact h.rf o
  sz := by rw [World.size_setCell]; exact h.sz
  bl := h.bl.setCell (by show w.heap.size ≤ w.heap.size + 1; omega) _
  ps := fun i p hp => (World.cell?_setCell_other _ _ _ _ (addr_ne_block (by omega))).trans (h.ps i p hp)
theorem Mid.set1 {w W : World} {a b c : Int} {L : List ByteArray} (h : Mid w W a b c L) (v : Int) : Mid w (W.setCell ⟨w.heap.size + 1, 1, none⟩ (.int .i64 v)) a v c L where
  p1 := World.cell?_setCell_same _ _ _ h.p1
  p0 := (World.cell?_setCell_other _ _ _ _ (addr_ne_off (by omega))).trans h.p0
  p2 := (World.cell?_setCell_other _ _ _ _ (addr_ne_off (by omega))).trans h.p2
  r0 := (World.cell?_setCell_other _ _ _ _ (addr_ne_block (by omega))).trans h.r0
  r1 := (World.cell?_setCell_other _ _ _ _ (addr_ne_block (by omega))).trans h.r1
  r2 := (World.cell?_setCell_other _ _ _ _ (addr_ne_block (by omega))).trans h.r2
  pf := fun o => by rw [World.frozen?_setCell]; exact h.pf o
  rf := fun o => by rw [World.frozen?_setCell]; exact h.rf o
  sz := by rw [World.size_setCell]; exact h.sz
  bl := h.bl.setCell (by show w.heap.size ≤ w.heap.size + 1; omega) _
  ps := fun i p hp => (World.cell?_setCell_other _ _ _ _ (addr_ne_block (by omega))).trans (h.ps i p hp)
theorem Mid.set2 {w W : World} {a b c : Int} {L : List ByteArray} (h : Mid w W a b c L) (v : Int) : Mid w (W.setCell ⟨w.heap.size + 1, 2, none⟩ (.int .i64 v)) a b v L where
  p2 := World.cell?_setCell_same _ _ _ h.p2
  p0 := (World.cell?_setCell_other _ _ _ _ (addr_ne_off (by omega))).trans h.p0
  p1 := (World.cell?_setCell_other _ _ _ _ (addr_ne_off (by omega))).trans h.p1
  r0 := (World.cell?_setCell_other _ _ _ _ (addr_ne_block (by omega))).trans h.r0
  r1 := (World.cell?_setCell_other _ _ _ _ (addr_ne_block (by omega))).trans h.r1
  r2 := (World.cell?_setCell_other _ _ _ _ (addr_ne_block (by omega))).trans h.r2
  pf := fun o => by rw [World.frozen?_setCell]; exact h.pf o
  rf := fun o => by rw [World.frozen?_setCell]; exact h.rf o
  sz := by rw [World.size_setCell]; exact h.sz
  bl := h.bl.setCell (by show w.heap.size ≤ w.heap.size + 1; omega) _
  ps := fun i p hp => (World.cell?_setCell_other _ _ _ _ (addr_ne_block (by omega))).trans (h.ps i p hp)
theorem mid_start (w w1 : World) (L : List ByteArray) {o1 o2 : Obj} (h1 : o1 = .cells #[.int .i64 0, .int .i64 0, .int .i64 0] 155) (h2 : o2 = .cells #[.int .i64 0, .int .i64 0, .int .i64 0] 155) (hb1 : Below ((w.alloc o1).alloc o2).heap.size ((w.alloc o1).alloc o2) w1) (hl1 : ((w.alloc o1).alloc o2).heap.size < w1.heap.size)
    (hp1 : ∀ i p, L[i]? = some p → w1.cell? ⟨((w.alloc o1).alloc o2).heap.size, i, none⟩ = some (.string p)) : Mid w w1 0 0 0 L := by
  subst h1 h2
  obtain ⟨hc1, hf1⟩ := bcell hb1
  have hz : ((w.alloc (.cells #[.int .i64 0, .int .i64 0, .int .i64 0] 155)).alloc (.cells #[.int .i64 0, .int .i64 0, .int .i64 0] 155)).heap.size = w.heap.size + 1 + 1 := by simp
  rw [hz] at hl1 hp1
  refine ⟨?_, ?_, ?_, ?_, ?_, ?_, ?_, ?_, by omega, ((((Below.refl w.heap.size w).alloc (Nat.le_refl _) _).alloc (by simp) _).trans (hb1.mono (by simp; omega))), hp1⟩
  · rw [hc1 _ _ (by rw [hz]; omega)]; go_simp
  · rw [hc1 _ _ (by rw [hz]; omega)]; go_simp
  · rw [hc1 _ _ (by rw [hz]; omega)]; go_simp
  · rw [hc1 _ _ (by rw [hz]; omega)]; go_simp
  · rw [hc1 _ _ (by rw [hz]; omega)]; go_simp
  · rw [hc1 _ _ (by rw [hz]; omega)]; go_simp
  · intro o; rw [hf1 _ _ (by rw [hz]; omega)]; go_simp
  · intro o; rw [hf1 _ _ (by rw [hz]; omega)]; go_simp
set_option maxHeartbeats 2000000 in
set_option maxRecDepth 100000 in
theorem read_1_yes (s q0 : ByteArray) (v0 : Int) (w : World) (hE : Env w) (hs : s.size ≤ 4096) (hL : Hid (pieces s = [q0])) (H0 : Hid (Txt.piece 0 q0.data.toList = some v0)) :
    Calls Tryz.prog 218 #[.string s] w fun e w' => e = .returned (.tuple #[.agg #[.int .i64 v0, .int .i64 0, .int .i64 0], .bool true]) ∧ Below w.heap.size w w' := by
  have hE2 := (hE.alloc (.cells #[.int .i64 0, .int .i64 0, .int .i64 0] 155)).alloc (.cells #[.int .i64 0, .int .i64 0, .int .i64 0] 155)
  clear hE
  go_enter Tryz.func218, Tryz.ntmps218
  go_wp2_with fail
  refine (splitn_any s _ _ hE2 hs hL).mono ?_
  rintro e w1 ⟨rfl, hb1, hl1, hp1⟩
  have hM : Mid w w1 0 0 0 [q0] := mid_start w w1 _ rfl rfl hb1 hl1 hp1
  clear hb1 hp1 hE2 hl1
  have p0 := hM.p0
  have p1 := hM.p1
  have p2 := hM.p2
  have r0 := hM.r0
  have r1 := hM.r1
  have r2 := hM.r2
  have pf := hM.pf
  have rf := hM.rf
  have sz := hM.sz
  have c0 := hM.ps 0 q0 rfl
  go_wp2_with fail
  refine wp_loop_rounds 4 ?_
  rw [rounds_succ]
  go_wp2_with (go_at_call 230; refine (readPart_yes 0 q0 v0 _ (by omega) H0).mono ?_; rintro e w' ⟨rfl, rfl⟩)
  replace hM := hM.set0 v0
  clear p0 p1 p2 r0 r1 r2 pf rf sz c0
  generalize World.setCell _ ⟨w.heap.size + 1, 0, none⟩ (.int .i64 v0) = W0 at *
  have p0 := hM.p0
  have p1 := hM.p1
  have p2 := hM.p2
  have r0 := hM.r0
  have r1 := hM.r1
  have r2 := hM.r2
  have pf := hM.pf
  have rf := hM.rf
  have sz := hM.sz
  have c0 := hM.ps 0 q0 rfl
  rw [rounds_succ]
  go_wp2_with fail
  refine bodyPost_ret (v := .tuple #[.agg #[.int .i64 v0, .int .i64 0, .int .i64 0], .bool true]) (by simp [results, Tryz.results218, go_sem, r0, r1, r2]) rfl ⟨rfl, ?_⟩
  have hB := hM.bl
  repeat (first | exact Below.refl _ _ | assumption | refine below_drewN ?_ _ | refine Below.drew ?_ | refine Below.setCell ?_ (by first | omega | (simp; done) | (simp; omega)) _ | refine Below.alloc ?_ (by first | omega | (simp; done) | (simp; omega)) _)
set_option maxHeartbeats 2000000 in
set_option maxRecDepth 100000 in
theorem read_1_no0 (s q0 : ByteArray)  (w : World) (hE : Env w) (hs : s.size ≤ 4096) (hL : Hid (pieces s = [q0]))  (H0 : Hid (Txt.piece 0 q0.data.toList = none)) :
    Calls Tryz.prog 218 #[.string s] w fun e w' => e = .returned (.tuple #[.agg #[.int .i64 0, .int .i64 0, .int .i64 0], .bool false]) ∧ Below w.heap.size w w' := by
  have hE2 := (hE.alloc (.cells #[.int .i64 0, .int .i64 0, .int .i64 0] 155)).alloc (.cells #[.int .i64 0, .int .i64 0, .int .i64 0] 155)
  clear hE
  go_enter Tryz.func218, Tryz.ntmps218
  go_wp2_with fail
  refine (splitn_any s _ _ hE2 hs hL).mono ?_
  rintro e w1 ⟨rfl, hb1, hl1, hp1⟩
  have hM : Mid w w1 0 0 0 [q0] := mid_start w w1 _ rfl rfl hb1 hl1 hp1
  clear hb1 hp1 hE2 hl1
  have p0 := hM.p0
  have p1 := hM.p1
  have p2 := hM.p2
  have r0 := hM.r0
  have r1 := hM.r1
  have r2 := hM.r2
  have pf := hM.pf
  have rf := hM.rf
  have sz := hM.sz
  have c0 := hM.ps 0 q0 rfl
  go_wp2_with fail
  refine wp_loop_rounds 4 ?_
  rw [rounds_succ]
  go_wp2_with fail
  obtain ⟨x, hx⟩ := readPart_no 0 q0 _ (by omega) H0
  refine hx.mono ?_
  rintro e w' ⟨rfl, rfl⟩
  go_wp2_with fail
  refine bodyPost_ret (v := .tuple #[.agg #[.int .i64 0, .int .i64 0, .int .i64 0], .bool false]) (by simp [results, Tryz.results218, go_sem, r0, r1, r2]) rfl ⟨rfl, ?_⟩
  have hB := hM.bl
  repeat (first | exact Below.refl _ _ | assumption | refine below_drewN ?_ _ | refine Below.drew ?_ | refine Below.setCell ?_ (by first | omega | (simp; done) | (simp; omega)) _ | refine Below.alloc ?_ (by first | omega | (simp; done) | (simp; omega)) _)
set_option maxHeartbeats 2000000 in
set_option maxRecDepth 100000 in
theorem read_2_yes (s q0 q1 : ByteArray) (v0 v1 : Int) (w : World) (hE : Env w) (hs : s.size ≤ 4096) (hL : Hid (pieces s = [q0, q1])) (H0 : Hid (Txt.piece 0 q0.data.toList = some v0)) (H1 : Hid (Txt.piece 1 q1.data.toList = some v1)) :
    Calls Tryz.prog 218 #[.string s] w fun e w' => e = .returned (.tuple #[.agg #[.int .i64 v0, .int .i64 v1, .int .i64 0], .bool true]) ∧ Below w.heap.size w w' := by
  have hE2 := (hE.alloc (.cells #[.int .i64 0, .int .i64 0, .int .i64 0] 155)).alloc (.cells #[.int .i64 0, .int .i64 0, .int .i64 0] 155)
  clear hE
  go_enter Tryz.func218, Tryz.ntmps218
  go_wp2_with fail
  refine (splitn_any s _ _ hE2 hs hL).mono ?_
  rintro e w1 ⟨rfl, hb1, hl1, hp1⟩
  have hM : Mid w w1 0 0 0 [q0, q1] := mid_start w w1 _ rfl rfl hb1 hl1 hp1
  clear hb1 hp1 hE2 hl1
  have p0 := hM.p0
  have p1 := hM.p1
  have p2 := hM.p2
  have r0 := hM.r0
  have r1 := hM.r1
  have r2 := hM.r2
  have pf := hM.pf
  have rf := hM.rf
  have sz := hM.sz
  have c0 := hM.ps 0 q0 rfl
  have c1 := hM.ps 1 q1 rfl
  go_wp2_with fail
  refine wp_loop_rounds 4 ?_
  rw [rounds_succ]
  go_wp2_with (go_at_call 230; refine (readPart_yes 0 q0 v0 _ (by omega) H0).mono ?_; rintro e w' ⟨rfl, rfl⟩)
  replace hM := hM.set0 v0
  clear p0 p1 p2 r0 r1 r2 pf rf sz c0 c1
  generalize World.setCell _ ⟨w.heap.size + 1, 0, none⟩ (.int .i64 v0) = W0 at *
  have p0 := hM.p0
  have p1 := hM.p1
  have p2 := hM.p2
  have r0 := hM.r0
  have r1 := hM.r1
  have r2 := hM.r2
  have pf := hM.pf
  have rf := hM.rf
  have sz := hM.sz
  have c0 := hM.ps 0 q0 rfl
  have c1 := hM.ps 1 q1 rfl
  rw [rounds_succ]
  go_wp2_with (go_at_call 230; refine (readPart_yes 1 q1 v1 _ (by omega) H1).mono ?_; rintro e w' ⟨rfl, rfl⟩)
  replace hM := hM.set1 v1
  clear p0 p1 p2 r0 r1 r2 pf rf sz c0 c1
  generalize World.setCell _ ⟨w.heap.size + 1, 1, none⟩ (.int .i64 v1) = W1 at *
  have p0 := hM.p0
  have p1 := hM.p1
  have p2 := hM.p2
  have r0 := hM.r0
  have r1 := hM.r1
  have r2 := hM.r2
  have pf := hM.pf
  have rf := hM.rf
  have sz := hM.sz
  have c0 := hM.ps 0 q0 rfl
  have c1 := hM.ps 1 q1 rfl
  rw [rounds_succ]
  go_wp2_with fail
  refine bodyPost_ret (v := .tuple #[.agg #[.int .i64 v0, .int .i64 v1, .int .i64 0], .bool true]) (by simp [results, Tryz.results218, go_sem, r0, r1, r2]) rfl ⟨rfl, ?_⟩
  have hB := hM.bl
  repeat (first | exact Below.refl _ _ | assumption | refine below_drewN ?_ _ | refine Below.drew ?_ | refine Below.setCell ?_ (by first | omega | (simp; done) | (simp; omega)) _ | refine Below.alloc ?_ (by first | omega | (simp; done) | (simp; omega)) _)
set_option maxHeartbeats 2000000 in
set_option maxRecDepth 100000 in
theorem read_2_no0 (s q0 q1 : ByteArray)  (w : World) (hE : Env w) (hs : s.size ≤ 4096) (hL : Hid (pieces s = [q0, q1]))  (H0 : Hid (Txt.piece 0 q0.data.toList = none)) :
    Calls Tryz.prog 218 #[.string s] w fun e w' => e = .returned (.tuple #[.agg #[.int .i64 0, .int .i64 0, .int .i64 0], .bool false]) ∧ Below w.heap.size w w' := by
  have hE2 := (hE.alloc (.cells #[.int .i64 0, .int .i64 0, .int .i64 0] 155)).alloc (.cells #[.int .i64 0, .int .i64 0, .int .i64 0] 155)
  clear hE
  go_enter Tryz.func218, Tryz.ntmps218
  go_wp2_with fail
  refine (splitn_any s _ _ hE2 hs hL).mono ?_
  rintro e w1 ⟨rfl, hb1, hl1, hp1⟩
  have hM : Mid w w1 0 0 0 [q0, q1] := mid_start w w1 _ rfl rfl hb1 hl1 hp1
  clear hb1 hp1 hE2 hl1
  have p0 := hM.p0
  have p1 := hM.p1
  have p2 := hM.p2
  have r0 := hM.r0
  have r1 := hM.r1
  have r2 := hM.r2
  have pf := hM.pf
  have rf := hM.rf
  have sz := hM.sz
  have c0 := hM.ps 0 q0 rfl
  have c1 := hM.ps 1 q1 rfl
  go_wp2_with fail
  refine wp_loop_rounds 4 ?_
  rw [rounds_succ]
  go_wp2_with fail
  obtain ⟨x, hx⟩ := readPart_no 0 q0 _ (by omega) H0
  refine hx.mono ?_
  rintro e w' ⟨rfl, rfl⟩
  go_wp2_with fail
  refine bodyPost_ret (v := .tuple #[.agg #[.int .i64 0, .int .i64 0, .int .i64 0], .bool false]) (by simp [results, Tryz.results218, go_sem, r0, r1, r2]) rfl ⟨rfl, ?_⟩
  have hB := hM.bl
  repeat (first | exact Below.refl _ _ | assumption | refine below_drewN ?_ _ | refine Below.drew ?_ | refine Below.setCell ?_ (by first | omega | (simp; done) | (simp; omega)) _ | refine Below.alloc ?_ (by first | omega | (simp; done) | (simp; omega)) _)
set_option maxHeartbeats 2000000 in
set_option maxRecDepth 100000 in
theorem read_2_no1 (s q0 q1 : ByteArray) (v0 : Int) (w : World) (hE : Env w) (hs : s.size ≤ 4096) (hL : Hid (pieces s = [q0, q1])) (H0 : Hid (Txt.piece 0 q0.data.toList = some v0)) (H1 : Hid (Txt.piece 1 q1.data.toList = none)) :
    Calls Tryz.prog 218 #[.string s] w fun e w' => e = .returned (.tuple #[.agg #[.int .i64 v0, .int .i64 0, .int .i64 0], .bool false]) ∧ Below w.heap.size w w' := by
  have hE2 := (hE.alloc (.cells #[.int .i64 0, .int .i64 0, .int .i64 0] 155)).alloc (.cells #[.int .i64 0, .int .i64 0, .int .i64 0] 155)
  clear hE
  go_enter Tryz.func218, Tryz.ntmps218
  go_wp2_with fail
  refine (splitn_any s _ _ hE2 hs hL).mono ?_
  rintro e w1 ⟨rfl, hb1, hl1, hp1⟩
  have hM : Mid w w1 0 0 0 [q0, q1] := mid_start w w1 _ rfl rfl hb1 hl1 hp1
  clear hb1 hp1 hE2 hl1
  have p0 := hM.p0
  have p1 := hM.p1
  have p2 := hM.p2
  have r0 := hM.r0
  have r1 := hM.r1
  have r2 := hM.r2
  have pf := hM.pf
  have rf := hM.rf
  have sz := hM.sz
  have c0 := hM.ps 0 q0 rfl
  have c1 := hM.ps 1 q1 rfl
  go_wp2_with fail
  refine wp_loop_rounds 4 ?_
  rw [rounds_succ]
  go_wp2_with (go_at_call 230; refine (readPart_yes 0 q0 v0 _ (by omega) H0).mono ?_; rintro e w' ⟨rfl, rfl⟩)
  replace hM := hM.set0 v0
  clear p0 p1 p2 r0 r1 r2 pf rf sz c0 c1
  generalize World.setCell _ ⟨w.heap.size + 1, 0, none⟩ (.int .i64 v0) = W0 at *
  have p0 := hM.p0
  have p1 := hM.p1
  have p2 := hM.p2
  have r0 := hM.r0
  have r1 := hM.r1
  have r2 := hM.r2
  have pf := hM.pf
  have rf := hM.rf
  have sz := hM.sz
  have c0 := hM.ps 0 q0 rfl
  have c1 := hM.ps 1 q1 rfl
  rw [rounds_succ]
  go_wp2_with fail
  obtain ⟨x, hx⟩ := readPart_no 1 q1 _ (by omega) H1
  refine hx.mono ?_
  rintro e w' ⟨rfl, rfl⟩
  go_wp2_with fail
  refine bodyPost_ret (v := .tuple #[.agg #[.int .i64 v0, .int .i64 0, .int .i64 0], .bool false]) (by simp [results, Tryz.results218, go_sem, r0, r1, r2]) rfl ⟨rfl, ?_⟩
  have hB := hM.bl
  repeat (first | exact Below.refl _ _ | assumption | refine below_drewN ?_ _ | refine Below.drew ?_ | refine Below.setCell ?_ (by first | omega | (simp; done) | (simp; omega)) _ | refine Below.alloc ?_ (by first | omega | (simp; done) | (simp; omega)) _)
set_option maxHeartbeats 2000000 in
set_option maxRecDepth 100000 in
theorem read_3_yes (s q0 q1 q2 : ByteArray) (v0 v1 v2 : Int) (w : World) (hE : Env w) (hs : s.size ≤ 4096) (hL : Hid (pieces s = [q0, q1, q2])) (H0 : Hid (Txt.piece 0 q0.data.toList = some v0)) (H1 : Hid (Txt.piece 1 q1.data.toList = some v1)) (H2 : Hid (Txt.piece 2 q2.data.toList = some v2)) :
    Calls Tryz.prog 218 #[.string s] w fun e w' => e = .returned (.tuple #[.agg #[.int .i64 v0, .int .i64 v1, .int .i64 v2], .bool true]) ∧ Below w.heap.size w w' := by
  have hE2 := (hE.alloc (.cells #[.int .i64 0, .int .i64 0, .int .i64 0] 155)).alloc (.cells #[.int .i64 0, .int .i64 0, .int .i64 0] 155)
  clear hE
  go_enter Tryz.func218, Tryz.ntmps218
  go_wp2_with fail
  refine (splitn_any s _ _ hE2 hs hL).mono ?_
  rintro e w1 ⟨rfl, hb1, hl1, hp1⟩
  have hM : Mid w w1 0 0 0 [q0, q1, q2] := mid_start w w1 _ rfl rfl hb1 hl1 hp1
  clear hb1 hp1 hE2 hl1
  have p0 := hM.p0
  have p1 := hM.p1
  have p2 := hM.p2
  have r0 := hM.r0
  have r1 := hM.r1
  have r2 := hM.r2
  have pf := hM.pf
  have rf := hM.rf
  have sz := hM.sz
  have c0 := hM.ps 0 q0 rfl
  have c1 := hM.ps 1 q1 rfl
  have c2 := hM.ps 2 q2 rfl
  go_wp2_with fail
  refine wp_loop_rounds 4 ?_
  rw [rounds_succ]
  go_wp2_with (go_at_call 230; refine (readPart_yes 0 q0 v0 _ (by omega) H0).mono ?_; rintro e w' ⟨rfl, rfl⟩)
  replace hM := hM.set0 v0
  clear p0 p1 p2 r0 r1 r2 pf rf sz c0 c1 c2
  generalize World.setCell _ ⟨w.heap.size + 1, 0, none⟩ (.int .i64 v0) = W0 at *
  have p0 := hM.p0
  have p1 := hM.p1
  have p2 := hM.p2
  have r0 := hM.r0
  have r1 := hM.r1
  have r2 := hM.r2
  have pf := hM.pf
  have rf := hM.rf
  have sz := hM.sz
  have c0 := hM.ps 0 q0 rfl
  have c1 := hM.ps 1 q1 rfl
  have c2 := hM.ps 2 q2 rfl
  rw [rounds_succ]
  go_wp2_with (go_at_call 230; refine (readPart_yes 1 q1 v1 _ (by omega) H1).mono ?_; rintro e w' ⟨rfl, rfl⟩)
  replace hM := hM.set1 v1
  clear p0 p1 p2 r0 r1 r2 pf rf sz c0 c1 c2
  generalize World.setCell _ ⟨w.heap.size + 1, 1, none⟩ (.int .i64 v1) = W1 at *
  have p0 := hM.p0
  have p1 := hM.p1
  have p2 := hM.p2
  have r0 := hM.r0
  have r1 := hM.r1
  have r2 := hM.r2
  have pf := hM.pf
  have rf := hM.rf
  have sz := hM.sz
  have c0 := hM.ps 0 q0 rfl
  have c1 := hM.ps 1 q1 rfl
  have c2 := hM.ps 2 q2 rfl
  rw [rounds_succ]
  go_wp2_with (go_at_call 230; refine (readPart_yes 2 q2 v2 _ (by omega) H2).mono ?_; rintro e w' ⟨rfl, rfl⟩)
  replace hM := hM.set2 v2
  clear p0 p1 p2 r0 r1 r2 pf rf sz c0 c1 c2
  generalize World.setCell _ ⟨w.heap.size + 1, 2, none⟩ (.int .i64 v2) = W2 at *
  have p0 := hM.p0
  have p1 := hM.p1
  have p2 := hM.p2
  have r0 := hM.r0
  have r1 := hM.r1
  have r2 := hM.r2
  have pf := hM.pf
  have rf := hM.rf
  have sz := hM.sz
  have c0 := hM.ps 0 q0 rfl
  have c1 := hM.ps 1 q1 rfl
  have c2 := hM.ps 2 q2 rfl
  rw [rounds_succ]
  go_wp2_with fail
  refine bodyPost_ret (v := .tuple #[.agg #[.int .i64 v0, .int .i64 v1, .int .i64 v2], .bool true]) (by simp [results, Tryz.results218, go_sem, r0, r1, r2]) rfl ⟨rfl, ?_⟩
  have hB := hM.bl
  repeat (first | exact Below.refl _ _ | assumption | refine below_drewN ?_ _ | refine Below.drew ?_ | refine Below.setCell ?_ (by first | omega | (simp; done) | (simp; omega)) _ | refine Below.alloc ?_ (by first | omega | (simp; done) | (simp; omega)) _)
set_option maxHeartbeats 2000000 in
set_option maxRecDepth 100000 in
theorem read_3_no0 (s q0 q1 q2 : ByteArray)  (w : World) (hE : Env w) (hs : s.size ≤ 4096) (hL : Hid (pieces s = [q0, q1, q2]))  (H0 : Hid (Txt.piece 0 q0.data.toList = none)) :
    Calls Tryz.prog 218 #[.string s] w fun e w' => e = .returned (.tuple #[.agg #[.int .i64 0, .int .i64 0, .int .i64 0], .bool false]) ∧ Below w.heap.size w w' := by
  have hE2 := (hE.alloc (.cells #[.int .i64 0, .int .i64 0, .int .i64 0] 155)).alloc (.cells #[.int .i64 0, .int .i64 0, .int .i64 0] 155)
  clear hE
  go_enter Tryz.func218, Tryz.ntmps218
  go_wp2_with fail
  refine (splitn_any s _ _ hE2 hs hL).mono ?_
  rintro e w1 ⟨rfl, hb1, hl1, hp1⟩
  have hM : Mid w w1 0 0 0 [q0, q1, q2] := mid_start w w1 _ rfl rfl hb1 hl1 hp1
  clear hb1 hp1 hE2 hl1
  have p0 := hM.p0
  have p1 := hM.p1
  have p2 := hM.p2
  have r0 := hM.r0
  have r1 := hM.r1
  have r2 := hM.r2
  have pf := hM.pf
  have rf := hM.rf
  have sz := hM.sz
  have c0 := hM.ps 0 q0 rfl
  have c1 := hM.ps 1 q1 rfl
  have c2 := hM.ps 2 q2 rfl
  go_wp2_with fail
  refine wp_loop_rounds 4 ?_
  rw [rounds_succ]
  go_wp2_with fail
  obtain ⟨x, hx⟩ := readPart_no 0 q0 _ (by omega) H0
  refine hx.mono ?_
  rintro e w' ⟨rfl, rfl⟩
  go_wp2_with fail
  refine bodyPost_ret (v := .tuple #[.agg #[.int .i64 0, .int .i64 0, .int .i64 0], .bool false]) (by simp [results, Tryz.results218, go_sem, r0, r1, r2]) rfl ⟨rfl, ?_⟩
  have hB := hM.bl
  repeat (first | exact Below.refl _ _ | assumption | refine below_drewN ?_ _ | refine Below.drew ?_ | refine Below.setCell ?_ (by first | omega | (simp; done) | (simp; omega)) _ | refine Below.alloc ?_ (by first | omega | (simp; done) | (simp; omega)) _)
set_option maxHeartbeats 2000000 in
set_option maxRecDepth 100000 in
theorem read_3_no1 (s q0 q1 q2 : ByteArray) (v0 : Int) (w : World) (hE : Env w) (hs : s.size ≤ 4096) (hL : Hid (pieces s = [q0, q1, q2])) (H0 : Hid (Txt.piece 0 q0.data.toList = some v0)) (H1 : Hid (Txt.piece 1 q1.data.toList = none)) :
    Calls Tryz.prog 218 #[.string s] w fun e w' => e = .returned (.tuple #[.agg #[.int .i64 v0, .int .i64 0, .int .i64 0], .bool false]) ∧ Below w.heap.size w w' := by
  have hE2 := (hE.alloc (.cells #[.int .i64 0, .int .i64 0, .int .i64 0] 155)).alloc (.cells #[.int .i64 0, .int .i64 0, .int .i64 0] 155)
  clear hE
  go_enter Tryz.func218, Tryz.ntmps218
  go_wp2_with fail
  refine (splitn_any s _ _ hE2 hs hL).mono ?_
  rintro e w1 ⟨rfl, hb1, hl1, hp1⟩
  have hM : Mid w w1 0 0 0 [q0, q1, q2] := mid_start w w1 _ rfl rfl hb1 hl1 hp1
  clear hb1 hp1 hE2 hl1
  have p0 := hM.p0
  have p1 := hM.p1
  have p2 := hM.p2
  have r0 := hM.r0
  have r1 := hM.r1
  have r2 := hM.r2
  have pf := hM.pf
  have rf := hM.rf
  have sz := hM.sz
  have c0 := hM.ps 0 q0 rfl
  have c1 := hM.ps 1 q1 rfl
  have c2 := hM.ps 2 q2 rfl
  go_wp2_with fail
  refine wp_loop_rounds 4 ?_
  rw [rounds_succ]
  go_wp2_with (go_at_call 230; refine (readPart_yes 0 q0 v0 _ (by omega) H0).mono ?_; rintro e w' ⟨rfl, rfl⟩)
  replace hM := hM.set0 v0
  clear p0 p1 p2 r0 r1 r2 pf rf sz c0 c1 c2
  generalize World.setCell _ ⟨w.heap.size + 1, 0, none⟩ (.int .i64 v0) = W0 at *
  have p0 := hM.p0
  have p1 := hM.p1
  have p2 := hM.p2
  have r0 := hM.r0
  have r1 := hM.r1
  have r2 := hM.r2
  have pf := hM.pf
  have rf := hM.rf
  have sz := hM.sz
  have c0 := hM.ps 0 q0 rfl
  have c1 := hM.ps 1 q1 rfl
  have c2 := hM.ps 2 q2 rfl
  rw [rounds_succ]
  go_wp2_with fail
  obtain ⟨x, hx⟩ := readPart_no 1 q1 _ (by omega) H1
  refine hx.mono ?_
  rintro e w' ⟨rfl, rfl⟩
  go_wp2_with fail
  refine bodyPost_ret (v := .tuple #[.agg #[.int .i64 v0, .int .i64 0, .int .i64 0], .bool false]) (by simp [results, Tryz.results218, go_sem, r0, r1, r2]) rfl ⟨rfl, ?_⟩
  have hB := hM.bl
  repeat (first | exact Below.refl _ _ | assumption | refine below_drewN ?_ _ | refine Below.drew ?_ | refine Below.setCell ?_ (by first | omega | (simp; done) | (simp; omega)) _ | refine Below.alloc ?_ (by first | omega | (simp; done) | (simp; omega)) _)
set_option maxHeartbeats 2000000 in
set_option maxRecDepth 100000 in
theorem read_3_no2 (s q0 q1 q2 : ByteArray) (v0 v1 : Int) (w : World) (hE : Env w) (hs : s.size ≤ 4096) (hL : Hid (pieces s = [q0, q1, q2])) (H0 : Hid (Txt.piece 0 q0.data.toList = some v0)) (H1 : Hid (Txt.piece 1 q1.data.toList = some v1)) (H2 : Hid (Txt.piece 2 q2.data.toList = none)) :
    Calls Tryz.prog 218 #[.string s] w fun e w' => e = .returned (.tuple #[.agg #[.int .i64 v0, .int .i64 v1, .int .i64 0], .bool false]) ∧ Below w.heap.size w w' := by
  have hE2 := (hE.alloc (.cells #[.int .i64 0, .int .i64 0, .int .i64 0] 155)).alloc (.cells #[.int .i64 0, .int .i64 0, .int .i64 0] 155)
  clear hE
  go_enter Tryz.func218, Tryz.ntmps218
  go_wp2_with fail
  refine (splitn_any s _ _ hE2 hs hL).mono ?_
  rintro e w1 ⟨rfl, hb1, hl1, hp1⟩
  have hM : Mid w w1 0 0 0 [q0, q1, q2] := mid_start w w1 _ rfl rfl hb1 hl1 hp1
  clear hb1 hp1 hE2 hl1
  have p0 := hM.p0
  have p1 := hM.p1
  have p2 := hM.p2
  have r0 := hM.r0
  have r1 := hM.r1
  have r2 := hM.r2
  have pf := hM.pf
  have rf := hM.rf
  have sz := hM.sz
  have c0 := hM.ps 0 q0 rfl
  have c1 := hM.ps 1 q1 rfl
  have c2 := hM.ps 2 q2 rfl
  go_wp2_with fail
  refine wp_loop_rounds 4 ?_
  rw [rounds_succ]
  go_wp2_with (go_at_call 230; refine (readPart_yes 0 q0 v0 _ (by omega) H0).mono ?_; rintro e w' ⟨rfl, rfl⟩)
  replace hM := hM.set0 v0
  clear p0 p1 p2 r0 r1 r2 pf rf sz c0 c1 c2
  generalize World.setCell _ ⟨w.heap.size + 1, 0, none⟩ (.int .i64 v0) = W0 at *
  have p0 := hM.p0
  have p1 := hM.p1
  have p2 := hM.p2
  have r0 := hM.r0
  have r1 := hM.r1
  have r2 := hM.r2
  have pf := hM.pf
  have rf := hM.rf
  have sz := hM.sz
  have c0 := hM.ps 0 q0 rfl
  have c1 := hM.ps 1 q1 rfl
  have c2 := hM.ps 2 q2 rfl
  rw [rounds_succ]
  go_wp2_with (go_at_call 230; refine (readPart_yes 1 q1 v1 _ (by omega) H1).mono ?_; rintro e w' ⟨rfl, rfl⟩)
  replace hM := hM.set1 v1
  clear p0 p1 p2 r0 r1 r2 pf rf sz c0 c1 c2
  generalize World.setCell _ ⟨w.heap.size + 1, 1, none⟩ (.int .i64 v1) = W1 at *
  have p0 := hM.p0
  have p1 := hM.p1
  have p2 := hM.p2
  have r0 := hM.r0
  have r1 := hM.r1
  have r2 := hM.r2
  have pf := hM.pf
  have rf := hM.rf
  have sz := hM.sz
  have c0 := hM.ps 0 q0 rfl
  have c1 := hM.ps 1 q1 rfl
  have c2 := hM.ps 2 q2 rfl
  rw [rounds_succ]
  go_wp2_with fail
  obtain ⟨x, hx⟩ := readPart_no 2 q2 _ (by omega) H2
  refine hx.mono ?_
  rintro e w' ⟨rfl, rfl⟩
  go_wp2_with fail
  refine bodyPost_ret (v := .tuple #[.agg #[.int .i64 v0, .int .i64 v1, .int .i64 0], .bool false]) (by simp [results, Tryz.results218, go_sem, r0, r1, r2]) rfl ⟨rfl, ?_⟩
  have hB := hM.bl
  repeat (first | exact Below.refl _ _ | assumption | refine below_drewN ?_ _ | refine Below.drew ?_ | refine Below.setCell ?_ (by first | omega | (simp; done) | (simp; omega)) _ | refine Below.alloc ?_ (by first | omega | (simp; done) | (simp; omega)) _)
end Go.Proofs.YtkcbmnboccjnnaaGreatDoor
/- The contract of clock.Parse, second part: all pieces together. -/

namespace Go.Proofs.YtkcbmnboccjnnaaGreatDoor
open Go.RowKit
theorem read_some (s : ByteArray) (vs : List Int) (w : World) (hE : Env w) (hs : s.size ≤ 4096) (hG : Hid (Txt.G 0 [] s.data.toList = some vs)) :
    Calls Tryz.prog 218 #[.string s] w fun e w' => e = .returned (.tuple #[.agg #[.int .i64 (vs.getD 0 0), .int .i64 (vs.getD 1 0), .int .i64 (vs.getD 2 0)], .bool true]) ∧ Below w.heap.size w w' := by
  have hQ := pieces_Q s
  rw [hG.out] at hQ
  have hn := pieces_len s
  match hp : pieces s with
  | [] => rw [hp] at hn; simp at hn
  | [p0] =>
    rw [hp] at hQ
    simp only [List.map_cons, List.map_nil, Txt.Q] at hQ
    cases h0 : Txt.piece 0 p0.data.toList with
    | none => rw [h0] at hQ; cases hQ
    | some v0 =>
      rw [h0] at hQ
      injection hQ with hQ
      subst hQ
      exact read_1_yes s p0 v0 w hE hs hp h0
  | [p0, p1] =>
    rw [hp] at hQ
    simp only [List.map_cons, List.map_nil, Txt.Q] at hQ
    cases h0 : Txt.piece 0 p0.data.toList with
    | none => rw [h0] at hQ; cases hQ
    | some v0 =>
      cases h1 : Txt.piece (0 + 1) p1.data.toList with
      | none => rw [h0, h1] at hQ; cases hQ
      | some v1 =>
        rw [h0, h1] at hQ
        injection hQ with hQ
        subst hQ
        exact read_2_yes s p0 p1 v0 v1 w hE hs hp h0 h1
  | [p0, p1, p2] =>
    rw [hp] at hQ
    simp only [List.map_cons, List.map_nil, Txt.Q] at hQ
    cases h0 : Txt.piece 0 p0.data.toList with
    | none => rw [h0] at hQ; cases hQ
    | some v0 =>
      cases h1 : Txt.piece (0 + 1) p1.data.toList with
      | none => rw [h0, h1] at hQ; cases hQ
      | some v1 =>
        cases h2 : Txt.piece (0 + 1 + 1) p2.data.toList with
        | none => rw [h0, h1, h2] at hQ; cases hQ
        | some v2 =>
          rw [h0, h1, h2] at hQ
          injection hQ with hQ
          subst hQ
          exact read_3_yes s p0 p1 p2 v0 v1 v2 w hE hs hp h0 h1 h2
  | _ :: _ :: _ :: _ :: _ => rw [hp] at hn; simp at hn
theorem read_none (s : ByteArray) (w : World) (hE : Env w) (hs : s.size ≤ 4096) (hG : Hid (Txt.G 0 [] s.data.toList = none)) :
    ∃ a b c : Int, Calls Tryz.prog 218 #[.string s] w fun e w' => e = .returned (.tuple #[.agg #[.int .i64 a, .int .i64 b, .int .i64 c], .bool false]) ∧ Below w.heap.size w w' := by
  have hQ := pieces_Q s
  rw [hG.out] at hQ
  have hn := pieces_len s
  match hp : pieces s with
  | [] => rw [hp] at hn; simp at hn
  | [p0] =>
    rw [hp] at hQ
    simp only [List.map_cons, List.map_nil, Txt.Q] at hQ
    cases h0 : Txt.piece 0 p0.data.toList with
    | none => exact ⟨_, _, _, read_1_no0 s p0 w hE hs hp h0⟩
    | some v0 => rw [h0] at hQ; cases hQ
  | [p0, p1] =>
    rw [hp] at hQ
    simp only [List.map_cons, List.map_nil, Txt.Q] at hQ
    cases h0 : Txt.piece 0 p0.data.toList with
    | none => exact ⟨_, _, _, read_2_no0 s p0 p1 w hE hs hp h0⟩
    | some v0 =>
      cases h1 : Txt.piece (0 + 1) p1.data.toList with
      | none => exact ⟨_, _, _, read_2_no1 s p0 p1 v0 w hE hs hp h0 h1⟩
      | some v1 => rw [h0, h1] at hQ; cases hQ
  | [p0, p1, p2] =>
    rw [hp] at hQ
    simp only [List.map_cons, List.map_nil, Txt.Q] at hQ
    cases h0 : Txt.piece 0 p0.data.toList with
    | none => exact ⟨_, _, _, read_3_no0 s p0 p1 p2 w hE hs hp h0⟩
    | some v0 =>
      cases h1 : Txt.piece (0 + 1) p1.data.toList with
      | none => exact ⟨_, _, _, read_3_no1 s p0 p1 p2 v0 w hE hs hp h0 h1⟩
      | some v1 =>
        cases h2 : Txt.piece (0 + 1 + 1) p2.data.toList with
        | none => exact ⟨_, _, _, read_3_no2 s p0 p1 p2 v0 v1 w hE hs hp h0 h1 h2⟩
        | some v2 => rw [h0, h1, h2] at hQ; cases hQ
  | _ :: _ :: _ :: _ :: _ => rw [hp] at hn; simp at hn
/-- How many seconds the pieces are. -/
def secs (vs : List Int) : Int := vs.getD 0 0 * 3600 + vs.getD 1 0 * 60 + vs.getD 2 0
/-- The time that a text tells, and why not. -/
def parseL (l : List UInt8) : Int × Int :=
  match Txt.G 0 [] (Lib.trimPrefix l [45]) with
  | none => (0, 4)
  | some vs => if -604800 ≤ (if Lib.hasPrefix l [45] then -(secs vs) else secs vs) ∧ (if Lib.hasPrefix l [45] then -(secs vs) else secs vs) ≤ 604800 then ((if Lib.hasPrefix l [45] then -(secs vs) else secs vs), 0) else (0, 1)
theorem G_bd (s : List UInt8) : ∀ (idx : Nat) (p : List UInt8) (vs : List Int), Txt.G idx p s = some vs → ∀ v ∈ vs, 0 ≤ v ∧ v < 1000 := by
  induction s with
  | nil =>
    intro idx p vs h v hv
    unfold Txt.G at h
    cases hp : Txt.piece idx p with
    | none => rw [hp] at h; cases h
    | some x =>
      rw [hp] at h
      cases h
      have := piece_bd idx p x hp
      simp only [List.mem_cons, List.mem_nil_iff, or_false] at hv
      subst hv
      omega
  | cons c r ih =>
    intro idx p vs h v hv
    unfold Txt.G at h
    split at h
    · split at h
      · cases h
      · cases hp : Txt.piece idx p with
        | none => rw [hp] at h; cases h
        | some x =>
          rw [hp] at h
          simp only [Option.bind_some] at h
          cases hg : Txt.G (idx + 1) [] r with
          | none => rw [hg] at h; cases h
          | some ws =>
            rw [hg] at h
            cases h
            rcases List.mem_cons.1 hv with rfl | hv
            · have := piece_bd idx p _ hp
              omega
            · exact ih (idx + 1) [] ws hg v hv
    · exact ih idx _ vs h v hv
theorem getD_bd (vs : List Int) (h : ∀ v ∈ vs, 0 ≤ v ∧ v < 1000) (i : Nat) : 0 ≤ vs.getD i 0 ∧ vs.getD i 0 < 1000 := by
  by_cases hi : i < vs.length
  · rw [List.getD_eq_getElem?_getD, List.getElem?_eq_getElem hi]
    exact h _ (List.getElem_mem hi)
  · rw [List.getD_eq_getElem?_getD, List.getElem?_eq_none (by omega)]
    simp
theorem trim_size (l : List UInt8) : (Lib.trimPrefix l [45]).length ≤ l.length := by
  unfold Lib.trimPrefix
  split
  · simp
  · exact Nat.le_refl _
theorem cparse_none (s : ByteArray) (w : World) (hE : Env w) (hs : s.size ≤ 4096) (hG : Hid (Txt.G 0 [] (Lib.trimPrefix s.data.toList [45]) = none)) :
    Calls Tryz.prog 199 #[.string s] w fun e w' => e = .returned (.tuple #[.int .i64 0, .int .i64 4]) ∧ Below w.heap.size w w' := by
  have ht : (⟨(Lib.trimPrefix s.data.toList [45]).toArray⟩ : ByteArray).size ≤ 4096 := by
    have := trim_size s.data.toList
    rw [← Lib.size_eq] at this
    show (Lib.trimPrefix s.data.toList [45]).toArray.size ≤ 4096
    simp only [List.size_toArray]
    omega
  go_enter Tryz.func199, Tryz.ntmps199
  go_wp2_with fail
  refine (Tryz.strings_CutPrefix s ⟨#[45]⟩ _).mono ?_
  rintro e w' ⟨rfl, rfl⟩
  go_wp2_with fail
  obtain ⟨a, b, c, hr⟩ := read_none ⟨(Lib.trimPrefix s.data.toList [45]).toArray⟩ w' hE ht hG
  refine hr.mono ?_
  rintro e w1 ⟨rfl, hb1⟩
  go_wp2_with fail
  go_ret2
  exact ⟨rfl, hb1.alloc hb1.size _⟩
theorem trim_small (s : ByteArray) (hs : s.size ≤ 4096) : (⟨(Lib.trimPrefix s.data.toList [45]).toArray⟩ : ByteArray).size ≤ 4096 := by
  have := trim_size s.data.toList
  rw [← Lib.size_eq] at this
  show (Lib.trimPrefix s.data.toList [45]).toArray.size ≤ 4096
  simp only [List.size_toArray]
  omega
theorem parse_neg_in (s : ByteArray) (vs : List Int) (w : World) (hE : Env w) (hs : s.size ≤ 4096) (hG : Hid (Txt.G 0 [] (Lib.trimPrefix s.data.toList [45]) = some vs)) (a b c : Int) (ha : Hid (vs.getD 0 0 = a)) (hb : Hid (vs.getD 1 0 = b)) (hc : Hid (vs.getD 2 0 = c))
    (a1 : 0 ≤ a) (a2 : a < 1000) (b1 : 0 ≤ b) (b2 : b < 1000) (c1 : 0 ≤ c) (c2 : c < 1000) (hp : Lib.hasPrefix s.data.toList [45] = true) (x1 : -604800 ≤ -(a * 3600 + b * 60 + c)) (x2 : -(a * 3600 + b * 60 + c) ≤ 604800) :
    Calls Tryz.prog 199 #[.string s] w fun e w' => e = .returned (.tuple #[.int .i64 (-(a * 3600 + b * 60 + c)), .int .i64 0]) ∧ Below w.heap.size w w' := by
  have ht := trim_small s hs
  go_enter Tryz.func199, Tryz.ntmps199
  go_wp2_with fail
  refine (Tryz.strings_CutPrefix s ⟨#[45]⟩ _).mono ?_
  rintro e w' ⟨rfl, rfl⟩
  go_wp2_with fail
  have hr := read_some ⟨(Lib.trimPrefix s.data.toList [45]).toArray⟩ vs w' hE ht hG
  rw [ha.out, hb.out, hc.out] at hr
  refine hr.mono ?_
  rintro e w1 ⟨rfl, hb1⟩
  have hE1 := hE.below hb1
  clear hr
  go_wp2_with fail
  refine (together_any a b c _ (hE1.alloc _) a1 a2 b1 b2 c1 c2).mono ?_
  rintro e w2 ⟨rfl, hb2⟩
  go_wp2_with fail
  refine (isTime_yes (-(a * 3600 + b * 60 + c)) _ x1 x2).mono ?_
  rintro e w' ⟨rfl, rfl⟩
  go_wp2_with fail
  go_ret2
  exact ⟨rfl, (hb1.alloc hb1.size _).trans (hb2.mono (by have := hb1.size; simp; omega))⟩
theorem parse_neg_out (s : ByteArray) (vs : List Int) (w : World) (hE : Env w) (hs : s.size ≤ 4096) (hG : Hid (Txt.G 0 [] (Lib.trimPrefix s.data.toList [45]) = some vs)) (a b c : Int) (ha : Hid (vs.getD 0 0 = a)) (hb : Hid (vs.getD 1 0 = b)) (hc : Hid (vs.getD 2 0 = c))
    (a1 : 0 ≤ a) (a2 : a < 1000) (b1 : 0 ≤ b) (b2 : b < 1000) (c1 : 0 ≤ c) (c2 : c < 1000) (hp : Lib.hasPrefix s.data.toList [45] = true) (hx : Hid (-(a * 3600 + b * 60 + c) < -604800 ∨ 604800 < -(a * 3600 + b * 60 + c))) :
    Calls Tryz.prog 199 #[.string s] w fun e w' => e = .returned (.tuple #[.int .i64 0, .int .i64 1]) ∧ Below w.heap.size w w' := by
  have ht := trim_small s hs
  go_enter Tryz.func199, Tryz.ntmps199
  go_wp2_with fail
  refine (Tryz.strings_CutPrefix s ⟨#[45]⟩ _).mono ?_
  rintro e w' ⟨rfl, rfl⟩
  go_wp2_with fail
  have hr := read_some ⟨(Lib.trimPrefix s.data.toList [45]).toArray⟩ vs w' hE ht hG
  rw [ha.out, hb.out, hc.out] at hr
  refine hr.mono ?_
  rintro e w1 ⟨rfl, hb1⟩
  have hE1 := hE.below hb1
  clear hr
  go_wp2_with fail
  refine (together_any a b c _ (hE1.alloc _) a1 a2 b1 b2 c1 c2).mono ?_
  rintro e w2 ⟨rfl, hb2⟩
  go_wp2_with fail
  refine (isTime_no (-(a * 3600 + b * 60 + c)) _ hx.out).mono ?_
  rintro e w' ⟨rfl, rfl⟩
  go_wp2_with fail
  go_ret2
  exact ⟨rfl, (hb1.alloc hb1.size _).trans (hb2.mono (by have := hb1.size; simp; omega))⟩
theorem parse_pos_in (s : ByteArray) (vs : List Int) (w : World) (hE : Env w) (hs : s.size ≤ 4096) (hG : Hid (Txt.G 0 [] (Lib.trimPrefix s.data.toList [45]) = some vs)) (a b c : Int) (ha : Hid (vs.getD 0 0 = a)) (hb : Hid (vs.getD 1 0 = b)) (hc : Hid (vs.getD 2 0 = c))
    (a1 : 0 ≤ a) (a2 : a < 1000) (b1 : 0 ≤ b) (b2 : b < 1000) (c1 : 0 ≤ c) (c2 : c < 1000) (hp : Lib.hasPrefix s.data.toList [45] = false) (x1 : -604800 ≤ a * 3600 + b * 60 + c) (x2 : a * 3600 + b * 60 + c ≤ 604800) :
    Calls Tryz.prog 199 #[.string s] w fun e w' => e = .returned (.tuple #[.int .i64 (a * 3600 + b * 60 + c), .int .i64 0]) ∧ Below w.heap.size w w' := by
  have ht := trim_small s hs
  go_enter Tryz.func199, Tryz.ntmps199
  go_wp2_with fail
  refine (Tryz.strings_CutPrefix s ⟨#[45]⟩ _).mono ?_
  rintro e w' ⟨rfl, rfl⟩
  go_wp2_with fail
  have hr := read_some ⟨(Lib.trimPrefix s.data.toList [45]).toArray⟩ vs w' hE ht hG
  rw [ha.out, hb.out, hc.out] at hr
  refine hr.mono ?_
  rintro e w1 ⟨rfl, hb1⟩
  have hE1 := hE.below hb1
  clear hr
  go_wp2_with fail
  refine (together_any a b c _ (hE1.alloc _) a1 a2 b1 b2 c1 c2).mono ?_
  rintro e w2 ⟨rfl, hb2⟩
  go_wp2_with fail
  refine (isTime_yes (a * 3600 + b * 60 + c) _ x1 x2).mono ?_
  rintro e w' ⟨rfl, rfl⟩
  go_wp2_with fail
  go_ret2
  exact ⟨rfl, (hb1.alloc hb1.size _).trans (hb2.mono (by have := hb1.size; simp; omega))⟩
theorem parse_pos_out (s : ByteArray) (vs : List Int) (w : World) (hE : Env w) (hs : s.size ≤ 4096) (hG : Hid (Txt.G 0 [] (Lib.trimPrefix s.data.toList [45]) = some vs)) (a b c : Int) (ha : Hid (vs.getD 0 0 = a)) (hb : Hid (vs.getD 1 0 = b)) (hc : Hid (vs.getD 2 0 = c))
    (a1 : 0 ≤ a) (a2 : a < 1000) (b1 : 0 ≤ b) (b2 : b < 1000) (c1 : 0 ≤ c) (c2 : c < 1000) (hp : Lib.hasPrefix s.data.toList [45] = false) (hx : Hid (a * 3600 + b * 60 + c < -604800 ∨ 604800 < a * 3600 + b * 60 + c)) :
    Calls Tryz.prog 199 #[.string s] w fun e w' => e = .returned (.tuple #[.int .i64 0, .int .i64 1]) ∧ Below w.heap.size w w' := by
  have ht := trim_small s hs
  go_enter Tryz.func199, Tryz.ntmps199
  go_wp2_with fail
  refine (Tryz.strings_CutPrefix s ⟨#[45]⟩ _).mono ?_
  rintro e w' ⟨rfl, rfl⟩
  go_wp2_with fail
  have hr := read_some ⟨(Lib.trimPrefix s.data.toList [45]).toArray⟩ vs w' hE ht hG
  rw [ha.out, hb.out, hc.out] at hr
  refine hr.mono ?_
  rintro e w1 ⟨rfl, hb1⟩
  have hE1 := hE.below hb1
  clear hr
  go_wp2_with fail
  refine (together_any a b c _ (hE1.alloc _) a1 a2 b1 b2 c1 c2).mono ?_
  rintro e w2 ⟨rfl, hb2⟩
  go_wp2_with fail
  refine (isTime_no (a * 3600 + b * 60 + c) _ hx.out).mono ?_
  rintro e w' ⟨rfl, rfl⟩
  go_wp2_with fail
  go_ret2
  exact ⟨rfl, (hb1.alloc hb1.size _).trans (hb2.mono (by have := hb1.size; simp; omega))⟩
theorem parse_any (s : ByteArray) (w : World) (hE : Env w) (hs : s.size ≤ 4096) :
    Calls Tryz.prog 199 #[.string s] w fun e w' => e = .returned (.tuple #[.int .i64 (parseL s.data.toList).1, .int .i64 (parseL s.data.toList).2]) ∧ Below w.heap.size w w' := by
  unfold parseL
  cases hG : Txt.G 0 [] (Lib.trimPrefix s.data.toList [45]) with
  | none => exact cparse_none s w hE hs hG
  | some vs =>
    have hb := G_bd _ _ _ _ hG
    have b0 := getD_bd vs hb 0
    have b1 := getD_bd vs hb 1
    have b2 := getD_bd vs hb 2
    simp only [secs]
    by_cases hp : Lib.hasPrefix s.data.toList [45] = true
    · simp only [if_pos hp]
      by_cases hx : -604800 ≤ -(vs.getD 0 0 * 3600 + vs.getD 1 0 * 60 + vs.getD 2 0) ∧ -(vs.getD 0 0 * 3600 + vs.getD 1 0 * 60 + vs.getD 2 0) ≤ 604800
      · rw [if_pos hx]
        exact parse_neg_in s vs w hE hs hG _ _ _ rfl rfl rfl b0.1 b0.2 b1.1 b1.2 b2.1 b2.2 hp hx.1 hx.2
      · rw [if_neg hx]
        exact parse_neg_out s vs w hE hs hG _ _ _ rfl rfl rfl b0.1 b0.2 b1.1 b1.2 b2.1 b2.2 hp (Lib.hid (by omega))
    · simp only [if_neg hp]
      have hp := eq_false_of_ne_true hp
      by_cases hx : -604800 ≤ (vs.getD 0 0 * 3600 + vs.getD 1 0 * 60 + vs.getD 2 0) ∧ (vs.getD 0 0 * 3600 + vs.getD 1 0 * 60 + vs.getD 2 0) ≤ 604800
      · rw [if_pos hx]
        exact parse_pos_in s vs w hE hs hG _ _ _ rfl rfl rfl b0.1 b0.2 b1.1 b1.2 b2.1 b2.2 hp hx.1 hx.2
      · rw [if_neg hx]
        exact parse_pos_out s vs w hE hs hG _ _ _ rfl rfl rfl b0.1 b0.2 b1.1 b1.2 b2.1 b2.2 hp (Lib.hid (by omega))
end Go.Proofs.YtkcbmnboccjnnaaGreatDoor
/- There and back, on lists: the text of a time tells that time. -/

namespace Go.Proofs.YtkcbmnboccjnnaaGreatDoor
theorem dig_nat (d : Nat) (h : d < 10) : (UInt8.ofNat (48 + d)).toNat = 48 + d := by
  rw [UInt8.toNat_ofNat']
  omega
theorem dig_isD (d : Nat) (h : d < 10) : Txt.isD (UInt8.ofNat (48 + d)) = true := by
  unfold Txt.isD
  rw [dig_nat d h]
  simp
  omega
theorem dec_all : ∀ (k u : Nat), u ≤ k → (Lib.decDigits u).all Txt.isD = true ∧ Txt.val (Lib.decDigits u) = u ∧ 1 ≤ (Lib.decDigits u).length := by
  intro k
  induction k with
  | zero =>
    intro u hu
    obtain rfl : u = 0 := by omega
    rw [Lib.decDigits, dif_pos (by omega)]
    decide
  | succ k ih =>
    intro u hu
    rw [Lib.decDigits]
    split
    · rename_i h
      refine ⟨by rw [List.all_cons, dig_isD u h]; rfl, ?_, by simp⟩
      show 10 * 0 + (((UInt8.ofNat (48 + u)).toNat : Int) - 48) = u
      rw [dig_nat u h]
      omega
    · obtain ⟨h1, h2, h3⟩ := ih (u / 10) (by omega)
      refine ⟨?_, ?_, by simp⟩
      · rw [all_snoc, h1, dig_isD _ (by omega)]
        rfl
      · rw [Txt.val_snoc, h2, dig_nat _ (by omega)]
        omega
theorem piece_itoa (h : Int) (h0 : 0 ≤ h) (h1 : h < 1000) : Txt.piece 0 (Lib.itoa h) = some h := by
  have e : Lib.itoa h = Lib.decDigits h.toNat := by unfold Lib.itoa; rw [if_neg (by omega)]
  obtain ⟨a, b, c⟩ := dec_all h.toNat h.toNat (Nat.le_refl _)
  have hl := itoa_len h h0 h1
  rw [e] at hl ⊢
  rw [piece_zero]
  unfold Txt.okDig
  rw [a, b]
  have e1 : decide (1 ≤ (Lib.decDigits h.toNat).length) = true := by simpa using c
  have e2 : decide ((Lib.decDigits h.toNat).length ≤ 3) = true := by simpa using hl
  rw [e1, e2]
  simp
  omega
theorem piece_two (i : Nat) (m : Int) (hi : i ≠ 0) (h0 : 0 ≤ m) (h1 : m < 60) : Txt.piece i (two m) = some m := by
  have hv : Txt.val (two m) = m := by
    unfold two
    show 10 * (10 * 0 + (((UInt8.ofNat (48 + m.toNat / 10)).toNat : Int) - 48)) + (((UInt8.ofNat (48 + m.toNat % 10)).toNat : Int) - 48) = m
    rw [dig_nat _ (by omega), dig_nat _ (by omega)]
    omega
  have ha : (two m).all Txt.isD = true := by
    unfold two
    rw [List.all_cons, List.all_cons, dig_isD _ (show m.toNat / 10 < 10 by omega), dig_isD _ (show m.toNat % 10 < 10 by omega)]
    rfl
  rw [piece_later i _ hi]
  unfold Txt.okDig
  rw [ha, hv, two_len]
  simp
  omega
theorem no58 (l : List UInt8) (h : l.all Txt.isD = true) : ∀ c ∈ l, c ≠ 58 := by
  intro c hc e
  have := List.all_eq_true.1 h c hc
  rw [e, Txt.isD_58] at this
  cases this
theorem itoa_all (h : Int) (h0 : 0 ≤ h) : (Lib.itoa h).all Txt.isD = true := by
  have e : Lib.itoa h = Lib.decDigits h.toNat := by unfold Lib.itoa; rw [if_neg (by omega)]
  rw [e]
  exact (dec_all h.toNat h.toNat (Nat.le_refl _)).1
theorem two_all (m : Int) (h0 : 0 ≤ m) (h1 : m < 100) : (two m).all Txt.isD = true := by
  unfold two
  rw [List.all_cons, List.all_cons, dig_isD _ (show m.toNat / 10 < 10 by omega), dig_isD _ (show m.toNat % 10 < 10 by omega)]
  rfl
theorem G_txt0 (u : Int) (h0 : 0 ≤ u) (h1 : u ≤ 604800) : ∃ vs, Txt.G 0 [] (txt0 u) = some vs ∧ secs vs = u := by
  unfold txt0
  have n1 := no58 _ (itoa_all (u / 3600) (by omega))
  have n2 := no58 _ (two_all (u % 3600 / 60) (by omega) (by omega))
  by_cases hz : u % 60 = 0
  · rw [if_pos hz, List.append_nil, List.append_assoc, List.singleton_append, Txt.Q_cut _ _ 0 n1 (by omega), piece_itoa _ (by omega) (by omega), Txt.G_plain _ _ n2, piece_two _ _ (by omega) (by omega) (by omega)]
    refine ⟨_, rfl, ?_⟩
    show u / 3600 * 3600 + u % 3600 / 60 * 60 + 0 = u
    omega
  · have n3 := no58 _ (two_all (u % 60) (by omega) (by omega))
    rw [if_neg hz, List.append_assoc, List.append_assoc, List.singleton_append, Txt.Q_cut _ _ 0 n1 (by omega), piece_itoa _ (by omega) (by omega), Txt.Q_cut _ _ 1 n2 (by omega), piece_two _ _ (by omega) (by omega) (by omega), Txt.G_plain _ _ n3, piece_two _ _ (by omega) (by omega) (by omega)]
    refine ⟨_, rfl, ?_⟩
    show u / 3600 * 3600 + u % 3600 / 60 * 60 + u % 60 = u
    omega
theorem txt0_head (u : Int) (h0 : 0 ≤ u) : ∃ c r, txt0 u = c :: r ∧ Txt.isD c = true := by
  have ha := itoa_all (u / 3600) (by omega)
  have e : Lib.itoa (u / 3600) = Lib.decDigits (u / 3600).toNat := by unfold Lib.itoa; rw [if_neg (by omega)]
  obtain ⟨_, _, hl⟩ := dec_all (u / 3600).toNat _ (Nat.le_refl _)
  rw [← e] at hl
  unfold txt0
  cases hq : Lib.itoa (u / 3600) with
  | nil => rw [hq] at hl; simp at hl
  | cons c r =>
    rw [hq] at ha
    simp only [List.all_cons, Bool.and_eq_true] at ha
    exact ⟨c, _, rfl, ha.1⟩
theorem parse_txt (t : Int) (h1 : -604800 ≤ t) (h2 : t ≤ 604800) : parseL (txt t) = (t, 0) := by
  unfold txt
  by_cases ht : t < 0
  · rw [if_pos ht]
    obtain ⟨vs, hG, hs⟩ := G_txt0 (-t) (by omega) (by omega)
    have hp : Lib.hasPrefix (45 :: txt0 (-t)) [45] = true := by simp [Lib.hasPrefix, List.isPrefixOf]
    have hr : Lib.trimPrefix (45 :: txt0 (-t)) [45] = txt0 (-t) := by unfold Lib.trimPrefix; rw [if_pos hp]; rfl
    unfold parseL
    rw [hr, hG]
    simp only [hp, if_true, hs]
    rw [if_pos (by omega)]
    simp
  · rw [if_neg ht]
    obtain ⟨vs, hG, hs⟩ := G_txt0 t (by omega) h2
    obtain ⟨c, r, hc, hd⟩ := txt0_head t (by omega)
    have hp : Lib.hasPrefix (txt0 t) [45] = false := by
      rw [hc]
      simp only [Lib.hasPrefix, List.isPrefixOf, Bool.and_true, beq_eq_false_iff_ne]
      intro e
      rw [← e] at hd
      exact absurd hd (by decide)
    have hr : Lib.trimPrefix (txt0 t) [45] = txt0 t := by unfold Lib.trimPrefix; rw [if_neg (by rw [hp]; simp)]
    unfold parseL
    rw [hr, hG]
    simp only [hp, hs, Bool.false_eq_true, if_false]
    rw [if_pos (by omega)]
theorem txt_ne (t : Int) (h1 : -604800 ≤ t) (h2 : t ≤ 604800) : txt t ≠ [] := by
  unfold txt
  split
  · simp
  · obtain ⟨c, r, hc, _⟩ := txt0_head t (by omega)
    rw [hc]
    simp
theorem txt_inj (a b : Int) (h1 : -604800 ≤ a) (h2 : a ≤ 604800) (h3 : -604800 ≤ b) (h4 : b ≤ 604800) (h : txt a = txt b) : a = b := by
  have x := parse_txt a h1 h2
  rw [h, parse_txt b h3 h4] at x
  injection x with x _
  exact x.symm
theorem parse_ok (l : List UInt8) (h : (parseL l).2 = 0) : -604800 ≤ (parseL l).1 ∧ (parseL l).1 ≤ 604800 := by
  unfold parseL at h ⊢
  cases hG : Txt.G 0 [] (Lib.trimPrefix l [45]) with
  | none => rw [hG] at h; simp at h
  | some vs =>
    rw [hG] at h
    revert h
    simp only
    generalize (if Lib.hasPrefix l [45] = true then -secs vs else secs vs) = x
    intro h
    by_cases hx : -604800 ≤ x ∧ x ≤ 604800
    · rw [if_pos hx]
      exact hx
    · rw [if_neg hx] at h
      simp at h
theorem txt_len (t : Int) (h1 : -604800 ≤ t) (h2 : t ≤ 604800) : (txt t).length ≤ 200 := by
  have key : ∀ u : Int, 0 ≤ u → u ≤ 604800 → (txt0 u).length ≤ 20 := by
    intro u a b
    have := itoa_len (u / 3600) (by omega) (by omega)
    unfold txt0
    split <;> simp [two_len] <;> omega
  unfold txt
  split
  · have := key (-t) (by omega) (by omega)
    simp
    omega
  · have := key t (by omega) h2
    omega
end Go.Proofs.YtkcbmnboccjnnaaGreatDoor
