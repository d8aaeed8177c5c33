/- Plain arithmetic of the calendar: what a leap year, a month's length, a year's first day and a date's number are, and that each day of the years 1 to 9999 is the number of just one date. Imports nothing of the program. -/
import Init
namespace Go.Proofs.YtgcgmmdfmcapiaaGreatDoor
namespace Cal

def lp (y : Int) : Int := if y % 4 = 0 ∧ (y % 100 ≠ 0 ∨ y % 400 = 0) then 1 else 0
def len (y m : Int) : Int := if m = 2 then 28 + lp y else if m = 4 ∨ m = 6 ∨ m = 9 ∨ m = 11 then 30 else 31
def fst (y : Int) : Int := 365 * (y - 1) + (y - 1) / 4 - (y - 1) / 100 + (y - 1) / 400 - 719162
def cum (y m : Int) : Int := if m ≤ 2 then 31 * (m - 1) else (153 * (m - 3) + 2) / 5 + 59 + lp y
def num (y m d : Int) : Int := fst y + cum y m + d - 1
def Valid (y m d : Int) : Prop := 1 ≤ y ∧ y ≤ 9999 ∧ 1 ≤ m ∧ m ≤ 12 ∧ 1 ≤ d ∧ d ≤ len y m
def ahead (y : Int) : Int := 365 * y + y / 4 - y / 100

theorem lp_01 (y : Int) : 0 ≤ lp y ∧ lp y ≤ 1 := by unfold lp; split <;> omega
theorem lp_eq (y : Int) : (y % 4 = 0 ∧ (y % 100 ≠ 0 ∨ y % 400 = 0) ∧ lp y = 1) ∨ (¬ (y % 4 = 0 ∧ (y % 100 ≠ 0 ∨ y % 400 = 0)) ∧ lp y = 0) := by
  unfold lp
  by_cases h : y % 4 = 0 ∧ (y % 100 ≠ 0 ∨ y % 400 = 0)
  · rw [if_pos h]; exact .inl ⟨h.1, h.2, rfl⟩
  · rw [if_neg h]; exact .inr ⟨h, rfl⟩
theorem len_bd (y m : Int) : 28 ≤ len y m ∧ len y m ≤ 31 := by
  have := lp_01 y
  unfold len
  repeat' split
  all_goals omega
theorem fst_succ (y : Int) : fst (y + 1) = fst y + 365 + lp y := by
  have := lp_eq y
  unfold fst
  omega
theorem cum_one (y : Int) : cum y 1 = 0 := by unfold cum; simp
theorem cum_end (y : Int) : cum y 13 = 365 + lp y := by unfold cum; simp
theorem cum_succ (y m : Int) (h1 : 1 ≤ m) (h2 : m ≤ 12) : cum y (m + 1) = cum y m + len y m := by
  have := lp_01 y
  unfold cum len
  have : m = 1 ∨ m = 2 ∨ m = 3 ∨ m = 4 ∨ m = 5 ∨ m = 6 ∨ m = 7 ∨ m = 8 ∨ m = 9 ∨ m = 10 ∨ m = 11 ∨ m = 12 := by omega
  rcases this with rfl | rfl | rfl | rfl | rfl | rfl | rfl | rfl | rfl | rfl | rfl | rfl <;> simp <;> omega
theorem fst_mono (a b : Int) (h : a ≤ b) : fst a ≤ fst b := by unfold fst; omega
theorem fst_400 (y : Int) : fst (y + 400) = fst y + 146097 := by unfold fst; omega
theorem fst_lt (a b : Int) (h : a < b) : fst a + 365 ≤ fst b := by
  have h1 := fst_succ a
  have h2 := fst_mono (a + 1) b (by omega)
  have := lp_01 a
  omega
theorem cum_mono (y a b : Int) (h0 : 1 ≤ a) (h : a ≤ b) : cum y a ≤ cum y b := by
  have := lp_01 y
  unfold cum
  split <;> split <;> omega
theorem cum_bd (y m : Int) (h1 : 1 ≤ m) (h2 : m ≤ 13) : 0 ≤ cum y m ∧ cum y m ≤ 365 + lp y := by
  have a := cum_mono y 1 m (by omega) h1
  have b := cum_mono y m 13 h1 h2
  rw [cum_one] at a
  rw [cum_end] at b
  exact ⟨a, b⟩
theorem fst_one : fst 1 = -719162 := by rfl
theorem fst_end : fst 10000 = 2932897 := by rfl
theorem fst_bd (y : Int) (h1 : 1 ≤ y) (h2 : y ≤ 10000) : -719162 ≤ fst y ∧ fst y ≤ 2932897 := by
  have a := fst_mono 1 y h1
  have b := fst_mono y 10000 h2
  rw [fst_one] at a
  rw [fst_end] at b
  exact ⟨a, b⟩
/-- A date's number lies within its month, and its month within its year. -/
theorem num_in (y m d : Int) (h : Valid y m d) : fst y ≤ num y m d ∧ num y m d < fst (y + 1) ∧ fst y + cum y m ≤ num y m d ∧ num y m d < fst y + cum y (m + 1) := by
  obtain ⟨a, b, c, e, f, g⟩ := h
  have h1 := cum_succ y m c e
  have h2 := cum_bd y m c (by omega)
  have h3 := cum_bd y (m + 1) (by omega) (by omega)
  have h4 := fst_succ y
  unfold num
  omega
theorem num_range (y m d : Int) (h : Valid y m d) : -719162 ≤ num y m d ∧ num y m d ≤ 2932896 := by
  have h1 := num_in y m d h
  obtain ⟨a, b, _⟩ := h
  have h2 := fst_bd y a (by omega)
  have h3 := fst_bd (y + 1) (by omega) (by omega)
  omega
theorem num_inj (y m d y' m' d' : Int) (h : Valid y m d) (h' : Valid y' m' d') (e : num y m d = num y' m' d') : y = y' ∧ m = m' ∧ d = d' := by
  have a := num_in y m d h
  have b := num_in y' m' d' h'
  obtain rfl : y = y' := by
    rcases Int.lt_trichotomy y y' with c | c | c
    · have := fst_mono (y + 1) y' (by omega); omega
    · exact c
    · have := fst_mono (y' + 1) y (by omega); omega
  obtain ⟨_, _, h3, h4, _⟩ := h
  obtain ⟨_, _, k3, k4, _⟩ := h'
  obtain rfl : m = m' := by
    rcases Int.lt_trichotomy m m' with c | c | c
    · have := cum_mono y (m + 1) m' (by omega) (by omega); omega
    · exact c
    · have := cum_mono y (m' + 1) m (by omega) (by omega); omega
  refine ⟨rfl, rfl, ?_⟩
  unfold num at e
  omega
/-- The year that begins in March, of four hundred. -/
theorem yoe (r : Int) (h0 : 0 ≤ r) (h1 : r < 146097) (y : Int) (hy : y = (r - r/1460 + r/36524 - r/146096)/365) :
   0 ≤ y ∧ y ≤ 399 ∧ ahead y ≤ r ∧ r ≤ ahead y + 365 ∧ (r = ahead y + 365 → y % 4 = 3 ∧ (y % 100 = 99 → y = 399)) := by
  unfold ahead
  obtain ⟨e, t, he, ht0, ht1⟩ : ∃ e t : Int, r = 1460 * e + t ∧ 0 ≤ t ∧ t < 1460 := ⟨r / 1460, r % 1460, by omega, by omega, by omega⟩
  obtain ⟨g, hg⟩ : ∃ g, g = r/146096 := ⟨_, rfl⟩
  obtain ⟨f, hf⟩ : ∃ f, f = r/36524 := ⟨_, rfl⟩
  have e1 : r / 1460 = e := by omega
  rw [← hf, ← hg, e1] at hy
  obtain ⟨k, hk⟩ : ∃ k, k = (t - e + f - g)/365 := ⟨_, rfl⟩
  have hy2 : y = 4 * e + k := by omega
  clear hy e1
  have : f = 0 ∨ f = 1 ∨ f = 2 ∨ f = 3 ∨ f = 4 := by omega
  have : k = -1 ∨ k = 0 ∨ k = 1 ∨ k = 2 ∨ k = 3 ∨ k = 4 := by omega
  have : g = 0 ∨ g = 1 := by omega
  obtain ⟨q, hq⟩ : ∃ q, q = y/4 := ⟨_, rfl⟩
  obtain ⟨d, hd⟩ : ∃ d, d = y/100 := ⟨_, rfl⟩
  rcases ‹f = 0 ∨ _› with rfl | rfl | rfl | rfl | rfl <;> rcases ‹g = 0 ∨ _› with rfl | rfl <;> rcases ‹k = -1 ∨ _› with rfl | rfl | rfl | rfl | rfl | rfl <;> subst he <;> first | (exfalso; omega) | (subst hy2; omega)
/-- The number of a date, counted by years that begin in March. -/
def numM (Y M d : Int) : Int := Y / 400 * 146097 + ahead (Y % 400) + (153 * M + 2) / 5 + d - 1 - 719468
theorem numM_lo (y m d : Int) (h1 : 1 ≤ m) (h2 : m < 3) : numM (y - 1) (m + 9) d = num y m d := by
  have := lp_eq y
  unfold numM num ahead fst cum
  rw [if_pos (by omega)]
  have : m = 1 ∨ m = 2 := by omega
  rcases this with rfl | rfl <;> omega
theorem numM_hi (y m d : Int) (h1 : 3 ≤ m) : numM y (m - 3) d = num y m d := by
  have := lp_eq y
  unfold numM num ahead fst cum
  rw [if_neg (by omega)]
  omega
/-- The parts of the date of a day: n is the number of days from the first of March of the year 0 on. -/
def dY (n : Int) : Int := (n % 146097 - n % 146097 / 1460 + n % 146097 / 36524 - n % 146097 / 146096) / 365
def dR (n : Int) : Int := n % 146097 - ahead (dY n)
def dM (n : Int) : Int := (5 * dR n + 2) / 153
def dD (n : Int) : Int := dR n - (153 * dM n + 2) / 5 + 1
theorem dY_bd (n : Int) : 0 ≤ dY n ∧ dY n ≤ 399 ∧ 0 ≤ dR n ∧ dR n ≤ 365 ∧ (dR n = 365 → dY n % 4 = 3 ∧ (dY n % 100 = 99 → dY n = 399)) := by
  have := yoe (n % 146097) (by omega) (by omega) (dY n) rfl
  unfold dR
  omega
theorem dM_bd (n : Int) : 0 ≤ dM n ∧ dM n ≤ 11 ∧ 1 ≤ dD n ∧ dD n ≤ 31 := by
  have := dY_bd n
  unfold dD dM
  omega
/-- The year and the month of the day n: what the program makes of its parts. -/
def yearOf (n : Int) : Int := if dM (n + 719468) ≤ 9 then (n + 719468) / 146097 * 400 + dY (n + 719468) else (n + 719468) / 146097 * 400 + dY (n + 719468) + 1
def monthOf (n : Int) : Int := if dM (n + 719468) ≤ 9 then dM (n + 719468) + 3 else dM (n + 719468) - 9
def dayOf (n : Int) : Int := dD (n + 719468)
theorem numM_of (n : Int) : numM (n / 146097 * 400 + dY n) (dM n) (dD n) = n - 719468 := by
  have h := dY_bd n
  have e1 : (n / 146097 * 400 + dY n) / 400 = n / 146097 := by omega
  have e2 : (n / 146097 * 400 + dY n) % 400 = dY n := by omega
  unfold numM
  rw [e1, e2]
  unfold dD dR
  omega
theorem num_of (n : Int) : num (yearOf n) (monthOf n) (dayOf n) = n := by
  have h := numM_of (n + 719468)
  have b := dM_bd (n + 719468)
  unfold yearOf monthOf dayOf
  split
  · rw [← numM_hi _ _ _ (by omega)]
    rw [show dM (n + 719468) + 3 - 3 = dM (n + 719468) by omega]
    omega
  · rw [← numM_lo _ _ _ (by omega) (by omega)]
    rw [show dM (n + 719468) - 9 + 9 = dM (n + 719468) by omega, Int.add_sub_cancel]
    omega
theorem valid_of (n : Int) (h1 : -719162 ≤ n) (h2 : n ≤ 2932896) : Valid (yearOf n) (monthOf n) (dayOf n) := by
  have hn := num_of n
  have b := dM_bd (n + 719468)
  have c := dY_bd (n + 719468)
  have hm : 1 ≤ monthOf n ∧ monthOf n ≤ 12 := by unfold monthOf; split <;> omega
  have hd : 1 ≤ dayOf n ∧ dayOf n ≤ len (yearOf n) (monthOf n) := by
    refine ⟨by unfold dayOf; omega, ?_⟩
    have hl := lp_eq (yearOf n)
    unfold dayOf yearOf monthOf len
    unfold yearOf at hl
    generalize hY : dY (n + 719468) = Y at *
    generalize hc : (n + 719468) / 146097 = q at *
    generalize hR : dR (n + 719468) = R at *
    have hMe : dM (n + 719468) = (5 * R + 2) / 153 := by unfold dM; rw [hR]
    have hDe : dD (n + 719468) = R - (153 * dM (n + 719468) + 2) / 5 + 1 := by unfold dD; rw [hR]
    rw [hDe]
    generalize dM (n + 719468) = M at *
    have hM : M = 0 ∨ M = 1 ∨ M = 2 ∨ M = 3 ∨ M = 4 ∨ M = 5 ∨ M = 6 ∨ M = 7 ∨ M = 8 ∨ M = 9 ∨ M = 10 ∨ M = 11 := by omega
    rcases hM with rfl | rfl | rfl | rfl | rfl | rfl | rfl | rfl | rfl | rfl | rfl | rfl <;> simp at hl ⊢ <;> omega
  have hy : 1 ≤ yearOf n ∧ yearOf n ≤ 9999 := by
    have hcb := cum_bd (yearOf n) (monthOf n) hm.1 (by omega)
    have hcs := cum_succ (yearOf n) (monthOf n) hm.1 hm.2
    have hce := cum_bd (yearOf n) (monthOf n + 1) (by omega) (by omega)
    have hf := fst_succ (yearOf n)
    unfold num at hn
    constructor
    · rcases Int.lt_or_le (yearOf n) 1 with k | k
      · have := fst_mono (yearOf n + 1) 1 (by omega)
        rw [fst_one] at this
        omega
      · exact k
    · rcases Int.lt_or_le 9999 (yearOf n) with k | k
      · have := fst_mono 10000 (yearOf n) (by omega)
        rw [fst_end] at this
        omega
      · exact k
  exact ⟨hy.1, hy.2, hm.1, hm.2, hd.1, hd.2⟩
/-- A date that has the number n is the date of n. -/
theorem of_num (y m d n : Int) (h : Valid y m d) (e : num y m d = n) : yearOf n = y ∧ monthOf n = m ∧ dayOf n = d := by
  have hr := num_range y m d h
  have hv := valid_of n (by omega) (by omega)
  exact num_inj _ _ _ _ _ _ hv h ((num_of n).trans e.symm)
theorem len_ge (y m d : Int) (h : Valid y m d) : d ≤ 31 := by
  have := len_bd y m
  obtain ⟨_, _, _, _, _, g⟩ := h
  omega
end Cal
end Go.Proofs.YtgcgmmdfmcapiaaGreatDoor
