/- The walks of stage 1's theorems TopDays and TopYear. -/
import Derived.Test.YtoaemkljlphieaaClock
import Derived.Test.YtoaemkljlphieaaLives01
import Derived.OpenShut
namespace Go.Proofs.Ytoaemkljlphieaa
open Go.RowKit
theorem year_lit (t y : Int) (w : World) (h1 : -62135596800 ≤ t) (h2 : t < 253402300800) (e : Cal.yearOf (t / 86400) = y) :
    Calls Try.prog 25 #[.int .i64 t] w fun e w' => e = .returned (.tuple #[.int .i64 y, .int .i64 0]) ∧ Below w.heap.size w w' := by
  subst e
  exact year_yes t w h1 h2
theorem begins1 (w : World) : Calls Try.prog 23 #[] w fun e w' => e = .returned (.bool true) ∧ Below w.heap.size w w' := by
  go_enter Try.func23, Try.ntmps23
  go_wp2_with fail
  refine (days_lit 1970 1 2 1 _ (by decide) (by decide)).mono ?_
  rintro e w1 ⟨rfl, hb1⟩
  go_wp2_with fail
  refine (year_lit 86400 1970 _ (by omega) (by omega) (by decide)).mono ?_
  rintro e w2 ⟨rfl, hb2⟩
  go_wp2_with fail
  refine (weekday_lit 1 5 _ (by omega) (by omega) (by decide)).mono ?_
  rintro e w' ⟨rfl, rfl⟩
  go_wp2_with fail
  go_ret
  exact ⟨rfl, hb1.trans (hb2.mono hb1.size)⟩
theorem topDays_out (t k : Int) (w : World) (h1 : -9223372036854775808 ≤ t) (h2 : t ≤ 9223372036854775807) (h : t < -62135596800 ∨ 253402300800 ≤ t) :
    Calls Try.prog 6 #[.int .i64 t, .int .u16 k] w fun e w' => e = .returned (.bool true) ∧ Below w.heap.size w w' := by
  have hd : t / 86400 < -719162 ∨ 2932896 < t / 86400 := by omega
  have HD := Lib.hid hd
  have H := Lib.hid h
  clear hd h
  go_enter Try.func6, Try.ntmps6
  go_wp2_with fail
  refine (begins1 _).mono ?_
  rintro e w1 ⟨rfl, hb1⟩
  go_wp2_with fail
  refine (split_any _ _ (by omega) (by omega)).mono ?_
  rintro e w' ⟨rfl, rfl⟩
  go_wp2_with fail
  refine (of_no _ _ HD.out).mono ?_
  rintro e w2 ⟨rfl, hb2⟩
  have hz2 := hb2.size
  go_wp2_with fail
  refine (year_no _ _ (by omega) (by omega) H.out).mono ?_
  rintro e w3 ⟨rfl, hb3⟩
  obtain ⟨hc3, hf3⟩ := bcell hb3
  have hz3 : w2.heap.size < w3.heap.size := by have := hb3.size; (try simp at this); omega
  go_wp2_with fail
  go_ret
  refine ⟨rfl, ?_⟩
  have h2 : Below w.heap.size w w2 := hb1.trans (hb2.mono hb1.size)
  have h3 := (h2.alloc h2.size _).trans (hb3.mono (by have := h2.size; simp; omega))
  exact h3
theorem split_of (x d s : Int) (w : World) (h1 : -9223372036854775808 ≤ x) (h2 : x ≤ 9223372036854775807) (hx : d * 86400 + s = x) (h3 : 0 ≤ s) (h4 : s < 86400) :
    Calls Try.prog 24 #[.int .i64 x] w fun e w' => e = .returned (.tuple #[.int .i64 d, .int .i64 s]) ∧ w = w' := by
  have := split_any x w h1 h2
  rw [show x / 86400 = d by omega, show x % 86400 = s by omega] at this
  exact this
theorem year_of (x d s : Int) (w : World) (h1 : -719162 ≤ d) (h2 : d ≤ 2932896) (hx : d * 86400 + s = x) (h3 : 0 ≤ s) (h4 : s < 86400) :
    Calls Try.prog 25 #[.int .i64 x] w fun e w' => e = .returned (.tuple #[.int .i64 (Cal.yearOf d), .int .i64 0]) ∧ Below w.heap.size w w' := by
  have := year_yes x w (by omega) (by omega)
  rw [show x / 86400 = d by omega] at this
  exact this
theorem days_of (n : Int) (w : World) (h1 : -719162 ≤ n) (h2 : n ≤ 2932896) :
    Calls Try.prog 8 #[.agg #[.int .i64 (Cal.yearOf n), .int .i64 (Cal.monthOf n), .int .i64 (Cal.dayOf n)]] w fun e w' => e = .returned (.tuple #[.int .i64 n, .int .i64 0]) ∧ Below w.heap.size w w' := by
  have := days_yes _ _ _ w (Cal.valid_of n h1 h2)
  rw [Cal.num_of] at this
  exact this
theorem not_valid_zero : ¬ Cal.Valid 0 0 0 := not_valid_lit (by decide)
theorem topDays_in (D s k : Int) (w : World) (h1 : -719162 ≤ D) (h2 : D ≤ 2932896) (h3 : 0 ≤ s) (h4 : s < 86400) (h5 : 0 ≤ k) (h6 : k ≤ 65535) :
    Calls Try.prog 6 #[.int .i64 (D * 86400 + s), .int .u16 k] w fun e w' => e = .returned (.bool true) ∧ Below w.heap.size w w' := by
  have g1 : ((D + k + 4) % 7 != ((D + 4) % 7 + k) % 7) = false := by simp; omega
  by_cases hk : D + k ≤ 2932896
  · go_enter Try.func6, Try.ntmps6
    go_wp2_with fail
    refine (begins1 _).mono ?_
    rintro e w1 ⟨rfl, hb1⟩
    go_wp2_with fail
    refine (split_of _ D s _ (by omega) (by omega) (by omega) (by omega) (by omega)).mono ?_
    rintro e w' ⟨rfl, rfl⟩
    go_wp2_with fail
    refine (of_yes _ _ (by omega) (by omega)).mono ?_
    rintro e w2 ⟨rfl, hb2⟩
    have hz2 := hb2.size
    go_wp2_with fail
    refine (year_of _ D s _ (by omega) (by omega) (by omega) (by omega) (by omega)).mono ?_
    rintro e w3 ⟨rfl, hb3⟩
    obtain ⟨hc3, hf3⟩ := bcell hb3
    have hz3 : w2.heap.size < w3.heap.size := by have := hb3.size; (try simp at this); omega
    go_wp2_with fail
    refine (split_of _ (D + k) s _ (by omega) (by omega) (by omega) (by omega) (by omega)).mono ?_
    rintro e w' ⟨rfl, rfl⟩
    go_wp2_with fail
    refine (of_yes _ _ (by omega) (by omega)).mono ?_
    rintro e w4 ⟨rfl, hb4⟩
    go_wp2_with (go_at_call 21; refine (weekday_any _ _ (by omega) (by omega)).mono ?_; rintro e w' ⟨rfl, rfl⟩)
    refine (days_of _ _ (by omega) (by omega)).mono ?_
    rintro e w5 ⟨rfl, hb5⟩
    go_wp2_with fail
    go_ret
    refine ⟨rfl, ?_⟩
    have a2 : Below w.heap.size w w2 := hb1.trans (hb2.mono hb1.size)
    have a3 := (a2.alloc a2.size _).trans (hb3.mono (by have := a2.size; simp; omega))
    have a4 := a3.trans (hb4.mono a3.size)
    exact (a4.alloc a4.size _).trans (hb5.mono (by have := a4.size; simp; omega))
  · have hk' : 2932896 < D + k := by omega
    clear hk
    go_enter Try.func6, Try.ntmps6
    go_wp2_with fail
    refine (begins1 _).mono ?_
    rintro e w1 ⟨rfl, hb1⟩
    go_wp2_with fail
    refine (split_of _ D s _ (by omega) (by omega) (by omega) (by omega) (by omega)).mono ?_
    rintro e w' ⟨rfl, rfl⟩
    go_wp2_with fail
    refine (of_yes _ _ (by omega) (by omega)).mono ?_
    rintro e w2 ⟨rfl, hb2⟩
    have hz2 := hb2.size
    go_wp2_with fail
    refine (year_of _ D s _ (by omega) (by omega) (by omega) (by omega) (by omega)).mono ?_
    rintro e w3 ⟨rfl, hb3⟩
    obtain ⟨hc3, hf3⟩ := bcell hb3
    have hz3 : w2.heap.size < w3.heap.size := by have := hb3.size; (try simp at this); omega
    go_wp2_with fail
    refine (split_of _ (D + k) s _ (by omega) (by omega) (by omega) (by omega) (by omega)).mono ?_
    rintro e w' ⟨rfl, rfl⟩
    go_wp2_with fail
    refine (of_no _ _ (.inr hk')).mono ?_
    rintro e w4 ⟨rfl, hb4⟩
    go_wp2_with (go_at_call 21; refine (weekday_any _ _ (by omega) (by omega)).mono ?_; rintro e w' ⟨rfl, rfl⟩)
    refine (days_no _ _ _ _ not_valid_zero).mono ?_
    rintro e w5 ⟨rfl, hb5⟩
    go_wp2_with fail
    go_ret
    refine ⟨rfl, ?_⟩
    have a2 : Below w.heap.size w w2 := hb1.trans (hb2.mono hb1.size)
    have a3 := (a2.alloc a2.size _).trans (hb3.mono (by have := a2.size; simp; omega))
    have a4 := a3.trans (hb4.mono a3.size)
    exact (a4.alloc a4.size _).trans (hb5.mono (by have := a4.size; simp; omega))
theorem walkTopDays (t : Int) (ht : (Lit.int .i64 t).wf = true) (k : Int) (hk : (Lit.int .u16 k).wf = true) (w : World) :
    Calls Try.prog 6 #[.int .i64 t, .int .u16 k] w fun e w' => e = .returned (.bool true) ∧ Below w.heap.size w w' := by
  have b := bounds_i64 ht
  have c := bounds_u16 hk
  by_cases h : -62135596800 ≤ t ∧ t < 253402300800
  · obtain ⟨D, s, rfl, h3, h4⟩ : ∃ D s : Int, t = D * 86400 + s ∧ 0 ≤ s ∧ s < 86400 := ⟨t / 86400, t % 86400, by omega, by omega, by omega⟩
    exact topDays_in D s k w (by omega) (by omega) h3 h4 c.1 c.2
  · exact topDays_out t k w b.1 b.2 (by omega)
end Go.Proofs.Ytoaemkljlphieaa
