/- Contracts of the document's layer 7, its numbers: Check, far, Nominal, Instant; the program's beside them. -/
import Derived.Test.YtgcgmmdfmcapiaaGreatDoorRef02b
import Derived.Test.YtgcgmmdfmcapiaaGreatDoorRef06
namespace Go.Proofs.YtgcgmmdfmcapiaaGreatDoor
open Go.RowKit
theorem txt_some (t : Int) : ∃ S : ByteArray, (⟨(txt t).toArray⟩ : ByteArray) = S ∧ S.toList.isEmpty = false ∧ ¬ S.toList = [] := by
  have h0 : ∀ t, ∃ c l, txt0 t = c :: l := fun t => by
    unfold txt0
    cases Lib.itoa (t / 3600) with
    | nil => exact ⟨_, _, rfl⟩
    | cons a b => exact ⟨_, _, rfl⟩
  have h1 : ∃ c l, txt t = c :: l := by
    unfold txt
    split
    · exact ⟨_, _, rfl⟩
    · exact h0 t
  obtain ⟨c, l, hc⟩ := h1
  refine ⟨_, rfl, ?_, ?_⟩
  · rw [hc, ByteArray.toList_eq]
    rfl
  · rw [hc, ByteArray.toList_eq]
    exact List.cons_ne_nil _ _
theorem rtext_S (t : Int) (S : ByteArray) (w : World) (h1 : -604800 ≤ t) (h2 : t ≤ 604800) (hS : (⟨(txt t).toArray⟩ : ByteArray) = S) : Calls Tryz.prog 43 #[.int .i64 t] w fun e w' => e = .returned (.string S) ∧ Below w.heap.size w w' := by
  subst hS
  exact rtext_in t w h1 h2
theorem r7check_yes (s c : Int) (w : World) (h : Mo.right s c = true) : Calls Tryz.prog 19 #[.agg #[.int .i64 s, .int .u8 c]] w fun e w' => e = .returned (.int .i64 0) ∧ Below w.heap.size w w' := by
  rw [Mo.right_iff] at h
  obtain ⟨h1, h2, h3⟩ := h
  obtain ⟨S, hS, n1, n2⟩ := txt_some s
  have HS := Lib.hid hS
  have t1 : decide (2 < c) = false := by simp; omega
  clear hS
  go_enter Tryz.func19, Tryz.ntmps19
  go_wp2_with fail
  refine (rtext_S s S _ h1 h2 HS.out).mono ?_
  rintro e w1 ⟨rfl, b1⟩
  obtain ⟨hc, hf⟩ := bcell b1
  have a1 := ((Below.refl w.heap.size w).alloc (Nat.le_refl _) (.cells #[.int .i64 s, .int .u8 c] 27)).trans (b1.mono (by simp))
  have z1 : w.heap.size < w1.heap.size := by have := b1.size; simp at this; omega
  go_wp2_with fail
  go_ret
  exact ⟨rfl, a1⟩
theorem r7check_no (s c : Int) (w : World) (h : Mo.right s c = false) : Calls Tryz.prog 19 #[.agg #[.int .i64 s, .int .u8 c]] w fun e w' => e = .returned (.int .i64 2) ∧ Below w.heap.size w w' := by
  have h := of_decide_eq_false h
  by_cases hs : -604800 ≤ s ∧ s ≤ 604800
  · obtain ⟨h1, h2⟩ := hs
    have h3 : 2 < c := by omega
    obtain ⟨S, hS, n1, n2⟩ := txt_some s
    have HS := Lib.hid hS
    clear hS h
    go_enter Tryz.func19, Tryz.ntmps19
    go_wp2_with fail
    refine (rtext_S s S _ h1 h2 HS.out).mono ?_
    rintro e w1 ⟨rfl, b1⟩
    obtain ⟨hc, hf⟩ := bcell b1
    have a1 := ((Below.refl w.heap.size w).alloc (Nat.le_refl _) (.cells #[.int .i64 s, .int .u8 c] 27)).trans (b1.mono (by simp))
    have z1 : w.heap.size < w1.heap.size := by have := b1.size; simp at this; omega
    go_wp2_with fail
    go_ret
    exact ⟨rfl, a1⟩
  · have HX := Lib.hid (show s < -604800 ∨ 604800 < s by omega)
    clear h hs
    go_enter Tryz.func19, Tryz.ntmps19
    go_wp2_with fail
    refine (rtext_out s _ HX.out).mono ?_
    rintro e w1 ⟨rfl, b1⟩
    have a1 := ((Below.refl w.heap.size w).alloc (Nat.le_refl _) (.cells #[.int .i64 s, .int .u8 c] 27)).trans (b1.mono (by simp))
    go_wp2_with fail
    go_ret
    exact ⟨rfl, a1⟩
/-- The nominal time, or why there is none. -/
def Mo.nomV (k n d y m s c : Int) : Int × Int :=
  if Mo.right s c = false then (0, 2) else if (Mo.inV k n d y m).2 = 0 then ((Mo.inV k n d y m).1 * 86400 + s, 0) else (0, (Mo.inV k n d y m).2)
theorem nominal_all (k n d y m s c : Int) (w : World) :
    Calls Tryz.prog 5 #[.int .i64 y, .int .i64 m, .agg #[.int .u8 k, .int .i64 n, .int .i64 d], .agg #[.int .i64 s, .int .u8 c]] w fun e w' => e = .returned (.tuple #[.int .i64 (Mo.nomV k n d y m s c).1, .int .i64 (Mo.nomV k n d y m s c).2]) ∧ Below w.heap.size w w' := by
  unfold Mo.nomV
  cases hr : Mo.right s c with
  | false => exact nominal_form k n d y m s c w hr
  | true =>
    rw [if_neg (by simp)]
    have hI := in_all k n d y m
    rcases in_cases k n d y m with ⟨e1, e2, _⟩ | ⟨e1, v1, v2⟩
    · rw [e1] at hI
      rw [if_neg (by omega)]
      exact nominal_in k n d y m s c _ w hr (Lib.hid hI) e2
    · rw [e1] at hI
      rw [if_pos e1]
      exact nominal_yes k n d y m s c _ w hr (Lib.hid hI) v1 v2
theorem rnominal_form (k n d y m s c : Int) (w : World) (h : Mo.right s c = false) :
    Calls Tryz.prog 6 #[.int .i64 y, .int .i64 m, .agg #[.int .u8 k, .int .i64 n, .int .i64 d], .agg #[.int .i64 s, .int .u8 c]] w fun e w' => e = .returned (.tuple #[.int .i64 0, .int .i64 2]) ∧ Below w.heap.size w w' := by
  have H := Lib.hid h
  clear h
  go_enter Tryz.func6, Tryz.ntmps6
  go_wp2_with fail
  refine (r7check_no _ _ _ H.out).mono ?_
  rintro e w1 ⟨rfl, b1⟩
  have hz := b1.size
  go_wp2_with fail
  go_ret2
  refine ⟨rfl, Below.trans ?_ (b1.mono (by first | omega | (simp; done) | (simp; omega)))⟩
  repeat (first | exact Below.refl _ _ | assumption | refine below_drewN ?_ _ | refine Below.drew ?_ | refine Below.setCell ?_ (by first | omega | (simp; done) | (simp; omega)) _ | refine Below.alloc ?_ (by first | omega | (simp; done) | (simp; omega)) _)
/-- What the document's In answers, the same in every world. -/
def RInE (k n d y m : Int) (v z : Int) : Prop := ∀ w : World, Calls Tryz.prog 20 #[.agg #[.int .u8 k, .int .i64 n, .int .i64 d], .int .i64 y, .int .i64 m] w fun e w' => e = .returned (.tuple #[.int .i64 v, .int .i64 z]) ∧ Below w.heap.size w w'
theorem rnominal_in (k n d y m s c z : Int) (w : World) (h : Mo.right s c = true) (hI : Hid (RInE k n d y m 0 z)) (hz : 1 ≤ z) :
    Calls Tryz.prog 6 #[.int .i64 y, .int .i64 m, .agg #[.int .u8 k, .int .i64 n, .int .i64 d], .agg #[.int .i64 s, .int .u8 c]] w fun e w' => e = .returned (.tuple #[.int .i64 0, .int .i64 z]) ∧ Below w.heap.size w w' := by
  have H := Lib.hid h
  clear h
  have t1 : (z != 0) = true := by rw [bne_iff_ne]; omega
  go_enter Tryz.func6, Tryz.ntmps6
  go_wp2_with fail
  refine (r7check_yes _ _ _ H.out).mono ?_
  rintro e w1 ⟨rfl, b1⟩
  obtain ⟨hc, hf⟩ := bcell b1
  have hz1 : w.heap.size + 1 < w1.heap.size := by have := b1.size; simp at this; omega
  go_wp2_with fail
  refine (hI.out _).mono ?_
  rintro e w2 ⟨rfl, b2⟩
  have hz2 := b2.size
  go_wp2_with fail
  go_ret2
  refine ⟨rfl, Below.trans (Below.trans ?_ (b1.mono (by first | omega | (simp; done) | (simp; omega)))) (b2.mono (by first | omega | (simp; done) | (simp; omega)))⟩
  repeat (first | exact Below.refl _ _ | assumption | refine below_drewN ?_ _ | refine Below.drew ?_ | refine Below.setCell ?_ (by first | omega | (simp; done) | (simp; omega)) _ | refine Below.alloc ?_ (by first | omega | (simp; done) | (simp; omega)) _)
theorem rnominal_yes (k n d y m s c v : Int) (w : World) (h : Mo.right s c = true) (hI : Hid (RInE k n d y m v 0)) (v1 : -719162 ≤ v) (v2 : v ≤ 2932896) :
    Calls Tryz.prog 6 #[.int .i64 y, .int .i64 m, .agg #[.int .u8 k, .int .i64 n, .int .i64 d], .agg #[.int .i64 s, .int .u8 c]] w fun e w' => e = .returned (.tuple #[.int .i64 (v * 86400 + s), .int .i64 0]) ∧ Below w.heap.size w w' := by
  have H := Lib.hid h
  have hs := (Mo.right_iff s c).1 h
  obtain ⟨s1, s2, _⟩ := hs
  clear h
  go_enter Tryz.func6, Tryz.ntmps6
  go_wp2_with fail
  refine (r7check_yes _ _ _ H.out).mono ?_
  rintro e w1 ⟨rfl, b1⟩
  obtain ⟨hc, hf⟩ := bcell b1
  have hz1 : w.heap.size + 1 < w1.heap.size := by have := b1.size; simp at this; omega
  go_wp2_with fail
  refine (hI.out _).mono ?_
  rintro e w2 ⟨rfl, b2⟩
  obtain ⟨hc2, hf2⟩ := bcell b2
  have hz2 : w.heap.size + 1 < w2.heap.size := by have := b2.size; omega
  go_wp2_with fail
  refine (rat_yes v s _ v1 v2 s1 s2).mono ?_
  rintro e w3 ⟨rfl, b3⟩
  have hz3 := b3.size
  go_wp2_with fail
  go_ret2
  refine ⟨rfl, Below.trans (Below.trans (Below.trans ?_ (b1.mono (by first | omega | (simp; done) | (simp; omega)))) (b2.mono (by first | omega | (simp; done) | (simp; omega)))) (b3.mono (by first | omega | (simp; done) | (simp; omega)))⟩
  repeat (first | exact Below.refl _ _ | assumption | refine below_drewN ?_ _ | refine Below.drew ?_ | refine Below.setCell ?_ (by first | omega | (simp; done) | (simp; omega)) _ | refine Below.alloc ?_ (by first | omega | (simp; done) | (simp; omega)) _)
theorem rnominal_all (k n d y m s c : Int) (w : World) :
    Calls Tryz.prog 6 #[.int .i64 y, .int .i64 m, .agg #[.int .u8 k, .int .i64 n, .int .i64 d], .agg #[.int .i64 s, .int .u8 c]] w fun e w' => e = .returned (.tuple #[.int .i64 (Mo.nomV k n d y m s c).1, .int .i64 (Mo.nomV k n d y m s c).2]) ∧ Below w.heap.size w w' := by
  unfold Mo.nomV
  cases hr : Mo.right s c with
  | false => exact rnominal_form k n d y m s c w hr
  | true =>
    rw [if_neg (by simp)]
    have hI : RInE k n d y m (Mo.inV k n d y m).1 (Mo.inV k n d y m).2 := fun w => rin_all k n d y m w
    rcases in_cases k n d y m with ⟨e1, e2, _⟩ | ⟨e1, v1, v2⟩
    · rw [e1] at hI
      rw [if_neg (by omega)]
      exact rnominal_in k n d y m s c _ w hr (Lib.hid hI) e2
    · rw [e1] at hI
      rw [if_pos e1]
      exact rnominal_yes k n d y m s c _ w hr (Lib.hid hI) v1 v2
def Mo.far (t : Int) : Bool := decide (t < -1099511627776 ∨ 1099511627776 < t)
/-- The instant, or why there is none. -/
def Mo.instV (n c s v : Int) : Int × Int := if 2 < c then (0, 2) else if Mo.far n = true ∨ Mo.far s = true ∨ Mo.far v = true then (0, 1) else (Mo.inst n c s v, 0)
theorem far_no {t : Int} (h : ¬ Mo.far t = true) : -1099511627776 ≤ t ∧ t ≤ 1099511627776 := by
  unfold Mo.far at h
  rw [decide_eq_true_iff] at h
  omega
theorem rfar_yes (t : Int) (w : World) (h : Mo.far t = true) : Calls Tryz.prog 24 #[.int .i64 t] w fun e w' => e = .returned (.bool true) ∧ w = w' := by
  have h := of_decide_eq_true h
  rcases h with h | h
  · go_enter Tryz.func24, Tryz.ntmps24
    go_wp2
    go_ret
    exact ⟨rfl, rfl⟩
  · have h' : -1099511627776 ≤ t := by omega
    go_enter Tryz.func24, Tryz.ntmps24
    go_wp2
    go_ret
    exact ⟨rfl, rfl⟩
theorem rfar_no (t : Int) (w : World) (h1 : -1099511627776 ≤ t) (h2 : t ≤ 1099511627776) : Calls Tryz.prog 24 #[.int .i64 t] w fun e w' => e = .returned (.bool false) ∧ w = w' := by
  have t1 : decide (t < -1099511627776) = false := by simp; omega
  have t2 : decide (1099511627776 < t) = false := by simp; omega
  go_enter Tryz.func24, Tryz.ntmps24
  go_wp2
  go_ret
  exact ⟨rfl, rfl⟩
theorem near_not (t : Int) (w : World) (h : Mo.far t = true) : Calls Tryz.prog 23 #[.int .i64 t] w fun e w' => e = .returned (.bool false) ∧ w = w' := near_no t w (of_decide_eq_true h)
theorem instant_clock (n c s v : Int) (w : World) (h : 2 < c) : Calls Tryz.prog 7 #[.int .i64 n, .int .u8 c, .int .i64 s, .int .i64 v] w fun e w' => e = .returned (.tuple #[.int .i64 0, .int .i64 2]) ∧ w = w' := by
  go_enter Tryz.func7, Tryz.ntmps7
  go_wp2_with fail
  refine (isClock_no _ _ h).mono ?_
  rintro e w' ⟨rfl, rfl⟩
  go_wp2_with fail
  go_ret2
  exact ⟨rfl, rfl⟩
theorem instant_far (n c s v : Int) (w : World) (hc : c ≤ 2) (h : Hid (Mo.far n = true ∨ Mo.far s = true ∨ Mo.far v = true)) : Calls Tryz.prog 7 #[.int .i64 n, .int .u8 c, .int .i64 s, .int .i64 v] w fun e w' => e = .returned (.tuple #[.int .i64 0, .int .i64 1]) ∧ w = w' := by
  by_cases h1 : Mo.far n = true
  · have H1 := Lib.hid h1
    clear h1
    go_enter Tryz.func7, Tryz.ntmps7
    go_wp2_with fail
    refine (isClock_yes _ _ hc).mono ?_
    rintro e w' ⟨rfl, rfl⟩
    go_wp2_with fail
    refine (near_not n _ H1.out).mono ?_
    rintro e w' ⟨rfl, rfl⟩
    go_wp2_with fail
    go_ret2
    exact ⟨rfl, rfl⟩
  · obtain ⟨n1, n2⟩ := far_no h1
    by_cases h2 : Mo.far s = true
    · have H2 := Lib.hid h2
      clear h1 h2
      go_enter Tryz.func7, Tryz.ntmps7
      go_wp2_with fail
      refine (isClock_yes _ _ hc).mono ?_
      rintro e w' ⟨rfl, rfl⟩
      go_wp2_with fail
      refine (near_yes n _ n1 n2).mono ?_
      rintro e w' ⟨rfl, rfl⟩
      go_wp2_with fail
      refine (near_not s _ H2.out).mono ?_
      rintro e w' ⟨rfl, rfl⟩
      go_wp2_with fail
      go_ret2
      exact ⟨rfl, rfl⟩
    · obtain ⟨s1, s2⟩ := far_no h2
      have H3 := Lib.hid (show Mo.far v = true by have := h.out; simp_all)
      clear h1 h2
      go_enter Tryz.func7, Tryz.ntmps7
      go_wp2_with fail
      refine (isClock_yes _ _ hc).mono ?_
      rintro e w' ⟨rfl, rfl⟩
      go_wp2_with fail
      refine (near_yes n _ n1 n2).mono ?_
      rintro e w' ⟨rfl, rfl⟩
      go_wp2_with fail
      refine (near_yes s _ s1 s2).mono ?_
      rintro e w' ⟨rfl, rfl⟩
      go_wp2_with fail
      refine (near_not v _ H3.out).mono ?_
      rintro e w' ⟨rfl, rfl⟩
      go_wp2_with fail
      go_ret2
      exact ⟨rfl, rfl⟩
theorem rinstant_clock (n c s v : Int) (w : World) (h : 2 < c) : Calls Tryz.prog 8 #[.int .i64 n, .int .u8 c, .int .i64 s, .int .i64 v] w fun e w' => e = .returned (.tuple #[.int .i64 0, .int .i64 2]) ∧ w = w' := by
  go_enter Tryz.func8, Tryz.ntmps8
  go_wp2_with fail
  go_ret2
  exact ⟨rfl, rfl⟩
theorem rinstant_far (n c s v : Int) (w : World) (hc : c ≤ 2) (h : Hid (Mo.far n = true ∨ Mo.far s = true ∨ Mo.far v = true)) : Calls Tryz.prog 8 #[.int .i64 n, .int .u8 c, .int .i64 s, .int .i64 v] w fun e w' => e = .returned (.tuple #[.int .i64 0, .int .i64 1]) ∧ w = w' := by
  have t0 : decide (2 < c) = false := by simp; omega
  by_cases h1 : Mo.far n = true
  · have H1 := Lib.hid h1
    clear h1
    go_enter Tryz.func8, Tryz.ntmps8
    go_wp2_with fail
    refine (rfar_yes n _ H1.out).mono ?_
    rintro e w' ⟨rfl, rfl⟩
    go_wp2_with fail
    go_ret2
    exact ⟨rfl, rfl⟩
  · obtain ⟨n1, n2⟩ := far_no h1
    by_cases h2 : Mo.far s = true
    · have H2 := Lib.hid h2
      clear h1 h2
      go_enter Tryz.func8, Tryz.ntmps8
      go_wp2_with fail
      refine (rfar_no n _ n1 n2).mono ?_
      rintro e w' ⟨rfl, rfl⟩
      go_wp2_with fail
      refine (rfar_yes s _ H2.out).mono ?_
      rintro e w' ⟨rfl, rfl⟩
      go_wp2_with fail
      go_ret2
      exact ⟨rfl, rfl⟩
    · obtain ⟨s1, s2⟩ := far_no h2
      have H3 := Lib.hid (show Mo.far v = true by have := h.out; simp_all)
      clear h1 h2
      go_enter Tryz.func8, Tryz.ntmps8
      go_wp2_with fail
      refine (rfar_no n _ n1 n2).mono ?_
      rintro e w' ⟨rfl, rfl⟩
      go_wp2_with fail
      refine (rfar_no s _ s1 s2).mono ?_
      rintro e w' ⟨rfl, rfl⟩
      go_wp2_with fail
      refine (rfar_yes v _ H3.out).mono ?_
      rintro e w' ⟨rfl, rfl⟩
      go_wp2_with fail
      go_ret2
      exact ⟨rfl, rfl⟩
theorem ret2_w {a b z : Int} (h : a = b) : Ending.returned (.tuple #[.int .i64 a, .int .i64 z]) = .returned (.tuple #[.int .i64 b, .int .i64 z]) := by rw [h]
theorem rinstant_yes (n c s v : Int) (w : World) (h0 : 0 ≤ c) (h : c ≤ 2) (n1 : -1099511627776 ≤ n) (n2 : n ≤ 1099511627776) (s1 : -1099511627776 ≤ s) (s2 : s ≤ 1099511627776) (v1 : -1099511627776 ≤ v) (v2 : v ≤ 1099511627776) :
    Calls Tryz.prog 8 #[.int .i64 n, .int .u8 c, .int .i64 s, .int .i64 v] w fun e w' => e = .returned (.tuple #[.int .i64 (Mo.inst n c s v), .int .i64 0]) ∧ w = w' := by
  have hc : c = 0 ∨ c = 1 ∨ c = 2 := by omega
  rcases hc with rfl | rfl | rfl
  · have HE := Lib.hid (show n - s - v = Mo.inst n 0 s v by unfold Mo.inst; rw [if_pos rfl]; omega)
    go_enter Tryz.func8, Tryz.ntmps8
    go_wp2_with fail
    refine (rfar_no n _ n1 n2).mono ?_
    rintro e w' ⟨rfl, rfl⟩
    go_wp2_with fail
    refine (rfar_no s _ s1 s2).mono ?_
    rintro e w' ⟨rfl, rfl⟩
    go_wp2_with fail
    refine (rfar_no v _ v1 v2).mono ?_
    rintro e w' ⟨rfl, rfl⟩
    go_wp2_with fail
    go_ret2
    exact ⟨ret2_w HE.out, rfl⟩
  · have HE := Lib.hid (show n - s = Mo.inst n 1 s v from rfl)
    go_enter Tryz.func8, Tryz.ntmps8
    go_wp2_with fail
    refine (rfar_no n _ n1 n2).mono ?_
    rintro e w' ⟨rfl, rfl⟩
    go_wp2_with fail
    refine (rfar_no s _ s1 s2).mono ?_
    rintro e w' ⟨rfl, rfl⟩
    go_wp2_with fail
    refine (rfar_no v _ v1 v2).mono ?_
    rintro e w' ⟨rfl, rfl⟩
    go_wp2_with fail
    go_ret2
    exact ⟨ret2_w HE.out, rfl⟩
  · have HE := Lib.hid (show n = Mo.inst n 2 s v from rfl)
    go_enter Tryz.func8, Tryz.ntmps8
    go_wp2_with fail
    refine (rfar_no n _ n1 n2).mono ?_
    rintro e w' ⟨rfl, rfl⟩
    go_wp2_with fail
    refine (rfar_no s _ s1 s2).mono ?_
    rintro e w' ⟨rfl, rfl⟩
    go_wp2_with fail
    refine (rfar_no v _ v1 v2).mono ?_
    rintro e w' ⟨rfl, rfl⟩
    go_wp2_with fail
    go_ret2
    exact ⟨ret2_w HE.out, rfl⟩
theorem instant_all (n c s v : Int) (w : World) (h0 : 0 ≤ c) : Calls Tryz.prog 7 #[.int .i64 n, .int .u8 c, .int .i64 s, .int .i64 v] w fun e w' => e = .returned (.tuple #[.int .i64 (Mo.instV n c s v).1, .int .i64 (Mo.instV n c s v).2]) ∧ w = w' := by
  unfold Mo.instV
  by_cases h1 : 2 < c
  · rw [if_pos h1]
    exact instant_clock n c s v w h1
  · rw [if_neg h1]
    by_cases h2 : Mo.far n = true ∨ Mo.far s = true ∨ Mo.far v = true
    · rw [if_pos h2]
      exact instant_far n c s v w (by omega) (Lib.hid h2)
    · rw [if_neg h2]
      have a1 := far_no (fun h => h2 (.inl h))
      have a2 := far_no (fun h => h2 (.inr (.inl h)))
      have a3 := far_no (fun h => h2 (.inr (.inr h)))
      exact instant_yes n c s v w h0 (by omega) a1.1 a1.2 a2.1 a2.2 a3.1 a3.2
theorem rinstant_all (n c s v : Int) (w : World) (h0 : 0 ≤ c) : Calls Tryz.prog 8 #[.int .i64 n, .int .u8 c, .int .i64 s, .int .i64 v] w fun e w' => e = .returned (.tuple #[.int .i64 (Mo.instV n c s v).1, .int .i64 (Mo.instV n c s v).2]) ∧ w = w' := by
  unfold Mo.instV
  by_cases h1 : 2 < c
  · rw [if_pos h1]
    exact rinstant_clock n c s v w h1
  · rw [if_neg h1]
    by_cases h2 : Mo.far n = true ∨ Mo.far s = true ∨ Mo.far v = true
    · rw [if_pos h2]
      exact rinstant_far n c s v w (by omega) (Lib.hid h2)
    · rw [if_neg h2]
      have a1 := far_no (fun h => h2 (.inl h))
      have a2 := far_no (fun h => h2 (.inr (.inl h)))
      have a3 := far_no (fun h => h2 (.inr (.inr h)))
      exact rinstant_yes n c s v w h0 (by omega) a1.1 a1.2 a2.1 a2.2 a3.1 a3.2
end Go.Proofs.YtgcgmmdfmcapiaaGreatDoor
