/- The walk of the law ClockBack. -/
import Derived.Test.YtoaemkljlphieaaDoorLives02
import Derived.Test.YtoaemkljlphieaaDoorTxt2
import Derived.OpenShut
namespace Go.Proofs.YtoaemkljlphieaaDoor
open Go.RowKit
theorem text_form (t : Int) : ∃ s : ByteArray, s.size ≤ 200 ∧ (∀ w : World, Env w → Calls Tryd.prog 17 #[.int .i64 t] w fun e w' => e = .returned (.string s) ∧ Below w.heap.size w w') ∧
    ((-604800 ≤ t ∧ t ≤ 604800 ∧ s = ⟨(txt t).toArray⟩) ∨ ((t < -604800 ∨ 604800 < t) ∧ s = ByteArray.empty)) := by
  by_cases h : -604800 ≤ t ∧ t ≤ 604800
  · refine ⟨⟨(txt t).toArray⟩, ?_, fun w hE => text_in t w hE h.1 h.2, .inl ⟨h.1, h.2, rfl⟩⟩
    have := txt_len t h.1 h.2
    show (txt t).toArray.size ≤ 200
    simpa using this
  · exact ⟨ByteArray.empty, by decide, fun w _ => text_out t w (by omega), .inr ⟨by omega, rfl⟩⟩
theorem back_long (sec o t : Int) (s : ByteArray) (w : World) (hE : Env w) (hs : 200 < s.size) :
    Calls Tryd.prog 4 #[.int .i64 sec, .int .i64 o, .int .i64 t, .string s] w fun e w' => e = .returned (.bool true) ∧ Below w.heap.size w w' := by
  go_enter Tryd.func4, Tryd.ntmps4
  go_wp2_with fail
  refine (lives02 _ hE).mono ?_
  rintro e w1 ⟨rfl, hb1⟩
  go_wp2_with fail
  go_ret
  exact ⟨rfl, hb1⟩
theorem at_of (t : Int) (w : World) (h1 : -719162 ≤ t / 86400) (h2 : t / 86400 ≤ 2932896) :
    Calls Tryd.prog 7 #[.int .i64 (t / 86400), .int .i64 (t % 86400)] w fun e w' => e = .returned (.tuple #[.int .i64 t, .int .i64 0]) ∧ Below w.heap.size w w' := by
  have := at_yes (t / 86400) (t % 86400) w h1 h2 (by omega) (by omega)
  rw [show t / 86400 * 86400 + t % 86400 = t by omega] at this
  exact this
set_option maxHeartbeats 2000000 in
set_option maxRecDepth 100000 in
theorem back_ok_in (sec o t : Int) (s X O : ByteArray) (w : World) (hE : Env w) (t1 : -9223372036854775808 ≤ t) (t2 : t ≤ 9223372036854775807) (hs : s.size ≤ 200) (n : Int) (hk : Hid (parseL s.data.toList = (n, 0))) (n1 : -604800 ≤ n) (n2 : n ≤ 604800) (N : ByteArray) (hNs : N.size ≤ 200) (hN : Hid (∀ w : World, Env w → Calls Tryd.prog 17 #[.int .i64 n] w fun e w' => e = .returned (.string N) ∧ Below w.heap.size w w')) (hpN : Hid (parseL N.data.toList = (n, 0)))
    (hX : Hid (∀ w : World, Env w → Calls Tryd.prog 17 #[.int .i64 sec] w fun e w' => e = .returned (.string X) ∧ Below w.heap.size w w'))
    (hO : Hid (∀ w : World, Env w → Calls Tryd.prog 17 #[.int .i64 o] w fun e w' => e = .returned (.string O) ∧ Below w.heap.size w w')) (hXs : X.size ≤ 200) (hpX : Hid (parseL X.data.toList = (sec, 0))) (hXe : X.toList.isEmpty = false) (hOX : (O.toList == X.toList) = (o == sec)) :
    Calls Tryd.prog 4 #[.int .i64 sec, .int .i64 o, .int .i64 t, .string s] w fun e w' => e = .returned (.bool true) ∧ Below w.heap.size w w' := by
  go_enter Tryd.func4, Tryd.ntmps4
  go_wp2_with fail
  refine (lives02 _ hE).mono ?_
  rintro e w1 ⟨rfl, hb1⟩
  have hE1 := hE.below hb1
  go_wp2_with fail
  refine (parse_lit s n 0 _ hE1 hs hk.out).mono ?_
  rintro e w2 ⟨rfl, hb2⟩
  have a2 := hb1.trans (hb2.mono hb1.size)
  have hE2 := hE1.below hb2
  go_wp2_with fail
  refine (hN.out _ hE2).mono ?_
  rintro e w3 ⟨rfl, hb3⟩
  have a3 := a2.trans (hb3.mono a2.size)
  have hE3 := hE2.below hb3
  go_wp2_with fail
  refine (parse_lit N n 0 _ hE3 hNs hpN.out).mono ?_
  rintro e w4 ⟨rfl, hb4⟩
  have a4 := a3.trans (hb4.mono a3.size)
  have hE4 := hE3.below hb4
  go_wp2_with fail
  refine (hX.out _ hE4).mono ?_
  rintro e w5 ⟨rfl, hb5⟩
  have a5 := a4.trans (hb5.mono a4.size)
  have hE5 := hE4.below hb5
  go_wp2_with fail
  refine (parse_lit X sec 0 _ hE5 hXs hpX.out).mono ?_
  rintro e w6 ⟨rfl, hb6⟩
  have a6 := a5.trans (hb6.mono a5.size)
  have hE6 := hE5.below hb6
  go_wp2_with fail
  refine (hO.out _ hE6).mono ?_
  rintro e w7 ⟨rfl, hb7⟩
  have aM := a6.trans (hb7.mono a6.size)
  go_wp2_with fail
  refine (split_any t _ t1 t2).mono ?_
  rintro e w' ⟨rfl, rfl⟩
  have b1 : decide (t % 86400 < 0) = false := by simp; omega
  have b2 : decide (86400 ≤ t % 86400) = false := by simp; omega
  go_wp2_with fail
  by_cases hd : -719162 ≤ t / 86400 ∧ t / 86400 ≤ 2932896
  · obtain ⟨d1, d2⟩ := hd
    refine (at_of t _ d1 d2).mono ?_
    rintro e w8 ⟨rfl, hb8⟩
    have a8 := aM.trans (hb8.mono aM.size)
    go_wp2_with fail
    refine (of_yes _ _ d1 d2).mono ?_
    rintro e w9 ⟨rfl, hb9⟩
    have a9 := a8.trans (hb9.mono a8.size)
    go_wp2_with fail
    go_ret
    exact ⟨rfl, a9.alloc a9.size _⟩
  · have HD := Lib.hid (show t / 86400 < -719162 ∨ 2932896 < t / 86400 by omega)
    clear hd
    refine (at_no_day _ _ _ HD.out).mono ?_
    rintro e w8 ⟨rfl, hb8⟩
    have a8 := aM.trans (hb8.mono aM.size)
    go_wp2_with fail
    refine (of_no _ _ HD.out).mono ?_
    rintro e w9 ⟨rfl, hb9⟩
    have a9 := a8.trans (hb9.mono a8.size)
    go_wp2_with fail
    go_ret
    exact ⟨rfl, a9.alloc a9.size _⟩
set_option maxHeartbeats 2000000 in
set_option maxRecDepth 100000 in
theorem back_ok_out (sec o t : Int) (s X O : ByteArray) (w : World) (hE : Env w) (t1 : -9223372036854775808 ≤ t) (t2 : t ≤ 9223372036854775807) (hs : s.size ≤ 200) (n : Int) (hk : Hid (parseL s.data.toList = (n, 0))) (n1 : -604800 ≤ n) (n2 : n ≤ 604800) (N : ByteArray) (hNs : N.size ≤ 200) (hN : Hid (∀ w : World, Env w → Calls Tryd.prog 17 #[.int .i64 n] w fun e w' => e = .returned (.string N) ∧ Below w.heap.size w w')) (hpN : Hid (parseL N.data.toList = (n, 0)))
    (hX : Hid (∀ w : World, Env w → Calls Tryd.prog 17 #[.int .i64 sec] w fun e w' => e = .returned (.string X) ∧ Below w.heap.size w w'))
    (hXe : X.toList.isEmpty = true) :
    Calls Tryd.prog 4 #[.int .i64 sec, .int .i64 o, .int .i64 t, .string s] w fun e w' => e = .returned (.bool true) ∧ Below w.heap.size w w' := by
  go_enter Tryd.func4, Tryd.ntmps4
  go_wp2_with fail
  refine (lives02 _ hE).mono ?_
  rintro e w1 ⟨rfl, hb1⟩
  have hE1 := hE.below hb1
  go_wp2_with fail
  refine (parse_lit s n 0 _ hE1 hs hk.out).mono ?_
  rintro e w2 ⟨rfl, hb2⟩
  have a2 := hb1.trans (hb2.mono hb1.size)
  have hE2 := hE1.below hb2
  go_wp2_with fail
  refine (hN.out _ hE2).mono ?_
  rintro e w3 ⟨rfl, hb3⟩
  have a3 := a2.trans (hb3.mono a2.size)
  have hE3 := hE2.below hb3
  go_wp2_with fail
  refine (parse_lit N n 0 _ hE3 hNs hpN.out).mono ?_
  rintro e w4 ⟨rfl, hb4⟩
  have a4 := a3.trans (hb4.mono a3.size)
  have hE4 := hE3.below hb4
  go_wp2_with fail
  refine (hX.out _ hE4).mono ?_
  rintro e w5 ⟨rfl, hb5⟩
  have a5 := a4.trans (hb5.mono a4.size)
  have hE5 := hE4.below hb5
  go_wp2_with fail
  have aM := a5
  refine (split_any t _ t1 t2).mono ?_
  rintro e w' ⟨rfl, rfl⟩
  have b1 : decide (t % 86400 < 0) = false := by simp; omega
  have b2 : decide (86400 ≤ t % 86400) = false := by simp; omega
  go_wp2_with fail
  by_cases hd : -719162 ≤ t / 86400 ∧ t / 86400 ≤ 2932896
  · obtain ⟨d1, d2⟩ := hd
    refine (at_of t _ d1 d2).mono ?_
    rintro e w8 ⟨rfl, hb8⟩
    have a8 := aM.trans (hb8.mono aM.size)
    go_wp2_with fail
    refine (of_yes _ _ d1 d2).mono ?_
    rintro e w9 ⟨rfl, hb9⟩
    have a9 := a8.trans (hb9.mono a8.size)
    go_wp2_with fail
    go_ret
    exact ⟨rfl, a9.alloc a9.size _⟩
  · have HD := Lib.hid (show t / 86400 < -719162 ∨ 2932896 < t / 86400 by omega)
    clear hd
    refine (at_no_day _ _ _ HD.out).mono ?_
    rintro e w8 ⟨rfl, hb8⟩
    have a8 := aM.trans (hb8.mono aM.size)
    go_wp2_with fail
    refine (of_no _ _ HD.out).mono ?_
    rintro e w9 ⟨rfl, hb9⟩
    have a9 := a8.trans (hb9.mono a8.size)
    go_wp2_with fail
    go_ret
    exact ⟨rfl, a9.alloc a9.size _⟩
set_option maxHeartbeats 2000000 in
set_option maxRecDepth 100000 in
theorem back_no_in (sec o t : Int) (s X O : ByteArray) (w : World) (hE : Env w) (t1 : -9223372036854775808 ≤ t) (t2 : t ≤ 9223372036854775807) (hs : s.size ≤ 200) (n k : Int) (hk : Hid (parseL s.data.toList = (n, k))) (hk0 : (k == 0) = false)
    (hX : Hid (∀ w : World, Env w → Calls Tryd.prog 17 #[.int .i64 sec] w fun e w' => e = .returned (.string X) ∧ Below w.heap.size w w'))
    (hO : Hid (∀ w : World, Env w → Calls Tryd.prog 17 #[.int .i64 o] w fun e w' => e = .returned (.string O) ∧ Below w.heap.size w w')) (hXs : X.size ≤ 200) (hpX : Hid (parseL X.data.toList = (sec, 0))) (hXe : X.toList.isEmpty = false) (hOX : (O.toList == X.toList) = (o == sec)) :
    Calls Tryd.prog 4 #[.int .i64 sec, .int .i64 o, .int .i64 t, .string s] w fun e w' => e = .returned (.bool true) ∧ Below w.heap.size w w' := by
  go_enter Tryd.func4, Tryd.ntmps4
  go_wp2_with fail
  refine (lives02 _ hE).mono ?_
  rintro e w1 ⟨rfl, hb1⟩
  have hE1 := hE.below hb1
  go_wp2_with fail
  refine (parse_lit s n k _ hE1 hs hk.out).mono ?_
  rintro e w2 ⟨rfl, hb2⟩
  have a2 := hb1.trans (hb2.mono hb1.size)
  have hE2 := hE1.below hb2
  go_wp2_with fail
  have a4 := a2
  have hE4 := hE2
  refine (hX.out _ hE4).mono ?_
  rintro e w5 ⟨rfl, hb5⟩
  have a5 := a4.trans (hb5.mono a4.size)
  have hE5 := hE4.below hb5
  go_wp2_with fail
  refine (parse_lit X sec 0 _ hE5 hXs hpX.out).mono ?_
  rintro e w6 ⟨rfl, hb6⟩
  have a6 := a5.trans (hb6.mono a5.size)
  have hE6 := hE5.below hb6
  go_wp2_with fail
  refine (hO.out _ hE6).mono ?_
  rintro e w7 ⟨rfl, hb7⟩
  have aM := a6.trans (hb7.mono a6.size)
  go_wp2_with fail
  refine (split_any t _ t1 t2).mono ?_
  rintro e w' ⟨rfl, rfl⟩
  have b1 : decide (t % 86400 < 0) = false := by simp; omega
  have b2 : decide (86400 ≤ t % 86400) = false := by simp; omega
  go_wp2_with fail
  by_cases hd : -719162 ≤ t / 86400 ∧ t / 86400 ≤ 2932896
  · obtain ⟨d1, d2⟩ := hd
    refine (at_of t _ d1 d2).mono ?_
    rintro e w8 ⟨rfl, hb8⟩
    have a8 := aM.trans (hb8.mono aM.size)
    go_wp2_with fail
    refine (of_yes _ _ d1 d2).mono ?_
    rintro e w9 ⟨rfl, hb9⟩
    have a9 := a8.trans (hb9.mono a8.size)
    go_wp2_with fail
    go_ret
    exact ⟨rfl, a9.alloc a9.size _⟩
  · have HD := Lib.hid (show t / 86400 < -719162 ∨ 2932896 < t / 86400 by omega)
    clear hd
    refine (at_no_day _ _ _ HD.out).mono ?_
    rintro e w8 ⟨rfl, hb8⟩
    have a8 := aM.trans (hb8.mono aM.size)
    go_wp2_with fail
    refine (of_no _ _ HD.out).mono ?_
    rintro e w9 ⟨rfl, hb9⟩
    have a9 := a8.trans (hb9.mono a8.size)
    go_wp2_with fail
    go_ret
    exact ⟨rfl, a9.alloc a9.size _⟩
set_option maxHeartbeats 2000000 in
set_option maxRecDepth 100000 in
theorem back_no_out (sec o t : Int) (s X O : ByteArray) (w : World) (hE : Env w) (t1 : -9223372036854775808 ≤ t) (t2 : t ≤ 9223372036854775807) (hs : s.size ≤ 200) (n k : Int) (hk : Hid (parseL s.data.toList = (n, k))) (hk0 : (k == 0) = false)
    (hX : Hid (∀ w : World, Env w → Calls Tryd.prog 17 #[.int .i64 sec] w fun e w' => e = .returned (.string X) ∧ Below w.heap.size w w'))
    (hXe : X.toList.isEmpty = true) :
    Calls Tryd.prog 4 #[.int .i64 sec, .int .i64 o, .int .i64 t, .string s] w fun e w' => e = .returned (.bool true) ∧ Below w.heap.size w w' := by
  go_enter Tryd.func4, Tryd.ntmps4
  go_wp2_with fail
  refine (lives02 _ hE).mono ?_
  rintro e w1 ⟨rfl, hb1⟩
  have hE1 := hE.below hb1
  go_wp2_with fail
  refine (parse_lit s n k _ hE1 hs hk.out).mono ?_
  rintro e w2 ⟨rfl, hb2⟩
  have a2 := hb1.trans (hb2.mono hb1.size)
  have hE2 := hE1.below hb2
  go_wp2_with fail
  have a4 := a2
  have hE4 := hE2
  refine (hX.out _ hE4).mono ?_
  rintro e w5 ⟨rfl, hb5⟩
  have a5 := a4.trans (hb5.mono a4.size)
  have hE5 := hE4.below hb5
  go_wp2_with fail
  have aM := a5
  refine (split_any t _ t1 t2).mono ?_
  rintro e w' ⟨rfl, rfl⟩
  have b1 : decide (t % 86400 < 0) = false := by simp; omega
  have b2 : decide (86400 ≤ t % 86400) = false := by simp; omega
  go_wp2_with fail
  by_cases hd : -719162 ≤ t / 86400 ∧ t / 86400 ≤ 2932896
  · obtain ⟨d1, d2⟩ := hd
    refine (at_of t _ d1 d2).mono ?_
    rintro e w8 ⟨rfl, hb8⟩
    have a8 := aM.trans (hb8.mono aM.size)
    go_wp2_with fail
    refine (of_yes _ _ d1 d2).mono ?_
    rintro e w9 ⟨rfl, hb9⟩
    have a9 := a8.trans (hb9.mono a8.size)
    go_wp2_with fail
    go_ret
    exact ⟨rfl, a9.alloc a9.size _⟩
  · have HD := Lib.hid (show t / 86400 < -719162 ∨ 2932896 < t / 86400 by omega)
    clear hd
    refine (at_no_day _ _ _ HD.out).mono ?_
    rintro e w8 ⟨rfl, hb8⟩
    have a8 := aM.trans (hb8.mono aM.size)
    go_wp2_with fail
    refine (of_no _ _ HD.out).mono ?_
    rintro e w9 ⟨rfl, hb9⟩
    have a9 := a8.trans (hb9.mono a8.size)
    go_wp2_with fail
    go_ret
    exact ⟨rfl, a9.alloc a9.size _⟩
theorem toList_mk (l : List UInt8) : (⟨l.toArray⟩ : ByteArray).toList = l := by
  exact ByteArray.toList_eq _
theorem walkClockBack (sec : Int) (_ : (Lit.int .i64 sec).wf = true) (o : Int) (_ : (Lit.int .i64 o).wf = true) (t : Int) (ht : (Lit.int .i64 t).wf = true) (s : ByteArray) (_ : s.size ≤ maxLen) (w : World) (hE : Env w) :
    Calls Tryd.prog 4 #[.int .i64 sec, .int .i64 o, .int .i64 t, .string s] w fun e w' => e = .returned (.bool true) ∧ Below w.heap.size w w' := by
  have b0 := bounds_i64 ht
  by_cases hs : s.size ≤ 200
  · obtain ⟨X, hXs, hX, hXc⟩ := text_form sec
    obtain ⟨O, _, hO, hOc⟩ := text_form o
    have hin : -604800 ≤ sec → sec ≤ 604800 → X = ⟨(txt sec).toArray⟩ → parseL X.data.toList = (sec, 0) ∧ X.toList.isEmpty = false ∧ (O.toList == X.toList) = (o == sec) := by
      intro s1 s2 hx
      subst hx
      refine ⟨parse_txt sec s1 s2, ?_, ?_⟩
      · rw [toList_mk]
        cases hq : txt sec with
        | nil => exact absurd hq (txt_ne sec s1 s2)
        | cons _ _ => rfl
      · rcases hOc with ⟨o1, o2, rfl⟩ | ⟨o1, rfl⟩
        · rw [toList_mk, toList_mk, Bool.eq_iff_iff, beq_iff_eq, beq_iff_eq]
          exact ⟨fun h => txt_inj o sec o1 o2 s1 s2 h, fun h => by rw [h]⟩
        · have e1 : (o == sec) = false := by rw [beq_eq_false_iff_ne]; omega
          rw [e1, toList_mk, ByteArray.toList_eq, beq_eq_false_iff_ne]
          intro h
          exact txt_ne sec s1 s2 h.symm
    cases hp : parseL s.data.toList with
    | mk n k =>
      by_cases hk : k = 0
      · subst hk
        have hb := parse_ok s.data.toList (by rw [hp])
        rw [hp] at hb
        obtain ⟨N, hNs, hN, hNc⟩ := text_form n
        have hpN : parseL N.data.toList = (n, 0) := by
          rcases hNc with ⟨_, _, rfl⟩ | ⟨h, _⟩
          · exact parse_txt n hb.1 hb.2
          · have := hb.1; have := hb.2; simp only at *; omega
        rcases hXc with ⟨s1, s2, hx⟩ | ⟨_, hx⟩
        · obtain ⟨h1, h2, h3⟩ := hin s1 s2 hx
          exact back_ok_in sec o t s X O w hE b0.1 b0.2 hs n hp hb.1 hb.2 N hNs hN hpN hX hO hXs h1 h2 h3
        · exact back_ok_out sec o t s X O w hE b0.1 b0.2 hs n hp hb.1 hb.2 N hNs hN hpN hX (by rw [hx, ByteArray.toList_eq]; rfl)
      · have hk0 : (k == 0) = false := beq_eq_false_iff_ne.2 hk
        rcases hXc with ⟨s1, s2, hx⟩ | ⟨_, hx⟩
        · obtain ⟨h1, h2, h3⟩ := hin s1 s2 hx
          exact back_no_in sec o t s X O w hE b0.1 b0.2 hs n k hp hk0 hX hO hXs h1 h2 h3
        · exact back_no_out sec o t s X O w hE b0.1 b0.2 hs n k hp hk0 hX (by rw [hx, ByteArray.toList_eq]; rfl)
  · exact back_long sec o t s w hE (by omega)
end Go.Proofs.YtoaemkljlphieaaDoor
