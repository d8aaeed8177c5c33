/- The walk of the law ClockTells: the program's answers are the document's. -/
import Derived.Test.YtoaemkljlphieaaDoorLives02
import Derived.Test.YtoaemkljlphieaaDoorRef02b
import Derived.Test.YtoaemkljlphieaaDoorRefParse2
import Derived.OpenShut
namespace Go.Proofs.YtoaemkljlphieaaDoor
open Go.RowKit
theorem at_same (d t : Int) : ∃ n k : Int, (∀ w : World, Calls Tryd.prog 7 #[.int .i64 d, .int .i64 t] w fun e w' => e = .returned (.tuple #[.int .i64 n, .int .i64 k]) ∧ Below w.heap.size w w') ∧
    (∀ w : World, Calls Tryd.prog 8 #[.int .i64 d, .int .i64 t] w fun e w' => e = .returned (.tuple #[.int .i64 n, .int .i64 k]) ∧ Below w.heap.size w w') := by
  by_cases h : -719162 ≤ d ∧ d ≤ 2932896
  · by_cases h2 : -604800 ≤ t ∧ t ≤ 604800
    · exact ⟨_, _, fun w => at_yes d t w h.1 h.2 h2.1 h2.2, fun w => rat_yes d t w h.1 h.2 h2.1 h2.2⟩
    · exact ⟨_, _, fun w => at_no_time d t w h.1 h.2 (by omega), fun w => rat_no_time d t w h.1 h.2 (by omega)⟩
  · exact ⟨_, _, fun w => at_no_day d t w (by omega), fun w => rat_no_day d t w (by omega)⟩
theorem year_same (t : Int) (h1 : -9223372036854775808 ≤ t) (h2 : t ≤ 9223372036854775807) : ∃ n k : Int, (∀ w : World, Calls Tryd.prog 11 #[.int .i64 t] w fun e w' => e = .returned (.tuple #[.int .i64 n, .int .i64 k]) ∧ Below w.heap.size w w') ∧
    (∀ w : World, Calls Tryd.prog 12 #[.int .i64 t] w fun e w' => e = .returned (.tuple #[.int .i64 n, .int .i64 k]) ∧ Below w.heap.size w w') := by
  by_cases h : -62135596800 ≤ t ∧ t < 253402300800
  · exact ⟨_, _, fun w => year_yes t w h.1 h.2, fun w => ryear_yes t w h.1 h.2⟩
  · exact ⟨_, _, fun w => year_no t w h1 h2 (by omega), fun w => ryear_no t w h1 h2 (by omega)⟩
theorem add_same (a b : Int) : ∃ n k : Int, (∀ w : World, Calls Tryd.prog 13 #[.int .i64 a, .int .i64 b] w fun e w' => e = .returned (.tuple #[.int .i64 n, .int .i64 k]) ∧ w = w') ∧
    (∀ w : World, Calls Tryd.prog 14 #[.int .i64 a, .int .i64 b] w fun e w' => e = .returned (.tuple #[.int .i64 n, .int .i64 k]) ∧ w = w') := by
  by_cases h : Near a b
  · exact ⟨_, _, fun w => add_yes a b w h, fun w => radd_yes a b w h⟩
  · exact ⟨_, _, fun w => add_no a b w h, fun w => radd_no a b w h⟩
theorem text_same (t : Int) : ∃ x : ByteArray, (∀ w : World, Env w → Calls Tryd.prog 17 #[.int .i64 t] w fun e w' => e = .returned (.string x) ∧ Below w.heap.size w w') ∧
    (∀ w : World, Calls Tryd.prog 18 #[.int .i64 t] w fun e w' => e = .returned (.string x) ∧ Below w.heap.size w w') := by
  by_cases h : -604800 ≤ t ∧ t ≤ 604800
  · exact ⟨_, fun w hE => text_in t w hE h.1 h.2, fun w => rtext_in t w h.1 h.2⟩
  · exact ⟨_, fun w _ => text_out t w (by omega), fun w => rtext_out t w (by omega)⟩
theorem tells_long (d sec t : Int) (s : ByteArray) (w : World) (hE : Env w) (hs : 200 < s.size) :
    Calls Tryd.prog 3 #[.int .i64 d, .int .i64 sec, .int .i64 t, .string s] w fun e w' => e = .returned (.bool true) ∧ Below w.heap.size w w' := by
  go_enter Tryd.func3, Tryd.ntmps3
  go_wp2_with fail
  refine (lives02 _ hE).mono ?_
  rintro e w1 ⟨rfl, hb1⟩
  go_wp2_with fail
  go_ret
  exact ⟨rfl, hb1⟩
set_option maxRecDepth 100000 in
set_option maxHeartbeats 4000000 in
theorem tells_short (d sec t : Int) (s : ByteArray) (w : World) (hE : Env w) (h1 : -9223372036854775808 ≤ t) (h2 : t ≤ 9223372036854775807) (hs : s.size ≤ 200) :
    Calls Tryd.prog 3 #[.int .i64 d, .int .i64 sec, .int .i64 t, .string s] w fun e w' => e = .returned (.bool true) ∧ Below w.heap.size w w' := by
  obtain ⟨n1, n2, x1, x2⟩ := at_same d sec
  obtain ⟨y1, y2, x3, x4⟩ := year_same t h1 h2
  obtain ⟨z1, z2, x5, x6⟩ := add_same t sec
  obtain ⟨X, x7, x8⟩ := text_same sec
  obtain ⟨p1, hp1⟩ : ∃ p, p = (parseL s.data.toList).1 := ⟨_, rfl⟩
  obtain ⟨p2, hp2⟩ : ∃ p, p = (parseL s.data.toList).2 := ⟨_, rfl⟩
  have x9 : ∀ w : World, Env w → Calls Tryd.prog 15 #[.string s] w fun e w' => e = .returned (.tuple #[.int .i64 p1, .int .i64 p2]) ∧ Below w.heap.size w w' := by
    intro w hE; rw [hp1, hp2]; exact parse_any s w hE hs
  have x10 : ∀ w : World, Calls Tryd.prog 16 #[.string s] w fun e w' => e = .returned (.tuple #[.int .i64 p1, .int .i64 p2]) ∧ Below w.heap.size w w' := by
    intro w; rw [hp1, hp2]; exact rparse_any s w hs
  have X1 := Lib.hid x1
  have X2 := Lib.hid x2
  have X3 := Lib.hid x3
  have X4 := Lib.hid x4
  have X5 := Lib.hid x5
  have X6 := Lib.hid x6
  have X7 := Lib.hid x7
  have X8 := Lib.hid x8
  have X9 := Lib.hid x9
  have X10 := Lib.hid x10
  clear x1 x2 x3 x4 x5 x6 x7 x8 x9 x10 hp1 hp2
  go_enter Tryd.func3, Tryd.ntmps3
  go_wp2_with fail
  refine (X1.out _).mono ?_
  rintro e w1 ⟨rfl, hb1⟩
  go_wp2_with fail
  refine (X2.out _).mono ?_
  rintro e w2 ⟨rfl, hb2⟩
  have a2 := hb1.trans (hb2.mono hb1.size)
  go_wp2_with (first | (go_at_call 9; refine (split_any _ _ h1 h2).mono ?_; rintro e w' ⟨rfl, rfl⟩) | (go_at_call 10; refine (rsplit_any _ _ h1 h2).mono ?_; rintro e w' ⟨rfl, rfl⟩))
  refine (X3.out _).mono ?_
  rintro e w3 ⟨rfl, hb3⟩
  have a3 := a2.trans (hb3.mono a2.size)
  go_wp2_with fail
  refine (X4.out _).mono ?_
  rintro e w4 ⟨rfl, hb4⟩
  have a4 := a3.trans (hb4.mono a3.size)
  go_wp2_with (first | (go_at_call 13; refine (X5.out _).mono ?_; rintro e w' ⟨rfl, rfl⟩) | (go_at_call 14; refine (X6.out _).mono ?_; rintro e w' ⟨rfl, rfl⟩))
  refine (X9.out _ (hE.below a4)).mono ?_
  rintro e w5 ⟨rfl, hb5⟩
  have a5 := a4.trans (hb5.mono a4.size)
  go_wp2_with fail
  refine (X10.out _).mono ?_
  rintro e w6 ⟨rfl, hb6⟩
  have a6 := a5.trans (hb6.mono a5.size)
  go_wp2_with fail
  refine (lives02 _ (hE.below a6)).mono ?_
  rintro e w7 ⟨rfl, hb7⟩
  have a7 := a6.trans (hb7.mono a6.size)
  go_wp2_with fail
  refine (X7.out _ (hE.below a7)).mono ?_
  rintro e w8 ⟨rfl, hb8⟩
  have a8 := a7.trans (hb8.mono a7.size)
  go_wp2_with fail
  refine (X8.out _).mono ?_
  rintro e w9 ⟨rfl, hb9⟩
  have a9 := a8.trans (hb9.mono a8.size)
  go_wp2_with fail
  go_ret
  exact ⟨rfl, a9⟩
theorem walkClockTells (d : Int) (_ : (Lit.int .i64 d).wf = true) (sec : Int) (_ : (Lit.int .i64 sec).wf = true) (t : Int) (ht : (Lit.int .i64 t).wf = true) (s : ByteArray) (_ : s.size ≤ maxLen) (w : World) (hE : Env w) :
    Calls Tryd.prog 3 #[.int .i64 d, .int .i64 sec, .int .i64 t, .string s] w fun e w' => e = .returned (.bool true) ∧ Below w.heap.size w w' := by
  have b0 := bounds_i64 ht
  by_cases hs : s.size ≤ 200
  · exact tells_short d sec t s w hE b0.1 b0.2 hs
  · exact tells_long d sec t s w hE (by omega)
end Go.Proofs.YtoaemkljlphieaaDoor
