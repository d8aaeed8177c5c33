/- The first questions of layer 2's statements: the document's own answers. -/
import Derived.Test.YtoaemkljlphieaaDoorParse2
import Derived.Test.YtoaemkljlphieaaDoorAdd
namespace Go.Proofs.YtoaemkljlphieaaDoor
open Go.RowKit
theorem parse_lit (s : ByteArray) (n k : Int) (w : World) (hE : Env w) (hs : s.size ≤ 200) (h : parseL s.data.toList = (n, k)) :
    Calls Tryd.prog 15 #[.string s] w fun e w' => e = .returned (.tuple #[.int .i64 n, .int .i64 k]) ∧ Below w.heap.size w w' := by
  have := parse_any s w hE hs
  rw [h] at this
  exact this
theorem text_lit (t : Int) (s : ByteArray) (w : World) (hE : Env w) (h1 : -604800 ≤ t) (h2 : t ≤ 604800) (h : (⟨(txt t).toArray⟩ : ByteArray) = s) :
    Calls Tryd.prog 17 #[.int .i64 t] w fun e w' => e = .returned (.string s) ∧ Below w.heap.size w w' := by
  have := text_in t w hE h1 h2
  rw [h] at this
  exact this
theorem at_lit (d t x : Int) (w : World) (h1 : -719162 ≤ d) (h2 : d ≤ 2932896) (h3 : -604800 ≤ t) (h4 : t ≤ 604800) (h : d * 86400 + t = x) :
    Calls Tryd.prog 7 #[.int .i64 d, .int .i64 t] w fun e w' => e = .returned (.tuple #[.int .i64 x, .int .i64 0]) ∧ Below w.heap.size w w' := by
  subst h
  exact at_yes d t w h1 h2 h3 h4
theorem split_lit (x d s : Int) (w : World) (h1 : -9223372036854775808 ≤ x) (h2 : x ≤ 9223372036854775807) (h3 : x / 86400 = d) (h4 : x % 86400 = s) :
    Calls Tryd.prog 9 #[.int .i64 x] w fun e w' => e = .returned (.tuple #[.int .i64 d, .int .i64 s]) ∧ w = w' := by
  subst h3 h4
  exact split_any x w h1 h2
theorem year_lit (t y : Int) (w : World) (h1 : -62135596800 ≤ t) (h2 : t < 253402300800) (e : Cal.yearOf (t / 86400) = y) :
    Calls Tryd.prog 11 #[.int .i64 t] w fun e w' => e = .returned (.tuple #[.int .i64 y, .int .i64 0]) ∧ Below w.heap.size w w' := by
  subst e
  exact year_yes t w h1 h2
set_option maxRecDepth 100000 in
set_option maxHeartbeats 2000000 in
theorem lives02 (w : World) (hE : Env w) : Calls Tryd.prog 6 #[] w fun e w' => e = .returned (.bool true) ∧ Below w.heap.size w w' := by
  go_enter Tryd.func6, Tryd.ntmps6
  go_wp2_with fail
  refine (at_lit 1 (-30) 86370 _ (by omega) (by omega) (by omega) (by omega) (by omega)).mono ?_
  rintro e w1 ⟨rfl, hb1⟩
  go_wp2_with fail
  refine (split_lit (-1) (-1) 86399 _ (by omega) (by omega) (by decide) (by decide)).mono ?_
  rintro e w' ⟨rfl, rfl⟩
  go_wp2_with fail
  refine (year_lit (-1) 1969 _ (by omega) (by omega) (by decide)).mono ?_
  rintro e w2 ⟨rfl, hb2⟩
  have a2 := hb1.trans (hb2.mono hb1.size)
  have hE2 := hE.below a2
  go_wp2_with fail
  refine (add_no 1099511627776 1 _ (by unfold Near; omega)).mono ?_
  rintro e w' ⟨rfl, rfl⟩
  go_wp2_with fail
  refine (parse_lit ⟨#[45, 50, 58, 51, 48, 58, 48, 53]⟩ (-9005) 0 _ hE2 (by decide) (by decide)).mono ?_
  rintro e w3 ⟨rfl, hb3⟩
  have a3 := a2.trans (hb3.mono a2.size)
  have hE3 := hE2.below hb3
  go_wp2_with fail
  refine (parse_lit ⟨#[50, 58, 54, 48]⟩ 0 4 _ hE3 (by decide) (by decide)).mono ?_
  rintro e w4 ⟨rfl, hb4⟩
  have a4 := a3.trans (hb4.mono a3.size)
  have hE4 := hE3.below hb4
  go_wp2_with fail
  refine (parse_lit ⟨#[49, 54, 56, 58, 48, 48, 58, 48, 49]⟩ 0 1 _ hE4 (by decide) (by decide)).mono ?_
  rintro e w5 ⟨rfl, hb5⟩
  have a5 := a4.trans (hb5.mono a4.size)
  have hE5 := hE4.below hb5
  go_wp2_with fail
  refine (parse_lit ⟨#[50, 52]⟩ 86400 0 _ hE5 (by decide) (by decide)).mono ?_
  rintro e w6 ⟨rfl, hb6⟩
  have a6 := a5.trans (hb6.mono a5.size)
  have hE6 := hE5.below hb6
  go_wp2_with fail
  refine (at_no_day 2932897 0 _ (by omega)).mono ?_
  rintro e w7 ⟨rfl, hb7⟩
  have a7 := a6.trans (hb7.mono a6.size)
  have hE7 := hE6.below hb7
  go_wp2_with fail
  refine (text_lit (-9005) ⟨#[45, 50, 58, 51, 48, 58, 48, 53]⟩ _ hE7 (by omega) (by omega) (by simp [txt, txt0, Lib.itoa, Lib.decDigits, two])).mono ?_
  rintro e w8 ⟨rfl, hb8⟩
  have a8 := a7.trans (hb8.mono a7.size)
  have hE8 := hE7.below hb8
  go_wp2_with fail
  refine (text_lit 7200 ⟨#[50, 58, 48, 48]⟩ _ hE8 (by omega) (by omega) (by simp [txt, txt0, Lib.itoa, Lib.decDigits, two])).mono ?_
  rintro e w9 ⟨rfl, hb9⟩
  have a9 := a8.trans (hb9.mono a8.size)
  go_wp2_with fail
  refine (text_out 1099511627776 _ (by omega)).mono ?_
  rintro e w10 ⟨rfl, hb10⟩
  go_wp2_with fail
  go_ret
  exact ⟨rfl, a9.trans (hb10.mono a9.size)⟩
end Go.Proofs.YtoaemkljlphieaaDoor
