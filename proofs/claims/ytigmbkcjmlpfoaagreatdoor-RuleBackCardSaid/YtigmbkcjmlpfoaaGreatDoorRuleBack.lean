/- The walk of layer 9's statement RuleBack (by program). -/
import Derived.Test.YtigmbkcjmlpfoaaGreatDoorLives09
import Derived.Test.YtigmbkcjmlpfoaaGreatDoorSmall30
import Derived.Test.YtigmbkcjmlpfoaaGreatDoorRuleSize
namespace Go.Proofs.YtigmbkcjmlpfoaaGreatDoor
open Go.RowKit
/-- What Parse answers of the texts that are handed in. -/
theorem rprs_in (A : Option Addr) (q cc : Nat) (L : List ByteArray) (v : Ru) (i : Nat) (z : Int) (w W : World) (hc : Cx w W) (hl : L.length = q) (hq : q ≤ 30) (hz : ∀ j, j < q → (L.getD j ByteArray.empty).size ≤ 1000) (hS : Sl w w.heap.size A q (fun i => .string (L.getD i ByteArray.empty))) (hp : Rl.prs L = (v, i, z)) :
    Calls Tryz.prog 10 #[.slice A q cc] W fun e w' => e = .returned (.tuple #[.agg #[.string v.nm, .int .i64 v.fr, .int .i64 v.tl, .int .i64 v.m, .int .u8 v.k, .int .i64 v.n, .int .i64 v.d, .int .i64 v.s, .int .u8 v.c, .int .i64 v.sv, .string v.lt], .int .i64 (i : Int), .int .i64 z]) ∧ Below W.heap.size W w' := by
  have hr := rprs_any A q cc (min q 9) L hl (by omega) rfl (fun j hj => by have := hz j (by omega); omega) W hc.env w.heap.size hc.bel.size (hS.below hc.bel)
  rw [hp] at hr
  exact hr
set_option maxRecDepth 100000 in
theorem rback_many (nm : ByteArray) (fr tl m k n d s c sv : Int) (lt : ByteArray) (A : Option Addr) (q cc : Nat) (L : List ByteArray) (hq : q ≤ 9223372036854775807) (HZ : Hid (∀ i, i < q → (L.getD i ByteArray.empty).size ≤ 9223372036854775807)) (HSM : Hid (smB30 q L = false)) (w : World) (HE : Hid (Env w)) (HS : Hid (Sl w w.heap.size A q (fun i => .string (L.getD i ByteArray.empty)))) :
    Calls Tryz.prog 3 #[.agg #[.string nm, .int .i64 fr, .int .i64 tl, .int .i64 m, .int .u8 k, .int .i64 n, .int .i64 d, .int .i64 s, .int .u8 c, .int .i64 sv, .string lt], .slice A q cc] w fun e w' => e = .returned (.bool true) ∧ Below w.heap.size w w' := by
  have HC0 : Hid (Cx w w) := Lib.hid ⟨HE.out, Below.refl _ _⟩
  go_enter Tryz.func3, Tryz.ntmps3
  go_wp2_with fail
  refine (lives09 _ (Lib.hid (HC0.out.al _).env)).mono ?_
  rintro e v1 ⟨rfl, b1⟩
  have HC1 := Lib.hid ((HC0.out.al _).on b1)
  have HX_r := Lib.hid ((Bx.mk' _ w.heap.size #[.string nm, .int .i64 fr, .int .i64 tl, .int .i64 m, .int .u8 k, .int .i64 n, .int .i64 d, .int .i64 s, .int .u8 c, .int .i64 sv, .string lt] 29 (by simp)).on b1)
  clear b1 HC0 
  have HB_r := HX_r
  clear HX_r
  have lt_r := HB_r.out.lt
  have c_r_0 := HB_r.out.at_ 0 _ rfl
  have c_r_1 := HB_r.out.at_ 1 _ rfl
  have c_r_2 := HB_r.out.at_ 2 _ rfl
  have c_r_3 := HB_r.out.at_ 3 _ rfl
  have c_r_4 := HB_r.out.at_ 4 _ rfl
  have c_r_5 := HB_r.out.at_ 5 _ rfl
  have c_r_6 := HB_r.out.at_ 6 _ rfl
  have c_r_7 := HB_r.out.at_ 7 _ rfl
  have c_r_8 := HB_r.out.at_ 8 _ rfl
  have c_r_9 := HB_r.out.at_ 9 _ rfl
  have c_r_10 := HB_r.out.at_ 10 _ rfl
  go_wp2_with fail
  refine (small_solsticelaw09_is A q cc L false (by omega) _ (fun i hi => by have := HZ.out i hi; omega) _ (HS.out.below HC1.out.bel) HSM.out).mono ?_
  rintro e w' ⟨rfl, rfl⟩
  go_wp2_with fail
  go_ret
  exact ⟨rfl, HC1.out.bel⟩
set_option maxRecDepth 100000 in
theorem rback_name (nm : ByteArray) (fr tl m k n d s c sv : Int) (lt : ByteArray) (A : Option Addr) (q cc : Nat) (L : List ByteArray) (hq : q ≤ 30) (HZ : Hid (∀ i, i < q → (L.getD i ByteArray.empty).size ≤ 1000)) (HSM : Hid (smB30 q L = true)) (h1 : 1000 < nm.size) (h2 : nm.size ≤ 9223372036854775807) (w : World) (HE : Hid (Env w)) (HS : Hid (Sl w w.heap.size A q (fun i => .string (L.getD i ByteArray.empty)))) :
    Calls Tryz.prog 3 #[.agg #[.string nm, .int .i64 fr, .int .i64 tl, .int .i64 m, .int .u8 k, .int .i64 n, .int .i64 d, .int .i64 s, .int .u8 c, .int .i64 sv, .string lt], .slice A q cc] w fun e w' => e = .returned (.bool true) ∧ Below w.heap.size w w' := by
  have HC0 : Hid (Cx w w) := Lib.hid ⟨HE.out, Below.refl _ _⟩
  go_enter Tryz.func3, Tryz.ntmps3
  go_wp2_with fail
  refine (lives09 _ (Lib.hid (HC0.out.al _).env)).mono ?_
  rintro e v1 ⟨rfl, b1⟩
  have HC1 := Lib.hid ((HC0.out.al _).on b1)
  have HX_r := Lib.hid ((Bx.mk' _ w.heap.size #[.string nm, .int .i64 fr, .int .i64 tl, .int .i64 m, .int .u8 k, .int .i64 n, .int .i64 d, .int .i64 s, .int .u8 c, .int .i64 sv, .string lt] 29 (by simp)).on b1)
  clear b1 HC0 
  have HB_r := HX_r
  clear HX_r
  have lt_r := HB_r.out.lt
  have c_r_0 := HB_r.out.at_ 0 _ rfl
  have c_r_1 := HB_r.out.at_ 1 _ rfl
  have c_r_2 := HB_r.out.at_ 2 _ rfl
  have c_r_3 := HB_r.out.at_ 3 _ rfl
  have c_r_4 := HB_r.out.at_ 4 _ rfl
  have c_r_5 := HB_r.out.at_ 5 _ rfl
  have c_r_6 := HB_r.out.at_ 6 _ rfl
  have c_r_7 := HB_r.out.at_ 7 _ rfl
  have c_r_8 := HB_r.out.at_ 8 _ rfl
  have c_r_9 := HB_r.out.at_ 9 _ rfl
  have c_r_10 := HB_r.out.at_ 10 _ rfl
  go_wp2_with fail
  refine (small_solsticelaw09_is A q cc L true (by omega) _ (fun i hi => by have := HZ.out i hi; omega) _ (HS.out.below HC1.out.bel) HSM.out).mono ?_
  rintro e w' ⟨rfl, rfl⟩
  go_wp2_with fail
  go_ret
  exact ⟨rfl, HC1.out.bel⟩
set_option maxRecDepth 100000 in
theorem rback_letter (nm : ByteArray) (fr tl m k n d s c sv : Int) (lt : ByteArray) (A : Option Addr) (q cc : Nat) (L : List ByteArray) (hq : q ≤ 30) (HZ : Hid (∀ i, i < q → (L.getD i ByteArray.empty).size ≤ 1000)) (HSM : Hid (smB30 q L = true)) (h1 : nm.size ≤ 1000) (h2 : 1000 < lt.size) (h3 : lt.size ≤ 9223372036854775807) (w : World) (HE : Hid (Env w)) (HS : Hid (Sl w w.heap.size A q (fun i => .string (L.getD i ByteArray.empty)))) :
    Calls Tryz.prog 3 #[.agg #[.string nm, .int .i64 fr, .int .i64 tl, .int .i64 m, .int .u8 k, .int .i64 n, .int .i64 d, .int .i64 s, .int .u8 c, .int .i64 sv, .string lt], .slice A q cc] w fun e w' => e = .returned (.bool true) ∧ Below w.heap.size w w' := by
  have HC0 : Hid (Cx w w) := Lib.hid ⟨HE.out, Below.refl _ _⟩
  go_enter Tryz.func3, Tryz.ntmps3
  go_wp2_with fail
  refine (lives09 _ (Lib.hid (HC0.out.al _).env)).mono ?_
  rintro e v1 ⟨rfl, b1⟩
  have HC1 := Lib.hid ((HC0.out.al _).on b1)
  have HX_r := Lib.hid ((Bx.mk' _ w.heap.size #[.string nm, .int .i64 fr, .int .i64 tl, .int .i64 m, .int .u8 k, .int .i64 n, .int .i64 d, .int .i64 s, .int .u8 c, .int .i64 sv, .string lt] 29 (by simp)).on b1)
  clear b1 HC0 
  have HB_r := HX_r
  clear HX_r
  have lt_r := HB_r.out.lt
  have c_r_0 := HB_r.out.at_ 0 _ rfl
  have c_r_1 := HB_r.out.at_ 1 _ rfl
  have c_r_2 := HB_r.out.at_ 2 _ rfl
  have c_r_3 := HB_r.out.at_ 3 _ rfl
  have c_r_4 := HB_r.out.at_ 4 _ rfl
  have c_r_5 := HB_r.out.at_ 5 _ rfl
  have c_r_6 := HB_r.out.at_ 6 _ rfl
  have c_r_7 := HB_r.out.at_ 7 _ rfl
  have c_r_8 := HB_r.out.at_ 8 _ rfl
  have c_r_9 := HB_r.out.at_ 9 _ rfl
  have c_r_10 := HB_r.out.at_ 10 _ rfl
  go_wp2_with fail
  refine (small_solsticelaw09_is A q cc L true (by omega) _ (fun i hi => by have := HZ.out i hi; omega) _ (HS.out.below HC1.out.bel) HSM.out).mono ?_
  rintro e w' ⟨rfl, rfl⟩
  go_wp2_with fail
  go_ret
  exact ⟨rfl, HC1.out.bel⟩
set_option maxRecDepth 100000 in
set_option maxHeartbeats 8000000 in
theorem rback_right_ok (nm : ByteArray) (fr tl m k n d s c sv : Int) (lt : ByteArray) (A : Option Addr) (q cc : Nat) (L : List ByteArray) (hq : q ≤ 30) (HL : Hid (L.length = q)) (HZ : Hid (∀ i, i < q → (L.getD i ByteArray.empty).size ≤ 1000)) (HSM : Hid (smB30 q L = true)) (h1 : nm.size ≤ 1000) (h2 : lt.size ≤ 1000) (c0 : 0 ≤ c) (LT : List ByteArray) (HR : Hid (Rl.right ⟨nm, fr, tl, m, k, n, d, s, c, sv, lt⟩ = true)) (HT : Hid (RTx ⟨nm, fr, tl, m, k, n, d, s, c, sv, lt⟩ LT)) (um : ByteArray) (ur ut uo uk un ud us uc uv : Int) (ul : ByteArray) (hq9 : q = 9) (uc0 : 0 ≤ uc) (LU : List ByteArray) (HUR : Hid (Rl.right ⟨um, ur, ut, uo, uk, un, ud, us, uc, uv, ul⟩ = true)) (HU : Hid (RTx ⟨um, ur, ut, uo, uk, un, ud, us, uc, uv, ul⟩ LU)) (HP : Hid (Rl.prs L = (⟨um, ur, ut, uo, uk, un, ud, us, uc, uv, ul⟩, 0, 0))) (w : World) (HE : Hid (Env w)) (HS : Hid (Sl w w.heap.size A q (fun i => .string (L.getD i ByteArray.empty)))) :
    Calls Tryz.prog 3 #[.agg #[.string nm, .int .i64 fr, .int .i64 tl, .int .i64 m, .int .u8 k, .int .i64 n, .int .i64 d, .int .i64 s, .int .u8 c, .int .i64 sv, .string lt], .slice A q cc] w fun e w' => e = .returned (.bool true) ∧ Below w.heap.size w w' := by
  have HPI := Lib.hid (fun W (h : Cx w W) => rprs_in A q cc L _ _ _ w W h HL.out hq HZ.out HS.out HP.out)
  have t9 : ((q : Int) == 9) = true := by rw [beq_iff_eq]; omega
  clear hq9
  have HC0 : Hid (Cx w w) := Lib.hid ⟨HE.out, Below.refl _ _⟩
  go_enter Tryz.func3, Tryz.ntmps3
  go_wp2_with fail
  refine (lives09 _ (Lib.hid (HC0.out.al _).env)).mono ?_
  rintro e v1 ⟨rfl, b1⟩
  have HC1 := Lib.hid ((HC0.out.al _).on b1)
  have HX_r := Lib.hid ((Bx.mk' _ w.heap.size #[.string nm, .int .i64 fr, .int .i64 tl, .int .i64 m, .int .u8 k, .int .i64 n, .int .i64 d, .int .i64 s, .int .u8 c, .int .i64 sv, .string lt] 29 (by simp)).on b1)
  clear b1 HC0 
  have HB_r := HX_r
  clear HX_r
  have lt_r := HB_r.out.lt
  have c_r_0 := HB_r.out.at_ 0 _ rfl
  have c_r_1 := HB_r.out.at_ 1 _ rfl
  have c_r_2 := HB_r.out.at_ 2 _ rfl
  have c_r_3 := HB_r.out.at_ 3 _ rfl
  have c_r_4 := HB_r.out.at_ 4 _ rfl
  have c_r_5 := HB_r.out.at_ 5 _ rfl
  have c_r_6 := HB_r.out.at_ 6 _ rfl
  have c_r_7 := HB_r.out.at_ 7 _ rfl
  have c_r_8 := HB_r.out.at_ 8 _ rfl
  have c_r_9 := HB_r.out.at_ 9 _ rfl
  have c_r_10 := HB_r.out.at_ 10 _ rfl
  go_wp2_with fail
  refine (small_solsticelaw09_is A q cc L true (by omega) _ (fun i hi => by have := HZ.out i hi; omega) _ (HS.out.below HC1.out.bel) HSM.out).mono ?_
  rintro e w' ⟨rfl, rfl⟩
  go_wp2_with fail
  refine (rtext_bx ⟨nm, fr, tl, m, k, n, d, s, c, sv, lt⟩ LT 9 _ HC1.out.env HR.out c0 HT.out.texts HT.out.len).mono ?_
  rintro e v2 ⟨⟨g_t, rfl, h_t⟩, b2⟩
  clear lt_r c_r_0 c_r_1 c_r_2 c_r_3 c_r_4 c_r_5 c_r_6 c_r_7 c_r_8 c_r_9 c_r_10
  have HC2 := Lib.hid (HC1.out.on b2)
  have HX_r := Lib.hid (HB_r.out.on b2)
  clear b2 HC1 HB_r
  have HX_t := Lib.hid h_t
  clear h_t
  have HB_r := HX_r
  have HB_t := HX_t
  clear HX_r HX_t
  go_wp2_with fail
  refine (rprs_bx g_t 9 9 LT LT ⟨nm, fr, tl, m, k, n, d, s, c, sv, lt⟩ 0 0 _ HC2.out.env HB_t.out (Nat.le_of_eq HT.out.len.symm) (by decide) (List.take_of_length_le (Nat.le_of_eq HT.out.len)) HT.out.small HT.out.nine).mono ?_
  rintro e v3 ⟨rfl, b3⟩
  have HC3 := Lib.hid (HC2.out.on b3)
  have HX_r := Lib.hid (HB_r.out.on b3)
  have HX_t := Lib.hid (HB_t.out.on b3)
  clear b3 HC2 HB_r HB_t
  have HB_r := HX_r
  have HB_t := HX_t
  clear HX_r HX_t
  have lt_r := HB_r.out.lt
  have c_r_0 := HB_r.out.at_ 0 _ rfl
  have c_r_1 := HB_r.out.at_ 1 _ rfl
  have c_r_2 := HB_r.out.at_ 2 _ rfl
  have c_r_3 := HB_r.out.at_ 3 _ rfl
  have c_r_4 := HB_r.out.at_ 4 _ rfl
  have c_r_5 := HB_r.out.at_ 5 _ rfl
  have c_r_6 := HB_r.out.at_ 6 _ rfl
  have c_r_7 := HB_r.out.at_ 7 _ rfl
  have c_r_8 := HB_r.out.at_ 8 _ rfl
  have c_r_9 := HB_r.out.at_ 9 _ rfl
  have c_r_10 := HB_r.out.at_ 10 _ rfl
  go_wp2_with fail
  refine (rcheck_yes ⟨nm, fr, tl, m, k, n, d, s, c, sv, lt⟩ _ (by show nm.size ≤ _; omega) HR.out).mono ?_
  rintro e v4 ⟨rfl, b4⟩
  clear lt_r c_r_0 c_r_1 c_r_2 c_r_3 c_r_4 c_r_5 c_r_6 c_r_7 c_r_8 c_r_9 c_r_10
  have HC4 := Lib.hid ((HC3.out.al _).on b4)
  have HX_t := Lib.hid ((HB_t.out.al _).on b4)
  clear b4 HC3 HB_r HB_t
  have HB_t := HX_t
  clear HX_t
  have lt_t := HB_t.out.lt
  go_wp2_with fail
  refine (rprs_bx g_t 8 9 LT (LT.take 8) ⟨⟨#[]⟩, 0, 0, 0, 0, 0, 0, 0, 0, 0, ⟨#[]⟩⟩ 8 5 _ HC4.out.env HB_t.out (by have := HT.out.len; omega) (by decide) rfl HT.out.small8 (zero_eight HT.out.eight)).mono ?_
  rintro e v5 ⟨rfl, b5⟩
  clear lt_t
  have HC5 := Lib.hid (HC4.out.on b5)
  clear b5 HC4 HB_t
  go_wp2_with fail
  refine (HPI.out _ (HC5.out.al _)).mono ?_
  rintro e v6 ⟨rfl, b6⟩
  have HC6 := Lib.hid ((HC5.out.al _).on b6)
  clear b6 HC5 
  go_wp2_with fail
  refine (rtext_bx ⟨um, ur, ut, uo, uk, un, ud, us, uc, uv, ul⟩ LU 9 _ (HC6.out.al _).env HUR.out uc0 HU.out.texts HU.out.len).mono ?_
  rintro e v7 ⟨⟨g_u, rfl, h_u⟩, b7⟩
  have HC7 := Lib.hid ((HC6.out.al _).on b7)
  have HX_x := Lib.hid ((Bx.mk' _ v6.heap.size #[.string um, .int .i64 ur, .int .i64 ut, .int .i64 uo, .int .u8 uk, .int .i64 un, .int .i64 ud, .int .i64 us, .int .u8 uc, .int .i64 uv, .string ul] 29 (by simp)).on b7)
  clear b7 HC6 
  have HX_u := Lib.hid h_u
  clear h_u
  have HB_x := HX_x
  have HB_u := HX_u
  clear HX_x HX_u
  go_wp2_with fail
  refine (rprs_bx g_u 9 9 LU LU ⟨um, ur, ut, uo, uk, un, ud, us, uc, uv, ul⟩ 0 0 _ HC7.out.env HB_u.out (Nat.le_of_eq HU.out.len.symm) (by decide) (List.take_of_length_le (Nat.le_of_eq HU.out.len)) HU.out.small HU.out.nine).mono ?_
  rintro e v8 ⟨rfl, b8⟩
  have HC8 := Lib.hid (HC7.out.on b8)
  have HX_x := Lib.hid (HB_x.out.on b8)
  clear b8 HC7 HB_x HB_u
  have HB_x := HX_x
  clear HX_x
  have lt_x := HB_x.out.lt
  have c_x_0 := HB_x.out.at_ 0 _ rfl
  have c_x_1 := HB_x.out.at_ 1 _ rfl
  have c_x_2 := HB_x.out.at_ 2 _ rfl
  have c_x_3 := HB_x.out.at_ 3 _ rfl
  have c_x_4 := HB_x.out.at_ 4 _ rfl
  have c_x_5 := HB_x.out.at_ 5 _ rfl
  have c_x_6 := HB_x.out.at_ 6 _ rfl
  have c_x_7 := HB_x.out.at_ 7 _ rfl
  have c_x_8 := HB_x.out.at_ 8 _ rfl
  have c_x_9 := HB_x.out.at_ 9 _ rfl
  have c_x_10 := HB_x.out.at_ 10 _ rfl
  go_wp2_with fail
  refine (rcheck_yes ⟨um, ur, ut, uo, uk, un, ud, us, uc, uv, ul⟩ _ (Nat.le_trans (name_le (rl_parts HUR.out).1) (by decide)) HUR.out).mono ?_
  rintro e v9 ⟨rfl, b9⟩
  clear lt_x c_x_0 c_x_1 c_x_2 c_x_3 c_x_4 c_x_5 c_x_6 c_x_7 c_x_8 c_x_9 c_x_10
  have HC9 := Lib.hid ((HC8.out.al _).on b9)
  have HX_x := Lib.hid ((HB_x.out.al _).on b9)
  have HX_y := Lib.hid ((Bx.mk' _ v8.heap.size #[.string um, .int .i64 ur, .int .i64 ut, .int .i64 uo, .int .u8 uk, .int .i64 un, .int .i64 ud, .int .i64 us, .int .u8 uc, .int .i64 uv, .string ul] 29 (by simp)).on b9)
  clear b9 HC8 HB_x
  have HB_x := HX_x
  have HB_y := HX_y
  clear HX_x HX_y
  have lt_x := HB_x.out.lt
  have c_x_0 := HB_x.out.at_ 0 _ rfl
  have c_x_1 := HB_x.out.at_ 1 _ rfl
  have c_x_2 := HB_x.out.at_ 2 _ rfl
  have c_x_3 := HB_x.out.at_ 3 _ rfl
  have c_x_4 := HB_x.out.at_ 4 _ rfl
  have c_x_5 := HB_x.out.at_ 5 _ rfl
  have c_x_6 := HB_x.out.at_ 6 _ rfl
  have c_x_7 := HB_x.out.at_ 7 _ rfl
  have c_x_8 := HB_x.out.at_ 8 _ rfl
  have c_x_9 := HB_x.out.at_ 9 _ rfl
  have c_x_10 := HB_x.out.at_ 10 _ rfl
  have lt_y := HB_y.out.lt
  have c_y_0 := HB_y.out.at_ 0 _ rfl
  have c_y_1 := HB_y.out.at_ 1 _ rfl
  have c_y_2 := HB_y.out.at_ 2 _ rfl
  have c_y_3 := HB_y.out.at_ 3 _ rfl
  have c_y_4 := HB_y.out.at_ 4 _ rfl
  have c_y_5 := HB_y.out.at_ 5 _ rfl
  have c_y_6 := HB_y.out.at_ 6 _ rfl
  have c_y_7 := HB_y.out.at_ 7 _ rfl
  have c_y_8 := HB_y.out.at_ 8 _ rfl
  have c_y_9 := HB_y.out.at_ 9 _ rfl
  have c_y_10 := HB_y.out.at_ 10 _ rfl
  go_wp2_with fail
  go_ret
  exact ⟨rfl, HC9.out.bel⟩
set_option maxRecDepth 100000 in
set_option maxHeartbeats 8000000 in
theorem rback_right_no (nm : ByteArray) (fr tl m k n d s c sv : Int) (lt : ByteArray) (A : Option Addr) (q cc : Nat) (L : List ByteArray) (hq : q ≤ 30) (HL : Hid (L.length = q)) (HZ : Hid (∀ i, i < q → (L.getD i ByteArray.empty).size ≤ 1000)) (HSM : Hid (smB30 q L = true)) (h1 : nm.size ≤ 1000) (h2 : lt.size ≤ 1000) (c0 : 0 ≤ c) (LT : List ByteArray) (HR : Hid (Rl.right ⟨nm, fr, tl, m, k, n, d, s, c, sv, lt⟩ = true)) (HT : Hid (RTx ⟨nm, fr, tl, m, k, n, d, s, c, sv, lt⟩ LT)) (i : Nat) (z : Int) (hz0 : z ≠ 0) (hi : i ≤ 9) (hiq : i ≤ q) (HP : Hid (Rl.prs L = (⟨⟨#[]⟩, 0, 0, 0, 0, 0, 0, 0, 0, 0, ⟨#[]⟩⟩, i, z))) (w : World) (HE : Hid (Env w)) (HS : Hid (Sl w w.heap.size A q (fun i => .string (L.getD i ByteArray.empty)))) :
    Calls Tryz.prog 3 #[.agg #[.string nm, .int .i64 fr, .int .i64 tl, .int .i64 m, .int .u8 k, .int .i64 n, .int .i64 d, .int .i64 s, .int .u8 c, .int .i64 sv, .string lt], .slice A q cc] w fun e w' => e = .returned (.bool true) ∧ Below w.heap.size w w' := by
  have HPI := Lib.hid (fun W (h : Cx w W) => rprs_in A q cc L _ _ _ w W h HL.out hq HZ.out HS.out HP.out)
  obtain ⟨M, hM⟩ : ∃ M, M = min q 9 := ⟨_, rfl⟩
  have tm : min (q : Int) 9 = (M : Int) := by omega
  have t3 : decide (i ≤ M) = true := by simp; omega
  have t4 : (z != 0) = true := by rw [bne_iff_ne]; exact hz0
  have t5 : (z == 0) = false := by rw [beq_eq_false_iff_ne]; exact hz0
  clear hz0 hM hi hiq
  have HC0 : Hid (Cx w w) := Lib.hid ⟨HE.out, Below.refl _ _⟩
  go_enter Tryz.func3, Tryz.ntmps3
  go_wp2_with fail
  refine (lives09 _ (Lib.hid (HC0.out.al _).env)).mono ?_
  rintro e v1 ⟨rfl, b1⟩
  have HC1 := Lib.hid ((HC0.out.al _).on b1)
  have HX_r := Lib.hid ((Bx.mk' _ w.heap.size #[.string nm, .int .i64 fr, .int .i64 tl, .int .i64 m, .int .u8 k, .int .i64 n, .int .i64 d, .int .i64 s, .int .u8 c, .int .i64 sv, .string lt] 29 (by simp)).on b1)
  clear b1 HC0 
  have HB_r := HX_r
  clear HX_r
  have lt_r := HB_r.out.lt
  have c_r_0 := HB_r.out.at_ 0 _ rfl
  have c_r_1 := HB_r.out.at_ 1 _ rfl
  have c_r_2 := HB_r.out.at_ 2 _ rfl
  have c_r_3 := HB_r.out.at_ 3 _ rfl
  have c_r_4 := HB_r.out.at_ 4 _ rfl
  have c_r_5 := HB_r.out.at_ 5 _ rfl
  have c_r_6 := HB_r.out.at_ 6 _ rfl
  have c_r_7 := HB_r.out.at_ 7 _ rfl
  have c_r_8 := HB_r.out.at_ 8 _ rfl
  have c_r_9 := HB_r.out.at_ 9 _ rfl
  have c_r_10 := HB_r.out.at_ 10 _ rfl
  go_wp2_with fail
  refine (small_solsticelaw09_is A q cc L true (by omega) _ (fun i hi => by have := HZ.out i hi; omega) _ (HS.out.below HC1.out.bel) HSM.out).mono ?_
  rintro e w' ⟨rfl, rfl⟩
  go_wp2_with fail
  refine (rtext_bx ⟨nm, fr, tl, m, k, n, d, s, c, sv, lt⟩ LT 9 _ HC1.out.env HR.out c0 HT.out.texts HT.out.len).mono ?_
  rintro e v2 ⟨⟨g_t, rfl, h_t⟩, b2⟩
  clear lt_r c_r_0 c_r_1 c_r_2 c_r_3 c_r_4 c_r_5 c_r_6 c_r_7 c_r_8 c_r_9 c_r_10
  have HC2 := Lib.hid (HC1.out.on b2)
  have HX_r := Lib.hid (HB_r.out.on b2)
  clear b2 HC1 HB_r
  have HX_t := Lib.hid h_t
  clear h_t
  have HB_r := HX_r
  have HB_t := HX_t
  clear HX_r HX_t
  go_wp2_with fail
  refine (rprs_bx g_t 9 9 LT LT ⟨nm, fr, tl, m, k, n, d, s, c, sv, lt⟩ 0 0 _ HC2.out.env HB_t.out (Nat.le_of_eq HT.out.len.symm) (by decide) (List.take_of_length_le (Nat.le_of_eq HT.out.len)) HT.out.small HT.out.nine).mono ?_
  rintro e v3 ⟨rfl, b3⟩
  have HC3 := Lib.hid (HC2.out.on b3)
  have HX_r := Lib.hid (HB_r.out.on b3)
  have HX_t := Lib.hid (HB_t.out.on b3)
  clear b3 HC2 HB_r HB_t
  have HB_r := HX_r
  have HB_t := HX_t
  clear HX_r HX_t
  have lt_r := HB_r.out.lt
  have c_r_0 := HB_r.out.at_ 0 _ rfl
  have c_r_1 := HB_r.out.at_ 1 _ rfl
  have c_r_2 := HB_r.out.at_ 2 _ rfl
  have c_r_3 := HB_r.out.at_ 3 _ rfl
  have c_r_4 := HB_r.out.at_ 4 _ rfl
  have c_r_5 := HB_r.out.at_ 5 _ rfl
  have c_r_6 := HB_r.out.at_ 6 _ rfl
  have c_r_7 := HB_r.out.at_ 7 _ rfl
  have c_r_8 := HB_r.out.at_ 8 _ rfl
  have c_r_9 := HB_r.out.at_ 9 _ rfl
  have c_r_10 := HB_r.out.at_ 10 _ rfl
  go_wp2_with fail
  refine (rcheck_yes ⟨nm, fr, tl, m, k, n, d, s, c, sv, lt⟩ _ (by show nm.size ≤ _; omega) HR.out).mono ?_
  rintro e v4 ⟨rfl, b4⟩
  clear lt_r c_r_0 c_r_1 c_r_2 c_r_3 c_r_4 c_r_5 c_r_6 c_r_7 c_r_8 c_r_9 c_r_10
  have HC4 := Lib.hid ((HC3.out.al _).on b4)
  have HX_t := Lib.hid ((HB_t.out.al _).on b4)
  clear b4 HC3 HB_r HB_t
  have HB_t := HX_t
  clear HX_t
  have lt_t := HB_t.out.lt
  go_wp2_with fail
  refine (rprs_bx g_t 8 9 LT (LT.take 8) ⟨⟨#[]⟩, 0, 0, 0, 0, 0, 0, 0, 0, 0, ⟨#[]⟩⟩ 8 5 _ HC4.out.env HB_t.out (by have := HT.out.len; omega) (by decide) rfl HT.out.small8 (zero_eight HT.out.eight)).mono ?_
  rintro e v5 ⟨rfl, b5⟩
  clear lt_t
  have HC5 := Lib.hid (HC4.out.on b5)
  clear b5 HC4 HB_t
  go_wp2_with fail
  refine (HPI.out _ (HC5.out.al _)).mono ?_
  rintro e v6 ⟨rfl, b6⟩
  have HC6 := Lib.hid ((HC5.out.al _).on b6)
  clear b6 HC5 
  go_wp2_with fail
  go_ret
  exact ⟨rfl, (HC6.out.al _).bel⟩
set_option maxRecDepth 100000 in
set_option maxHeartbeats 8000000 in
theorem rback_wrong_ok (nm : ByteArray) (fr tl m k n d s c sv : Int) (lt : ByteArray) (A : Option Addr) (q cc : Nat) (L : List ByteArray) (hq : q ≤ 30) (HL : Hid (L.length = q)) (HZ : Hid (∀ i, i < q → (L.getD i ByteArray.empty).size ≤ 1000)) (HSM : Hid (smB30 q L = true)) (h1 : nm.size ≤ 1000) (h2 : lt.size ≤ 1000) (HR : Hid (Rl.right ⟨nm, fr, tl, m, k, n, d, s, c, sv, lt⟩ = false)) (um : ByteArray) (ur ut uo uk un ud us uc uv : Int) (ul : ByteArray) (hq9 : q = 9) (uc0 : 0 ≤ uc) (LU : List ByteArray) (HUR : Hid (Rl.right ⟨um, ur, ut, uo, uk, un, ud, us, uc, uv, ul⟩ = true)) (HU : Hid (RTx ⟨um, ur, ut, uo, uk, un, ud, us, uc, uv, ul⟩ LU)) (HP : Hid (Rl.prs L = (⟨um, ur, ut, uo, uk, un, ud, us, uc, uv, ul⟩, 0, 0))) (w : World) (HE : Hid (Env w)) (HS : Hid (Sl w w.heap.size A q (fun i => .string (L.getD i ByteArray.empty)))) :
    Calls Tryz.prog 3 #[.agg #[.string nm, .int .i64 fr, .int .i64 tl, .int .i64 m, .int .u8 k, .int .i64 n, .int .i64 d, .int .i64 s, .int .u8 c, .int .i64 sv, .string lt], .slice A q cc] w fun e w' => e = .returned (.bool true) ∧ Below w.heap.size w w' := by
  have HPI := Lib.hid (fun W (h : Cx w W) => rprs_in A q cc L _ _ _ w W h HL.out hq HZ.out HS.out HP.out)
  have t9 : ((q : Int) == 9) = true := by rw [beq_iff_eq]; omega
  clear hq9
  have HC0 : Hid (Cx w w) := Lib.hid ⟨HE.out, Below.refl _ _⟩
  go_enter Tryz.func3, Tryz.ntmps3
  go_wp2_with fail
  refine (lives09 _ (Lib.hid (HC0.out.al _).env)).mono ?_
  rintro e v1 ⟨rfl, b1⟩
  have HC1 := Lib.hid ((HC0.out.al _).on b1)
  have HX_r := Lib.hid ((Bx.mk' _ w.heap.size #[.string nm, .int .i64 fr, .int .i64 tl, .int .i64 m, .int .u8 k, .int .i64 n, .int .i64 d, .int .i64 s, .int .u8 c, .int .i64 sv, .string lt] 29 (by simp)).on b1)
  clear b1 HC0 
  have HB_r := HX_r
  clear HX_r
  have lt_r := HB_r.out.lt
  have c_r_0 := HB_r.out.at_ 0 _ rfl
  have c_r_1 := HB_r.out.at_ 1 _ rfl
  have c_r_2 := HB_r.out.at_ 2 _ rfl
  have c_r_3 := HB_r.out.at_ 3 _ rfl
  have c_r_4 := HB_r.out.at_ 4 _ rfl
  have c_r_5 := HB_r.out.at_ 5 _ rfl
  have c_r_6 := HB_r.out.at_ 6 _ rfl
  have c_r_7 := HB_r.out.at_ 7 _ rfl
  have c_r_8 := HB_r.out.at_ 8 _ rfl
  have c_r_9 := HB_r.out.at_ 9 _ rfl
  have c_r_10 := HB_r.out.at_ 10 _ rfl
  go_wp2_with fail
  refine (small_solsticelaw09_is A q cc L true (by omega) _ (fun i hi => by have := HZ.out i hi; omega) _ (HS.out.below HC1.out.bel) HSM.out).mono ?_
  rintro e w' ⟨rfl, rfl⟩
  go_wp2_with fail
  refine (rtext_no ⟨nm, fr, tl, m, k, n, d, s, c, sv, lt⟩ _ (by show nm.size ≤ _; omega) HR.out).mono ?_
  rintro e v2 ⟨rfl, b2⟩
  clear lt_r c_r_0 c_r_1 c_r_2 c_r_3 c_r_4 c_r_5 c_r_6 c_r_7 c_r_8 c_r_9 c_r_10
  have HC2 := Lib.hid (HC1.out.on b2)
  clear b2 HC1 HB_r
  go_wp2_with fail
  refine (HPI.out _ HC2.out).mono ?_
  rintro e v3 ⟨rfl, b3⟩
  have HC3 := Lib.hid (HC2.out.on b3)
  clear b3 HC2 
  go_wp2_with fail
  refine (rtext_bx ⟨um, ur, ut, uo, uk, un, ud, us, uc, uv, ul⟩ LU 9 _ (HC3.out.al _).env HUR.out uc0 HU.out.texts HU.out.len).mono ?_
  rintro e v4 ⟨⟨g_u, rfl, h_u⟩, b4⟩
  have HC4 := Lib.hid ((HC3.out.al _).on b4)
  have HX_x := Lib.hid ((Bx.mk' _ v3.heap.size #[.string um, .int .i64 ur, .int .i64 ut, .int .i64 uo, .int .u8 uk, .int .i64 un, .int .i64 ud, .int .i64 us, .int .u8 uc, .int .i64 uv, .string ul] 29 (by simp)).on b4)
  clear b4 HC3 
  have HX_u := Lib.hid h_u
  clear h_u
  have HB_x := HX_x
  have HB_u := HX_u
  clear HX_x HX_u
  go_wp2_with fail
  refine (rprs_bx g_u 9 9 LU LU ⟨um, ur, ut, uo, uk, un, ud, us, uc, uv, ul⟩ 0 0 _ HC4.out.env HB_u.out (Nat.le_of_eq HU.out.len.symm) (by decide) (List.take_of_length_le (Nat.le_of_eq HU.out.len)) HU.out.small HU.out.nine).mono ?_
  rintro e v5 ⟨rfl, b5⟩
  have HC5 := Lib.hid (HC4.out.on b5)
  have HX_x := Lib.hid (HB_x.out.on b5)
  clear b5 HC4 HB_x HB_u
  have HB_x := HX_x
  clear HX_x
  have lt_x := HB_x.out.lt
  have c_x_0 := HB_x.out.at_ 0 _ rfl
  have c_x_1 := HB_x.out.at_ 1 _ rfl
  have c_x_2 := HB_x.out.at_ 2 _ rfl
  have c_x_3 := HB_x.out.at_ 3 _ rfl
  have c_x_4 := HB_x.out.at_ 4 _ rfl
  have c_x_5 := HB_x.out.at_ 5 _ rfl
  have c_x_6 := HB_x.out.at_ 6 _ rfl
  have c_x_7 := HB_x.out.at_ 7 _ rfl
  have c_x_8 := HB_x.out.at_ 8 _ rfl
  have c_x_9 := HB_x.out.at_ 9 _ rfl
  have c_x_10 := HB_x.out.at_ 10 _ rfl
  go_wp2_with fail
  refine (rcheck_yes ⟨um, ur, ut, uo, uk, un, ud, us, uc, uv, ul⟩ _ (Nat.le_trans (name_le (rl_parts HUR.out).1) (by decide)) HUR.out).mono ?_
  rintro e v6 ⟨rfl, b6⟩
  clear lt_x c_x_0 c_x_1 c_x_2 c_x_3 c_x_4 c_x_5 c_x_6 c_x_7 c_x_8 c_x_9 c_x_10
  have HC6 := Lib.hid ((HC5.out.al _).on b6)
  have HX_x := Lib.hid ((HB_x.out.al _).on b6)
  have HX_y := Lib.hid ((Bx.mk' _ v5.heap.size #[.string um, .int .i64 ur, .int .i64 ut, .int .i64 uo, .int .u8 uk, .int .i64 un, .int .i64 ud, .int .i64 us, .int .u8 uc, .int .i64 uv, .string ul] 29 (by simp)).on b6)
  clear b6 HC5 HB_x
  have HB_x := HX_x
  have HB_y := HX_y
  clear HX_x HX_y
  have lt_x := HB_x.out.lt
  have c_x_0 := HB_x.out.at_ 0 _ rfl
  have c_x_1 := HB_x.out.at_ 1 _ rfl
  have c_x_2 := HB_x.out.at_ 2 _ rfl
  have c_x_3 := HB_x.out.at_ 3 _ rfl
  have c_x_4 := HB_x.out.at_ 4 _ rfl
  have c_x_5 := HB_x.out.at_ 5 _ rfl
  have c_x_6 := HB_x.out.at_ 6 _ rfl
  have c_x_7 := HB_x.out.at_ 7 _ rfl
  have c_x_8 := HB_x.out.at_ 8 _ rfl
  have c_x_9 := HB_x.out.at_ 9 _ rfl
  have c_x_10 := HB_x.out.at_ 10 _ rfl
  have lt_y := HB_y.out.lt
  have c_y_0 := HB_y.out.at_ 0 _ rfl
  have c_y_1 := HB_y.out.at_ 1 _ rfl
  have c_y_2 := HB_y.out.at_ 2 _ rfl
  have c_y_3 := HB_y.out.at_ 3 _ rfl
  have c_y_4 := HB_y.out.at_ 4 _ rfl
  have c_y_5 := HB_y.out.at_ 5 _ rfl
  have c_y_6 := HB_y.out.at_ 6 _ rfl
  have c_y_7 := HB_y.out.at_ 7 _ rfl
  have c_y_8 := HB_y.out.at_ 8 _ rfl
  have c_y_9 := HB_y.out.at_ 9 _ rfl
  have c_y_10 := HB_y.out.at_ 10 _ rfl
  go_wp2_with fail
  go_ret
  exact ⟨rfl, HC6.out.bel⟩
set_option maxRecDepth 100000 in
set_option maxHeartbeats 8000000 in
theorem rback_wrong_no (nm : ByteArray) (fr tl m k n d s c sv : Int) (lt : ByteArray) (A : Option Addr) (q cc : Nat) (L : List ByteArray) (hq : q ≤ 30) (HL : Hid (L.length = q)) (HZ : Hid (∀ i, i < q → (L.getD i ByteArray.empty).size ≤ 1000)) (HSM : Hid (smB30 q L = true)) (h1 : nm.size ≤ 1000) (h2 : lt.size ≤ 1000) (HR : Hid (Rl.right ⟨nm, fr, tl, m, k, n, d, s, c, sv, lt⟩ = false)) (i : Nat) (z : Int) (hz0 : z ≠ 0) (hi : i ≤ 9) (hiq : i ≤ q) (HP : Hid (Rl.prs L = (⟨⟨#[]⟩, 0, 0, 0, 0, 0, 0, 0, 0, 0, ⟨#[]⟩⟩, i, z))) (w : World) (HE : Hid (Env w)) (HS : Hid (Sl w w.heap.size A q (fun i => .string (L.getD i ByteArray.empty)))) :
    Calls Tryz.prog 3 #[.agg #[.string nm, .int .i64 fr, .int .i64 tl, .int .i64 m, .int .u8 k, .int .i64 n, .int .i64 d, .int .i64 s, .int .u8 c, .int .i64 sv, .string lt], .slice A q cc] w fun e w' => e = .returned (.bool true) ∧ Below w.heap.size w w' := by
  have HPI := Lib.hid (fun W (h : Cx w W) => rprs_in A q cc L _ _ _ w W h HL.out hq HZ.out HS.out HP.out)
  obtain ⟨M, hM⟩ : ∃ M, M = min q 9 := ⟨_, rfl⟩
  have tm : min (q : Int) 9 = (M : Int) := by omega
  have t3 : decide (i ≤ M) = true := by simp; omega
  have t4 : (z != 0) = true := by rw [bne_iff_ne]; exact hz0
  have t5 : (z == 0) = false := by rw [beq_eq_false_iff_ne]; exact hz0
  clear hz0 hM hi hiq
  have HC0 : Hid (Cx w w) := Lib.hid ⟨HE.out, Below.refl _ _⟩
  go_enter Tryz.func3, Tryz.ntmps3
  go_wp2_with fail
  refine (lives09 _ (Lib.hid (HC0.out.al _).env)).mono ?_
  rintro e v1 ⟨rfl, b1⟩
  have HC1 := Lib.hid ((HC0.out.al _).on b1)
  have HX_r := Lib.hid ((Bx.mk' _ w.heap.size #[.string nm, .int .i64 fr, .int .i64 tl, .int .i64 m, .int .u8 k, .int .i64 n, .int .i64 d, .int .i64 s, .int .u8 c, .int .i64 sv, .string lt] 29 (by simp)).on b1)
  clear b1 HC0 
  have HB_r := HX_r
  clear HX_r
  have lt_r := HB_r.out.lt
  have c_r_0 := HB_r.out.at_ 0 _ rfl
  have c_r_1 := HB_r.out.at_ 1 _ rfl
  have c_r_2 := HB_r.out.at_ 2 _ rfl
  have c_r_3 := HB_r.out.at_ 3 _ rfl
  have c_r_4 := HB_r.out.at_ 4 _ rfl
  have c_r_5 := HB_r.out.at_ 5 _ rfl
  have c_r_6 := HB_r.out.at_ 6 _ rfl
  have c_r_7 := HB_r.out.at_ 7 _ rfl
  have c_r_8 := HB_r.out.at_ 8 _ rfl
  have c_r_9 := HB_r.out.at_ 9 _ rfl
  have c_r_10 := HB_r.out.at_ 10 _ rfl
  go_wp2_with fail
  refine (small_solsticelaw09_is A q cc L true (by omega) _ (fun i hi => by have := HZ.out i hi; omega) _ (HS.out.below HC1.out.bel) HSM.out).mono ?_
  rintro e w' ⟨rfl, rfl⟩
  go_wp2_with fail
  refine (rtext_no ⟨nm, fr, tl, m, k, n, d, s, c, sv, lt⟩ _ (by show nm.size ≤ _; omega) HR.out).mono ?_
  rintro e v2 ⟨rfl, b2⟩
  clear lt_r c_r_0 c_r_1 c_r_2 c_r_3 c_r_4 c_r_5 c_r_6 c_r_7 c_r_8 c_r_9 c_r_10
  have HC2 := Lib.hid (HC1.out.on b2)
  clear b2 HC1 HB_r
  go_wp2_with fail
  refine (HPI.out _ HC2.out).mono ?_
  rintro e v3 ⟨rfl, b3⟩
  have HC3 := Lib.hid (HC2.out.on b3)
  clear b3 HC2 
  go_wp2_with fail
  go_ret
  exact ⟨rfl, (HC3.out.al _).bel⟩
theorem walkRuleBack (nm : ByteArray) (fr tl m k n d s c sv : Int) (lt : ByteArray) (hc : (Lit.int .u8 c).wf = true) (hn : nm.size ≤ maxLen) (hlt : lt.size ≤ maxLen) (A : Option Addr) (q cc : Nat) (hq : q ≤ maxLen) (L : List ByteArray) (hl : L.length = q) (hz : ∀ i, i < q → (L.getD i ByteArray.empty).size ≤ maxLen) (w : World) (hS : Sl w w.heap.size A q (fun i => .string (L.getD i ByteArray.empty))) (hE : Env w) :
    Calls Tryz.prog 3 #[.agg #[.string nm, .int .i64 fr, .int .i64 tl, .int .i64 m, .int .u8 k, .int .i64 n, .int .i64 d, .int .i64 s, .int .u8 c, .int .i64 sv, .string lt], .slice A q cc] w fun e w' => e = .returned (.bool true) ∧ Below w.heap.size w w' := by
  unfold maxLen at hn hlt hq hz
  have c0 : 0 ≤ c := by have := bounds_u8 hc; omega
  cases h0 : smB30 q L with
  | false => exact rback_many nm fr tl m k n d s c sv lt A q cc L (by omega) (Lib.hid fun i hi => by have := hz i hi; omega) (Lib.hid h0) w (Lib.hid hE) (Lib.hid hS)
  | true =>
    have h3 := of_decide_eq_true h0
    by_cases h1 : nm.size ≤ 1000
    · by_cases h2 : lt.size ≤ 1000
      · obtain ⟨v, i, z, hp⟩ : ∃ v i z, Rl.prs L = (v, i, z) := ⟨_, _, _, rfl⟩
        have hok := rprs_ok L
        rw [hp] at hok
        obtain ⟨um, ur, ut, uo, uk, un, ud, us, uc, uv, ul⟩ := v
        by_cases hz : z = 0
        · subst hz
          obtain ⟨hi, hu, hc0, h9⟩ := hok.1 rfl
          obtain rfl : i = 0 := hi
          obtain ⟨LU, hLU⟩ := rtx_of hu hc0
          cases hr : Rl.right ⟨nm, fr, tl, m, k, n, d, s, c, sv, lt⟩ with
          | true =>
            obtain ⟨LT, hLT⟩ := rtx_of hr c0
            exact rback_right_ok nm fr tl m k n d s c sv lt A q cc L h3.1 (Lib.hid hl) (Lib.hid h3.2) (Lib.hid h0) h1 h2 c0 LT (Lib.hid hr) (Lib.hid hLT) um ur ut uo uk un ud us uc uv ul (by omega) hc0 LU (Lib.hid hu) (Lib.hid hLU) (Lib.hid hp) w (Lib.hid hE) (Lib.hid hS)
          | false => exact rback_wrong_ok nm fr tl m k n d s c sv lt A q cc L h3.1 (Lib.hid hl) (Lib.hid h3.2) (Lib.hid h0) h1 h2 (Lib.hid hr) um ur ut uo uk un ud us uc uv ul (by omega) hc0 LU (Lib.hid hu) (Lib.hid hLU) (Lib.hid hp) w (Lib.hid hE) (Lib.hid hS)
        · obtain ⟨hv, hi9, hil⟩ := hok.2 hz
          have hp : Rl.prs L = (Ru.zero, i, z) := hp.trans (congrArg (fun x : Ru => (x, i, z)) hv)
          have hil : i ≤ q := by rw [← hl]; exact hil
          cases hr : Rl.right ⟨nm, fr, tl, m, k, n, d, s, c, sv, lt⟩ with
          | true =>
            obtain ⟨LT, hLT⟩ := rtx_of hr c0
            exact rback_right_no nm fr tl m k n d s c sv lt A q cc L h3.1 (Lib.hid hl) (Lib.hid h3.2) (Lib.hid h0) h1 h2 c0 LT (Lib.hid hr) (Lib.hid hLT) i z hz hi9 hil (Lib.hid hp) w (Lib.hid hE) (Lib.hid hS)
          | false => exact rback_wrong_no nm fr tl m k n d s c sv lt A q cc L h3.1 (Lib.hid hl) (Lib.hid h3.2) (Lib.hid h0) h1 h2 (Lib.hid hr) i z hz hi9 hil (Lib.hid hp) w (Lib.hid hE) (Lib.hid hS)
      · exact rback_letter nm fr tl m k n d s c sv lt A q cc L h3.1 (Lib.hid h3.2) (Lib.hid h0) h1 (by omega) (by omega) w (Lib.hid hE) (Lib.hid hS)
    · exact rback_name nm fr tl m k n d s c sv lt A q cc L h3.1 (Lib.hid h3.2) (Lib.hid h0) (by omega) (by omega) w (Lib.hid hE) (Lib.hid hS)
end Go.Proofs.YtigmbkcjmlpfoaaGreatDoor
