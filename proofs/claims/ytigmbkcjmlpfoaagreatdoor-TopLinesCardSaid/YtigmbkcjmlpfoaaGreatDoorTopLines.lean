/- The walk of stage 5's theorem TopLines (by program). -/
import Derived.Test.YtigmbkcjmlpfoaaGreatDoorBegins5
namespace Go.Proofs.YtigmbkcjmlpfoaaGreatDoor
open Go.RowKit
set_option maxRecDepth 100000 in
set_option maxHeartbeats 8000000 in
theorem tlines_right_right (nm : ByteArray) (fr tl rm rk rn rd rs rc rv : Int) (lt : ByteArray) (sd k sv : Int) (ru fm : ByteArray) (en : Bool) (y m q n d s c : Int) (_z1 : nm.size ≤ 9223372036854775807) (_z2 : lt.size ≤ 9223372036854775807) (_z3 : ru.size ≤ 9223372036854775807) (_z4 : fm.size ≤ 9223372036854775807) (rc0 : 0 ≤ rc) (LT : List ByteArray) (HR : Hid (Rl.right ⟨nm, fr, tl, rm, rk, rn, rd, rs, rc, rv, lt⟩ = true)) (HT : Hid (RTx ⟨nm, fr, tl, rm, rk, rn, rd, rs, rc, rv, lt⟩ LT)) (HTG : Hid (∀ t ∈ LT, t.data.toList.all gr = true)) (HTZ : Hid (∀ t ∈ LT, t.size ≤ 201)) (c0 : 0 ≤ c) (LU : List ByteArray) (NU : Nat) (HUR : Hid (El.right ⟨sd, k, sv, ru, fm, en, ⟨y, m, q, n, d, s, c⟩⟩ = true)) (HU : Hid (ETx ⟨sd, k, sv, ru, fm, en, ⟨y, m, q, n, d, s, c⟩⟩ LU NU)) (HUG : Hid (∀ t ∈ LU, t.data.toList.all gr = true)) (HUZ : Hid (∀ t ∈ LU, t.size ≤ 201)) (NU1 : 1 ≤ NU) (w : World) (HE : Hid (Ev w)) :
    Calls Tryz.prog 5 #[.agg #[.string nm, .int .i64 fr, .int .i64 tl, .int .i64 rm, .int .u8 rk, .int .i64 rn, .int .i64 rd, .int .i64 rs, .int .u8 rc, .int .i64 rv, .string lt], .agg #[.int .i64 sd, .int .u8 k, .int .i64 sv, .string ru, .string fm, .bool en, .int .i64 y, .int .i64 m, .int .u8 q, .int .i64 n, .int .i64 d, .int .i64 s, .int .u8 c]] w fun e w' => e = .returned (.bool true) ∧ Below w.heap.size w w' := by
  have HC0 : Hid (Cy w w) := Lib.hid ⟨HE.out, Below.refl _ _⟩
  go_enter Tryz.func5, Tryz.ntmps5
  go_wp2_with fail
  refine (begins5 _ (Lib.hid ((HC0.out.al _).al _).env)).mono ?_
  rintro e v1 ⟨rfl, b1⟩
  have HC1 := Lib.hid (((HC0.out.al _).al _).on b1)
  have HX_r := Lib.hid (((Bx.mk' _ w.heap.size #[.string nm, .int .i64 fr, .int .i64 tl, .int .i64 rm, .int .u8 rk, .int .i64 rn, .int .i64 rd, .int .i64 rs, .int .u8 rc, .int .i64 rv, .string lt] 29 (by simp)).al _).on b1)
  have HX_e := Lib.hid ((Bx.mk' _ (w.heap.size + 1) #[.int .i64 sd, .int .u8 k, .int .i64 sv, .string ru, .string fm, .bool en, .int .i64 y, .int .i64 m, .int .u8 q, .int .i64 n, .int .i64 d, .int .i64 s, .int .u8 c] 44 (by simp)).on b1)
  clear b1 HC0 
  have HB_r := HX_r
  have HB_e := HX_e
  clear HX_r HX_e
  have lt_r := HB_r.out.lt
  have c_r_0 := HB_r.out.at_ 0 _ rfl
  have c_r_1 := HB_r.out.at_ 1 _ rfl
  have c_r_2 := HB_r.out.at_ 2 _ rfl
  have c_r_3 := HB_r.out.at_ 3 _ rfl
  have c_r_4 := HB_r.out.at_ 4 _ rfl
  have c_r_5 := HB_r.out.at_ 5 _ rfl
  have c_r_6 := HB_r.out.at_ 6 _ rfl
  have c_r_7 := HB_r.out.at_ 7 _ rfl
  have c_r_8 := HB_r.out.at_ 8 _ rfl
  have c_r_9 := HB_r.out.at_ 9 _ rfl
  have c_r_10 := HB_r.out.at_ 10 _ rfl
  have lt_e := HB_e.out.lt
  have c_e_0 := HB_e.out.at_ 0 _ rfl
  have c_e_1 := HB_e.out.at_ 1 _ rfl
  have c_e_2 := HB_e.out.at_ 2 _ rfl
  have c_e_3 := HB_e.out.at_ 3 _ rfl
  have c_e_4 := HB_e.out.at_ 4 _ rfl
  have c_e_5 := HB_e.out.at_ 5 _ rfl
  have c_e_6 := HB_e.out.at_ 6 _ rfl
  have c_e_7 := HB_e.out.at_ 7 _ rfl
  have c_e_8 := HB_e.out.at_ 8 _ rfl
  have c_e_9 := HB_e.out.at_ 9 _ rfl
  have c_e_10 := HB_e.out.at_ 10 _ rfl
  have c_e_11 := HB_e.out.at_ 11 _ rfl
  have c_e_12 := HB_e.out.at_ 12 _ rfl
  go_wp2_with fail
  any_goals (solve | (go_ret; exact ⟨rfl, HC1.out.bel⟩))
  refine (rtext_bx ⟨nm, fr, tl, rm, rk, rn, rd, rs, rc, rv, lt⟩ LT 9 _ HC1.out.env.env HR.out rc0 HT.out.texts HT.out.len).mono ?_
  rintro e v2 ⟨⟨g_t, rfl, h_t⟩, b2⟩
  clear lt_r c_r_0 c_r_1 c_r_2 c_r_3 c_r_4 c_r_5 c_r_6 c_r_7 c_r_8 c_r_9 c_r_10 lt_e c_e_0 c_e_1 c_e_2 c_e_3 c_e_4 c_e_5 c_e_6 c_e_7 c_e_8 c_e_9 c_e_10 c_e_11 c_e_12
  have HC2 := Lib.hid (HC1.out.on b2)
  have HX_r := Lib.hid (HB_r.out.on b2)
  have HX_e := Lib.hid (HB_e.out.on b2)
  clear b2 HC1 HB_r HB_e
  have HX_t := Lib.hid h_t
  clear h_t
  have HB_r := HX_r
  have HB_e := HX_e
  have HB_t := HX_t
  clear HX_r HX_e HX_t
  go_wp2_with fail
  refine (fields5_ok g_t 9 9 LT _ HB_t.out HT.out.len (by decide) (by decide) (okc_texts HTG.out) (line_texts HTZ.out (Nat.le_of_eq HT.out.len)) HT.out.small).mono ?_
  rintro e f3 ⟨⟨g_ft, c_ft, rfl, q_ft, p_ft, h_ft⟩, bb⟩
  have HCj := Lib.hid (HC2.out.on bb)
  have HX_r := Lib.hid (HB_r.out.on bb)
  have HX_e := Lib.hid (HB_e.out.on bb)
  have HX_t := Lib.hid (HB_t.out.on bb)
  clear HC2 HB_r HB_e HB_t
  have HB_r := HX_r
  have HB_e := HX_e
  have HB_t := HX_t
  clear HX_r HX_e HX_t
  have HB_ft := Lib.hid h_ft
  clear h_ft bb
  have HCt := HCj
  clear HCj
  go_wp2_with fail
  refine (rprs_bx g_ft 9 c_ft LT LT ⟨nm, fr, tl, rm, rk, rn, rd, rs, rc, rv, lt⟩ 0 0 _ HCt.out.env.env HB_ft.out (Nat.le_of_eq HT.out.len.symm) (by decide) (List.take_of_length_le (Nat.le_of_eq HT.out.len)) HT.out.small HT.out.nine).mono ?_
  rintro e v4 ⟨rfl, b4⟩
  have HC4 := Lib.hid (HCt.out.on b4)
  have HX_r := Lib.hid (HB_r.out.on b4)
  have HX_e := Lib.hid (HB_e.out.on b4)
  clear b4 HCt HB_r HB_e HB_t HB_ft
  have HB_r := HX_r
  have HB_e := HX_e
  clear HX_r HX_e
  have lt_r := HB_r.out.lt
  have c_r_0 := HB_r.out.at_ 0 _ rfl
  have c_r_1 := HB_r.out.at_ 1 _ rfl
  have c_r_2 := HB_r.out.at_ 2 _ rfl
  have c_r_3 := HB_r.out.at_ 3 _ rfl
  have c_r_4 := HB_r.out.at_ 4 _ rfl
  have c_r_5 := HB_r.out.at_ 5 _ rfl
  have c_r_6 := HB_r.out.at_ 6 _ rfl
  have c_r_7 := HB_r.out.at_ 7 _ rfl
  have c_r_8 := HB_r.out.at_ 8 _ rfl
  have c_r_9 := HB_r.out.at_ 9 _ rfl
  have c_r_10 := HB_r.out.at_ 10 _ rfl
  have lt_e := HB_e.out.lt
  have c_e_0 := HB_e.out.at_ 0 _ rfl
  have c_e_1 := HB_e.out.at_ 1 _ rfl
  have c_e_2 := HB_e.out.at_ 2 _ rfl
  have c_e_3 := HB_e.out.at_ 3 _ rfl
  have c_e_4 := HB_e.out.at_ 4 _ rfl
  have c_e_5 := HB_e.out.at_ 5 _ rfl
  have c_e_6 := HB_e.out.at_ 6 _ rfl
  have c_e_7 := HB_e.out.at_ 7 _ rfl
  have c_e_8 := HB_e.out.at_ 8 _ rfl
  have c_e_9 := HB_e.out.at_ 9 _ rfl
  have c_e_10 := HB_e.out.at_ 10 _ rfl
  have c_e_11 := HB_e.out.at_ 11 _ rfl
  have c_e_12 := HB_e.out.at_ 12 _ rfl
  go_wp2_with fail
  refine (etext_bx ⟨sd, k, sv, ru, fm, en, ⟨y, m, q, n, d, s, c⟩⟩ LU NU _ (HC4.out.al _).env HUR.out c0 (Nat.le_trans (eru_le HUR.out) (by decide)) HU.out.texts HU.out.num).mono ?_
  rintro e u5 ⟨⟨g_u, c_u, rfl, q_u, p_u, h_u⟩, bb⟩
  clear lt_r c_r_0 c_r_1 c_r_2 c_r_3 c_r_4 c_r_5 c_r_6 c_r_7 c_r_8 c_r_9 c_r_10 lt_e c_e_0 c_e_1 c_e_2 c_e_3 c_e_4 c_e_5 c_e_6 c_e_7 c_e_8 c_e_9 c_e_10 c_e_11 c_e_12
  have HCj := Lib.hid ((HC4.out.al _).on bb)
  have HX_r := Lib.hid ((HB_r.out.al _).on bb)
  have HX_e := Lib.hid ((HB_e.out.al _).on bb)
  have HX_x := Lib.hid ((Bx.mk' _ v4.heap.size #[.string nm, .int .i64 fr, .int .i64 tl, .int .i64 rm, .int .u8 rk, .int .i64 rn, .int .i64 rd, .int .i64 rs, .int .u8 rc, .int .i64 rv, .string lt] 29 (by simp)).on bb)
  clear HC4 HB_r HB_e
  have HB_r := HX_r
  have HB_e := HX_e
  have HB_x := HX_x
  clear HX_r HX_e HX_x
  have HB_u := Lib.hid h_u
  clear h_u bb
  have HCt := HCj
  clear HCj
  go_wp2_with fail
  refine (fields5_ok g_u NU c_u LU _ HB_u.out HU.out.len NU1 (by have := HU.out.most; omega) (okc_texts HUG.out) (line_texts HUZ.out (by have := HU.out.most; have := HU.out.len; omega)) HU.out.small).mono ?_
  rintro e f6 ⟨⟨g_fu, c_fu, rfl, q_fu, p_fu, h_fu⟩, bb⟩
  have HCj := Lib.hid (HCt.out.on bb)
  have HX_r := Lib.hid (HB_r.out.on bb)
  have HX_e := Lib.hid (HB_e.out.on bb)
  have HX_x := Lib.hid (HB_x.out.on bb)
  have HX_u := Lib.hid (HB_u.out.on bb)
  clear HCt HB_r HB_e HB_x HB_u
  have HB_r := HX_r
  have HB_e := HX_e
  have HB_x := HX_x
  have HB_u := HX_u
  clear HX_r HX_e HX_x HX_u
  have HB_fu := Lib.hid h_fu
  clear h_fu bb
  have HCt := HCj
  clear HCj
  go_wp2_with fail
  refine (eprs_bx g_fu NU c_fu LU LU ⟨sd, k, sv, ru, fm, en, ⟨y, m, q, n, d, s, c⟩⟩ 0 0 _ HCt.out.env HB_fu.out (Nat.le_of_eq HU.out.len.symm) (by have := HU.out.most; omega) q_fu p_fu (List.take_of_length_le (Nat.le_of_eq HU.out.len)) HU.out.small HU.out.back).mono ?_
  rintro e v7 ⟨rfl, b7⟩
  have HC7 := Lib.hid (HCt.out.on b7)
  have HX_e := Lib.hid (HB_e.out.on b7)
  clear b7 HCt HB_r HB_e HB_x HB_u HB_fu
  have HB_e := HX_e
  clear HX_e
  have lt_e := HB_e.out.lt
  have c_e_0 := HB_e.out.at_ 0 _ rfl
  have c_e_1 := HB_e.out.at_ 1 _ rfl
  have c_e_2 := HB_e.out.at_ 2 _ rfl
  have c_e_3 := HB_e.out.at_ 3 _ rfl
  have c_e_4 := HB_e.out.at_ 4 _ rfl
  have c_e_5 := HB_e.out.at_ 5 _ rfl
  have c_e_6 := HB_e.out.at_ 6 _ rfl
  have c_e_7 := HB_e.out.at_ 7 _ rfl
  have c_e_8 := HB_e.out.at_ 8 _ rfl
  have c_e_9 := HB_e.out.at_ 9 _ rfl
  have c_e_10 := HB_e.out.at_ 10 _ rfl
  have c_e_11 := HB_e.out.at_ 11 _ rfl
  have c_e_12 := HB_e.out.at_ 12 _ rfl
  go_wp2_with fail
  go_ret
  exact ⟨rfl, (HC7.out.al _).bel⟩
set_option maxRecDepth 100000 in
set_option maxHeartbeats 8000000 in
theorem tlines_right_wrong (nm : ByteArray) (fr tl rm rk rn rd rs rc rv : Int) (lt : ByteArray) (sd k sv : Int) (ru fm : ByteArray) (en : Bool) (y m q n d s c : Int) (_z1 : nm.size ≤ 9223372036854775807) (_z2 : lt.size ≤ 9223372036854775807) (z3 : ru.size ≤ 9223372036854775807) (_z4 : fm.size ≤ 9223372036854775807) (rc0 : 0 ≤ rc) (LT : List ByteArray) (HR : Hid (Rl.right ⟨nm, fr, tl, rm, rk, rn, rd, rs, rc, rv, lt⟩ = true)) (HT : Hid (RTx ⟨nm, fr, tl, rm, rk, rn, rd, rs, rc, rv, lt⟩ LT)) (HTG : Hid (∀ t ∈ LT, t.data.toList.all gr = true)) (HTZ : Hid (∀ t ∈ LT, t.size ≤ 201)) (HUR : Hid (El.right ⟨sd, k, sv, ru, fm, en, ⟨y, m, q, n, d, s, c⟩⟩ = false)) (w : World) (HE : Hid (Ev w)) :
    Calls Tryz.prog 5 #[.agg #[.string nm, .int .i64 fr, .int .i64 tl, .int .i64 rm, .int .u8 rk, .int .i64 rn, .int .i64 rd, .int .i64 rs, .int .u8 rc, .int .i64 rv, .string lt], .agg #[.int .i64 sd, .int .u8 k, .int .i64 sv, .string ru, .string fm, .bool en, .int .i64 y, .int .i64 m, .int .u8 q, .int .i64 n, .int .i64 d, .int .i64 s, .int .u8 c]] w fun e w' => e = .returned (.bool true) ∧ Below w.heap.size w w' := by
  have HC0 : Hid (Cy w w) := Lib.hid ⟨HE.out, Below.refl _ _⟩
  go_enter Tryz.func5, Tryz.ntmps5
  go_wp2_with fail
  refine (begins5 _ (Lib.hid ((HC0.out.al _).al _).env)).mono ?_
  rintro e v1 ⟨rfl, b1⟩
  have HC1 := Lib.hid (((HC0.out.al _).al _).on b1)
  have HX_r := Lib.hid (((Bx.mk' _ w.heap.size #[.string nm, .int .i64 fr, .int .i64 tl, .int .i64 rm, .int .u8 rk, .int .i64 rn, .int .i64 rd, .int .i64 rs, .int .u8 rc, .int .i64 rv, .string lt] 29 (by simp)).al _).on b1)
  have HX_e := Lib.hid ((Bx.mk' _ (w.heap.size + 1) #[.int .i64 sd, .int .u8 k, .int .i64 sv, .string ru, .string fm, .bool en, .int .i64 y, .int .i64 m, .int .u8 q, .int .i64 n, .int .i64 d, .int .i64 s, .int .u8 c] 44 (by simp)).on b1)
  clear b1 HC0 
  have HB_r := HX_r
  have HB_e := HX_e
  clear HX_r HX_e
  have lt_r := HB_r.out.lt
  have c_r_0 := HB_r.out.at_ 0 _ rfl
  have c_r_1 := HB_r.out.at_ 1 _ rfl
  have c_r_2 := HB_r.out.at_ 2 _ rfl
  have c_r_3 := HB_r.out.at_ 3 _ rfl
  have c_r_4 := HB_r.out.at_ 4 _ rfl
  have c_r_5 := HB_r.out.at_ 5 _ rfl
  have c_r_6 := HB_r.out.at_ 6 _ rfl
  have c_r_7 := HB_r.out.at_ 7 _ rfl
  have c_r_8 := HB_r.out.at_ 8 _ rfl
  have c_r_9 := HB_r.out.at_ 9 _ rfl
  have c_r_10 := HB_r.out.at_ 10 _ rfl
  have lt_e := HB_e.out.lt
  have c_e_0 := HB_e.out.at_ 0 _ rfl
  have c_e_1 := HB_e.out.at_ 1 _ rfl
  have c_e_2 := HB_e.out.at_ 2 _ rfl
  have c_e_3 := HB_e.out.at_ 3 _ rfl
  have c_e_4 := HB_e.out.at_ 4 _ rfl
  have c_e_5 := HB_e.out.at_ 5 _ rfl
  have c_e_6 := HB_e.out.at_ 6 _ rfl
  have c_e_7 := HB_e.out.at_ 7 _ rfl
  have c_e_8 := HB_e.out.at_ 8 _ rfl
  have c_e_9 := HB_e.out.at_ 9 _ rfl
  have c_e_10 := HB_e.out.at_ 10 _ rfl
  have c_e_11 := HB_e.out.at_ 11 _ rfl
  have c_e_12 := HB_e.out.at_ 12 _ rfl
  go_wp2_with fail
  any_goals (solve | (go_ret; exact ⟨rfl, HC1.out.bel⟩))
  refine (rtext_bx ⟨nm, fr, tl, rm, rk, rn, rd, rs, rc, rv, lt⟩ LT 9 _ HC1.out.env.env HR.out rc0 HT.out.texts HT.out.len).mono ?_
  rintro e v2 ⟨⟨g_t, rfl, h_t⟩, b2⟩
  clear lt_r c_r_0 c_r_1 c_r_2 c_r_3 c_r_4 c_r_5 c_r_6 c_r_7 c_r_8 c_r_9 c_r_10 lt_e c_e_0 c_e_1 c_e_2 c_e_3 c_e_4 c_e_5 c_e_6 c_e_7 c_e_8 c_e_9 c_e_10 c_e_11 c_e_12
  have HC2 := Lib.hid (HC1.out.on b2)
  have HX_r := Lib.hid (HB_r.out.on b2)
  have HX_e := Lib.hid (HB_e.out.on b2)
  clear b2 HC1 HB_r HB_e
  have HX_t := Lib.hid h_t
  clear h_t
  have HB_r := HX_r
  have HB_e := HX_e
  have HB_t := HX_t
  clear HX_r HX_e HX_t
  go_wp2_with fail
  refine (fields5_ok g_t 9 9 LT _ HB_t.out HT.out.len (by decide) (by decide) (okc_texts HTG.out) (line_texts HTZ.out (Nat.le_of_eq HT.out.len)) HT.out.small).mono ?_
  rintro e f3 ⟨⟨g_ft, c_ft, rfl, q_ft, p_ft, h_ft⟩, bb⟩
  have HCj := Lib.hid (HC2.out.on bb)
  have HX_r := Lib.hid (HB_r.out.on bb)
  have HX_e := Lib.hid (HB_e.out.on bb)
  have HX_t := Lib.hid (HB_t.out.on bb)
  clear HC2 HB_r HB_e HB_t
  have HB_r := HX_r
  have HB_e := HX_e
  have HB_t := HX_t
  clear HX_r HX_e HX_t
  have HB_ft := Lib.hid h_ft
  clear h_ft bb
  have HCt := HCj
  clear HCj
  go_wp2_with fail
  refine (rprs_bx g_ft 9 c_ft LT LT ⟨nm, fr, tl, rm, rk, rn, rd, rs, rc, rv, lt⟩ 0 0 _ HCt.out.env.env HB_ft.out (Nat.le_of_eq HT.out.len.symm) (by decide) (List.take_of_length_le (Nat.le_of_eq HT.out.len)) HT.out.small HT.out.nine).mono ?_
  rintro e v4 ⟨rfl, b4⟩
  have HC4 := Lib.hid (HCt.out.on b4)
  have HX_r := Lib.hid (HB_r.out.on b4)
  have HX_e := Lib.hid (HB_e.out.on b4)
  clear b4 HCt HB_r HB_e HB_t HB_ft
  have HB_r := HX_r
  have HB_e := HX_e
  clear HX_r HX_e
  have lt_r := HB_r.out.lt
  have c_r_0 := HB_r.out.at_ 0 _ rfl
  have c_r_1 := HB_r.out.at_ 1 _ rfl
  have c_r_2 := HB_r.out.at_ 2 _ rfl
  have c_r_3 := HB_r.out.at_ 3 _ rfl
  have c_r_4 := HB_r.out.at_ 4 _ rfl
  have c_r_5 := HB_r.out.at_ 5 _ rfl
  have c_r_6 := HB_r.out.at_ 6 _ rfl
  have c_r_7 := HB_r.out.at_ 7 _ rfl
  have c_r_8 := HB_r.out.at_ 8 _ rfl
  have c_r_9 := HB_r.out.at_ 9 _ rfl
  have c_r_10 := HB_r.out.at_ 10 _ rfl
  have lt_e := HB_e.out.lt
  have c_e_0 := HB_e.out.at_ 0 _ rfl
  have c_e_1 := HB_e.out.at_ 1 _ rfl
  have c_e_2 := HB_e.out.at_ 2 _ rfl
  have c_e_3 := HB_e.out.at_ 3 _ rfl
  have c_e_4 := HB_e.out.at_ 4 _ rfl
  have c_e_5 := HB_e.out.at_ 5 _ rfl
  have c_e_6 := HB_e.out.at_ 6 _ rfl
  have c_e_7 := HB_e.out.at_ 7 _ rfl
  have c_e_8 := HB_e.out.at_ 8 _ rfl
  have c_e_9 := HB_e.out.at_ 9 _ rfl
  have c_e_10 := HB_e.out.at_ 10 _ rfl
  have c_e_11 := HB_e.out.at_ 11 _ rfl
  have c_e_12 := HB_e.out.at_ 12 _ rfl
  go_wp2_with fail
  refine (etext_no ⟨sd, k, sv, ru, fm, en, ⟨y, m, q, n, d, s, c⟩⟩ _ (HC4.out.al _).env z3 HUR.out).mono ?_
  rintro e v5 ⟨rfl, b5⟩
  clear lt_r c_r_0 c_r_1 c_r_2 c_r_3 c_r_4 c_r_5 c_r_6 c_r_7 c_r_8 c_r_9 c_r_10 lt_e c_e_0 c_e_1 c_e_2 c_e_3 c_e_4 c_e_5 c_e_6 c_e_7 c_e_8 c_e_9 c_e_10 c_e_11 c_e_12
  have HC5 := Lib.hid ((HC4.out.al _).on b5)
  have HX_e := Lib.hid ((HB_e.out.al _).on b5)
  clear b5 HC4 HB_r HB_e
  have HB_e := HX_e
  clear HX_e
  have lt_e := HB_e.out.lt
  have c_e_0 := HB_e.out.at_ 0 _ rfl
  have c_e_1 := HB_e.out.at_ 1 _ rfl
  have c_e_2 := HB_e.out.at_ 2 _ rfl
  have c_e_3 := HB_e.out.at_ 3 _ rfl
  have c_e_4 := HB_e.out.at_ 4 _ rfl
  have c_e_5 := HB_e.out.at_ 5 _ rfl
  have c_e_6 := HB_e.out.at_ 6 _ rfl
  have c_e_7 := HB_e.out.at_ 7 _ rfl
  have c_e_8 := HB_e.out.at_ 8 _ rfl
  have c_e_9 := HB_e.out.at_ 9 _ rfl
  have c_e_10 := HB_e.out.at_ 10 _ rfl
  have c_e_11 := HB_e.out.at_ 11 _ rfl
  have c_e_12 := HB_e.out.at_ 12 _ rfl
  go_wp2_with fail
  refine (echeck_is ⟨sd, k, sv, ru, fm, en, ⟨y, m, q, n, d, s, c⟩⟩ false _ HC5.out.env z3 HUR.out).mono ?_
  rintro e vz ⟨rfl, bz⟩
  have HCz := Lib.hid (HC5.out.on bz)
  go_wp2_with fail
  go_ret
  exact ⟨rfl, HCz.out.bel⟩
set_option maxRecDepth 100000 in
set_option maxHeartbeats 8000000 in
theorem tlines_wrong_right (nm : ByteArray) (fr tl rm rk rn rd rs rc rv : Int) (lt : ByteArray) (sd k sv : Int) (ru fm : ByteArray) (en : Bool) (y m q n d s c : Int) (z1 : nm.size ≤ 9223372036854775807) (_z2 : lt.size ≤ 9223372036854775807) (_z3 : ru.size ≤ 9223372036854775807) (_z4 : fm.size ≤ 9223372036854775807) (HR : Hid (Rl.right ⟨nm, fr, tl, rm, rk, rn, rd, rs, rc, rv, lt⟩ = false)) (c0 : 0 ≤ c) (LU : List ByteArray) (NU : Nat) (HUR : Hid (El.right ⟨sd, k, sv, ru, fm, en, ⟨y, m, q, n, d, s, c⟩⟩ = true)) (HU : Hid (ETx ⟨sd, k, sv, ru, fm, en, ⟨y, m, q, n, d, s, c⟩⟩ LU NU)) (HUG : Hid (∀ t ∈ LU, t.data.toList.all gr = true)) (HUZ : Hid (∀ t ∈ LU, t.size ≤ 201)) (NU1 : 1 ≤ NU) (w : World) (HE : Hid (Ev w)) :
    Calls Tryz.prog 5 #[.agg #[.string nm, .int .i64 fr, .int .i64 tl, .int .i64 rm, .int .u8 rk, .int .i64 rn, .int .i64 rd, .int .i64 rs, .int .u8 rc, .int .i64 rv, .string lt], .agg #[.int .i64 sd, .int .u8 k, .int .i64 sv, .string ru, .string fm, .bool en, .int .i64 y, .int .i64 m, .int .u8 q, .int .i64 n, .int .i64 d, .int .i64 s, .int .u8 c]] w fun e w' => e = .returned (.bool true) ∧ Below w.heap.size w w' := by
  have HC0 : Hid (Cy w w) := Lib.hid ⟨HE.out, Below.refl _ _⟩
  go_enter Tryz.func5, Tryz.ntmps5
  go_wp2_with fail
  refine (begins5 _ (Lib.hid ((HC0.out.al _).al _).env)).mono ?_
  rintro e v1 ⟨rfl, b1⟩
  have HC1 := Lib.hid (((HC0.out.al _).al _).on b1)
  have HX_r := Lib.hid (((Bx.mk' _ w.heap.size #[.string nm, .int .i64 fr, .int .i64 tl, .int .i64 rm, .int .u8 rk, .int .i64 rn, .int .i64 rd, .int .i64 rs, .int .u8 rc, .int .i64 rv, .string lt] 29 (by simp)).al _).on b1)
  have HX_e := Lib.hid ((Bx.mk' _ (w.heap.size + 1) #[.int .i64 sd, .int .u8 k, .int .i64 sv, .string ru, .string fm, .bool en, .int .i64 y, .int .i64 m, .int .u8 q, .int .i64 n, .int .i64 d, .int .i64 s, .int .u8 c] 44 (by simp)).on b1)
  clear b1 HC0 
  have HB_r := HX_r
  have HB_e := HX_e
  clear HX_r HX_e
  have lt_r := HB_r.out.lt
  have c_r_0 := HB_r.out.at_ 0 _ rfl
  have c_r_1 := HB_r.out.at_ 1 _ rfl
  have c_r_2 := HB_r.out.at_ 2 _ rfl
  have c_r_3 := HB_r.out.at_ 3 _ rfl
  have c_r_4 := HB_r.out.at_ 4 _ rfl
  have c_r_5 := HB_r.out.at_ 5 _ rfl
  have c_r_6 := HB_r.out.at_ 6 _ rfl
  have c_r_7 := HB_r.out.at_ 7 _ rfl
  have c_r_8 := HB_r.out.at_ 8 _ rfl
  have c_r_9 := HB_r.out.at_ 9 _ rfl
  have c_r_10 := HB_r.out.at_ 10 _ rfl
  have lt_e := HB_e.out.lt
  have c_e_0 := HB_e.out.at_ 0 _ rfl
  have c_e_1 := HB_e.out.at_ 1 _ rfl
  have c_e_2 := HB_e.out.at_ 2 _ rfl
  have c_e_3 := HB_e.out.at_ 3 _ rfl
  have c_e_4 := HB_e.out.at_ 4 _ rfl
  have c_e_5 := HB_e.out.at_ 5 _ rfl
  have c_e_6 := HB_e.out.at_ 6 _ rfl
  have c_e_7 := HB_e.out.at_ 7 _ rfl
  have c_e_8 := HB_e.out.at_ 8 _ rfl
  have c_e_9 := HB_e.out.at_ 9 _ rfl
  have c_e_10 := HB_e.out.at_ 10 _ rfl
  have c_e_11 := HB_e.out.at_ 11 _ rfl
  have c_e_12 := HB_e.out.at_ 12 _ rfl
  go_wp2_with fail
  any_goals (solve | (go_ret; exact ⟨rfl, HC1.out.bel⟩))
  refine (rtext_no ⟨nm, fr, tl, rm, rk, rn, rd, rs, rc, rv, lt⟩ _ z1 HR.out).mono ?_
  rintro e v2 ⟨rfl, b2⟩
  clear lt_r c_r_0 c_r_1 c_r_2 c_r_3 c_r_4 c_r_5 c_r_6 c_r_7 c_r_8 c_r_9 c_r_10 lt_e c_e_0 c_e_1 c_e_2 c_e_3 c_e_4 c_e_5 c_e_6 c_e_7 c_e_8 c_e_9 c_e_10 c_e_11 c_e_12
  have HC2 := Lib.hid (HC1.out.on b2)
  have HX_e := Lib.hid (HB_e.out.on b2)
  clear b2 HC1 HB_r HB_e
  have HB_e := HX_e
  clear HX_e
  have lt_e := HB_e.out.lt
  have c_e_0 := HB_e.out.at_ 0 _ rfl
  have c_e_1 := HB_e.out.at_ 1 _ rfl
  have c_e_2 := HB_e.out.at_ 2 _ rfl
  have c_e_3 := HB_e.out.at_ 3 _ rfl
  have c_e_4 := HB_e.out.at_ 4 _ rfl
  have c_e_5 := HB_e.out.at_ 5 _ rfl
  have c_e_6 := HB_e.out.at_ 6 _ rfl
  have c_e_7 := HB_e.out.at_ 7 _ rfl
  have c_e_8 := HB_e.out.at_ 8 _ rfl
  have c_e_9 := HB_e.out.at_ 9 _ rfl
  have c_e_10 := HB_e.out.at_ 10 _ rfl
  have c_e_11 := HB_e.out.at_ 11 _ rfl
  have c_e_12 := HB_e.out.at_ 12 _ rfl
  go_wp2_with fail
  refine (etext_bx ⟨sd, k, sv, ru, fm, en, ⟨y, m, q, n, d, s, c⟩⟩ LU NU _ HC2.out.env HUR.out c0 (Nat.le_trans (eru_le HUR.out) (by decide)) HU.out.texts HU.out.num).mono ?_
  rintro e u3 ⟨⟨g_u, c_u, rfl, q_u, p_u, h_u⟩, bb⟩
  clear lt_e c_e_0 c_e_1 c_e_2 c_e_3 c_e_4 c_e_5 c_e_6 c_e_7 c_e_8 c_e_9 c_e_10 c_e_11 c_e_12
  have HCj := Lib.hid (HC2.out.on bb)
  have HX_e := Lib.hid (HB_e.out.on bb)
  clear HC2 HB_e
  have HB_e := HX_e
  clear HX_e
  have HB_u := Lib.hid h_u
  clear h_u bb
  have HCt := HCj
  clear HCj
  go_wp2_with fail
  refine (fields5_ok g_u NU c_u LU _ HB_u.out HU.out.len NU1 (by have := HU.out.most; omega) (okc_texts HUG.out) (line_texts HUZ.out (by have := HU.out.most; have := HU.out.len; omega)) HU.out.small).mono ?_
  rintro e f4 ⟨⟨g_fu, c_fu, rfl, q_fu, p_fu, h_fu⟩, bb⟩
  have HCj := Lib.hid (HCt.out.on bb)
  have HX_e := Lib.hid (HB_e.out.on bb)
  have HX_u := Lib.hid (HB_u.out.on bb)
  clear HCt HB_e HB_u
  have HB_e := HX_e
  have HB_u := HX_u
  clear HX_e HX_u
  have HB_fu := Lib.hid h_fu
  clear h_fu bb
  have HCt := HCj
  clear HCj
  go_wp2_with fail
  refine (eprs_bx g_fu NU c_fu LU LU ⟨sd, k, sv, ru, fm, en, ⟨y, m, q, n, d, s, c⟩⟩ 0 0 _ HCt.out.env HB_fu.out (Nat.le_of_eq HU.out.len.symm) (by have := HU.out.most; omega) q_fu p_fu (List.take_of_length_le (Nat.le_of_eq HU.out.len)) HU.out.small HU.out.back).mono ?_
  rintro e v5 ⟨rfl, b5⟩
  have HC5 := Lib.hid (HCt.out.on b5)
  have HX_e := Lib.hid (HB_e.out.on b5)
  clear b5 HCt HB_e HB_u HB_fu
  have HB_e := HX_e
  clear HX_e
  have lt_e := HB_e.out.lt
  have c_e_0 := HB_e.out.at_ 0 _ rfl
  have c_e_1 := HB_e.out.at_ 1 _ rfl
  have c_e_2 := HB_e.out.at_ 2 _ rfl
  have c_e_3 := HB_e.out.at_ 3 _ rfl
  have c_e_4 := HB_e.out.at_ 4 _ rfl
  have c_e_5 := HB_e.out.at_ 5 _ rfl
  have c_e_6 := HB_e.out.at_ 6 _ rfl
  have c_e_7 := HB_e.out.at_ 7 _ rfl
  have c_e_8 := HB_e.out.at_ 8 _ rfl
  have c_e_9 := HB_e.out.at_ 9 _ rfl
  have c_e_10 := HB_e.out.at_ 10 _ rfl
  have c_e_11 := HB_e.out.at_ 11 _ rfl
  have c_e_12 := HB_e.out.at_ 12 _ rfl
  go_wp2_with fail
  go_ret
  exact ⟨rfl, (HC5.out.al _).bel⟩
set_option maxRecDepth 100000 in
set_option maxHeartbeats 8000000 in
theorem tlines_wrong_wrong (nm : ByteArray) (fr tl rm rk rn rd rs rc rv : Int) (lt : ByteArray) (sd k sv : Int) (ru fm : ByteArray) (en : Bool) (y m q n d s c : Int) (z1 : nm.size ≤ 9223372036854775807) (_z2 : lt.size ≤ 9223372036854775807) (z3 : ru.size ≤ 9223372036854775807) (_z4 : fm.size ≤ 9223372036854775807) (HR : Hid (Rl.right ⟨nm, fr, tl, rm, rk, rn, rd, rs, rc, rv, lt⟩ = false)) (HUR : Hid (El.right ⟨sd, k, sv, ru, fm, en, ⟨y, m, q, n, d, s, c⟩⟩ = false)) (w : World) (HE : Hid (Ev w)) :
    Calls Tryz.prog 5 #[.agg #[.string nm, .int .i64 fr, .int .i64 tl, .int .i64 rm, .int .u8 rk, .int .i64 rn, .int .i64 rd, .int .i64 rs, .int .u8 rc, .int .i64 rv, .string lt], .agg #[.int .i64 sd, .int .u8 k, .int .i64 sv, .string ru, .string fm, .bool en, .int .i64 y, .int .i64 m, .int .u8 q, .int .i64 n, .int .i64 d, .int .i64 s, .int .u8 c]] w fun e w' => e = .returned (.bool true) ∧ Below w.heap.size w w' := by
  have HC0 : Hid (Cy w w) := Lib.hid ⟨HE.out, Below.refl _ _⟩
  go_enter Tryz.func5, Tryz.ntmps5
  go_wp2_with fail
  refine (begins5 _ (Lib.hid ((HC0.out.al _).al _).env)).mono ?_
  rintro e v1 ⟨rfl, b1⟩
  have HC1 := Lib.hid (((HC0.out.al _).al _).on b1)
  have HX_r := Lib.hid (((Bx.mk' _ w.heap.size #[.string nm, .int .i64 fr, .int .i64 tl, .int .i64 rm, .int .u8 rk, .int .i64 rn, .int .i64 rd, .int .i64 rs, .int .u8 rc, .int .i64 rv, .string lt] 29 (by simp)).al _).on b1)
  have HX_e := Lib.hid ((Bx.mk' _ (w.heap.size + 1) #[.int .i64 sd, .int .u8 k, .int .i64 sv, .string ru, .string fm, .bool en, .int .i64 y, .int .i64 m, .int .u8 q, .int .i64 n, .int .i64 d, .int .i64 s, .int .u8 c] 44 (by simp)).on b1)
  clear b1 HC0 
  have HB_r := HX_r
  have HB_e := HX_e
  clear HX_r HX_e
  have lt_r := HB_r.out.lt
  have c_r_0 := HB_r.out.at_ 0 _ rfl
  have c_r_1 := HB_r.out.at_ 1 _ rfl
  have c_r_2 := HB_r.out.at_ 2 _ rfl
  have c_r_3 := HB_r.out.at_ 3 _ rfl
  have c_r_4 := HB_r.out.at_ 4 _ rfl
  have c_r_5 := HB_r.out.at_ 5 _ rfl
  have c_r_6 := HB_r.out.at_ 6 _ rfl
  have c_r_7 := HB_r.out.at_ 7 _ rfl
  have c_r_8 := HB_r.out.at_ 8 _ rfl
  have c_r_9 := HB_r.out.at_ 9 _ rfl
  have c_r_10 := HB_r.out.at_ 10 _ rfl
  have lt_e := HB_e.out.lt
  have c_e_0 := HB_e.out.at_ 0 _ rfl
  have c_e_1 := HB_e.out.at_ 1 _ rfl
  have c_e_2 := HB_e.out.at_ 2 _ rfl
  have c_e_3 := HB_e.out.at_ 3 _ rfl
  have c_e_4 := HB_e.out.at_ 4 _ rfl
  have c_e_5 := HB_e.out.at_ 5 _ rfl
  have c_e_6 := HB_e.out.at_ 6 _ rfl
  have c_e_7 := HB_e.out.at_ 7 _ rfl
  have c_e_8 := HB_e.out.at_ 8 _ rfl
  have c_e_9 := HB_e.out.at_ 9 _ rfl
  have c_e_10 := HB_e.out.at_ 10 _ rfl
  have c_e_11 := HB_e.out.at_ 11 _ rfl
  have c_e_12 := HB_e.out.at_ 12 _ rfl
  go_wp2_with fail
  any_goals (solve | (go_ret; exact ⟨rfl, HC1.out.bel⟩))
  refine (rtext_no ⟨nm, fr, tl, rm, rk, rn, rd, rs, rc, rv, lt⟩ _ z1 HR.out).mono ?_
  rintro e v2 ⟨rfl, b2⟩
  clear lt_r c_r_0 c_r_1 c_r_2 c_r_3 c_r_4 c_r_5 c_r_6 c_r_7 c_r_8 c_r_9 c_r_10 lt_e c_e_0 c_e_1 c_e_2 c_e_3 c_e_4 c_e_5 c_e_6 c_e_7 c_e_8 c_e_9 c_e_10 c_e_11 c_e_12
  have HC2 := Lib.hid (HC1.out.on b2)
  have HX_e := Lib.hid (HB_e.out.on b2)
  clear b2 HC1 HB_r HB_e
  have HB_e := HX_e
  clear HX_e
  have lt_e := HB_e.out.lt
  have c_e_0 := HB_e.out.at_ 0 _ rfl
  have c_e_1 := HB_e.out.at_ 1 _ rfl
  have c_e_2 := HB_e.out.at_ 2 _ rfl
  have c_e_3 := HB_e.out.at_ 3 _ rfl
  have c_e_4 := HB_e.out.at_ 4 _ rfl
  have c_e_5 := HB_e.out.at_ 5 _ rfl
  have c_e_6 := HB_e.out.at_ 6 _ rfl
  have c_e_7 := HB_e.out.at_ 7 _ rfl
  have c_e_8 := HB_e.out.at_ 8 _ rfl
  have c_e_9 := HB_e.out.at_ 9 _ rfl
  have c_e_10 := HB_e.out.at_ 10 _ rfl
  have c_e_11 := HB_e.out.at_ 11 _ rfl
  have c_e_12 := HB_e.out.at_ 12 _ rfl
  go_wp2_with fail
  refine (etext_no ⟨sd, k, sv, ru, fm, en, ⟨y, m, q, n, d, s, c⟩⟩ _ HC2.out.env z3 HUR.out).mono ?_
  rintro e v3 ⟨rfl, b3⟩
  clear lt_e c_e_0 c_e_1 c_e_2 c_e_3 c_e_4 c_e_5 c_e_6 c_e_7 c_e_8 c_e_9 c_e_10 c_e_11 c_e_12
  have HC3 := Lib.hid (HC2.out.on b3)
  have HX_e := Lib.hid (HB_e.out.on b3)
  clear b3 HC2 HB_e
  have HB_e := HX_e
  clear HX_e
  have lt_e := HB_e.out.lt
  have c_e_0 := HB_e.out.at_ 0 _ rfl
  have c_e_1 := HB_e.out.at_ 1 _ rfl
  have c_e_2 := HB_e.out.at_ 2 _ rfl
  have c_e_3 := HB_e.out.at_ 3 _ rfl
  have c_e_4 := HB_e.out.at_ 4 _ rfl
  have c_e_5 := HB_e.out.at_ 5 _ rfl
  have c_e_6 := HB_e.out.at_ 6 _ rfl
  have c_e_7 := HB_e.out.at_ 7 _ rfl
  have c_e_8 := HB_e.out.at_ 8 _ rfl
  have c_e_9 := HB_e.out.at_ 9 _ rfl
  have c_e_10 := HB_e.out.at_ 10 _ rfl
  have c_e_11 := HB_e.out.at_ 11 _ rfl
  have c_e_12 := HB_e.out.at_ 12 _ rfl
  go_wp2_with fail
  refine (echeck_is ⟨sd, k, sv, ru, fm, en, ⟨y, m, q, n, d, s, c⟩⟩ false _ HC3.out.env z3 HUR.out).mono ?_
  rintro e vz ⟨rfl, bz⟩
  have HCz := Lib.hid (HC3.out.on bz)
  go_wp2_with fail
  go_ret
  exact ⟨rfl, HCz.out.bel⟩
theorem walkTopLines (nm : ByteArray) (fr tl rm rk rn rd rs rc rv : Int) (lt : ByteArray) (hrc : (Lit.int .u8 rc).wf = true) (h1 : nm.size ≤ maxLen) (h2 : lt.size ≤ maxLen) (sd k sv : Int) (ru fm : ByteArray) (en : Bool) (y m q n d s c : Int) (_hk : (Lit.int .u8 k).wf = true) (hc : (Lit.int .u8 c).wf = true) (h3 : ru.size ≤ maxLen) (h4 : fm.size ≤ maxLen) (w : World) (hE : Env w) (hM : Marks w) :
    Calls Tryz.prog 5 #[.agg #[.string nm, .int .i64 fr, .int .i64 tl, .int .i64 rm, .int .u8 rk, .int .i64 rn, .int .i64 rd, .int .i64 rs, .int .u8 rc, .int .i64 rv, .string lt], .agg #[.int .i64 sd, .int .u8 k, .int .i64 sv, .string ru, .string fm, .bool en, .int .i64 y, .int .i64 m, .int .u8 q, .int .i64 n, .int .i64 d, .int .i64 s, .int .u8 c]] w fun e w' => e = .returned (.bool true) ∧ Below w.heap.size w w' := by
  have hE : Ev w := ⟨hE, hM⟩
  unfold maxLen at h1 h2 h3 h4
  have rc0 : 0 ≤ rc := by have := bounds_u8 hrc; omega
  have c0 : 0 ≤ c := by have := bounds_u8 hc; omega
  cases hr : Rl.right ⟨nm, fr, tl, rm, rk, rn, rd, rs, rc, rv, lt⟩ with
  | true =>
    obtain ⟨LT, hLT⟩ := rtx_of hr rc0
    have hg := rtexts_gr hr
    have hz := rtexts_small hr
    rw [hLT.texts] at hg hz
    cases he : El.right ⟨sd, k, sv, ru, fm, en, ⟨y, m, q, n, d, s, c⟩⟩ with
    | true =>
      obtain ⟨LU, NU, hLU⟩ := etx_of he c0
      have hg2 := etexts_gr he
      have hz2 := etexts_small he
      rw [hLU.texts] at hg2 hz2
      have hn := hLU.num
      have hb := enum_bd ⟨sd, k, sv, ru, fm, en, ⟨y, m, q, n, d, s, c⟩⟩
      exact tlines_right_right nm fr tl rm rk rn rd rs rc rv lt sd k sv ru fm en y m q n d s c (by omega) (by omega) (by omega) (by omega) rc0 LT (Lib.hid hr) (Lib.hid hLT) (Lib.hid hg) (Lib.hid hz) c0 LU NU (Lib.hid he) (Lib.hid hLU) (Lib.hid hg2) (Lib.hid hz2) (by unfold El.num at hn; split at hn <;> omega) w (Lib.hid hE)
    | false => exact tlines_right_wrong nm fr tl rm rk rn rd rs rc rv lt sd k sv ru fm en y m q n d s c (by omega) (by omega) (by omega) (by omega) rc0 LT (Lib.hid hr) (Lib.hid hLT) (Lib.hid hg) (Lib.hid hz) (Lib.hid he) w (Lib.hid hE)
  | false =>
    cases he : El.right ⟨sd, k, sv, ru, fm, en, ⟨y, m, q, n, d, s, c⟩⟩ with
    | true =>
      obtain ⟨LU, NU, hLU⟩ := etx_of he c0
      have hg2 := etexts_gr he
      have hz2 := etexts_small he
      rw [hLU.texts] at hg2 hz2
      have hn := hLU.num
      exact tlines_wrong_right nm fr tl rm rk rn rd rs rc rv lt sd k sv ru fm en y m q n d s c (by omega) (by omega) (by omega) (by omega) (Lib.hid hr) c0 LU NU (Lib.hid he) (Lib.hid hLU) (Lib.hid hg2) (Lib.hid hz2) (by unfold El.num at hn; split at hn <;> omega) w (Lib.hid hE)
    | false => exact tlines_wrong_wrong nm fr tl rm rk rn rd rs rc rv lt sd k sv ru fm en y m q n d s c (by omega) (by omega) (by omega) (by omega) (Lib.hid hr) (Lib.hid he) w (Lib.hid hE)
end Go.Proofs.YtigmbkcjmlpfoaaGreatDoor
