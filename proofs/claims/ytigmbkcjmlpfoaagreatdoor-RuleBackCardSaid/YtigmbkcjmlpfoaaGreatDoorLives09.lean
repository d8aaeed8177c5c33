/- The first questions of layer 9's statement (by program). -/
import Derived.Test.YtigmbkcjmlpfoaaGreatDoorBx
namespace Go.Proofs.YtigmbkcjmlpfoaaGreatDoor
open Go.RowKit
theorem eu_prs : Rl.prs [⟨#[69, 85]⟩, ⟨#[49, 57, 56, 49]⟩, ⟨#[109, 97, 120]⟩, ⟨#[45]⟩, ⟨#[77, 97, 114]⟩, ⟨#[108, 97, 115, 116, 83, 117, 110]⟩, ⟨#[49, 58, 48, 48, 117]⟩, ⟨#[49, 58, 48, 48]⟩, ⟨#[83]⟩] = (⟨⟨#[69, 85]⟩, 1981, 9999, 3, 1, 0, 0, 3600, 2, 3600, ⟨#[83]⟩⟩, 0, 0) := by kernel_rfl
theorem eu_texts : Rl.texts ⟨⟨#[69, 85]⟩, 1981, 9999, 3, 1, 0, 0, 3600, 2, 3600, ⟨#[83]⟩⟩ = [⟨#[69, 85]⟩, ⟨#[49, 57, 56, 49]⟩, ⟨#[109, 97, 120]⟩, ⟨#[45]⟩, ⟨#[77, 97, 114]⟩, ⟨#[108, 97, 115, 116, 83, 117, 110]⟩, ⟨#[49, 58, 48, 48, 117]⟩, ⟨#[49, 58, 48, 48]⟩, ⟨#[83]⟩] := by decide +kernel
theorem eu4_prs : Rl.prs [⟨#[69, 85]⟩, ⟨#[49, 57, 56, 49]⟩, ⟨#[109, 97, 120]⟩, ⟨#[45]⟩] = (⟨⟨#[]⟩, 0, 0, 0, 0, 0, 0, 0, 0, 0, ⟨#[]⟩⟩, 4, 5) := by kernel_rfl
theorem eu3_prs : Rl.prs [⟨#[69, 85]⟩, ⟨#[49, 57, 56, 49]⟩, ⟨#[49, 57, 56, 48]⟩] = (⟨⟨#[]⟩, 0, 0, 0, 0, 0, 0, 0, 0, 0, ⟨#[]⟩⟩, 2, 10) := by kernel_rfl
theorem x9_prs : Rl.prs [⟨#[120]⟩, ⟨#[49]⟩, ⟨#[111]⟩, ⟨#[45]⟩, ⟨#[100]⟩, ⟨#[49]⟩, ⟨#[45]⟩, ⟨#[45]⟩, ⟨#[45]⟩] = (⟨⟨#[120]⟩, 1, 1, 12, 0, 1, 0, 0, 0, 0, ⟨#[]⟩⟩, 0, 0) := by kernel_rfl
set_option maxRecDepth 100000 in
set_option maxHeartbeats 8000000 in
theorem lives09 (w : World) (HE : Hid (Env w)) : Calls Tryz.prog 7 #[] w fun e w' => e = .returned (.bool true) ∧ Below w.heap.size w w' := by
  have HC0 : Hid (Cx w w) := Lib.hid ⟨HE.out, Below.refl _ _⟩
  go_enter Tryz.func7, Tryz.ntmps7
  go_wp2_with fail
  refine (rprs_bx w.heap.size 9 9 [⟨#[69, 85]⟩, ⟨#[49, 57, 56, 49]⟩, ⟨#[109, 97, 120]⟩, ⟨#[45]⟩, ⟨#[77, 97, 114]⟩, ⟨#[108, 97, 115, 116, 83, 117, 110]⟩, ⟨#[49, 58, 48, 48, 117]⟩, ⟨#[49, 58, 48, 48]⟩, ⟨#[83]⟩] [⟨#[69, 85]⟩, ⟨#[49, 57, 56, 49]⟩, ⟨#[109, 97, 120]⟩, ⟨#[45]⟩, ⟨#[77, 97, 114]⟩, ⟨#[108, 97, 115, 116, 83, 117, 110]⟩, ⟨#[49, 58, 48, 48, 117]⟩, ⟨#[49, 58, 48, 48]⟩, ⟨#[83]⟩] ⟨⟨#[69, 85]⟩, 1981, 9999, 3, 1, 0, 0, 3600, 2, 3600, ⟨#[83]⟩⟩ 0 0 _ (HC0.out.al _).env (Bx.mk' _ w.heap.size #[.string ⟨#[69, 85]⟩, .string ⟨#[49, 57, 56, 49]⟩, .string ⟨#[109, 97, 120]⟩, .string ⟨#[45]⟩, .string ⟨#[77, 97, 114]⟩, .string ⟨#[108, 97, 115, 116, 83, 117, 110]⟩, .string ⟨#[49, 58, 48, 48, 117]⟩, .string ⟨#[49, 58, 48, 48]⟩, .string ⟨#[83]⟩] 9 (by simp)) (by decide) (by decide) rfl (by decide) eu_prs).mono ?_
  rintro e v1 ⟨rfl, b1⟩
  have HC1 := Lib.hid ((HC0.out.al _).on b1)
  have HX_l := Lib.hid ((Bx.mk' _ w.heap.size #[.string ⟨#[69, 85]⟩, .string ⟨#[49, 57, 56, 49]⟩, .string ⟨#[109, 97, 120]⟩, .string ⟨#[45]⟩, .string ⟨#[77, 97, 114]⟩, .string ⟨#[108, 97, 115, 116, 83, 117, 110]⟩, .string ⟨#[49, 58, 48, 48, 117]⟩, .string ⟨#[49, 58, 48, 48]⟩, .string ⟨#[83]⟩] 9 (by simp)).on b1)
  clear b1 HC0 
  have HB_l := HX_l
  clear HX_l
  go_wp2_with fail
  refine (rtext_bx ⟨⟨#[69, 85]⟩, 1981, 9999, 3, 1, 0, 0, 3600, 2, 3600, ⟨#[83]⟩⟩ [⟨#[69, 85]⟩, ⟨#[49, 57, 56, 49]⟩, ⟨#[109, 97, 120]⟩, ⟨#[45]⟩, ⟨#[77, 97, 114]⟩, ⟨#[108, 97, 115, 116, 83, 117, 110]⟩, ⟨#[49, 58, 48, 48, 117]⟩, ⟨#[49, 58, 48, 48]⟩, ⟨#[83]⟩] 9 _ (HC1.out.al _).env (by decide +kernel) (by decide) eu_texts rfl).mono ?_
  rintro e v2 ⟨⟨g_t, rfl, h_t⟩, b2⟩
  have HC2 := Lib.hid ((HC1.out.al _).on b2)
  have HX_l := Lib.hid ((HB_l.out.al _).on b2)
  have HX_a := Lib.hid ((Bx.mk' _ v1.heap.size #[.string ⟨#[69, 85]⟩, .int .i64 1981, .int .i64 9999, .int .i64 3, .int .u8 1, .int .i64 0, .int .i64 0, .int .i64 3600, .int .u8 2, .int .i64 3600, .string ⟨#[83]⟩] 29 (by simp)).on b2)
  clear b2 HC1 HB_l
  have HX_t := Lib.hid h_t
  clear h_t
  have HB_l := HX_l
  have HB_a := HX_a
  have HB_t := HX_t
  clear HX_l HX_a HX_t
  have lt_l := HB_l.out.lt
  go_wp2_with fail
  refine (rprs_bx w.heap.size 4 9 [⟨#[69, 85]⟩, ⟨#[49, 57, 56, 49]⟩, ⟨#[109, 97, 120]⟩, ⟨#[45]⟩, ⟨#[77, 97, 114]⟩, ⟨#[108, 97, 115, 116, 83, 117, 110]⟩, ⟨#[49, 58, 48, 48, 117]⟩, ⟨#[49, 58, 48, 48]⟩, ⟨#[83]⟩] [⟨#[69, 85]⟩, ⟨#[49, 57, 56, 49]⟩, ⟨#[109, 97, 120]⟩, ⟨#[45]⟩] ⟨⟨#[]⟩, 0, 0, 0, 0, 0, 0, 0, 0, 0, ⟨#[]⟩⟩ 4 5 _ HC2.out.env HB_l.out (by decide) (by decide) rfl (by decide) eu4_prs).mono ?_
  rintro e v3 ⟨rfl, b3⟩
  clear lt_l
  have HC3 := Lib.hid (HC2.out.on b3)
  have HX_l := Lib.hid (HB_l.out.on b3)
  have HX_a := Lib.hid (HB_a.out.on b3)
  have HX_t := Lib.hid (HB_t.out.on b3)
  clear b3 HC2 HB_l HB_a HB_t
  have HB_l := HX_l
  have HB_a := HX_a
  have HB_t := HX_t
  clear HX_l HX_a HX_t
  go_wp2_with fail
  refine (rprs_bx (v3.heap.size + 1) 3 3 [⟨#[69, 85]⟩, ⟨#[49, 57, 56, 49]⟩, ⟨#[49, 57, 56, 48]⟩] [⟨#[69, 85]⟩, ⟨#[49, 57, 56, 49]⟩, ⟨#[49, 57, 56, 48]⟩] ⟨⟨#[]⟩, 0, 0, 0, 0, 0, 0, 0, 0, 0, ⟨#[]⟩⟩ 2 10 _ ((HC3.out.al _).al _).env (Bx.mk' _ (v3.heap.size + 1) #[.string ⟨#[69, 85]⟩, .string ⟨#[49, 57, 56, 49]⟩, .string ⟨#[49, 57, 56, 48]⟩] 9 (by simp)) (by decide) (by decide) rfl (by decide) eu3_prs).mono ?_
  rintro e v4 ⟨rfl, b4⟩
  have HC4 := Lib.hid (((HC3.out.al _).al _).on b4)
  have HX_l := Lib.hid (((HB_l.out.al _).al _).on b4)
  have HX_a := Lib.hid (((HB_a.out.al _).al _).on b4)
  have HX_t := Lib.hid (((HB_t.out.al _).al _).on b4)
  clear b4 HC3 HB_l HB_a HB_t
  have HB_l := HX_l
  have HB_a := HX_a
  have HB_t := HX_t
  clear HX_l HX_a HX_t
  go_wp2_with fail
  refine (rprs_bx (v4.heap.size + 1) 9 9 [⟨#[120]⟩, ⟨#[49]⟩, ⟨#[111]⟩, ⟨#[45]⟩, ⟨#[100]⟩, ⟨#[49]⟩, ⟨#[45]⟩, ⟨#[45]⟩, ⟨#[45]⟩] [⟨#[120]⟩, ⟨#[49]⟩, ⟨#[111]⟩, ⟨#[45]⟩, ⟨#[100]⟩, ⟨#[49]⟩, ⟨#[45]⟩, ⟨#[45]⟩, ⟨#[45]⟩] ⟨⟨#[120]⟩, 1, 1, 12, 0, 1, 0, 0, 0, 0, ⟨#[]⟩⟩ 0 0 _ ((HC4.out.al _).al _).env (Bx.mk' _ (v4.heap.size + 1) #[.string ⟨#[120]⟩, .string ⟨#[49]⟩, .string ⟨#[111]⟩, .string ⟨#[45]⟩, .string ⟨#[100]⟩, .string ⟨#[49]⟩, .string ⟨#[45]⟩, .string ⟨#[45]⟩, .string ⟨#[45]⟩] 9 (by simp)) (by decide) (by decide) rfl (by decide) x9_prs).mono ?_
  rintro e v5 ⟨rfl, b5⟩
  have HC5 := Lib.hid (((HC4.out.al _).al _).on b5)
  have HX_l := Lib.hid (((HB_l.out.al _).al _).on b5)
  have HX_a := Lib.hid (((HB_a.out.al _).al _).on b5)
  have HX_t := Lib.hid (((HB_t.out.al _).al _).on b5)
  clear b5 HC4 HB_l HB_a HB_t
  have HB_l := HX_l
  have HB_a := HX_a
  have HB_t := HX_t
  clear HX_l HX_a HX_t
  have lt_a := HB_a.out.lt
  have c_a_0 := HB_a.out.at_ 0 _ rfl
  have c_a_1 := HB_a.out.at_ 1 _ rfl
  have c_a_2 := HB_a.out.at_ 2 _ rfl
  have c_a_3 := HB_a.out.at_ 3 _ rfl
  have c_a_4 := HB_a.out.at_ 4 _ rfl
  have c_a_5 := HB_a.out.at_ 5 _ rfl
  have c_a_6 := HB_a.out.at_ 6 _ rfl
  have c_a_7 := HB_a.out.at_ 7 _ rfl
  have c_a_8 := HB_a.out.at_ 8 _ rfl
  have c_a_9 := HB_a.out.at_ 9 _ rfl
  have c_a_10 := HB_a.out.at_ 10 _ rfl
  go_wp2_with fail
  refine (texts_bx g_t w.heap.size 9 9 9 [⟨#[69, 85]⟩, ⟨#[49, 57, 56, 49]⟩, ⟨#[109, 97, 120]⟩, ⟨#[45]⟩, ⟨#[77, 97, 114]⟩, ⟨#[108, 97, 115, 116, 83, 117, 110]⟩, ⟨#[49, 58, 48, 48, 117]⟩, ⟨#[49, 58, 48, 48]⟩, ⟨#[83]⟩] _ (by decide) rfl ((HB_t.out.al _).al _) ((HB_l.out.al _).al _)).mono ?_
  rintro e v6 ⟨rfl, b6⟩
  clear lt_a c_a_0 c_a_1 c_a_2 c_a_3 c_a_4 c_a_5 c_a_6 c_a_7 c_a_8 c_a_9 c_a_10
  have HC6 := Lib.hid (((HC5.out.al _).al _).on b6)
  have HX_b := Lib.hid (((Bx.mk' _ v5.heap.size #[.string ⟨#[120]⟩, .int .i64 1, .int .i64 1, .int .i64 12, .int .u8 0, .int .i64 1, .int .i64 0, .int .i64 0, .int .u8 0, .int .i64 0, .string ⟨#[]⟩] 29 (by simp)).al _).on b6)
  have HX_want := Lib.hid ((Bx.mk' _ (v5.heap.size + 1) #[.string ⟨#[69, 85]⟩, .int .i64 1981, .int .i64 9999, .int .i64 3, .int .u8 1, .int .i64 0, .int .i64 0, .int .i64 3600, .int .u8 2, .int .i64 3600, .string ⟨#[83]⟩] 29 (by simp)).on b6)
  clear b6 HC5 HB_l HB_a HB_t
  have HB_b := HX_b
  have HB_want := HX_want
  clear HX_b HX_want
  have lt_b := HB_b.out.lt
  have c_b_2 := HB_b.out.at_ 2 _ rfl
  have c_b_3 := HB_b.out.at_ 3 _ rfl
  have c_b_10 := HB_b.out.at_ 10 _ rfl
  have lt_want := HB_want.out.lt
  have c_want_0 := HB_want.out.at_ 0 _ rfl
  have c_want_1 := HB_want.out.at_ 1 _ rfl
  have c_want_2 := HB_want.out.at_ 2 _ rfl
  have c_want_3 := HB_want.out.at_ 3 _ rfl
  have c_want_4 := HB_want.out.at_ 4 _ rfl
  have c_want_5 := HB_want.out.at_ 5 _ rfl
  have c_want_6 := HB_want.out.at_ 6 _ rfl
  have c_want_7 := HB_want.out.at_ 7 _ rfl
  have c_want_8 := HB_want.out.at_ 8 _ rfl
  have c_want_9 := HB_want.out.at_ 9 _ rfl
  have c_want_10 := HB_want.out.at_ 10 _ rfl
  go_wp2_with fail
  refine (rname_is ⟨#[65, 95, 98, 47, 99, 45, 49, 43, 50]⟩ true _ (by decide) (by decide +kernel)).mono ?_
  rintro e w' ⟨rfl, rfl⟩
  go_wp2_with fail
  refine (rname_is ⟨#[49, 97]⟩ false _ (by decide) (by decide +kernel)).mono ?_
  rintro e w' ⟨rfl, rfl⟩
  go_wp2_with fail
  refine (rname_is ⟨#[]⟩ false _ (by decide) (by decide +kernel)).mono ?_
  rintro e w' ⟨rfl, rfl⟩
  go_wp2_with fail
  refine (rcheck_yes ⟨⟨#[69, 85]⟩, 1981, 9999, 3, 1, 0, 0, 3600, 2, 3600, ⟨#[83]⟩⟩ _ (by decide) (by decide +kernel)).mono ?_
  rintro e v7 ⟨rfl, b7⟩
  clear lt_b c_b_2 c_b_3 c_b_10 lt_want c_want_0 c_want_1 c_want_2 c_want_3 c_want_4 c_want_5 c_want_6 c_want_7 c_want_8 c_want_9 c_want_10
  have HC7 := Lib.hid (HC6.out.on b7)
  clear b7 HC6 HB_b HB_want
  go_wp2_with fail
  refine (rcheck_no ⟨⟨#[]⟩, 0, 0, 0, 0, 0, 0, 0, 0, 0, ⟨#[]⟩⟩ _ (by decide) (by decide +kernel)).mono ?_
  rintro e v8 ⟨rfl, b8⟩
  have HC8 := Lib.hid (HC7.out.on b8)
  clear b8 HC7 
  go_wp2_with fail
  go_ret
  exact ⟨rfl, HC8.out.bel⟩
end Go.Proofs.YtigmbkcjmlpfoaaGreatDoor
