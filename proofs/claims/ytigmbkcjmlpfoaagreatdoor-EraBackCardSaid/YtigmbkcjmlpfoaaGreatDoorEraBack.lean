/- The walk of layer 10's statement EraBack (by program). -/
import Derived.Test.YtigmbkcjmlpfoaaGreatDoorLives10
import Derived.Test.YtigmbkcjmlpfoaaGreatDoorSmall30
import Derived.Test.YtigmbkcjmlpfoaaGreatDoorEraSize
namespace Go.Proofs.YtigmbkcjmlpfoaaGreatDoor
open Go.RowKit
/-- What Parse answers of the texts that are handed in. -/
theorem eprs_in (A : Option Addr) (qq cc : Nat) (L : List ByteArray) (v : Er) (i : Nat) (z : Int) (w W : World) (hc : Cy w W) (hl : L.length = qq) (hq : qq ≤ 30) (hqc : qq ≤ cc) (hcc : cc ≤ 9223372036854775807) (hz : ∀ j, j < qq → (L.getD j ByteArray.empty).size ≤ 1000) (hS : Sl w w.heap.size A qq (fun i => .string (L.getD i ByteArray.empty))) (hp : El.prs L = (v, i, z)) :
    Calls Tryz.prog 15 #[.slice A qq cc] W fun e w' => e = .returned (.tuple #[.agg #[.int .i64 v.sd, .int .u8 v.k, .int .i64 v.sv, .string v.ru, .string v.fm, .bool v.en, .int .i64 v.u.y, .int .i64 v.u.m, .int .u8 v.u.k, .int .i64 v.u.n, .int .i64 v.u.d, .int .i64 v.u.s, .int .u8 v.u.c], .int .i64 (i : Int), .int .i64 z]) ∧ Below W.heap.size W w' := by
  have hr := eprs_any A qq cc (min qq 3) L hl (by omega) hqc hcc rfl (fun j hj _ => by have := hz j hj; omega) W hc.env w.heap.size hc.bel.size (hS.below hc.bel)
  rw [hp] at hr
  exact hr
set_option maxRecDepth 100000 in
theorem eback_many (sd k sv : Int) (ru fm : ByteArray) (en : Bool) (y m q n d s c : Int) (A : Option Addr) (qq cc : Nat) (L : List ByteArray) (hq : qq ≤ 9223372036854775807) (HZ : Hid (∀ i, i < qq → (L.getD i ByteArray.empty).size ≤ 9223372036854775807)) (HSM : Hid (smB30 qq L = false)) (w : World) (HE : Hid (Ev w)) (HS : Hid (Sl w w.heap.size A qq (fun i => .string (L.getD i ByteArray.empty)))) :
    Calls Tryz.prog 4 #[.agg #[.int .i64 sd, .int .u8 k, .int .i64 sv, .string ru, .string fm, .bool en, .int .i64 y, .int .i64 m, .int .u8 q, .int .i64 n, .int .i64 d, .int .i64 s, .int .u8 c], .slice A qq cc] w fun e w' => e = .returned (.bool true) ∧ Below w.heap.size w w' := by
  have HC0 : Hid (Cy w w) := Lib.hid ⟨HE.out, Below.refl _ _⟩
  go_enter Tryz.func4, Tryz.ntmps4
  go_wp2_with fail
  refine (lives10 _ (Lib.hid (HC0.out.al _).env)).mono ?_
  rintro e v1 ⟨rfl, b1⟩
  have HC1 := Lib.hid ((HC0.out.al _).on b1)
  have HX_r := Lib.hid ((Bx.mk' _ w.heap.size #[.int .i64 sd, .int .u8 k, .int .i64 sv, .string ru, .string fm, .bool en, .int .i64 y, .int .i64 m, .int .u8 q, .int .i64 n, .int .i64 d, .int .i64 s, .int .u8 c] 44 (by simp)).on b1)
  clear b1 HC0 
  have HB_r := HX_r
  clear HX_r
  have lt_r := HB_r.out.lt
  have c_r_0 := HB_r.out.at_ 0 _ rfl
  have c_r_1 := HB_r.out.at_ 1 _ rfl
  have c_r_2 := HB_r.out.at_ 2 _ rfl
  have c_r_3 := HB_r.out.at_ 3 _ rfl
  have c_r_4 := HB_r.out.at_ 4 _ rfl
  have c_r_5 := HB_r.out.at_ 5 _ rfl
  have c_r_6 := HB_r.out.at_ 6 _ rfl
  have c_r_7 := HB_r.out.at_ 7 _ rfl
  have c_r_8 := HB_r.out.at_ 8 _ rfl
  have c_r_9 := HB_r.out.at_ 9 _ rfl
  have c_r_10 := HB_r.out.at_ 10 _ rfl
  have c_r_11 := HB_r.out.at_ 11 _ rfl
  have c_r_12 := HB_r.out.at_ 12 _ rfl
  go_wp2_with fail
  refine (small_solsticelaw10_is A qq cc L false (by omega) _ (fun i hi => by have := HZ.out i hi; omega) _ (HS.out.below HC1.out.bel) HSM.out).mono ?_
  rintro e w' ⟨rfl, rfl⟩
  go_wp2_with fail
  go_ret
  exact ⟨rfl, HC1.out.bel⟩
set_option maxRecDepth 100000 in
theorem eback_rules (sd k sv : Int) (ru fm : ByteArray) (en : Bool) (y m q n d s c : Int) (A : Option Addr) (qq cc : Nat) (L : List ByteArray) (hq : qq ≤ 30) (HZ : Hid (∀ i, i < qq → (L.getD i ByteArray.empty).size ≤ 1000)) (HSM : Hid (smB30 qq L = true)) (h1 : 1000 < ru.size) (h2 : ru.size ≤ 9223372036854775807) (w : World) (HE : Hid (Ev w)) (HS : Hid (Sl w w.heap.size A qq (fun i => .string (L.getD i ByteArray.empty)))) :
    Calls Tryz.prog 4 #[.agg #[.int .i64 sd, .int .u8 k, .int .i64 sv, .string ru, .string fm, .bool en, .int .i64 y, .int .i64 m, .int .u8 q, .int .i64 n, .int .i64 d, .int .i64 s, .int .u8 c], .slice A qq cc] w fun e w' => e = .returned (.bool true) ∧ Below w.heap.size w w' := by
  have HC0 : Hid (Cy w w) := Lib.hid ⟨HE.out, Below.refl _ _⟩
  go_enter Tryz.func4, Tryz.ntmps4
  go_wp2_with fail
  refine (lives10 _ (Lib.hid (HC0.out.al _).env)).mono ?_
  rintro e v1 ⟨rfl, b1⟩
  have HC1 := Lib.hid ((HC0.out.al _).on b1)
  have HX_r := Lib.hid ((Bx.mk' _ w.heap.size #[.int .i64 sd, .int .u8 k, .int .i64 sv, .string ru, .string fm, .bool en, .int .i64 y, .int .i64 m, .int .u8 q, .int .i64 n, .int .i64 d, .int .i64 s, .int .u8 c] 44 (by simp)).on b1)
  clear b1 HC0 
  have HB_r := HX_r
  clear HX_r
  have lt_r := HB_r.out.lt
  have c_r_0 := HB_r.out.at_ 0 _ rfl
  have c_r_1 := HB_r.out.at_ 1 _ rfl
  have c_r_2 := HB_r.out.at_ 2 _ rfl
  have c_r_3 := HB_r.out.at_ 3 _ rfl
  have c_r_4 := HB_r.out.at_ 4 _ rfl
  have c_r_5 := HB_r.out.at_ 5 _ rfl
  have c_r_6 := HB_r.out.at_ 6 _ rfl
  have c_r_7 := HB_r.out.at_ 7 _ rfl
  have c_r_8 := HB_r.out.at_ 8 _ rfl
  have c_r_9 := HB_r.out.at_ 9 _ rfl
  have c_r_10 := HB_r.out.at_ 10 _ rfl
  have c_r_11 := HB_r.out.at_ 11 _ rfl
  have c_r_12 := HB_r.out.at_ 12 _ rfl
  go_wp2_with fail
  refine (small_solsticelaw10_is A qq cc L true (by omega) _ (fun i hi => by have := HZ.out i hi; omega) _ (HS.out.below HC1.out.bel) HSM.out).mono ?_
  rintro e w' ⟨rfl, rfl⟩
  go_wp2_with fail
  go_ret
  exact ⟨rfl, HC1.out.bel⟩
set_option maxRecDepth 100000 in
theorem eback_format (sd k sv : Int) (ru fm : ByteArray) (en : Bool) (y m q n d s c : Int) (A : Option Addr) (qq cc : Nat) (L : List ByteArray) (hq : qq ≤ 30) (HZ : Hid (∀ i, i < qq → (L.getD i ByteArray.empty).size ≤ 1000)) (HSM : Hid (smB30 qq L = true)) (h1 : ru.size ≤ 1000) (h2 : 1000 < fm.size) (h3 : fm.size ≤ 9223372036854775807) (w : World) (HE : Hid (Ev w)) (HS : Hid (Sl w w.heap.size A qq (fun i => .string (L.getD i ByteArray.empty)))) :
    Calls Tryz.prog 4 #[.agg #[.int .i64 sd, .int .u8 k, .int .i64 sv, .string ru, .string fm, .bool en, .int .i64 y, .int .i64 m, .int .u8 q, .int .i64 n, .int .i64 d, .int .i64 s, .int .u8 c], .slice A qq cc] w fun e w' => e = .returned (.bool true) ∧ Below w.heap.size w w' := by
  have HC0 : Hid (Cy w w) := Lib.hid ⟨HE.out, Below.refl _ _⟩
  go_enter Tryz.func4, Tryz.ntmps4
  go_wp2_with fail
  refine (lives10 _ (Lib.hid (HC0.out.al _).env)).mono ?_
  rintro e v1 ⟨rfl, b1⟩
  have HC1 := Lib.hid ((HC0.out.al _).on b1)
  have HX_r := Lib.hid ((Bx.mk' _ w.heap.size #[.int .i64 sd, .int .u8 k, .int .i64 sv, .string ru, .string fm, .bool en, .int .i64 y, .int .i64 m, .int .u8 q, .int .i64 n, .int .i64 d, .int .i64 s, .int .u8 c] 44 (by simp)).on b1)
  clear b1 HC0 
  have HB_r := HX_r
  clear HX_r
  have lt_r := HB_r.out.lt
  have c_r_0 := HB_r.out.at_ 0 _ rfl
  have c_r_1 := HB_r.out.at_ 1 _ rfl
  have c_r_2 := HB_r.out.at_ 2 _ rfl
  have c_r_3 := HB_r.out.at_ 3 _ rfl
  have c_r_4 := HB_r.out.at_ 4 _ rfl
  have c_r_5 := HB_r.out.at_ 5 _ rfl
  have c_r_6 := HB_r.out.at_ 6 _ rfl
  have c_r_7 := HB_r.out.at_ 7 _ rfl
  have c_r_8 := HB_r.out.at_ 8 _ rfl
  have c_r_9 := HB_r.out.at_ 9 _ rfl
  have c_r_10 := HB_r.out.at_ 10 _ rfl
  have c_r_11 := HB_r.out.at_ 11 _ rfl
  have c_r_12 := HB_r.out.at_ 12 _ rfl
  go_wp2_with fail
  refine (small_solsticelaw10_is A qq cc L true (by omega) _ (fun i hi => by have := HZ.out i hi; omega) _ (HS.out.below HC1.out.bel) HSM.out).mono ?_
  rintro e w' ⟨rfl, rfl⟩
  go_wp2_with fail
  go_ret
  exact ⟨rfl, HC1.out.bel⟩
set_option maxRecDepth 100000 in
set_option maxHeartbeats 8000000 in
theorem eback_right_ok (sd k sv : Int) (ru fm : ByteArray) (en : Bool) (y m q n d s c : Int) (A : Option Addr) (qq cc : Nat) (L : List ByteArray) (hq : qq ≤ 30) (HZ : Hid (∀ i, i < qq → (L.getD i ByteArray.empty).size ≤ 1000)) (HSM : Hid (smB30 qq L = true)) (HL : Hid (L.length = qq)) (hqc : qq ≤ cc) (hcc : cc ≤ 9223372036854775807) (h1 : ru.size ≤ 1000) (h2 : fm.size ≤ 1000) (c0 : 0 ≤ c) (LT : List ByteArray) (NT : Nat) (HR : Hid (El.right ⟨sd, k, sv, ru, fm, en, ⟨y, m, q, n, d, s, c⟩⟩ = true)) (HT : Hid (ETx ⟨sd, k, sv, ru, fm, en, ⟨y, m, q, n, d, s, c⟩⟩ LT NT)) (usd uk usv : Int) (uru ufm : ByteArray) (uen : Bool) (uy um uq un ud us uc : Int) (uc0 : 0 ≤ uc) (LU : List ByteArray) (NU : Nat) (HUR : Hid (El.right ⟨usd, uk, usv, uru, ufm, uen, ⟨uy, um, uq, un, ud, us, uc⟩⟩ = true)) (HU : Hid (ETx ⟨usd, uk, usv, uru, ufm, uen, ⟨uy, um, uq, un, ud, us, uc⟩⟩ LU NU)) (hen : decide (3 < (qq : Int)) = uen) (hnu : NU ≤ qq) (HP : Hid (El.prs L = (⟨usd, uk, usv, uru, ufm, uen, ⟨uy, um, uq, un, ud, us, uc⟩⟩, 0, 0))) (w : World) (HE : Hid (Ev w)) (HS : Hid (Sl w w.heap.size A qq (fun i => .string (L.getD i ByteArray.empty)))) :
    Calls Tryz.prog 4 #[.agg #[.int .i64 sd, .int .u8 k, .int .i64 sv, .string ru, .string fm, .bool en, .int .i64 y, .int .i64 m, .int .u8 q, .int .i64 n, .int .i64 d, .int .i64 s, .int .u8 c], .slice A qq cc] w fun e w' => e = .returned (.bool true) ∧ Below w.heap.size w w' := by
  have HPI := Lib.hid (fun W (h : Cy w W) => eprs_in A qq cc L _ _ _ w W h HL.out hq hqc hcc HZ.out HS.out HP.out)
  have ten := HT.out.ends
  have ten2 := ends_nat ten
  have HTEN := Lib.hid ten
  have HTEN2 := Lib.hid ten2
  clear ten ten2
  have HEN := Lib.hid hen
  have HEN2 := Lib.hid (ends_nat hen)
  have t3 : decide (NU ≤ qq) = true := by simp; omega
  clear hen
  have HC0 : Hid (Cy w w) := Lib.hid ⟨HE.out, Below.refl _ _⟩
  go_enter Tryz.func4, Tryz.ntmps4
  go_wp2_with fail
  refine (lives10 _ (Lib.hid (HC0.out.al _).env)).mono ?_
  rintro e v1 ⟨rfl, b1⟩
  have HC1 := Lib.hid ((HC0.out.al _).on b1)
  have HX_r := Lib.hid ((Bx.mk' _ w.heap.size #[.int .i64 sd, .int .u8 k, .int .i64 sv, .string ru, .string fm, .bool en, .int .i64 y, .int .i64 m, .int .u8 q, .int .i64 n, .int .i64 d, .int .i64 s, .int .u8 c] 44 (by simp)).on b1)
  clear b1 HC0 
  have HB_r := HX_r
  clear HX_r
  have lt_r := HB_r.out.lt
  have c_r_0 := HB_r.out.at_ 0 _ rfl
  have c_r_1 := HB_r.out.at_ 1 _ rfl
  have c_r_2 := HB_r.out.at_ 2 _ rfl
  have c_r_3 := HB_r.out.at_ 3 _ rfl
  have c_r_4 := HB_r.out.at_ 4 _ rfl
  have c_r_5 := HB_r.out.at_ 5 _ rfl
  have c_r_6 := HB_r.out.at_ 6 _ rfl
  have c_r_7 := HB_r.out.at_ 7 _ rfl
  have c_r_8 := HB_r.out.at_ 8 _ rfl
  have c_r_9 := HB_r.out.at_ 9 _ rfl
  have c_r_10 := HB_r.out.at_ 10 _ rfl
  have c_r_11 := HB_r.out.at_ 11 _ rfl
  have c_r_12 := HB_r.out.at_ 12 _ rfl
  go_wp2_with fail
  refine (small_solsticelaw10_is A qq cc L true (by omega) _ (fun i hi => by have := HZ.out i hi; omega) _ (HS.out.below HC1.out.bel) HSM.out).mono ?_
  rintro e w' ⟨rfl, rfl⟩
  go_wp2_with fail
  refine (etext_bx ⟨sd, k, sv, ru, fm, en, ⟨y, m, q, n, d, s, c⟩⟩ LT NT _ HC1.out.env HR.out c0 (by show ru.size ≤ _; omega) HT.out.texts HT.out.num).mono ?_
  rintro e u2 ⟨⟨g_t, c_t, rfl, q_t, p_t, h_t⟩, bb⟩
  clear lt_r c_r_0 c_r_1 c_r_2 c_r_3 c_r_4 c_r_5 c_r_6 c_r_7 c_r_8 c_r_9 c_r_10 c_r_11 c_r_12
  have HCj := Lib.hid (HC1.out.on bb)
  have HX_r := Lib.hid (HB_r.out.on bb)
  clear HC1 HB_r
  have HB_r := HX_r
  clear HX_r
  have HB_t := Lib.hid h_t
  clear h_t bb
  have HCt := HCj
  clear HCj
  go_wp2_with fail
  refine (eprs_bx g_t NT c_t LT LT ⟨sd, k, sv, ru, fm, en, ⟨y, m, q, n, d, s, c⟩⟩ 0 0 _ HCt.out.env HB_t.out (Nat.le_of_eq HT.out.len.symm) (by have := HT.out.most; omega) q_t p_t (List.take_of_length_le (Nat.le_of_eq HT.out.len)) HT.out.small HT.out.back).mono ?_
  rintro e v3 ⟨rfl, b3⟩
  have HC3 := Lib.hid (HCt.out.on b3)
  have HX_r := Lib.hid (HB_r.out.on b3)
  clear b3 HCt HB_r HB_t
  have HB_r := HX_r
  clear HX_r
  have lt_r := HB_r.out.lt
  have c_r_0 := HB_r.out.at_ 0 _ rfl
  have c_r_1 := HB_r.out.at_ 1 _ rfl
  have c_r_2 := HB_r.out.at_ 2 _ rfl
  have c_r_3 := HB_r.out.at_ 3 _ rfl
  have c_r_4 := HB_r.out.at_ 4 _ rfl
  have c_r_5 := HB_r.out.at_ 5 _ rfl
  have c_r_6 := HB_r.out.at_ 6 _ rfl
  have c_r_7 := HB_r.out.at_ 7 _ rfl
  have c_r_8 := HB_r.out.at_ 8 _ rfl
  have c_r_9 := HB_r.out.at_ 9 _ rfl
  have c_r_10 := HB_r.out.at_ 10 _ rfl
  have c_r_11 := HB_r.out.at_ 11 _ rfl
  have c_r_12 := HB_r.out.at_ 12 _ rfl
  go_wp2_with fail
  refine (echeck_yes ⟨sd, k, sv, ru, fm, en, ⟨y, m, q, n, d, s, c⟩⟩ _ (HC3.out.al _).env (by show ru.size ≤ _; omega) HR.out).mono ?_
  rintro e v4 ⟨rfl, b4⟩
  clear lt_r c_r_0 c_r_1 c_r_2 c_r_3 c_r_4 c_r_5 c_r_6 c_r_7 c_r_8 c_r_9 c_r_10 c_r_11 c_r_12
  have HC4 := Lib.hid ((HC3.out.al _).on b4)
  have HX_r := Lib.hid ((HB_r.out.al _).on b4)
  clear b4 HC3 HB_r
  have HB_r := HX_r
  clear HX_r
  have lt_r := HB_r.out.lt
  have c_r_5 := HB_r.out.at_ 5 _ rfl
  have ten := HTEN.out
  have ten2 := HTEN2.out
  go_wp2_with fail
  refine (HPI.out _ HC4.out).mono ?_
  rintro e v5 ⟨rfl, b5⟩
  clear lt_r c_r_5
  have HC5 := Lib.hid (HC4.out.on b5)
  clear b5 HC4 HB_r
  clear ten ten2 HTEN HTEN2
  go_wp2_with fail
  refine (etext_bx ⟨usd, uk, usv, uru, ufm, uen, ⟨uy, um, uq, un, ud, us, uc⟩⟩ LU NU _ (HC5.out.al _).env HUR.out uc0 (Nat.le_trans (eru_le HUR.out) (by decide)) HU.out.texts HU.out.num).mono ?_
  rintro e u6 ⟨⟨g_u, c_u, rfl, q_u, p_u, h_u⟩, bb⟩
  have HCj := Lib.hid ((HC5.out.al _).on bb)
  have HX_x := Lib.hid ((Bx.mk' _ v5.heap.size #[.int .i64 usd, .int .u8 uk, .int .i64 usv, .string uru, .string ufm, .bool uen, .int .i64 uy, .int .i64 um, .int .u8 uq, .int .i64 un, .int .i64 ud, .int .i64 us, .int .u8 uc] 44 (by simp)).on bb)
  clear HC5 
  have HB_x := HX_x
  clear HX_x
  have HB_u := Lib.hid h_u
  clear h_u bb
  have HCt := HCj
  clear HCj
  go_wp2_with fail
  refine (eprs_bx g_u NU c_u LU LU ⟨usd, uk, usv, uru, ufm, uen, ⟨uy, um, uq, un, ud, us, uc⟩⟩ 0 0 _ HCt.out.env HB_u.out (Nat.le_of_eq HU.out.len.symm) (by have := HU.out.most; omega) q_u p_u (List.take_of_length_le (Nat.le_of_eq HU.out.len)) HU.out.small HU.out.back).mono ?_
  rintro e v7 ⟨rfl, b7⟩
  have HC7 := Lib.hid (HCt.out.on b7)
  have HX_x := Lib.hid (HB_x.out.on b7)
  clear b7 HCt HB_x HB_u
  have HB_x := HX_x
  clear HX_x
  have lt_x := HB_x.out.lt
  have c_x_0 := HB_x.out.at_ 0 _ rfl
  have c_x_1 := HB_x.out.at_ 1 _ rfl
  have c_x_2 := HB_x.out.at_ 2 _ rfl
  have c_x_3 := HB_x.out.at_ 3 _ rfl
  have c_x_4 := HB_x.out.at_ 4 _ rfl
  have c_x_5 := HB_x.out.at_ 5 _ rfl
  have c_x_6 := HB_x.out.at_ 6 _ rfl
  have c_x_7 := HB_x.out.at_ 7 _ rfl
  have c_x_8 := HB_x.out.at_ 8 _ rfl
  have c_x_9 := HB_x.out.at_ 9 _ rfl
  have c_x_10 := HB_x.out.at_ 10 _ rfl
  have c_x_11 := HB_x.out.at_ 11 _ rfl
  have c_x_12 := HB_x.out.at_ 12 _ rfl
  go_wp2_with fail
  refine (echeck_yes ⟨usd, uk, usv, uru, ufm, uen, ⟨uy, um, uq, un, ud, us, uc⟩⟩ _ (HC7.out.al _).env (Nat.le_trans (eru_le HUR.out) (by decide)) HUR.out).mono ?_
  rintro e v8 ⟨rfl, b8⟩
  clear lt_x c_x_0 c_x_1 c_x_2 c_x_3 c_x_4 c_x_5 c_x_6 c_x_7 c_x_8 c_x_9 c_x_10 c_x_11 c_x_12
  have HC8 := Lib.hid ((HC7.out.al _).on b8)
  have HX_x := Lib.hid ((HB_x.out.al _).on b8)
  have HX_y := Lib.hid ((Bx.mk' _ v7.heap.size #[.int .i64 usd, .int .u8 uk, .int .i64 usv, .string uru, .string ufm, .bool uen, .int .i64 uy, .int .i64 um, .int .u8 uq, .int .i64 un, .int .i64 ud, .int .i64 us, .int .u8 uc] 44 (by simp)).on b8)
  clear b8 HC7 HB_x
  have HB_x := HX_x
  have HB_y := HX_y
  clear HX_x HX_y
  have lt_x := HB_x.out.lt
  have c_x_0 := HB_x.out.at_ 0 _ rfl
  have c_x_1 := HB_x.out.at_ 1 _ rfl
  have c_x_2 := HB_x.out.at_ 2 _ rfl
  have c_x_3 := HB_x.out.at_ 3 _ rfl
  have c_x_4 := HB_x.out.at_ 4 _ rfl
  have c_x_5 := HB_x.out.at_ 5 _ rfl
  have c_x_6 := HB_x.out.at_ 6 _ rfl
  have c_x_7 := HB_x.out.at_ 7 _ rfl
  have c_x_8 := HB_x.out.at_ 8 _ rfl
  have c_x_9 := HB_x.out.at_ 9 _ rfl
  have c_x_10 := HB_x.out.at_ 10 _ rfl
  have c_x_11 := HB_x.out.at_ 11 _ rfl
  have c_x_12 := HB_x.out.at_ 12 _ rfl
  have lt_y := HB_y.out.lt
  have c_y_0 := HB_y.out.at_ 0 _ rfl
  have c_y_1 := HB_y.out.at_ 1 _ rfl
  have c_y_2 := HB_y.out.at_ 2 _ rfl
  have c_y_3 := HB_y.out.at_ 3 _ rfl
  have c_y_4 := HB_y.out.at_ 4 _ rfl
  have c_y_5 := HB_y.out.at_ 5 _ rfl
  have c_y_6 := HB_y.out.at_ 6 _ rfl
  have c_y_7 := HB_y.out.at_ 7 _ rfl
  have c_y_8 := HB_y.out.at_ 8 _ rfl
  have c_y_9 := HB_y.out.at_ 9 _ rfl
  have c_y_10 := HB_y.out.at_ 10 _ rfl
  have c_y_11 := HB_y.out.at_ 11 _ rfl
  have c_y_12 := HB_y.out.at_ 12 _ rfl
  have ten := HEN.out
  have ten2 := HEN2.out
  go_wp2_with fail
  go_ret
  exact ⟨rfl, HC8.out.bel⟩
set_option maxRecDepth 100000 in
set_option maxHeartbeats 8000000 in
theorem eback_right_no (sd k sv : Int) (ru fm : ByteArray) (en : Bool) (y m q n d s c : Int) (A : Option Addr) (qq cc : Nat) (L : List ByteArray) (hq : qq ≤ 30) (HZ : Hid (∀ i, i < qq → (L.getD i ByteArray.empty).size ≤ 1000)) (HSM : Hid (smB30 qq L = true)) (HL : Hid (L.length = qq)) (hqc : qq ≤ cc) (hcc : cc ≤ 9223372036854775807) (h1 : ru.size ≤ 1000) (h2 : fm.size ≤ 1000) (c0 : 0 ≤ c) (LT : List ByteArray) (NT : Nat) (HR : Hid (El.right ⟨sd, k, sv, ru, fm, en, ⟨y, m, q, n, d, s, c⟩⟩ = true)) (HT : Hid (ETx ⟨sd, k, sv, ru, fm, en, ⟨y, m, q, n, d, s, c⟩⟩ LT NT)) (i : Nat) (z : Int) (hz0 : z ≠ 0) (hiq : i ≤ qq) (HP : Hid (El.prs L = (⟨0, 0, 0, ⟨#[]⟩, ⟨#[]⟩, false, ⟨0, 0, 0, 0, 0, 0, 0⟩⟩, i, z))) (w : World) (HE : Hid (Ev w)) (HS : Hid (Sl w w.heap.size A qq (fun i => .string (L.getD i ByteArray.empty)))) :
    Calls Tryz.prog 4 #[.agg #[.int .i64 sd, .int .u8 k, .int .i64 sv, .string ru, .string fm, .bool en, .int .i64 y, .int .i64 m, .int .u8 q, .int .i64 n, .int .i64 d, .int .i64 s, .int .u8 c], .slice A qq cc] w fun e w' => e = .returned (.bool true) ∧ Below w.heap.size w w' := by
  have HPI := Lib.hid (fun W (h : Cy w W) => eprs_in A qq cc L _ _ _ w W h HL.out hq hqc hcc HZ.out HS.out HP.out)
  have ten := HT.out.ends
  have ten2 := ends_nat ten
  have HTEN := Lib.hid ten
  have HTEN2 := Lib.hid ten2
  clear ten ten2
  have t3 : decide (i ≤ qq) = true := by simp; omega
  have t4 : (z != 0) = true := by rw [bne_iff_ne]; exact hz0
  have t5 : (z == 0) = false := by rw [beq_eq_false_iff_ne]; exact hz0
  clear hz0 hiq
  have HC0 : Hid (Cy w w) := Lib.hid ⟨HE.out, Below.refl _ _⟩
  go_enter Tryz.func4, Tryz.ntmps4
  go_wp2_with fail
  refine (lives10 _ (Lib.hid (HC0.out.al _).env)).mono ?_
  rintro e v1 ⟨rfl, b1⟩
  have HC1 := Lib.hid ((HC0.out.al _).on b1)
  have HX_r := Lib.hid ((Bx.mk' _ w.heap.size #[.int .i64 sd, .int .u8 k, .int .i64 sv, .string ru, .string fm, .bool en, .int .i64 y, .int .i64 m, .int .u8 q, .int .i64 n, .int .i64 d, .int .i64 s, .int .u8 c] 44 (by simp)).on b1)
  clear b1 HC0 
  have HB_r := HX_r
  clear HX_r
  have lt_r := HB_r.out.lt
  have c_r_0 := HB_r.out.at_ 0 _ rfl
  have c_r_1 := HB_r.out.at_ 1 _ rfl
  have c_r_2 := HB_r.out.at_ 2 _ rfl
  have c_r_3 := HB_r.out.at_ 3 _ rfl
  have c_r_4 := HB_r.out.at_ 4 _ rfl
  have c_r_5 := HB_r.out.at_ 5 _ rfl
  have c_r_6 := HB_r.out.at_ 6 _ rfl
  have c_r_7 := HB_r.out.at_ 7 _ rfl
  have c_r_8 := HB_r.out.at_ 8 _ rfl
  have c_r_9 := HB_r.out.at_ 9 _ rfl
  have c_r_10 := HB_r.out.at_ 10 _ rfl
  have c_r_11 := HB_r.out.at_ 11 _ rfl
  have c_r_12 := HB_r.out.at_ 12 _ rfl
  go_wp2_with fail
  refine (small_solsticelaw10_is A qq cc L true (by omega) _ (fun i hi => by have := HZ.out i hi; omega) _ (HS.out.below HC1.out.bel) HSM.out).mono ?_
  rintro e w' ⟨rfl, rfl⟩
  go_wp2_with fail
  refine (etext_bx ⟨sd, k, sv, ru, fm, en, ⟨y, m, q, n, d, s, c⟩⟩ LT NT _ HC1.out.env HR.out c0 (by show ru.size ≤ _; omega) HT.out.texts HT.out.num).mono ?_
  rintro e u2 ⟨⟨g_t, c_t, rfl, q_t, p_t, h_t⟩, bb⟩
  clear lt_r c_r_0 c_r_1 c_r_2 c_r_3 c_r_4 c_r_5 c_r_6 c_r_7 c_r_8 c_r_9 c_r_10 c_r_11 c_r_12
  have HCj := Lib.hid (HC1.out.on bb)
  have HX_r := Lib.hid (HB_r.out.on bb)
  clear HC1 HB_r
  have HB_r := HX_r
  clear HX_r
  have HB_t := Lib.hid h_t
  clear h_t bb
  have HCt := HCj
  clear HCj
  go_wp2_with fail
  refine (eprs_bx g_t NT c_t LT LT ⟨sd, k, sv, ru, fm, en, ⟨y, m, q, n, d, s, c⟩⟩ 0 0 _ HCt.out.env HB_t.out (Nat.le_of_eq HT.out.len.symm) (by have := HT.out.most; omega) q_t p_t (List.take_of_length_le (Nat.le_of_eq HT.out.len)) HT.out.small HT.out.back).mono ?_
  rintro e v3 ⟨rfl, b3⟩
  have HC3 := Lib.hid (HCt.out.on b3)
  have HX_r := Lib.hid (HB_r.out.on b3)
  clear b3 HCt HB_r HB_t
  have HB_r := HX_r
  clear HX_r
  have lt_r := HB_r.out.lt
  have c_r_0 := HB_r.out.at_ 0 _ rfl
  have c_r_1 := HB_r.out.at_ 1 _ rfl
  have c_r_2 := HB_r.out.at_ 2 _ rfl
  have c_r_3 := HB_r.out.at_ 3 _ rfl
  have c_r_4 := HB_r.out.at_ 4 _ rfl
  have c_r_5 := HB_r.out.at_ 5 _ rfl
  have c_r_6 := HB_r.out.at_ 6 _ rfl
  have c_r_7 := HB_r.out.at_ 7 _ rfl
  have c_r_8 := HB_r.out.at_ 8 _ rfl
  have c_r_9 := HB_r.out.at_ 9 _ rfl
  have c_r_10 := HB_r.out.at_ 10 _ rfl
  have c_r_11 := HB_r.out.at_ 11 _ rfl
  have c_r_12 := HB_r.out.at_ 12 _ rfl
  go_wp2_with fail
  refine (echeck_yes ⟨sd, k, sv, ru, fm, en, ⟨y, m, q, n, d, s, c⟩⟩ _ (HC3.out.al _).env (by show ru.size ≤ _; omega) HR.out).mono ?_
  rintro e v4 ⟨rfl, b4⟩
  clear lt_r c_r_0 c_r_1 c_r_2 c_r_3 c_r_4 c_r_5 c_r_6 c_r_7 c_r_8 c_r_9 c_r_10 c_r_11 c_r_12
  have HC4 := Lib.hid ((HC3.out.al _).on b4)
  have HX_r := Lib.hid ((HB_r.out.al _).on b4)
  clear b4 HC3 HB_r
  have HB_r := HX_r
  clear HX_r
  have lt_r := HB_r.out.lt
  have c_r_5 := HB_r.out.at_ 5 _ rfl
  have ten := HTEN.out
  have ten2 := HTEN2.out
  go_wp2_with fail
  refine (HPI.out _ HC4.out).mono ?_
  rintro e v5 ⟨rfl, b5⟩
  clear lt_r c_r_5
  have HC5 := Lib.hid (HC4.out.on b5)
  clear b5 HC4 HB_r
  clear ten ten2 HTEN HTEN2
  go_wp2_with fail
  go_ret
  exact ⟨rfl, (HC5.out.al _).bel⟩
set_option maxRecDepth 100000 in
set_option maxHeartbeats 8000000 in
theorem eback_wrong_ok (sd k sv : Int) (ru fm : ByteArray) (en : Bool) (y m q n d s c : Int) (A : Option Addr) (qq cc : Nat) (L : List ByteArray) (hq : qq ≤ 30) (HZ : Hid (∀ i, i < qq → (L.getD i ByteArray.empty).size ≤ 1000)) (HSM : Hid (smB30 qq L = true)) (HL : Hid (L.length = qq)) (hqc : qq ≤ cc) (hcc : cc ≤ 9223372036854775807) (h1 : ru.size ≤ 1000) (h2 : fm.size ≤ 1000) (HR : Hid (El.right ⟨sd, k, sv, ru, fm, en, ⟨y, m, q, n, d, s, c⟩⟩ = false)) (usd uk usv : Int) (uru ufm : ByteArray) (uen : Bool) (uy um uq un ud us uc : Int) (uc0 : 0 ≤ uc) (LU : List ByteArray) (NU : Nat) (HUR : Hid (El.right ⟨usd, uk, usv, uru, ufm, uen, ⟨uy, um, uq, un, ud, us, uc⟩⟩ = true)) (HU : Hid (ETx ⟨usd, uk, usv, uru, ufm, uen, ⟨uy, um, uq, un, ud, us, uc⟩⟩ LU NU)) (hen : decide (3 < (qq : Int)) = uen) (hnu : NU ≤ qq) (HP : Hid (El.prs L = (⟨usd, uk, usv, uru, ufm, uen, ⟨uy, um, uq, un, ud, us, uc⟩⟩, 0, 0))) (w : World) (HE : Hid (Ev w)) (HS : Hid (Sl w w.heap.size A qq (fun i => .string (L.getD i ByteArray.empty)))) :
    Calls Tryz.prog 4 #[.agg #[.int .i64 sd, .int .u8 k, .int .i64 sv, .string ru, .string fm, .bool en, .int .i64 y, .int .i64 m, .int .u8 q, .int .i64 n, .int .i64 d, .int .i64 s, .int .u8 c], .slice A qq cc] w fun e w' => e = .returned (.bool true) ∧ Below w.heap.size w w' := by
  have HPI := Lib.hid (fun W (h : Cy w W) => eprs_in A qq cc L _ _ _ w W h HL.out hq hqc hcc HZ.out HS.out HP.out)
  have HEN := Lib.hid hen
  have HEN2 := Lib.hid (ends_nat hen)
  have t3 : decide (NU ≤ qq) = true := by simp; omega
  clear hen
  have HC0 : Hid (Cy w w) := Lib.hid ⟨HE.out, Below.refl _ _⟩
  go_enter Tryz.func4, Tryz.ntmps4
  go_wp2_with fail
  refine (lives10 _ (Lib.hid (HC0.out.al _).env)).mono ?_
  rintro e v1 ⟨rfl, b1⟩
  have HC1 := Lib.hid ((HC0.out.al _).on b1)
  have HX_r := Lib.hid ((Bx.mk' _ w.heap.size #[.int .i64 sd, .int .u8 k, .int .i64 sv, .string ru, .string fm, .bool en, .int .i64 y, .int .i64 m, .int .u8 q, .int .i64 n, .int .i64 d, .int .i64 s, .int .u8 c] 44 (by simp)).on b1)
  clear b1 HC0 
  have HB_r := HX_r
  clear HX_r
  have lt_r := HB_r.out.lt
  have c_r_0 := HB_r.out.at_ 0 _ rfl
  have c_r_1 := HB_r.out.at_ 1 _ rfl
  have c_r_2 := HB_r.out.at_ 2 _ rfl
  have c_r_3 := HB_r.out.at_ 3 _ rfl
  have c_r_4 := HB_r.out.at_ 4 _ rfl
  have c_r_5 := HB_r.out.at_ 5 _ rfl
  have c_r_6 := HB_r.out.at_ 6 _ rfl
  have c_r_7 := HB_r.out.at_ 7 _ rfl
  have c_r_8 := HB_r.out.at_ 8 _ rfl
  have c_r_9 := HB_r.out.at_ 9 _ rfl
  have c_r_10 := HB_r.out.at_ 10 _ rfl
  have c_r_11 := HB_r.out.at_ 11 _ rfl
  have c_r_12 := HB_r.out.at_ 12 _ rfl
  go_wp2_with fail
  refine (small_solsticelaw10_is A qq cc L true (by omega) _ (fun i hi => by have := HZ.out i hi; omega) _ (HS.out.below HC1.out.bel) HSM.out).mono ?_
  rintro e w' ⟨rfl, rfl⟩
  go_wp2_with fail
  refine (etext_no ⟨sd, k, sv, ru, fm, en, ⟨y, m, q, n, d, s, c⟩⟩ _ HC1.out.env (by show ru.size ≤ _; omega) HR.out).mono ?_
  rintro e v2 ⟨rfl, b2⟩
  clear lt_r c_r_0 c_r_1 c_r_2 c_r_3 c_r_4 c_r_5 c_r_6 c_r_7 c_r_8 c_r_9 c_r_10 c_r_11 c_r_12
  have HC2 := Lib.hid (HC1.out.on b2)
  clear b2 HC1 HB_r
  go_wp2_with fail
  refine (HPI.out _ HC2.out).mono ?_
  rintro e v3 ⟨rfl, b3⟩
  have HC3 := Lib.hid (HC2.out.on b3)
  clear b3 HC2 
  go_wp2_with fail
  refine (etext_bx ⟨usd, uk, usv, uru, ufm, uen, ⟨uy, um, uq, un, ud, us, uc⟩⟩ LU NU _ (HC3.out.al _).env HUR.out uc0 (Nat.le_trans (eru_le HUR.out) (by decide)) HU.out.texts HU.out.num).mono ?_
  rintro e u4 ⟨⟨g_u, c_u, rfl, q_u, p_u, h_u⟩, bb⟩
  have HCj := Lib.hid ((HC3.out.al _).on bb)
  have HX_x := Lib.hid ((Bx.mk' _ v3.heap.size #[.int .i64 usd, .int .u8 uk, .int .i64 usv, .string uru, .string ufm, .bool uen, .int .i64 uy, .int .i64 um, .int .u8 uq, .int .i64 un, .int .i64 ud, .int .i64 us, .int .u8 uc] 44 (by simp)).on bb)
  clear HC3 
  have HB_x := HX_x
  clear HX_x
  have HB_u := Lib.hid h_u
  clear h_u bb
  have HCt := HCj
  clear HCj
  go_wp2_with fail
  refine (eprs_bx g_u NU c_u LU LU ⟨usd, uk, usv, uru, ufm, uen, ⟨uy, um, uq, un, ud, us, uc⟩⟩ 0 0 _ HCt.out.env HB_u.out (Nat.le_of_eq HU.out.len.symm) (by have := HU.out.most; omega) q_u p_u (List.take_of_length_le (Nat.le_of_eq HU.out.len)) HU.out.small HU.out.back).mono ?_
  rintro e v5 ⟨rfl, b5⟩
  have HC5 := Lib.hid (HCt.out.on b5)
  have HX_x := Lib.hid (HB_x.out.on b5)
  clear b5 HCt HB_x HB_u
  have HB_x := HX_x
  clear HX_x
  have lt_x := HB_x.out.lt
  have c_x_0 := HB_x.out.at_ 0 _ rfl
  have c_x_1 := HB_x.out.at_ 1 _ rfl
  have c_x_2 := HB_x.out.at_ 2 _ rfl
  have c_x_3 := HB_x.out.at_ 3 _ rfl
  have c_x_4 := HB_x.out.at_ 4 _ rfl
  have c_x_5 := HB_x.out.at_ 5 _ rfl
  have c_x_6 := HB_x.out.at_ 6 _ rfl
  have c_x_7 := HB_x.out.at_ 7 _ rfl
  have c_x_8 := HB_x.out.at_ 8 _ rfl
  have c_x_9 := HB_x.out.at_ 9 _ rfl
  have c_x_10 := HB_x.out.at_ 10 _ rfl
  have c_x_11 := HB_x.out.at_ 11 _ rfl
  have c_x_12 := HB_x.out.at_ 12 _ rfl
  go_wp2_with fail
  refine (echeck_yes ⟨usd, uk, usv, uru, ufm, uen, ⟨uy, um, uq, un, ud, us, uc⟩⟩ _ (HC5.out.al _).env (Nat.le_trans (eru_le HUR.out) (by decide)) HUR.out).mono ?_
  rintro e v6 ⟨rfl, b6⟩
  clear lt_x c_x_0 c_x_1 c_x_2 c_x_3 c_x_4 c_x_5 c_x_6 c_x_7 c_x_8 c_x_9 c_x_10 c_x_11 c_x_12
  have HC6 := Lib.hid ((HC5.out.al _).on b6)
  have HX_x := Lib.hid ((HB_x.out.al _).on b6)
  have HX_y := Lib.hid ((Bx.mk' _ v5.heap.size #[.int .i64 usd, .int .u8 uk, .int .i64 usv, .string uru, .string ufm, .bool uen, .int .i64 uy, .int .i64 um, .int .u8 uq, .int .i64 un, .int .i64 ud, .int .i64 us, .int .u8 uc] 44 (by simp)).on b6)
  clear b6 HC5 HB_x
  have HB_x := HX_x
  have HB_y := HX_y
  clear HX_x HX_y
  have lt_x := HB_x.out.lt
  have c_x_0 := HB_x.out.at_ 0 _ rfl
  have c_x_1 := HB_x.out.at_ 1 _ rfl
  have c_x_2 := HB_x.out.at_ 2 _ rfl
  have c_x_3 := HB_x.out.at_ 3 _ rfl
  have c_x_4 := HB_x.out.at_ 4 _ rfl
  have c_x_5 := HB_x.out.at_ 5 _ rfl
  have c_x_6 := HB_x.out.at_ 6 _ rfl
  have c_x_7 := HB_x.out.at_ 7 _ rfl
  have c_x_8 := HB_x.out.at_ 8 _ rfl
  have c_x_9 := HB_x.out.at_ 9 _ rfl
  have c_x_10 := HB_x.out.at_ 10 _ rfl
  have c_x_11 := HB_x.out.at_ 11 _ rfl
  have c_x_12 := HB_x.out.at_ 12 _ rfl
  have lt_y := HB_y.out.lt
  have c_y_0 := HB_y.out.at_ 0 _ rfl
  have c_y_1 := HB_y.out.at_ 1 _ rfl
  have c_y_2 := HB_y.out.at_ 2 _ rfl
  have c_y_3 := HB_y.out.at_ 3 _ rfl
  have c_y_4 := HB_y.out.at_ 4 _ rfl
  have c_y_5 := HB_y.out.at_ 5 _ rfl
  have c_y_6 := HB_y.out.at_ 6 _ rfl
  have c_y_7 := HB_y.out.at_ 7 _ rfl
  have c_y_8 := HB_y.out.at_ 8 _ rfl
  have c_y_9 := HB_y.out.at_ 9 _ rfl
  have c_y_10 := HB_y.out.at_ 10 _ rfl
  have c_y_11 := HB_y.out.at_ 11 _ rfl
  have c_y_12 := HB_y.out.at_ 12 _ rfl
  have ten := HEN.out
  have ten2 := HEN2.out
  go_wp2_with fail
  go_ret
  exact ⟨rfl, HC6.out.bel⟩
set_option maxRecDepth 100000 in
set_option maxHeartbeats 8000000 in
theorem eback_wrong_no (sd k sv : Int) (ru fm : ByteArray) (en : Bool) (y m q n d s c : Int) (A : Option Addr) (qq cc : Nat) (L : List ByteArray) (hq : qq ≤ 30) (HZ : Hid (∀ i, i < qq → (L.getD i ByteArray.empty).size ≤ 1000)) (HSM : Hid (smB30 qq L = true)) (HL : Hid (L.length = qq)) (hqc : qq ≤ cc) (hcc : cc ≤ 9223372036854775807) (h1 : ru.size ≤ 1000) (h2 : fm.size ≤ 1000) (HR : Hid (El.right ⟨sd, k, sv, ru, fm, en, ⟨y, m, q, n, d, s, c⟩⟩ = false)) (i : Nat) (z : Int) (hz0 : z ≠ 0) (hiq : i ≤ qq) (HP : Hid (El.prs L = (⟨0, 0, 0, ⟨#[]⟩, ⟨#[]⟩, false, ⟨0, 0, 0, 0, 0, 0, 0⟩⟩, i, z))) (w : World) (HE : Hid (Ev w)) (HS : Hid (Sl w w.heap.size A qq (fun i => .string (L.getD i ByteArray.empty)))) :
    Calls Tryz.prog 4 #[.agg #[.int .i64 sd, .int .u8 k, .int .i64 sv, .string ru, .string fm, .bool en, .int .i64 y, .int .i64 m, .int .u8 q, .int .i64 n, .int .i64 d, .int .i64 s, .int .u8 c], .slice A qq cc] w fun e w' => e = .returned (.bool true) ∧ Below w.heap.size w w' := by
  have HPI := Lib.hid (fun W (h : Cy w W) => eprs_in A qq cc L _ _ _ w W h HL.out hq hqc hcc HZ.out HS.out HP.out)
  have t3 : decide (i ≤ qq) = true := by simp; omega
  have t4 : (z != 0) = true := by rw [bne_iff_ne]; exact hz0
  have t5 : (z == 0) = false := by rw [beq_eq_false_iff_ne]; exact hz0
  clear hz0 hiq
  have HC0 : Hid (Cy w w) := Lib.hid ⟨HE.out, Below.refl _ _⟩
  go_enter Tryz.func4, Tryz.ntmps4
  go_wp2_with fail
  refine (lives10 _ (Lib.hid (HC0.out.al _).env)).mono ?_
  rintro e v1 ⟨rfl, b1⟩
  have HC1 := Lib.hid ((HC0.out.al _).on b1)
  have HX_r := Lib.hid ((Bx.mk' _ w.heap.size #[.int .i64 sd, .int .u8 k, .int .i64 sv, .string ru, .string fm, .bool en, .int .i64 y, .int .i64 m, .int .u8 q, .int .i64 n, .int .i64 d, .int .i64 s, .int .u8 c] 44 (by simp)).on b1)
  clear b1 HC0 
  have HB_r := HX_r
  clear HX_r
  have lt_r := HB_r.out.lt
  have c_r_0 := HB_r.out.at_ 0 _ rfl
  have c_r_1 := HB_r.out.at_ 1 _ rfl
  have c_r_2 := HB_r.out.at_ 2 _ rfl
  have c_r_3 := HB_r.out.at_ 3 _ rfl
  have c_r_4 := HB_r.out.at_ 4 _ rfl
  have c_r_5 := HB_r.out.at_ 5 _ rfl
  have c_r_6 := HB_r.out.at_ 6 _ rfl
  have c_r_7 := HB_r.out.at_ 7 _ rfl
  have c_r_8 := HB_r.out.at_ 8 _ rfl
  have c_r_9 := HB_r.out.at_ 9 _ rfl
  have c_r_10 := HB_r.out.at_ 10 _ rfl
  have c_r_11 := HB_r.out.at_ 11 _ rfl
  have c_r_12 := HB_r.out.at_ 12 _ rfl
  go_wp2_with fail
  refine (small_solsticelaw10_is A qq cc L true (by omega) _ (fun i hi => by have := HZ.out i hi; omega) _ (HS.out.below HC1.out.bel) HSM.out).mono ?_
  rintro e w' ⟨rfl, rfl⟩
  go_wp2_with fail
  refine (etext_no ⟨sd, k, sv, ru, fm, en, ⟨y, m, q, n, d, s, c⟩⟩ _ HC1.out.env (by show ru.size ≤ _; omega) HR.out).mono ?_
  rintro e v2 ⟨rfl, b2⟩
  clear lt_r c_r_0 c_r_1 c_r_2 c_r_3 c_r_4 c_r_5 c_r_6 c_r_7 c_r_8 c_r_9 c_r_10 c_r_11 c_r_12
  have HC2 := Lib.hid (HC1.out.on b2)
  clear b2 HC1 HB_r
  go_wp2_with fail
  refine (HPI.out _ HC2.out).mono ?_
  rintro e v3 ⟨rfl, b3⟩
  have HC3 := Lib.hid (HC2.out.on b3)
  clear b3 HC2 
  go_wp2_with fail
  go_ret
  exact ⟨rfl, (HC3.out.al _).bel⟩
theorem walkEraBack (sd k sv : Int) (ru fm : ByteArray) (en : Bool) (y m q n d s c : Int) (_hk : (Lit.int .u8 k).wf = true) (hc : (Lit.int .u8 c).wf = true) (hru : ru.size ≤ maxLen) (hfm : fm.size ≤ maxLen) (A : Option Addr) (qq cc : Nat) (hq : qq ≤ maxLen) (hqc : qq ≤ cc) (hcc : cc ≤ maxLen) (L : List ByteArray) (hl : L.length = qq) (hz : ∀ i, i < qq → (L.getD i ByteArray.empty).size ≤ maxLen) (w : World) (hS : Sl w w.heap.size A qq (fun i => .string (L.getD i ByteArray.empty))) (hE : Env w) (hM : Marks w) :
    Calls Tryz.prog 4 #[.agg #[.int .i64 sd, .int .u8 k, .int .i64 sv, .string ru, .string fm, .bool en, .int .i64 y, .int .i64 m, .int .u8 q, .int .i64 n, .int .i64 d, .int .i64 s, .int .u8 c], .slice A qq cc] w fun e w' => e = .returned (.bool true) ∧ Below w.heap.size w w' := by
  have hE : Ev w := ⟨hE, hM⟩
  unfold maxLen at hru hfm hq hz hcc
  have c0 : 0 ≤ c := by have := bounds_u8 hc; omega
  cases h0 : smB30 qq L with
  | false => exact eback_many sd k sv ru fm en y m q n d s c A qq cc L (by omega) (Lib.hid fun i hi => by have := hz i hi; omega) (Lib.hid h0) w (Lib.hid hE) (Lib.hid hS)
  | true =>
    have h3 := of_decide_eq_true h0
    by_cases h1 : ru.size ≤ 1000
    · by_cases h2 : fm.size ≤ 1000
      · obtain ⟨v, i, z, hp⟩ : ∃ v i z, El.prs L = (v, i, z) := ⟨_, _, _, rfl⟩
        have hok := eprs_ok L
        rw [hp] at hok
        obtain ⟨usd, uk, usv, uru, ufm, uen, ⟨uy, um, uq, un, ud, us, uc⟩⟩ := v
        by_cases hz : z = 0
        · subst hz
          obtain ⟨hi, hu, _, hc0, _, hen, hnu⟩ := hok.1 rfl
          obtain rfl : i = 0 := hi
          obtain ⟨LU, NU, hLU⟩ := etx_of hu hc0
          have hnu : NU ≤ qq := by rw [← hl, ← hLU.num]; exact hnu
          have hen : decide (3 < (qq : Int)) = uen := by
            have hen : uen = decide (3 < L.length) := hen
            rw [hen, hl, Bool.eq_iff_iff, decide_eq_true_eq, decide_eq_true_eq]
            omega
          cases hr : El.right ⟨sd, k, sv, ru, fm, en, ⟨y, m, q, n, d, s, c⟩⟩ with
          | true =>
            obtain ⟨LT, NT, hLT⟩ := etx_of hr c0
            exact eback_right_ok sd k sv ru fm en y m q n d s c A qq cc L h3.1 (Lib.hid h3.2) (Lib.hid h0) (Lib.hid hl) hqc (by omega) h1 h2 c0 LT NT (Lib.hid hr) (Lib.hid hLT) usd uk usv uru ufm uen uy um uq un ud us uc hc0 LU NU (Lib.hid hu) (Lib.hid hLU) hen hnu (Lib.hid hp) w (Lib.hid hE) (Lib.hid hS)
          | false => exact eback_wrong_ok sd k sv ru fm en y m q n d s c A qq cc L h3.1 (Lib.hid h3.2) (Lib.hid h0) (Lib.hid hl) hqc (by omega) h1 h2 (Lib.hid hr) usd uk usv uru ufm uen uy um uq un ud us uc hc0 LU NU (Lib.hid hu) (Lib.hid hLU) hen hnu (Lib.hid hp) w (Lib.hid hE) (Lib.hid hS)
        · obtain ⟨hv, _, hil⟩ := hok.2 hz
          have hp : El.prs L = (Er.zero, i, z) := hp.trans (congrArg (fun x : Er => (x, i, z)) hv)
          have hil : i ≤ qq := by rw [← hl]; exact hil
          cases hr : El.right ⟨sd, k, sv, ru, fm, en, ⟨y, m, q, n, d, s, c⟩⟩ with
          | true =>
            obtain ⟨LT, NT, hLT⟩ := etx_of hr c0
            exact eback_right_no sd k sv ru fm en y m q n d s c A qq cc L h3.1 (Lib.hid h3.2) (Lib.hid h0) (Lib.hid hl) hqc (by omega) h1 h2 c0 LT NT (Lib.hid hr) (Lib.hid hLT) i z hz hil (Lib.hid hp) w (Lib.hid hE) (Lib.hid hS)
          | false => exact eback_wrong_no sd k sv ru fm en y m q n d s c A qq cc L h3.1 (Lib.hid h3.2) (Lib.hid h0) (Lib.hid hl) hqc (by omega) h1 h2 (Lib.hid hr) i z hz hil (Lib.hid hp) w (Lib.hid hE) (Lib.hid hS)
      · exact eback_format sd k sv ru fm en y m q n d s c A qq cc L h3.1 (Lib.hid h3.2) (Lib.hid h0) h1 (by omega) (by omega) w (Lib.hid hE) (Lib.hid hS)
    · exact eback_rules sd k sv ru fm en y m q n d s c A qq cc L h3.1 (Lib.hid h3.2) (Lib.hid h0) (by omega) (by omega) w (Lib.hid hE) (Lib.hid hS)
end Go.Proofs.YtigmbkcjmlpfoaaGreatDoor
