/- The walk of stage 5's theorem TopShorter (by program). -/
import Derived.Test.YtigmbkcjmlpfoaaGreatDoorBegins5
namespace Go.Proofs.YtigmbkcjmlpfoaaGreatDoor
open Go.RowKit
/-- What the first ones of an until's texts tell: one of the same year. -/
theorem until_first {u : Ut} (h : Mo.un u = true) (c0 : 0 ≤ u.c) (j : Nat) (h1 : 1 ≤ j) (hj : j ≤ 4) : ∃ v, Mo.prsU ((Mo.texts u).take j) = (v, 0, 0) ∧ v.y = u.y := by
  have hj4 : j = 1 ∨ j = 2 ∨ j = 3 ∨ j = 4 := by omega
  rcases hj4 with rfl | rfl | rfl | rfl
  · exact ⟨_, run1 h, rfl⟩
  · exact ⟨_, run2 h, rfl⟩
  · exact ⟨_, run3 h, rfl⟩
  · exact ⟨_, run4 h c0, rfl⟩
/-- What the first ones of an era's texts tell. -/
theorem era_first {e : Er} (h : El.right e = true) (c0 : 0 ≤ e.u.c) (K : Nat) (h3 : 3 ≤ K) (hK : K ≤ El.num e) : ∃ x, El.prs ((El.texts e).take K) = (x, 0, 0) ∧ x.sd = e.sd ∧ x.fm = e.fm ∧ x.en = decide (3 < K) ∧ (x.en = true → x.u.y = e.u.y) := by
  have ht := etake3 h
  by_cases hk3 : K = 3
  · subst hk3
    have e3 : (El.texts e).take 3 = [El.t0 e, El.t1 e, e.fm] := rfl
    rw [e3]
    have h0 := ht []
    rw [List.append_nil] at h0
    exact ⟨_, eprs_three h0 rfl, rfl, rfl, rfl, fun h => by cases h⟩
  · have hn : e.en = true := by
      cases hb : e.en with
      | true => rfl
      | false =>
        have := (enum_bd e).1 hb
        omega
    obtain ⟨_, _, _, he⟩ := el_parts h
    unfold El.ends at he
    rw [if_pos hn] at he
    have hnum : El.num e = 3 + Mo.ndU e.u := by unfold El.num; rw [if_pos hn]
    have hb := nd_bd (Mo.t1 e.u).data.toList (Mo.t2 e.u).data.toList (Mo.t3 e.u).data.toList
    have hnd4 : Mo.ndU e.u ≤ 4 := hb.2
    obtain ⟨v, hv, hy⟩ := until_first he c0 (K - 3) (by omega) (by omega)
    have e1 : (El.texts e).take K = [El.t0 e, El.t1 e, e.fm] ++ (Mo.texts e.u).take (K - 3) := by
      have hr : El.rest e = (Mo.texts e.u).take (Mo.ndU e.u) := by unfold El.rest; rw [if_pos hn]
      unfold El.texts
      rw [hr, List.take_append]
      show [El.t0 e, El.t1 e, e.fm].take K ++ ((Mo.texts e.u).take (Mo.ndU e.u)).take (K - 3) = _
      rw [List.take_of_length_le (by show 3 ≤ K; omega), List.take_take, Nat.min_eq_left (by omega)]
    rw [e1]
    have hl : ((Mo.texts e.u).take (K - 3)).length = K - 3 := by
      rw [List.length_take]
      show min (K - 3) 4 = K - 3
      omega
    refine ⟨_, eprs_ends (i := 0) (u := v) (ht _) (by rw [List.length_append, hl]; show 3 < 3 + (K - 3); omega) hv, rfl, rfl, ?_, fun _ => hy⟩
    show true = decide (3 < K)
    symm
    rw [decide_eq_true_eq]
    omega
set_option maxRecDepth 100000 in
set_option maxHeartbeats 4000000 in
theorem tshort_wrong (sd k sv : Int) (ru fm : ByteArray) (en : Bool) (y m q n d s c : Int) (nn : Int) (z3 : ru.size ≤ 9223372036854775807) (_z4 : fm.size ≤ 9223372036854775807) (_n0 : 0 ≤ nn) (_n255 : nn ≤ 255) (HUR : Hid (El.right ⟨sd, k, sv, ru, fm, en, ⟨y, m, q, n, d, s, c⟩⟩ = false)) (w : World) (HE : Hid (Ev w)) :
    Calls Tryz.prog 6 #[.agg #[.int .i64 sd, .int .u8 k, .int .i64 sv, .string ru, .string fm, .bool en, .int .i64 y, .int .i64 m, .int .u8 q, .int .i64 n, .int .i64 d, .int .i64 s, .int .u8 c], .int .u8 nn] w fun e w' => e = .returned (.bool true) ∧ Below w.heap.size w w' := by
  have HC0 : Hid (Cy w w) := Lib.hid ⟨HE.out, Below.refl _ _⟩
  go_enter Tryz.func6, Tryz.ntmps6
  go_wp2_with fail
  refine (begins5 _ (Lib.hid (HC0.out.al _).env)).mono ?_
  rintro e v1 ⟨rfl, b1⟩
  have HC1 := Lib.hid ((HC0.out.al _).on b1)
  have HX_e := Lib.hid ((Bx.mk' _ w.heap.size #[.int .i64 sd, .int .u8 k, .int .i64 sv, .string ru, .string fm, .bool en, .int .i64 y, .int .i64 m, .int .u8 q, .int .i64 n, .int .i64 d, .int .i64 s, .int .u8 c] 44 (by simp)).on b1)
  clear b1 HC0 
  have HB_e := HX_e
  clear HX_e
  have lt_e := HB_e.out.lt
  have c_e_0 := HB_e.out.at_ 0 _ rfl
  have c_e_1 := HB_e.out.at_ 1 _ rfl
  have c_e_2 := HB_e.out.at_ 2 _ rfl
  have c_e_3 := HB_e.out.at_ 3 _ rfl
  have c_e_4 := HB_e.out.at_ 4 _ rfl
  have c_e_5 := HB_e.out.at_ 5 _ rfl
  have c_e_6 := HB_e.out.at_ 6 _ rfl
  have c_e_7 := HB_e.out.at_ 7 _ rfl
  have c_e_8 := HB_e.out.at_ 8 _ rfl
  have c_e_9 := HB_e.out.at_ 9 _ rfl
  have c_e_10 := HB_e.out.at_ 10 _ rfl
  have c_e_11 := HB_e.out.at_ 11 _ rfl
  have c_e_12 := HB_e.out.at_ 12 _ rfl
  go_wp2_with fail
  any_goals (solve | (go_ret; exact ⟨rfl, HC1.out.bel⟩))
  refine (etext_no ⟨sd, k, sv, ru, fm, en, ⟨y, m, q, n, d, s, c⟩⟩ _ HC1.out.env z3 HUR.out).mono ?_
  rintro e v2 ⟨rfl, b2⟩
  clear lt_e c_e_0 c_e_1 c_e_2 c_e_3 c_e_4 c_e_5 c_e_6 c_e_7 c_e_8 c_e_9 c_e_10 c_e_11 c_e_12
  have HC2 := Lib.hid (HC1.out.on b2)
  clear b2 HC1 HB_e
  go_wp2_with fail
  go_ret
  exact ⟨rfl, HC2.out.bel⟩
set_option maxRecDepth 100000 in
set_option maxHeartbeats 4000000 in
theorem tshort_few (sd k sv : Int) (ru fm : ByteArray) (en : Bool) (y m q n d s c : Int) (nn : Int) (_z3 : ru.size ≤ 9223372036854775807) (_z4 : fm.size ≤ 9223372036854775807) (n0 : 0 ≤ nn) (n255 : nn ≤ 255) (c0 : 0 ≤ c) (LU : List ByteArray) (NU : Nat) (HUR : Hid (El.right ⟨sd, k, sv, ru, fm, en, ⟨y, m, q, n, d, s, c⟩⟩ = true)) (HU : Hid (ETx ⟨sd, k, sv, ru, fm, en, ⟨y, m, q, n, d, s, c⟩⟩ LU NU)) (K : Nat) (hK : 3 + nn % 5 = (K : Int)) (K3 : 3 ≤ K) (hKN : NU < K) (w : World) (HE : Hid (Ev w)) :
    Calls Tryz.prog 6 #[.agg #[.int .i64 sd, .int .u8 k, .int .i64 sv, .string ru, .string fm, .bool en, .int .i64 y, .int .i64 m, .int .u8 q, .int .i64 n, .int .i64 d, .int .i64 s, .int .u8 c], .int .u8 nn] w fun e w' => e = .returned (.bool true) ∧ Below w.heap.size w w' := by
  have t1 : decide (NU < K) = true := by simp; omega
  have HKE := Lib.hid hK
  clear hK
  have HC0 : Hid (Cy w w) := Lib.hid ⟨HE.out, Below.refl _ _⟩
  go_enter Tryz.func6, Tryz.ntmps6
  go_wp2_with fail
  refine (begins5 _ (Lib.hid (HC0.out.al _).env)).mono ?_
  rintro e v1 ⟨rfl, b1⟩
  have HC1 := Lib.hid ((HC0.out.al _).on b1)
  have HX_e := Lib.hid ((Bx.mk' _ w.heap.size #[.int .i64 sd, .int .u8 k, .int .i64 sv, .string ru, .string fm, .bool en, .int .i64 y, .int .i64 m, .int .u8 q, .int .i64 n, .int .i64 d, .int .i64 s, .int .u8 c] 44 (by simp)).on b1)
  clear b1 HC0 
  have HB_e := HX_e
  clear HX_e
  have lt_e := HB_e.out.lt
  have c_e_0 := HB_e.out.at_ 0 _ rfl
  have c_e_1 := HB_e.out.at_ 1 _ rfl
  have c_e_2 := HB_e.out.at_ 2 _ rfl
  have c_e_3 := HB_e.out.at_ 3 _ rfl
  have c_e_4 := HB_e.out.at_ 4 _ rfl
  have c_e_5 := HB_e.out.at_ 5 _ rfl
  have c_e_6 := HB_e.out.at_ 6 _ rfl
  have c_e_7 := HB_e.out.at_ 7 _ rfl
  have c_e_8 := HB_e.out.at_ 8 _ rfl
  have c_e_9 := HB_e.out.at_ 9 _ rfl
  have c_e_10 := HB_e.out.at_ 10 _ rfl
  have c_e_11 := HB_e.out.at_ 11 _ rfl
  have c_e_12 := HB_e.out.at_ 12 _ rfl
  go_wp2_with fail
  any_goals (solve | (go_ret; exact ⟨rfl, HC1.out.bel⟩))
  refine (etext_bx ⟨sd, k, sv, ru, fm, en, ⟨y, m, q, n, d, s, c⟩⟩ LU NU _ HC1.out.env HUR.out c0 (Nat.le_trans (eru_le HUR.out) (by decide)) HU.out.texts HU.out.num).mono ?_
  rintro e u2 ⟨⟨g_u, c_u, rfl, q_u, p_u, h_u⟩, bb⟩
  clear lt_e c_e_0 c_e_1 c_e_2 c_e_3 c_e_4 c_e_5 c_e_6 c_e_7 c_e_8 c_e_9 c_e_10 c_e_11 c_e_12
  have HCj := Lib.hid (HC1.out.on bb)
  have HX_e := Lib.hid (HB_e.out.on bb)
  clear HC1 HB_e
  have HB_e := HX_e
  clear HX_e
  have HB_u := Lib.hid h_u
  clear h_u bb
  have HCt := HCj
  clear HCj
  have hK := HKE.out
  go_wp2_with fail
  go_ret
  exact ⟨rfl, HCt.out.bel⟩
set_option maxRecDepth 100000 in
set_option maxHeartbeats 4000000 in
theorem tshort_some (sd k sv : Int) (ru fm : ByteArray) (en : Bool) (y m q n d s c : Int) (nn : Int) (_z3 : ru.size ≤ 9223372036854775807) (_z4 : fm.size ≤ 9223372036854775807) (n0 : 0 ≤ nn) (n255 : nn ≤ 255) (c0 : 0 ≤ c) (LU : List ByteArray) (NU : Nat) (HUR : Hid (El.right ⟨sd, k, sv, ru, fm, en, ⟨y, m, q, n, d, s, c⟩⟩ = true)) (HU : Hid (ETx ⟨sd, k, sv, ru, fm, en, ⟨y, m, q, n, d, s, c⟩⟩ LU NU)) (K : Nat) (hK : 3 + nn % 5 = (K : Int)) (K3 : 3 ≤ K) (xk xv : Int) (xr : ByteArray) (xe : Bool) (xy xm xq xn xw xs xc : Int) (hy : xe = true → (xy == y) = true) (hKN : K ≤ NU) (ex : decide (3 < K) = xe) (HX : Hid (El.prs (LU.take K) = (⟨sd, xk, xv, xr, fm, xe, ⟨xy, xm, xq, xn, xw, xs, xc⟩⟩, 0, 0))) (ri : Nat) (rz : Int) (rz0 : rz ≠ 0) (HRP : Hid (Rl.prs LU = (⟨⟨#[]⟩, 0, 0, 0, 0, 0, 0, 0, 0, 0, ⟨#[]⟩⟩, ri, rz))) (w : World) (HE : Hid (Ev w)) :
    Calls Tryz.prog 6 #[.agg #[.int .i64 sd, .int .u8 k, .int .i64 sv, .string ru, .string fm, .bool en, .int .i64 y, .int .i64 m, .int .u8 q, .int .i64 n, .int .i64 d, .int .i64 s, .int .u8 c], .int .u8 nn] w fun e w' => e = .returned (.bool true) ∧ Below w.heap.size w w' := by
  have t1 : decide (NU < K) = false := by simp; omega
  have ex2 : decide (3 < (K : Int)) = xe := by rw [← ex, Bool.eq_iff_iff, decide_eq_true_eq, decide_eq_true_eq]; omega
  have tz : (rz != 0) = true := by rw [bne_iff_ne]; exact rz0
  have HEX := Lib.hid ex
  have HEX2 := Lib.hid ex2
  have HY := Lib.hid hy
  clear ex ex2 rz0 hy
  have HKE := Lib.hid hK
  clear hK
  have HC0 : Hid (Cy w w) := Lib.hid ⟨HE.out, Below.refl _ _⟩
  go_enter Tryz.func6, Tryz.ntmps6
  go_wp2_with fail
  refine (begins5 _ (Lib.hid (HC0.out.al _).env)).mono ?_
  rintro e v1 ⟨rfl, b1⟩
  have HC1 := Lib.hid ((HC0.out.al _).on b1)
  have HX_e := Lib.hid ((Bx.mk' _ w.heap.size #[.int .i64 sd, .int .u8 k, .int .i64 sv, .string ru, .string fm, .bool en, .int .i64 y, .int .i64 m, .int .u8 q, .int .i64 n, .int .i64 d, .int .i64 s, .int .u8 c] 44 (by simp)).on b1)
  clear b1 HC0 
  have HB_e := HX_e
  clear HX_e
  have lt_e := HB_e.out.lt
  have c_e_0 := HB_e.out.at_ 0 _ rfl
  have c_e_1 := HB_e.out.at_ 1 _ rfl
  have c_e_2 := HB_e.out.at_ 2 _ rfl
  have c_e_3 := HB_e.out.at_ 3 _ rfl
  have c_e_4 := HB_e.out.at_ 4 _ rfl
  have c_e_5 := HB_e.out.at_ 5 _ rfl
  have c_e_6 := HB_e.out.at_ 6 _ rfl
  have c_e_7 := HB_e.out.at_ 7 _ rfl
  have c_e_8 := HB_e.out.at_ 8 _ rfl
  have c_e_9 := HB_e.out.at_ 9 _ rfl
  have c_e_10 := HB_e.out.at_ 10 _ rfl
  have c_e_11 := HB_e.out.at_ 11 _ rfl
  have c_e_12 := HB_e.out.at_ 12 _ rfl
  go_wp2_with fail
  any_goals (solve | (go_ret; exact ⟨rfl, HC1.out.bel⟩))
  refine (etext_bx ⟨sd, k, sv, ru, fm, en, ⟨y, m, q, n, d, s, c⟩⟩ LU NU _ HC1.out.env HUR.out c0 (Nat.le_trans (eru_le HUR.out) (by decide)) HU.out.texts HU.out.num).mono ?_
  rintro e u2 ⟨⟨g_u, c_u, rfl, q_u, p_u, h_u⟩, bb⟩
  clear lt_e c_e_0 c_e_1 c_e_2 c_e_3 c_e_4 c_e_5 c_e_6 c_e_7 c_e_8 c_e_9 c_e_10 c_e_11 c_e_12
  have HCj := Lib.hid (HC1.out.on bb)
  have HX_e := Lib.hid (HB_e.out.on bb)
  clear HC1 HB_e
  have HB_e := HX_e
  clear HX_e
  have HB_u := Lib.hid h_u
  clear h_u bb
  have HCt := HCj
  clear HCj
  have hK := HKE.out
  go_wp2_with fail
  refine (eprs_bx g_u K c_u LU (LU.take K) ⟨sd, xk, xv, xr, fm, xe, ⟨xy, xm, xq, xn, xw, xs, xc⟩⟩ 0 0 _ HCt.out.env HB_u.out (by have := HU.out.len; omega) (by have := HU.out.most; omega) (by omega) p_u rfl (fun t ht => HU.out.small t (List.mem_of_mem_take ht)) HX.out).mono ?_
  rintro e v3 ⟨rfl, b3⟩
  have HC3 := Lib.hid (HCt.out.on b3)
  have HX_e := Lib.hid (HB_e.out.on b3)
  have HX_u := Lib.hid (HB_u.out.on b3)
  clear b3 HCt HB_e HB_u
  have HB_e := HX_e
  have HB_u := HX_u
  clear HX_e HX_u
  have lt_e := HB_e.out.lt
  have c_e_0 := HB_e.out.at_ 0 _ rfl
  have c_e_1 := HB_e.out.at_ 1 _ rfl
  have c_e_2 := HB_e.out.at_ 2 _ rfl
  have c_e_3 := HB_e.out.at_ 3 _ rfl
  have c_e_4 := HB_e.out.at_ 4 _ rfl
  have c_e_5 := HB_e.out.at_ 5 _ rfl
  have c_e_6 := HB_e.out.at_ 6 _ rfl
  have c_e_7 := HB_e.out.at_ 7 _ rfl
  have c_e_8 := HB_e.out.at_ 8 _ rfl
  have c_e_9 := HB_e.out.at_ 9 _ rfl
  have c_e_10 := HB_e.out.at_ 10 _ rfl
  have c_e_11 := HB_e.out.at_ 11 _ rfl
  have c_e_12 := HB_e.out.at_ 12 _ rfl
  have lt_u := HB_u.out.lt
  have ex := HEX.out
  have ex2 := HEX2.out
  go_wp2_with fail
  refine (rprs_bx g_u NU c_u LU LU ⟨⟨#[]⟩, 0, 0, 0, 0, 0, 0, 0, 0, 0, ⟨#[]⟩⟩ ri rz _ (HC3.out.al _).env.env (HB_u.out.al _) (Nat.le_of_eq HU.out.len.symm) (by have := HU.out.most; omega) (List.take_of_length_le (Nat.le_of_eq HU.out.len)) HU.out.small HRP.out).mono ?_
  rintro e v4 ⟨rfl, b4⟩
  clear lt_e c_e_0 c_e_1 c_e_2 c_e_3 c_e_4 c_e_5 c_e_6 c_e_7 c_e_8 c_e_9 c_e_10 c_e_11 c_e_12 lt_u
  have HC4 := Lib.hid ((HC3.out.al _).on b4)
  have HX_e := Lib.hid ((HB_e.out.al _).on b4)
  have HX_x := Lib.hid ((Bx.mk' _ v3.heap.size #[.int .i64 sd, .int .u8 xk, .int .i64 xv, .string xr, .string fm, .bool xe, .int .i64 xy, .int .i64 xm, .int .u8 xq, .int .i64 xn, .int .i64 xw, .int .i64 xs, .int .u8 xc] 44 (by simp)).on b4)
  clear b4 HC3 HB_e HB_u
  have HB_e := HX_e
  have HB_x := HX_x
  clear HX_e HX_x
  have lt_e := HB_e.out.lt
  have c_e_0 := HB_e.out.at_ 0 _ rfl
  have c_e_1 := HB_e.out.at_ 1 _ rfl
  have c_e_2 := HB_e.out.at_ 2 _ rfl
  have c_e_3 := HB_e.out.at_ 3 _ rfl
  have c_e_4 := HB_e.out.at_ 4 _ rfl
  have c_e_5 := HB_e.out.at_ 5 _ rfl
  have c_e_6 := HB_e.out.at_ 6 _ rfl
  have c_e_7 := HB_e.out.at_ 7 _ rfl
  have c_e_8 := HB_e.out.at_ 8 _ rfl
  have c_e_9 := HB_e.out.at_ 9 _ rfl
  have c_e_10 := HB_e.out.at_ 10 _ rfl
  have c_e_11 := HB_e.out.at_ 11 _ rfl
  have c_e_12 := HB_e.out.at_ 12 _ rfl
  have lt_x := HB_x.out.lt
  have c_x_0 := HB_x.out.at_ 0 _ rfl
  have c_x_1 := HB_x.out.at_ 1 _ rfl
  have c_x_2 := HB_x.out.at_ 2 _ rfl
  have c_x_3 := HB_x.out.at_ 3 _ rfl
  have c_x_4 := HB_x.out.at_ 4 _ rfl
  have c_x_5 := HB_x.out.at_ 5 _ rfl
  have c_x_6 := HB_x.out.at_ 6 _ rfl
  have c_x_7 := HB_x.out.at_ 7 _ rfl
  have c_x_8 := HB_x.out.at_ 8 _ rfl
  have c_x_9 := HB_x.out.at_ 9 _ rfl
  have c_x_10 := HB_x.out.at_ 10 _ rfl
  have c_x_11 := HB_x.out.at_ 11 _ rfl
  have c_x_12 := HB_x.out.at_ 12 _ rfl
  clear ex ex2 HEX HEX2 hK HKE
  cases xe with
  | false =>
    go_wp2_with fail
    go_ret
    exact ⟨rfl, (HC4.out.al _).bel⟩
  | true =>
    have hy := HY.out rfl
    go_wp2_with fail
    go_ret
    exact ⟨rfl, (HC4.out.al _).bel⟩
theorem walkTopShorter (sd k sv : Int) (ru fm : ByteArray) (en : Bool) (y m q n d s c : Int) (_hk : (Lit.int .u8 k).wf = true) (hc : (Lit.int .u8 c).wf = true) (h3 : ru.size ≤ maxLen) (h4 : fm.size ≤ maxLen) (nn : Int) (hn : (Lit.int .u8 nn).wf = true) (w : World) (hE : Env w) (hM : Marks w) :
    Calls Tryz.prog 6 #[.agg #[.int .i64 sd, .int .u8 k, .int .i64 sv, .string ru, .string fm, .bool en, .int .i64 y, .int .i64 m, .int .u8 q, .int .i64 n, .int .i64 d, .int .i64 s, .int .u8 c], .int .u8 nn] w fun e w' => e = .returned (.bool true) ∧ Below w.heap.size w w' := by
  have hE : Ev w := ⟨hE, hM⟩
  unfold maxLen at h3 h4
  have c0 : 0 ≤ c := by have := bounds_u8 hc; omega
  have hnb := bounds_u8 hn
  obtain ⟨K, hK⟩ : ∃ K : Nat, 3 + nn % 5 = (K : Int) := ⟨(3 + nn % 5).toNat, by omega⟩
  cases he : El.right ⟨sd, k, sv, ru, fm, en, ⟨y, m, q, n, d, s, c⟩⟩ with
  | false => exact tshort_wrong sd k sv ru fm en y m q n d s c nn (by omega) (by omega) (by omega) (by omega) (Lib.hid he) w (Lib.hid hE)
  | true =>
    obtain ⟨LU, NU, hLU⟩ := etx_of he c0
    by_cases hKN : NU < K
    · exact tshort_few sd k sv ru fm en y m q n d s c nn (by omega) (by omega) (by omega) (by omega) c0 LU NU (Lib.hid he) (Lib.hid hLU) K hK (by omega) hKN w (Lib.hid hE)
    · obtain ⟨x, hx, h1, h2, hen, hy⟩ := era_first he c0 K (by omega) (by rw [hLU.num]; omega)
      obtain ⟨v, i, z, hp⟩ : ∃ v i z, Rl.prs LU = (v, i, z) := ⟨_, _, _, rfl⟩
      have hok := rprs_ok LU
      rw [hp] at hok
      have hz : z ≠ 0 := fun h0 => by
        have h9 := (hok.1 h0).2.2.2
        have := hLU.len
        have := hLU.most
        omega
      have hp : Rl.prs LU = (Ru.zero, i, z) := hp.trans (congrArg (fun r : Ru => (r, i, z)) (hok.2 hz).1)
      rw [hLU.texts] at hx
      obtain ⟨xd, xk, xv, xr, xf, xe, ⟨xy, xm, xq, xn, xw, xs, xc⟩⟩ := x
      simp only at h1 h2 hen hy
      subst h1 h2
      exact tshort_some xd k sv ru xf en y m q n d s c nn (by omega) (by omega) (by omega) (by omega) c0 LU NU (Lib.hid he) (Lib.hid hLU) K hK (by omega) xk xv xr xe xy xm xq xn xw xs xc (fun h => by rw [beq_iff_eq]; exact hy h) (by omega) hen.symm (Lib.hid hx) i z hz (Lib.hid hp) w (Lib.hid hE)
end Go.Proofs.YtigmbkcjmlpfoaaGreatDoor
