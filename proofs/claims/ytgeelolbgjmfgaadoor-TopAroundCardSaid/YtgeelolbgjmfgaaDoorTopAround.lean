/- The walk of stage 3's theorem TopAround. -/
import Derived.Test.YtgeelolbgjmfgaaDoorAround
import Derived.Test.YtgeelolbgjmfgaaDoorTopLast
import Derived.OpenShut
namespace Go.Proofs.YtgeelolbgjmfgaaDoor
open Go.RowKit
theorem dtext_at (k n d : Int) (S : ByteArray) (w : World) (h : Dy.right k n d = true) (hS : Dy.txt k n d = S) : Calls Tryd.prog 7 #[.agg #[.int .u8 k, .int .i64 n, .int .i64 d]] w fun e w' => e = .returned (.tuple #[.string S, .int .i64 0]) ∧ Below w.heap.size w w' := by
  subst hS
  exact dtext_yes k n d w h
theorem wtext_at (d : Int) (F : ByteArray) (w : World) (h1 : 0 ≤ d) (h2 : d ≤ 6) (hF : Wd.three Wd.week d.toNat = F) : Calls Tryd.prog 16 #[.int .i64 d] w fun e w' => e = .returned (.string F) ∧ Below w.heap.size w w' := by
  subst hF
  exact wtext_d d w h1 h2
theorem prsE_form {o : Option (Int × Int × Int)} {e : Ending} (h : PrsE o e) : ∃ p q r z : Int, e = .returned (.tuple #[.agg #[.int .u8 p, .int .i64 q, .int .i64 r], .int .i64 z]) := by
  rcases h with ⟨k, n, d, _, _, rfl⟩ | ⟨_, rfl⟩
  · exact ⟨_, _, _, _, rfl⟩
  · exact ⟨_, _, _, _, rfl⟩
/-- What the main way rests on. -/
structure Arnd (n dow y m v L : Int) (S F : ByteArray) : Prop where
  y1 : 1 ≤ y
  y2 : y ≤ 9999
  m1 : 1 ≤ m
  m2 : m ≤ 12
  len : Cal.len y m = L
  right2 : Dy.right 2 n dow = true
  right3 : Dy.right 3 (n + 6) dow = true
  at2 : Dy.at_ 2 n dow y m = v
  at3 : Dy.at_ 3 (n + 6) dow y m = v
  txt : Dy.txt 2 n dow = S
  front : Wd.three Wd.week dow.toNat = F
set_option maxRecDepth 100000 in
set_option maxHeartbeats 4000000 in
theorem around_main (n dow y m v L k : Int) (T S F : ByteArray) (hT : T.size ≤ 100) (w : World) (HM : Hid (Mx w)) (HA : Hid (Arnd n dow y m v L S F)) (v1 : -719162 ≤ v) (v2 : v ≤ 2932896) (L1 : 28 ≤ L) (L2 : L ≤ 31) (n1 : 1 ≤ n) (n2 : n ≤ L - 6) (d1 : 0 ≤ dow) (d2 : dow ≤ 6)
    (_s1 : S.size ≤ 20) (s2 : F.size ≤ S.size) (t1 : ((S.extract 0 F.size).toList == F.toList) = true) (HK : Hid (Wd.pick T Wd.week = k)) (HZ : Hid ((T ++ S.extract F.size S.size).size ≤ 1000)) (hk : k < 0 ∨ (0 ≤ k ∧ Hid (Dy.prs (T ++ S.extract F.size S.size) = some (2, n, k)))) (q1 : ¬ 9223372036854775807 < T.size + (S.size - F.size)) :
    Calls Tryd.prog 5 #[.int .i64 n, .int .i64 dow, .int .i64 y, .int .i64 m, .string T] w fun e w' => e = .returned (.bool true) ∧ Below w.heap.size w w' := by
  have g1 : decide (n < 1) = false := by simp; omega
  have g2 : decide (L - 6 < n) = false := by simp; omega
  have g3 : decide (dow < 0) = false := by simp; omega
  have g4 : decide (6 < dow) = false := by simp; omega
  have g5 : decide (S.size < F.size) = false := by simp; omega
  go_enter Tryd.func5, Tryd.ntmps5
  go_wp2_with fail
  refine (begins3_any _).mono ?_
  rintro e w1 ⟨rfl, a1⟩
  go_wp2_with fail
  refine (length_is y m L _ HA.out.y1 HA.out.y2 HA.out.m1 HA.out.m2 HA.out.len).mono ?_
  rintro e w' ⟨rfl, rfl⟩
  go_wp2_with fail
  refine (din_yes 2 n dow y m v _ HA.out.right2 HA.out.y1 HA.out.y2 HA.out.m1 HA.out.m2 (by have := HA.out.len; omega) (Lib.hid HA.out.at2) v1 v2).mono ?_
  rintro e w2 ⟨rfl, b2⟩
  have a2 := a1.trans (b2.mono a1.size)
  go_wp2_with fail
  refine (din_yes 3 (n + 6) dow y m v _ HA.out.right3 HA.out.y1 HA.out.y2 HA.out.m1 HA.out.m2 (by have := HA.out.len; omega) (Lib.hid HA.out.at3) v1 v2).mono ?_
  rintro e w3 ⟨rfl, b3⟩
  have a3 := a2.trans (b3.mono a2.size)
  go_wp2_with fail
  refine (dtext_at 2 n dow S _ HA.out.right2 HA.out.txt).mono ?_
  rintro e w4 ⟨rfl, b4⟩
  have a4 := a3.trans (b4.mono a3.size)
  go_wp2_with fail
  refine (wtext_at dow F _ d1 d2 HA.out.front).mono ?_
  rintro e w5 ⟨rfl, b5⟩
  have a5 := a4.trans (b5.mono a4.size)
  go_wp2_with fail
  refine (weekday_is T k _ (by omega) HK.out).mono ?_
  rintro e w6 ⟨rfl, b6⟩
  have a6 := a5.trans (b6.mono a5.size)
  clear b2 b3 b4 b5 b6 a1 a2 a3 a4 a5
  go_wp2_with fail
  rcases hk with hk | ⟨hk, HP⟩
  · refine (dparse_any _ _ (HM.out.below a6) (by have := HZ.out; omega)).mono ?_
    rintro e w7 ⟨hE, b7⟩
    obtain ⟨p, q, r, z, rfl⟩ := prsE_form hE
    have a7 := a6.trans (b7.mono a6.size)
    have z7 := a7.size
    clear hE b7
    go_wp2_with fail
    go_ret
    refine ⟨rfl, ?_⟩
    repeat (first | exact Below.refl _ _ | assumption | refine below_drewN ?_ _ | refine Below.drew ?_ | refine Below.setCell ?_ (by first | omega | (simp; done) | (simp; omega)) _ | refine Below.alloc ?_ (by first | omega | (simp; done) | (simp; omega)) _)
  · refine (dparse_yes _ 2 n k _ (HM.out.below a6) (by have := HZ.out; omega) HP.out).mono ?_
    rintro e w7 ⟨rfl, b7⟩
    have a7 := a6.trans (b7.mono a6.size)
    have z7 := a7.size
    clear b7
    go_wp2_with fail
    go_ret
    refine ⟨rfl, ?_⟩
    repeat (first | exact Below.refl _ _ | assumption | refine below_drewN ?_ _ | refine Below.drew ?_ | refine Below.setCell ?_ (by first | omega | (simp; done) | (simp; omega)) _ | refine Below.alloc ?_ (by first | omega | (simp; done) | (simp; omega)) _)
set_option maxRecDepth 100000 in
set_option maxHeartbeats 1000000 in
theorem around_long (n dow y m : Int) (T : ByteArray) (hT : T.size ≤ 9223372036854775807) (h : 100 < T.size) (w : World) :
    Calls Tryd.prog 5 #[.int .i64 n, .int .i64 dow, .int .i64 y, .int .i64 m, .string T] w fun e w' => e = .returned (.bool true) ∧ Below w.heap.size w w' := by
  go_enter Tryd.func5, Tryd.ntmps5
  go_wp2_with fail
  refine (begins3_any _).mono ?_
  rintro e w1 ⟨rfl, a1⟩
  go_wp2_with fail
  go_ret
  exact ⟨rfl, a1⟩
set_option maxRecDepth 100000 in
set_option maxHeartbeats 1000000 in
theorem around_none (n dow y m : Int) (T : ByteArray) (hT : T.size ≤ 100) (w : World) (h : Hid (¬ (1 ≤ y ∧ y ≤ 9999 ∧ 1 ≤ m ∧ m ≤ 12))) :
    Calls Tryd.prog 5 #[.int .i64 n, .int .i64 dow, .int .i64 y, .int .i64 m, .string T] w fun e w' => e = .returned (.bool true) ∧ Below w.heap.size w w' := by
  go_enter Tryd.func5, Tryd.ntmps5
  go_wp2_with fail
  refine (begins3_any _).mono ?_
  rintro e w1 ⟨rfl, a1⟩
  go_wp2_with fail
  refine (length_no y m _ h.out).mono ?_
  rintro e w' ⟨rfl, rfl⟩
  go_wp2_with fail
  go_ret
  exact ⟨rfl, a1⟩
set_option maxRecDepth 100000 in
set_option maxHeartbeats 2000000 in
theorem around_beside (n dow y m L : Int) (T : ByteArray) (hT : T.size ≤ 100) (w : World) (y1 : 1 ≤ y) (y2 : y ≤ 9999) (m1 : 1 ≤ m) (m2 : m ≤ 12) (HL : Hid (Cal.len y m = L)) (L1 : 28 ≤ L) (L2 : L ≤ 31) (h : Hid (n < 1 ∨ L - 6 < n ∨ dow < 0 ∨ 6 < dow)) :
    Calls Tryd.prog 5 #[.int .i64 n, .int .i64 dow, .int .i64 y, .int .i64 m, .string T] w fun e w' => e = .returned (.bool true) ∧ Below w.heap.size w w' := by
  have hh := h.out
  rcases hh with g | g | g | g
  · have g1 : decide (n < 1) = true := by simp; omega
    clear g
    go_enter Tryd.func5, Tryd.ntmps5
    go_wp2_with fail
    refine (begins3_any _).mono ?_
    rintro e w1 ⟨rfl, a1⟩
    go_wp2_with fail
    refine (length_is y m L _ y1 y2 m1 m2 HL.out).mono ?_
    rintro e w' ⟨rfl, rfl⟩
    go_wp2_with fail
    go_ret
    exact ⟨rfl, a1⟩
  · have g1 : decide (n < 1) = false := by simp; omega
    have g2 : decide (L - 6 < n) = true := by simp; omega
    clear g
    go_enter Tryd.func5, Tryd.ntmps5
    go_wp2_with fail
    refine (begins3_any _).mono ?_
    rintro e w1 ⟨rfl, a1⟩
    go_wp2_with fail
    refine (length_is y m L _ y1 y2 m1 m2 HL.out).mono ?_
    rintro e w' ⟨rfl, rfl⟩
    go_wp2_with fail
    go_ret
    exact ⟨rfl, a1⟩
  all_goals
    by_cases g1 : n < 1 ∨ L - 6 < n
    · rcases g1 with g1 | g1
      · have t1 : decide (n < 1) = true := by simp; omega
        clear g g1
        go_enter Tryd.func5, Tryd.ntmps5
        go_wp2_with fail
        refine (begins3_any _).mono ?_
        rintro e w1 ⟨rfl, a1⟩
        go_wp2_with fail
        refine (length_is y m L _ y1 y2 m1 m2 HL.out).mono ?_
        rintro e w' ⟨rfl, rfl⟩
        go_wp2_with fail
        go_ret
        exact ⟨rfl, a1⟩
      · have t1 : decide (n < 1) = false := by simp; omega
        have t2 : decide (L - 6 < n) = true := by simp; omega
        clear g g1
        go_enter Tryd.func5, Tryd.ntmps5
        go_wp2_with fail
        refine (begins3_any _).mono ?_
        rintro e w1 ⟨rfl, a1⟩
        go_wp2_with fail
        refine (length_is y m L _ y1 y2 m1 m2 HL.out).mono ?_
        rintro e w' ⟨rfl, rfl⟩
        go_wp2_with fail
        go_ret
        exact ⟨rfl, a1⟩
    · have t1 : decide (n < 1) = false := by simp; omega
      have t2 : decide (L - 6 < n) = false := by simp; omega
      first
        | have t3 : decide (dow < 0) = true := by simp; omega
        | have t3 : decide (dow < 0) = false := by simp; omega
      first
        | have t4 : decide (6 < dow) = true := by simp; omega
        | have t4 : decide (6 < dow) = false := by simp; omega
      clear g g1
      go_enter Tryd.func5, Tryd.ntmps5
      go_wp2_with fail
      refine (begins3_any _).mono ?_
      rintro e w1 ⟨rfl, a1⟩
      go_wp2_with fail
      refine (length_is y m L _ y1 y2 m1 m2 HL.out).mono ?_
      rintro e w' ⟨rfl, rfl⟩
      go_wp2_with fail
      go_ret
      exact ⟨rfl, a1⟩
theorem topAround_any (n dow y m : Int) (T : ByteArray) (hT : T.size ≤ 9223372036854775807) (w : World) (hM : Mx w) :
    Calls Tryd.prog 5 #[.int .i64 n, .int .i64 dow, .int .i64 y, .int .i64 m, .string T] w fun e w' => e = .returned (.bool true) ∧ Below w.heap.size w w' := by
  by_cases h1 : 100 < T.size
  · exact around_long n dow y m T hT h1 w
  · by_cases hm : 1 ≤ y ∧ y ≤ 9999 ∧ 1 ≤ m ∧ m ≤ 12
    · obtain ⟨y1, y2, m1, m2⟩ := hm
      have hl := Cal.len_bd y m
      by_cases hb : n < 1 ∨ Cal.len y m - 6 < n ∨ dow < 0 ∨ 6 < dow
      · exact around_beside n dow y m _ T (by omega) w y1 y2 m1 m2 (Lib.hid rfl) hl.1 hl.2 (Lib.hid hb)
      · have d1 : 0 ≤ dow := by omega
        have d2 : dow ≤ 6 := by omega
        have hu := dupto_bd (Cal.num y m 1 + n + 5) dow
        have e2 : Dy.at_ 2 n dow y m = Dy.upto (Cal.num y m 1 + n + 5) dow := rfl
        have e3 : Dy.at_ 3 (n + 6) dow y m = Dy.at_ 2 n dow y m := by
          show Dy.upto (Cal.num y m 1 + (n + 6) - 1) dow = Dy.upto (Cal.num y m 1 + n + 5) dow
          congr 1
          omega
        have r1 := Cal.num_range y m 1 (valid_one y1 y2 m1 m2)
        have r2 := Cal.num_range y m (Cal.len y m) ⟨y1, y2, m1, m2, by omega, Int.le_refl _⟩
        have hsh : Cal.num y m (Cal.len y m) = Cal.num y m 1 + Cal.len y m - 1 := by unfold Cal.num; omega
        rw [← e2] at hu
        have hR := from_right n dow (by omega) (by omega) d1 d2
        have hsz := txt_size 2 n dow hR
        have hS := Dy.txt_from n dow
        have hF := three_size dow d1 d2
        obtain ⟨k, hk⟩ : ∃ k, Wd.pick T Wd.week = k := ⟨_, rfl⟩
        have hFS : (Wd.three Wd.week dow.toNat).size ≤ (Dy.txt 2 n dow).size := by rw [hS, ByteArray.size_append]; omega
        have hcut : (Dy.txt 2 n dow).extract (Wd.three Wd.week dow.toNat).size (Dy.txt 2 n dow).size = Dy.rest n := by rw [hS]; exact Dy.drop_app _ _
        have hhead : (Dy.txt 2 n dow).extract 0 (Wd.three Wd.week dow.toNat).size = Wd.three Wd.week dow.toNat := by rw [hS]; exact Dy.take_app _ _
        have hrest : (Dy.rest n).size ≤ 20 := by
          have := hsz
          rw [hS, ByteArray.size_append] at this
          omega
        refine around_main n dow y m _ _ k T _ _ (by omega) w (Lib.hid hM) (Lib.hid ⟨y1, y2, m1, m2, rfl, hR, upto_right (n + 6) dow (by omega) (by omega) d1 d2, rfl, e3, rfl, rfl⟩) (by omega) (by omega) hl.1 hl.2 (by omega) (by omega) d1 d2 hsz hFS (by rw [hhead]; simp) (Lib.hid hk) (Lib.hid (by rw [hcut, ByteArray.size_append]; omega)) ?_ (by omega)
        by_cases h0 : k < 0
        · exact .inl h0
        · exact .inr ⟨by omega, Lib.hid (by rw [hcut]; exact Dy.around (by omega) (by omega) (by omega) hk)⟩
    · exact around_none n dow y m T (by omega) w (Lib.hid hm)
theorem walkTopAround (n : Int) (_ : (Lit.int .i64 n).wf = true) (dow : Int) (_ : (Lit.int .i64 dow).wf = true) (y : Int) (_ : (Lit.int .i64 y).wf = true) (m : Int) (_ : (Lit.int .i64 m).wf = true) (T : ByteArray) (hT : T.size ≤ maxLen) (w : World) (hM : Mx w) :
    Calls Tryd.prog 5 #[.int .i64 n, .int .i64 dow, .int .i64 y, .int .i64 m, .string T] w fun e w' => e = .returned (.bool true) ∧ Below w.heap.size w w' :=
  topAround_any n dow y m T (by unfold maxLen at hT; omega) w hM
end Go.Proofs.YtgeelolbgjmfgaaDoor
