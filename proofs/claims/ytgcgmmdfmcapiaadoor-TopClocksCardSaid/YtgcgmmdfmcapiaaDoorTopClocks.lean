/- The walk of stage 4's theorem TopClocks. -/
import Derived.Test.YtgcgmmdfmcapiaaDoorEnv
import Derived.Test.YtgcgmmdfmcapiaaDoorMo
import Derived.Test.YtgcgmmdfmcapiaaDoorOf4
import Derived.OpenShut
namespace Go.Proofs.YtgcgmmdfmcapiaaDoor
open Go.RowKit
theorem nominal_at (k n d y m s c v N : Int) (w : World) (h : Mo.right s c = true) (hI : Hid (InE k n d y m v 0)) (v1 : -719162 ≤ v) (v2 : v ≤ 2932896) (hN : v * 86400 + s = N) :
    Calls Tryd.prog 13 #[.int .i64 y, .int .i64 m, .agg #[.int .u8 k, .int .i64 n, .int .i64 d], .agg #[.int .i64 s, .int .u8 c]] w fun e w' => e = .returned (.tuple #[.int .i64 N, .int .i64 0]) ∧ Below w.heap.size w w' := by
  subst hN
  exact nominal_yes k n d y m s c v w h hI v1 v2
theorem at_at (d t N : Int) (w : World) (h1 : -719162 ≤ d) (h2 : d ≤ 2932896) (h3 : -604800 ≤ t) (h4 : t ≤ 604800) (hN : d * 86400 + t = N) :
    Calls Tryd.prog 17 #[.int .i64 d, .int .i64 t] w fun e w' => e = .returned (.tuple #[.int .i64 N, .int .i64 0]) ∧ Below w.heap.size w w' := by
  subst hN
  exact at_yes d t w h1 h2 h3 h4
/-- The text of a time is not empty. -/
def TextE (t : Int) (S : ByteArray) : Prop := ∀ w : World, Env w → Calls Tryd.prog 14 #[.int .i64 t] w fun e w' => e = .returned (.string S) ∧ Below w.heap.size w w'
theorem txt_ne (t : Int) : ∃ c l, txt t = c :: l := by
  have h0 : ∀ t, ∃ c l, txt0 t = c :: l := fun t => by
    unfold txt0
    cases Lib.itoa (t / 3600) with
    | nil => exact ⟨_, _, rfl⟩
    | cons a b => exact ⟨_, _, rfl⟩
  unfold txt
  split
  · exact ⟨_, _, rfl⟩
  · exact h0 t
theorem textE (t : Int) (h1 : -604800 ≤ t) (h2 : t ≤ 604800) : ∃ S : ByteArray, TextE t S ∧ ¬ S.toList = [] ∧ (S.toList == []) = false ∧ S.toList.isEmpty = false := by
  obtain ⟨c, l, hc⟩ := txt_ne t
  have e : (⟨(txt t).toArray⟩ : ByteArray).toList = c :: l := by rw [hc, ByteArray.toList_eq]
  refine ⟨⟨(txt t).toArray⟩, fun w hE => text_in t w hE h1 h2, ?_, ?_, ?_⟩
  · rw [e]; exact List.cons_ne_nil _ _
  · rw [e]; rfl
  · rw [e]; rfl
theorem inst_u (n s v : Int) (w : World) (n1 : -1099511627776 ≤ n) (n2 : n ≤ 1099511627776) (s1 : -1099511627776 ≤ s) (s2 : s ≤ 1099511627776) (v1 : -1099511627776 ≤ v) (v2 : v ≤ 1099511627776) :
    Calls Tryd.prog 16 #[.int .i64 n, .int .u8 2, .int .i64 s, .int .i64 v] w fun e w' => e = .returned (.tuple #[.int .i64 n, .int .i64 0]) ∧ w = w' := instant_yes n 2 s v w (by omega) (by omega) n1 n2 s1 s2 v1 v2
theorem inst_s (n s v : Int) (w : World) (n1 : -1099511627776 ≤ n) (n2 : n ≤ 1099511627776) (s1 : -1099511627776 ≤ s) (s2 : s ≤ 1099511627776) (v1 : -1099511627776 ≤ v) (v2 : v ≤ 1099511627776) :
    Calls Tryd.prog 16 #[.int .i64 n, .int .u8 1, .int .i64 s, .int .i64 v] w fun e w' => e = .returned (.tuple #[.int .i64 (n - s), .int .i64 0]) ∧ w = w' := instant_yes n 1 s v w (by omega) (by omega) n1 n2 s1 s2 v1 v2
theorem inst_w (n s v : Int) (w : World) (n1 : -1099511627776 ≤ n) (n2 : n ≤ 1099511627776) (s1 : -1099511627776 ≤ s) (s2 : s ≤ 1099511627776) (v1 : -1099511627776 ≤ v) (v2 : v ≤ 1099511627776) :
    Calls Tryd.prog 16 #[.int .i64 n, .int .u8 0, .int .i64 s, .int .i64 v] w fun e w' => e = .returned (.tuple #[.int .i64 (n - v - s), .int .i64 0]) ∧ w = w' := instant_yes n 0 s v w (by omega) (by omega) n1 n2 s1 s2 v1 v2
/-- What the main way rests on. -/
structure Clk (std east save : Int) (A B C : ByteArray) : Prop where
  a : TextE std A
  b : TextE east B
  c : TextE save C
set_option maxRecDepth 100000 in
set_option maxHeartbeats 2000000 in
theorem clocks_main (y m k n d sec std east save v N : Int) (A B C : ByteArray) (w : World) (hE : Hid (Env w)) (hU : Hid (Units w)) (hr : Hid (Mo.right sec 0 = true)) (hI : Hid (InE k n d y m v 0)) (v1 : -719162 ≤ v) (v2 : v ≤ 2932896) (s1 : -604800 ≤ sec) (s2 : sec ≤ 604800) (hN : Hid (v * 86400 + sec = N)) (n1 : -300000000000 ≤ N) (n2 : N ≤ 300000000000)
    (a1 : -604800 ≤ std) (a2 : std ≤ 604800) (b1 : -604800 ≤ east) (b2 : east ≤ 604800) (c1 : -604800 ≤ save) (c2 : save ≤ 604800) (hT : Hid (Clk std east save A B C)) (ta : A.toList.isEmpty = false) (tb : B.toList.isEmpty = false) (tc : C.toList.isEmpty = false)
    (ua : (A.toList == []) = false) (ub : (B.toList == []) = false) (uc : (C.toList == []) = false) (xa : ¬ A.toList = []) (xb : ¬ B.toList = []) (xc : ¬ C.toList = []) :
    Calls Tryd.prog 4 #[.int .i64 y, .int .i64 m, .agg #[.int .u8 k, .int .i64 n, .int .i64 d], .int .i64 sec, .int .i64 std, .int .i64 east, .int .i64 save] w fun e w' => e = .returned (.bool true) ∧ Below w.heap.size w w' := by
  go_enter Tryd.func4, Tryd.ntmps4
  go_wp2_with fail
  refine (begins4_any _ (Units.below hU.out ((Below.refl _ _).alloc (Nat.le_refl _) _))).mono ?_
  rintro e w1 ⟨rfl, g1⟩
  obtain ⟨hc1, _⟩ := bcell g1
  have z1 : w.heap.size < w1.heap.size := by have := g1.size; simp at this; omega
  have d1 : Below w.heap.size w w1 := ((Below.refl _ _).alloc (Nat.le_refl _) _).trans (g1.mono (by simp))
  clear g1
  go_wp2_with fail
  refine (nominal_at k n d y m sec 0 v N _ hr.out hI v1 v2 hN.out).mono ?_
  rintro e w2 ⟨rfl, g2⟩
  obtain ⟨hc2, _⟩ := bcell g2
  have d2 := d1.trans (g2.mono d1.size)
  have z2 : w.heap.size < w2.heap.size := by have := g2.size; omega
  clear g2
  go_wp2_with fail
  refine (hT.out.a _ (hE.out.below d2)).mono ?_
  rintro e w3 ⟨rfl, g3⟩
  obtain ⟨hc3, _⟩ := bcell g3
  have d3 := d2.trans (g3.mono d2.size)
  have z3 : w.heap.size < w3.heap.size := by have := g3.size; omega
  clear g3
  go_wp2_with fail
  refine (hT.out.b _ (hE.out.below d3)).mono ?_
  rintro e w4 ⟨rfl, g4⟩
  obtain ⟨hc4, _⟩ := bcell g4
  have d4 := d3.trans (g4.mono d3.size)
  have z4 : w.heap.size < w4.heap.size := by have := g4.size; omega
  clear g4
  go_wp2_with fail
  refine (hT.out.c _ (hE.out.below d4)).mono ?_
  rintro e w5 ⟨rfl, g5⟩
  obtain ⟨hc5, _⟩ := bcell g5
  have d5 := d4.trans (g5.mono d4.size)
  have z5 : w.heap.size < w5.heap.size := by have := g5.size; omega
  clear g5
  go_wp2_with fail
  refine (hI.out _).mono ?_
  rintro e w6 ⟨rfl, g6⟩
  obtain ⟨hc6, _⟩ := bcell g6
  have d6 := d5.trans (g6.mono d5.size)
  have z6 : w.heap.size < w6.heap.size := by have := g6.size; omega
  clear g6
  go_wp2_with fail
  refine (inst_u N std save _ (by omega) (by omega) (by omega) (by omega) (by omega) (by omega)).mono ?_
  rintro e w' ⟨rfl, rfl⟩
  go_wp2_with fail
  refine (inst_s N std save _ (by omega) (by omega) (by omega) (by omega) (by omega) (by omega)).mono ?_
  rintro e w' ⟨rfl, rfl⟩
  go_wp2_with fail
  refine (inst_w N std save _ (by omega) (by omega) (by omega) (by omega) (by omega) (by omega)).mono ?_
  rintro e w' ⟨rfl, rfl⟩
  go_wp2_with fail
  refine (inst_s N (std + east) save _ (by omega) (by omega) (by omega) (by omega) (by omega) (by omega)).mono ?_
  rintro e w' ⟨rfl, rfl⟩
  go_wp2_with fail
  refine (inst_u N (std + east) 0 _ (by omega) (by omega) (by omega) (by omega) (by omega) (by omega)).mono ?_
  rintro e w' ⟨rfl, rfl⟩
  go_wp2_with fail
  refine (at_at v sec N _ v1 v2 s1 s2 hN.out).mono ?_
  rintro e w7 ⟨rfl, g7⟩
  have d7 := d6.trans (g7.mono d6.size)
  go_wp2_with fail
  go_ret
  exact ⟨rfl, d7⟩
set_option maxRecDepth 100000 in
set_option maxHeartbeats 2000000 in
/-- Where there is no nominal time. -/
theorem clocks_none (y m k n d sec std east save z : Int) (w : World) (hU : Hid (Units w)) (hz : 1 ≤ z)
    (hN : Hid (∀ W : World, Calls Tryd.prog 13 #[.int .i64 y, .int .i64 m, .agg #[.int .u8 k, .int .i64 n, .int .i64 d], .agg #[.int .i64 sec, .int .u8 0]] W fun e w' => e = .returned (.tuple #[.int .i64 0, .int .i64 z]) ∧ Below W.heap.size W w')) :
    Calls Tryd.prog 4 #[.int .i64 y, .int .i64 m, .agg #[.int .u8 k, .int .i64 n, .int .i64 d], .int .i64 sec, .int .i64 std, .int .i64 east, .int .i64 save] w fun e w' => e = .returned (.bool true) ∧ Below w.heap.size w w' := by
  have t1 : (z != 0) = true := by rw [bne_iff_ne]; omega
  have t2 : (z == 0) = false := by rw [beq_eq_false_iff_ne]; omega
  go_enter Tryd.func4, Tryd.ntmps4
  go_wp2_with fail
  refine (begins4_any _ (Units.below hU.out ((Below.refl _ _).alloc (Nat.le_refl _) _))).mono ?_
  rintro e w1 ⟨rfl, g1⟩
  obtain ⟨hc1, _⟩ := bcell g1
  have z1 : w.heap.size < w1.heap.size := by have := g1.size; simp at this; omega
  have d1 : Below w.heap.size w w1 := ((Below.refl _ _).alloc (Nat.le_refl _) _).trans (g1.mono (by simp))
  clear g1
  go_wp2_with fail
  refine (hN.out _).mono ?_
  rintro e w2 ⟨rfl, g2⟩
  have d2 := d1.trans (g2.mono d1.size)
  go_wp2_with fail
  go_ret
  exact ⟨rfl, d2⟩
set_option maxRecDepth 100000 in
set_option maxHeartbeats 2000000 in
theorem clocks_out_a (y m k n d sec std east save v N : Int) (w : World) (hE : Hid (Env w)) (hU : Hid (Units w)) (hr : Hid (Mo.right sec 0 = true)) (hI : Hid (InE k n d y m v 0)) (v1 : -719162 ≤ v) (v2 : v ≤ 2932896) (hN : Hid (v * 86400 + sec = N)) (hx : Hid (std < -604800 ∨ 604800 < std)) :
    Calls Tryd.prog 4 #[.int .i64 y, .int .i64 m, .agg #[.int .u8 k, .int .i64 n, .int .i64 d], .int .i64 sec, .int .i64 std, .int .i64 east, .int .i64 save] w fun e w' => e = .returned (.bool true) ∧ Below w.heap.size w w' := by
  go_enter Tryd.func4, Tryd.ntmps4
  go_wp2_with fail
  refine (begins4_any _ (Units.below hU.out ((Below.refl _ _).alloc (Nat.le_refl _) _))).mono ?_
  rintro e w1 ⟨rfl, g1⟩
  obtain ⟨hc1, _⟩ := bcell g1
  have z1 : w.heap.size < w1.heap.size := by have := g1.size; simp at this; omega
  have d1 : Below w.heap.size w w1 := ((Below.refl _ _).alloc (Nat.le_refl _) _).trans (g1.mono (by simp))
  clear g1
  go_wp2_with fail
  refine (nominal_at k n d y m sec 0 v N _ hr.out hI v1 v2 hN.out).mono ?_
  rintro e w2 ⟨rfl, g2⟩
  obtain ⟨hc2, _⟩ := bcell g2
  have d2 := d1.trans (g2.mono d1.size)
  have z2 : w.heap.size < w2.heap.size := by have := g2.size; omega
  clear g2
  go_wp2_with fail
  refine (text_out std _ hx.out).mono ?_
  rintro e w3 ⟨rfl, g3⟩
  have d3 := d2.trans (g3.mono d2.size)
  go_wp2_with fail
  go_ret
  exact ⟨rfl, d3⟩
set_option maxRecDepth 100000 in
set_option maxHeartbeats 2000000 in
theorem clocks_out_b (y m k n d sec std east save v N : Int) (A : ByteArray) (w : World) (hE : Hid (Env w)) (hU : Hid (Units w)) (hr : Hid (Mo.right sec 0 = true)) (hI : Hid (InE k n d y m v 0)) (v1 : -719162 ≤ v) (v2 : v ≤ 2932896) (hN : Hid (v * 86400 + sec = N)) (hA : Hid (TextE std A)) (ta : A.toList.isEmpty = false) (ua : (A.toList == []) = false) (xa : ¬ A.toList = []) (hx : Hid (east < -604800 ∨ 604800 < east)) :
    Calls Tryd.prog 4 #[.int .i64 y, .int .i64 m, .agg #[.int .u8 k, .int .i64 n, .int .i64 d], .int .i64 sec, .int .i64 std, .int .i64 east, .int .i64 save] w fun e w' => e = .returned (.bool true) ∧ Below w.heap.size w w' := by
  go_enter Tryd.func4, Tryd.ntmps4
  go_wp2_with fail
  refine (begins4_any _ (Units.below hU.out ((Below.refl _ _).alloc (Nat.le_refl _) _))).mono ?_
  rintro e w1 ⟨rfl, g1⟩
  obtain ⟨hc1, _⟩ := bcell g1
  have z1 : w.heap.size < w1.heap.size := by have := g1.size; simp at this; omega
  have d1 : Below w.heap.size w w1 := ((Below.refl _ _).alloc (Nat.le_refl _) _).trans (g1.mono (by simp))
  clear g1
  go_wp2_with fail
  refine (nominal_at k n d y m sec 0 v N _ hr.out hI v1 v2 hN.out).mono ?_
  rintro e w2 ⟨rfl, g2⟩
  obtain ⟨hc2, _⟩ := bcell g2
  have d2 := d1.trans (g2.mono d1.size)
  have z2 : w.heap.size < w2.heap.size := by have := g2.size; omega
  clear g2
  go_wp2_with fail
  refine (hA.out _ (hE.out.below d2)).mono ?_
  rintro e w3 ⟨rfl, g3⟩
  obtain ⟨hc3, _⟩ := bcell g3
  have d3 := d2.trans (g3.mono d2.size)
  have z3 : w.heap.size < w3.heap.size := by have := g3.size; omega
  clear g3
  go_wp2_with fail
  refine (text_out east _ hx.out).mono ?_
  rintro e w4 ⟨rfl, g4⟩
  have d4 := d3.trans (g4.mono d3.size)
  go_wp2_with fail
  go_ret
  exact ⟨rfl, d4⟩
set_option maxRecDepth 100000 in
set_option maxHeartbeats 2000000 in
theorem clocks_out_c (y m k n d sec std east save v N : Int) (A B : ByteArray) (w : World) (hE : Hid (Env w)) (hU : Hid (Units w)) (hr : Hid (Mo.right sec 0 = true)) (hI : Hid (InE k n d y m v 0)) (v1 : -719162 ≤ v) (v2 : v ≤ 2932896) (hN : Hid (v * 86400 + sec = N)) (hA : Hid (TextE std A)) (ta : A.toList.isEmpty = false) (ua : (A.toList == []) = false) (xa : ¬ A.toList = []) (hB : Hid (TextE east B)) (tb : B.toList.isEmpty = false) (ub : (B.toList == []) = false) (xb : ¬ B.toList = []) (hx : Hid (save < -604800 ∨ 604800 < save)) :
    Calls Tryd.prog 4 #[.int .i64 y, .int .i64 m, .agg #[.int .u8 k, .int .i64 n, .int .i64 d], .int .i64 sec, .int .i64 std, .int .i64 east, .int .i64 save] w fun e w' => e = .returned (.bool true) ∧ Below w.heap.size w w' := by
  go_enter Tryd.func4, Tryd.ntmps4
  go_wp2_with fail
  refine (begins4_any _ (Units.below hU.out ((Below.refl _ _).alloc (Nat.le_refl _) _))).mono ?_
  rintro e w1 ⟨rfl, g1⟩
  obtain ⟨hc1, _⟩ := bcell g1
  have z1 : w.heap.size < w1.heap.size := by have := g1.size; simp at this; omega
  have d1 : Below w.heap.size w w1 := ((Below.refl _ _).alloc (Nat.le_refl _) _).trans (g1.mono (by simp))
  clear g1
  go_wp2_with fail
  refine (nominal_at k n d y m sec 0 v N _ hr.out hI v1 v2 hN.out).mono ?_
  rintro e w2 ⟨rfl, g2⟩
  obtain ⟨hc2, _⟩ := bcell g2
  have d2 := d1.trans (g2.mono d1.size)
  have z2 : w.heap.size < w2.heap.size := by have := g2.size; omega
  clear g2
  go_wp2_with fail
  refine (hA.out _ (hE.out.below d2)).mono ?_
  rintro e w3 ⟨rfl, g3⟩
  obtain ⟨hc3, _⟩ := bcell g3
  have d3 := d2.trans (g3.mono d2.size)
  have z3 : w.heap.size < w3.heap.size := by have := g3.size; omega
  clear g3
  go_wp2_with fail
  refine (hB.out _ (hE.out.below d3)).mono ?_
  rintro e w4 ⟨rfl, g4⟩
  obtain ⟨hc4, _⟩ := bcell g4
  have d4 := d3.trans (g4.mono d3.size)
  have z4 : w.heap.size < w4.heap.size := by have := g4.size; omega
  clear g4
  go_wp2_with fail
  refine (text_out save _ hx.out).mono ?_
  rintro e w5 ⟨rfl, g5⟩
  have d5 := d4.trans (g5.mono d4.size)
  go_wp2_with fail
  go_ret
  exact ⟨rfl, d5⟩
theorem walkTopClocks (y : Int) (_ : (Lit.int .i64 y).wf = true) (m : Int) (_ : (Lit.int .i64 m).wf = true) (k : Int) (_ : (Lit.int .u8 k).wf = true) (n : Int) (_ : (Lit.int .i64 n).wf = true) (d : Int) (_ : (Lit.int .i64 d).wf = true)
    (sec : Int) (_ : (Lit.int .i64 sec).wf = true) (std : Int) (_ : (Lit.int .i64 std).wf = true) (east : Int) (_ : (Lit.int .i64 east).wf = true) (save : Int) (_ : (Lit.int .i64 save).wf = true) (w : World) (hE : Env w) (hU : Units w) :
    Calls Tryd.prog 4 #[.int .i64 y, .int .i64 m, .agg #[.int .u8 k, .int .i64 n, .int .i64 d], .int .i64 sec, .int .i64 std, .int .i64 east, .int .i64 save] w fun e w' => e = .returned (.bool true) ∧ Below w.heap.size w w' := by
  cases hr : Mo.right sec 0 with
  | false => exact clocks_none y m k n d sec std east save 2 w (Lib.hid hU) (by omega) (Lib.hid fun W => nominal_form k n d y m sec 0 W hr)
  | true =>
    have hs := (Mo.right_iff sec 0).1 hr
    have hI := in_all k n d y m
    rcases in_cases k n d y m with ⟨e1, e2, _⟩ | ⟨e1, v1, v2⟩
    · rw [e1] at hI
      exact clocks_none y m k n d sec std east save _ w (Lib.hid hU) e2 (Lib.hid fun W => nominal_in k n d y m sec 0 _ W hr (Lib.hid hI) e2)
    · rw [e1] at hI
      generalize (Mo.inV k n d y m).1 = v at hI v1 v2
      by_cases ha : -604800 ≤ std ∧ std ≤ 604800
      · obtain ⟨A, hA, xa, ua, ta⟩ := textE std ha.1 ha.2
        by_cases hb : -604800 ≤ east ∧ east ≤ 604800
        · obtain ⟨B, hB, xb, ub, tb⟩ := textE east hb.1 hb.2
          by_cases hc : -604800 ≤ save ∧ save ≤ 604800
          · obtain ⟨C, hC, xc, uc, tc⟩ := textE save hc.1 hc.2
            exact clocks_main y m k n d sec std east save v _ A B C w (Lib.hid hE) (Lib.hid hU) (Lib.hid hr) (Lib.hid hI) v1 v2 hs.1 hs.2.1 (Lib.hid rfl) (by omega) (by omega) ha.1 ha.2 hb.1 hb.2 hc.1 hc.2 (Lib.hid ⟨hA, hB, hC⟩) ta tb tc ua ub uc xa xb xc
          · exact clocks_out_c y m k n d sec std east save v _ A B w (Lib.hid hE) (Lib.hid hU) (Lib.hid hr) (Lib.hid hI) v1 v2 (Lib.hid rfl) (Lib.hid hA) ta ua xa (Lib.hid hB) tb ub xb (Lib.hid (by omega))
        · exact clocks_out_b y m k n d sec std east save v _ A w (Lib.hid hE) (Lib.hid hU) (Lib.hid hr) (Lib.hid hI) v1 v2 (Lib.hid rfl) (Lib.hid hA) ta ua xa (Lib.hid (by omega))
      · exact clocks_out_a y m k n d sec std east save v _ w (Lib.hid hE) (Lib.hid hU) (Lib.hid hr) (Lib.hid hI) v1 v2 (Lib.hid rfl) (Lib.hid (by omega))
end Go.Proofs.YtgcgmmdfmcapiaaDoor
