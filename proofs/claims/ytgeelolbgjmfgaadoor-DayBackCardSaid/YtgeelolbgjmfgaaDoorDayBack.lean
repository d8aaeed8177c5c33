/- The walk of layer 6's statement DayBack. -/
import Derived.Test.YtgeelolbgjmfgaaDoorLives06
import Derived.OpenShut
namespace Go.Proofs.YtgeelolbgjmfgaaDoor
open Go.RowKit
set_option maxRecDepth 100000 in
set_option maxHeartbeats 4000000 in
theorem dayBack_right_some (k n d : Int) (s : ByteArray) (hs : s.size ≤ 1000) (w : World) (HM : Hid (Mx w)) (HR : Hid (Dy.right k n d = true)) (HB : Hid (Dy.prs (Dy.txt k n d) = some (k, n, d))) (HS : Hid ((Dy.txt k n d).size ≤ 20)) (p q r : Int) (HP : Hid (Dy.prs s = some (p, q, r))) (HR2 : Hid (Dy.right p q r = true)) (HB2 : Hid (Dy.prs (Dy.txt p q r) = some (p, q, r))) (HS2 : Hid ((Dy.txt p q r).size ≤ 20)) :
    Calls Tryd.prog 3 #[.agg #[.int .u8 k, .int .i64 n, .int .i64 d], .string s] w fun e w' => e = .returned (.bool true) ∧ Below w.heap.size w w' := by
  go_enter Tryd.func3, Tryd.ntmps3
  go_wp2_with fail
  refine (lives06 _ (HM.out.below ((Below.refl _ _).alloc (Nat.le_refl _) _))).mono ?_
  rintro e w1 ⟨rfl, b1⟩
  have a1 : Below w.heap.size w w1 := by
    refine Below.trans ?_ (b1.mono ?_)
    · repeat (first | exact Below.refl _ _ | assumption | refine below_drewN ?_ _ | refine Below.drew ?_ | refine Below.setCell ?_ (by first | omega | (simp; done) | (simp; omega)) _ | refine Below.alloc ?_ (by first | omega | (simp; done) | (simp; omega)) _)
    · simp
  have l1 : w.heap.size < w1.heap.size := by have := b1.size; simp at this; omega
  obtain ⟨hc1, hf1⟩ := bcell b1
  have z1 := a1.size
  go_wp2_with fail
  refine (dtext_yes k n d _ HR.out).mono ?_
  rintro e w2 ⟨rfl, b2⟩
  have a2 := a1.trans (b2.mono a1.size)
  have l2 : w1.heap.size ≤ w2.heap.size := b2.size
  obtain ⟨hc2, hf2⟩ := bcell b2
  have z2 := a2.size
  have l2_w : w.heap.size < w2.heap.size := by omega
  go_wp2_with fail
  refine (dparse_yes (Dy.txt k n d) k n d _ (HM.out.below a2) (by have := HS.out; omega) HB.out).mono ?_
  rintro e w3 ⟨rfl, b3⟩
  have a3 := a2.trans (b3.mono a2.size)
  have l3 : w2.heap.size ≤ w3.heap.size := b3.size
  obtain ⟨hc3, hf3⟩ := bcell b3
  have z3 := a3.size
  have l3_w : w.heap.size < w3.heap.size := by omega
  go_wp2_with fail
  refine (dparse_yes s p q r _ (HM.out.below (by repeat (first | exact Below.refl _ _ | assumption | refine below_drewN ?_ _ | refine Below.drew ?_ | refine Below.setCell ?_ (by first | omega | (simp; done) | (simp; omega)) _ | refine Below.alloc ?_ (by first | omega | (simp; done) | (simp; omega)) _))) (by omega) HP.out).mono ?_
  rintro e w4 ⟨rfl, b4⟩
  have a4 : Below w.heap.size w w4 := by
    refine Below.trans ?_ (b4.mono ?_)
    · repeat (first | exact Below.refl _ _ | assumption | refine below_drewN ?_ _ | refine Below.drew ?_ | refine Below.setCell ?_ (by first | omega | (simp; done) | (simp; omega)) _ | refine Below.alloc ?_ (by first | omega | (simp; done) | (simp; omega)) _)
    · simp; omega
  have l4 : w3.heap.size < w4.heap.size := by have := b4.size; simp at this; omega
  obtain ⟨hc4, hf4⟩ := bcell b4
  have z4 := a4.size
  have l4_w : w.heap.size < w4.heap.size := by omega
  go_wp2_with fail
  refine (dtext_yes p q r _ HR2.out).mono ?_
  rintro e w5 ⟨rfl, b5⟩
  have a5 : Below w.heap.size w w5 := by
    refine Below.trans ?_ (b5.mono ?_)
    · repeat (first | exact Below.refl _ _ | assumption | refine below_drewN ?_ _ | refine Below.drew ?_ | refine Below.setCell ?_ (by first | omega | (simp; done) | (simp; omega)) _ | refine Below.alloc ?_ (by first | omega | (simp; done) | (simp; omega)) _)
    · simp; omega
  have l5 : w4.heap.size < w5.heap.size := by have := b5.size; simp at this; omega
  obtain ⟨hc5, hf5⟩ := bcell b5
  have z5 := a5.size
  have l5_w : w.heap.size < w5.heap.size := by omega
  have l5_w3 : w3.heap.size < w5.heap.size := by omega
  go_wp2_with fail
  refine (dparse_yes (Dy.txt p q r) p q r _ (HM.out.below a5) (by have := HS2.out; omega) HB2.out).mono ?_
  rintro e w6 ⟨rfl, b6⟩
  have a6 := a5.trans (b6.mono a5.size)
  have l6 : w5.heap.size ≤ w6.heap.size := b6.size
  obtain ⟨hc6, hf6⟩ := bcell b6
  have z6 := a6.size
  have l6_w : w.heap.size < w6.heap.size := by omega
  have l6_w3 : w3.heap.size < w6.heap.size := by omega
  have l6_w4 : w4.heap.size < w6.heap.size := by omega
  go_wp2_with fail
  refine (dcheck_yes p q r _ HR2.out).mono ?_
  rintro e w7 ⟨rfl, b7⟩
  have a7 : Below w.heap.size w w7 := by
    refine Below.trans ?_ (b7.mono ?_)
    · repeat (first | exact Below.refl _ _ | assumption | refine below_drewN ?_ _ | refine Below.drew ?_ | refine Below.setCell ?_ (by first | omega | (simp; done) | (simp; omega)) _ | refine Below.alloc ?_ (by first | omega | (simp; done) | (simp; omega)) _)
    · simp; omega
  have l7 : w6.heap.size < w7.heap.size := by have := b7.size; simp at this; omega
  obtain ⟨hc7, hf7⟩ := bcell b7
  have z7 := a7.size
  have l7_w : w.heap.size < w7.heap.size := by omega
  have l7_w3 : w3.heap.size < w7.heap.size := by omega
  have l7_w4 : w4.heap.size < w7.heap.size := by omega
  go_wp2_with fail
  go_ret
  exact ⟨rfl, a7⟩
set_option maxRecDepth 100000 in
set_option maxHeartbeats 4000000 in
theorem dayBack_right_none (k n d : Int) (s : ByteArray) (hs : s.size ≤ 1000) (w : World) (HM : Hid (Mx w)) (HR : Hid (Dy.right k n d = true)) (HB : Hid (Dy.prs (Dy.txt k n d) = some (k, n, d))) (HS : Hid ((Dy.txt k n d).size ≤ 20)) (HP : Hid (Dy.prs s = none)) :
    Calls Tryd.prog 3 #[.agg #[.int .u8 k, .int .i64 n, .int .i64 d], .string s] w fun e w' => e = .returned (.bool true) ∧ Below w.heap.size w w' := by
  go_enter Tryd.func3, Tryd.ntmps3
  go_wp2_with fail
  refine (lives06 _ (HM.out.below ((Below.refl _ _).alloc (Nat.le_refl _) _))).mono ?_
  rintro e w1 ⟨rfl, b1⟩
  have a1 : Below w.heap.size w w1 := by
    refine Below.trans ?_ (b1.mono ?_)
    · repeat (first | exact Below.refl _ _ | assumption | refine below_drewN ?_ _ | refine Below.drew ?_ | refine Below.setCell ?_ (by first | omega | (simp; done) | (simp; omega)) _ | refine Below.alloc ?_ (by first | omega | (simp; done) | (simp; omega)) _)
    · simp
  have l1 : w.heap.size < w1.heap.size := by have := b1.size; simp at this; omega
  obtain ⟨hc1, hf1⟩ := bcell b1
  have z1 := a1.size
  go_wp2_with fail
  refine (dtext_yes k n d _ HR.out).mono ?_
  rintro e w2 ⟨rfl, b2⟩
  have a2 := a1.trans (b2.mono a1.size)
  have l2 : w1.heap.size ≤ w2.heap.size := b2.size
  obtain ⟨hc2, hf2⟩ := bcell b2
  have z2 := a2.size
  have l2_w : w.heap.size < w2.heap.size := by omega
  go_wp2_with fail
  refine (dparse_yes (Dy.txt k n d) k n d _ (HM.out.below a2) (by have := HS.out; omega) HB.out).mono ?_
  rintro e w3 ⟨rfl, b3⟩
  have a3 := a2.trans (b3.mono a2.size)
  have l3 : w2.heap.size ≤ w3.heap.size := b3.size
  obtain ⟨hc3, hf3⟩ := bcell b3
  have z3 := a3.size
  have l3_w : w.heap.size < w3.heap.size := by omega
  go_wp2_with fail
  refine (dparse_no s _ (HM.out.below (by repeat (first | exact Below.refl _ _ | assumption | refine below_drewN ?_ _ | refine Below.drew ?_ | refine Below.setCell ?_ (by first | omega | (simp; done) | (simp; omega)) _ | refine Below.alloc ?_ (by first | omega | (simp; done) | (simp; omega)) _))) (by omega) HP.out).mono ?_
  rintro e w4 ⟨rfl, b4⟩
  have a4 : Below w.heap.size w w4 := by
    refine Below.trans ?_ (b4.mono ?_)
    · repeat (first | exact Below.refl _ _ | assumption | refine below_drewN ?_ _ | refine Below.drew ?_ | refine Below.setCell ?_ (by first | omega | (simp; done) | (simp; omega)) _ | refine Below.alloc ?_ (by first | omega | (simp; done) | (simp; omega)) _)
    · simp; omega
  have l4 : w3.heap.size < w4.heap.size := by have := b4.size; simp at this; omega
  obtain ⟨hc4, hf4⟩ := bcell b4
  have z4 := a4.size
  have l4_w : w.heap.size < w4.heap.size := by omega
  go_wp2_with fail
  refine (dcheck_yes k n d _ HR.out).mono ?_
  rintro e w5 ⟨rfl, b5⟩
  have a5 : Below w.heap.size w w5 := by
    refine Below.trans ?_ (b5.mono ?_)
    · repeat (first | exact Below.refl _ _ | assumption | refine below_drewN ?_ _ | refine Below.drew ?_ | refine Below.setCell ?_ (by first | omega | (simp; done) | (simp; omega)) _ | refine Below.alloc ?_ (by first | omega | (simp; done) | (simp; omega)) _)
    · simp; omega
  have l5 : w4.heap.size < w5.heap.size := by have := b5.size; simp at this; omega
  obtain ⟨hc5, hf5⟩ := bcell b5
  have z5 := a5.size
  have l5_w : w.heap.size < w5.heap.size := by omega
  have l5_w3 : w3.heap.size < w5.heap.size := by omega
  go_wp2_with fail
  go_ret
  exact ⟨rfl, a5⟩
set_option maxRecDepth 100000 in
set_option maxHeartbeats 4000000 in
theorem dayBack_wrong_some (k n d : Int) (s : ByteArray) (hs : s.size ≤ 1000) (w : World) (HM : Hid (Mx w)) (HR : Hid (Dy.right k n d = false)) (p q r : Int) (HP : Hid (Dy.prs s = some (p, q, r))) (HR2 : Hid (Dy.right p q r = true)) (HB2 : Hid (Dy.prs (Dy.txt p q r) = some (p, q, r))) (HS2 : Hid ((Dy.txt p q r).size ≤ 20)) :
    Calls Tryd.prog 3 #[.agg #[.int .u8 k, .int .i64 n, .int .i64 d], .string s] w fun e w' => e = .returned (.bool true) ∧ Below w.heap.size w w' := by
  go_enter Tryd.func3, Tryd.ntmps3
  go_wp2_with fail
  refine (lives06 _ (HM.out.below ((Below.refl _ _).alloc (Nat.le_refl _) _))).mono ?_
  rintro e w1 ⟨rfl, b1⟩
  have a1 : Below w.heap.size w w1 := by
    refine Below.trans ?_ (b1.mono ?_)
    · repeat (first | exact Below.refl _ _ | assumption | refine below_drewN ?_ _ | refine Below.drew ?_ | refine Below.setCell ?_ (by first | omega | (simp; done) | (simp; omega)) _ | refine Below.alloc ?_ (by first | omega | (simp; done) | (simp; omega)) _)
    · simp
  have l1 : w.heap.size < w1.heap.size := by have := b1.size; simp at this; omega
  obtain ⟨hc1, hf1⟩ := bcell b1
  have z1 := a1.size
  go_wp2_with fail
  refine (dtext_no k n d _ HR.out).mono ?_
  rintro e w2 ⟨rfl, b2⟩
  have a2 := a1.trans (b2.mono a1.size)
  have l2 : w1.heap.size ≤ w2.heap.size := b2.size
  obtain ⟨hc2, hf2⟩ := bcell b2
  have z2 := a2.size
  have l2_w : w.heap.size < w2.heap.size := by omega
  go_wp2_with fail
  refine (dparse_yes s p q r _ (HM.out.below a2) (by omega) HP.out).mono ?_
  rintro e w3 ⟨rfl, b3⟩
  have a3 := a2.trans (b3.mono a2.size)
  have l3 : w2.heap.size ≤ w3.heap.size := b3.size
  obtain ⟨hc3, hf3⟩ := bcell b3
  have z3 := a3.size
  have l3_w : w.heap.size < w3.heap.size := by omega
  go_wp2_with fail
  refine (dtext_yes p q r _ HR2.out).mono ?_
  rintro e w4 ⟨rfl, b4⟩
  have a4 : Below w.heap.size w w4 := by
    refine Below.trans ?_ (b4.mono ?_)
    · repeat (first | exact Below.refl _ _ | assumption | refine below_drewN ?_ _ | refine Below.drew ?_ | refine Below.setCell ?_ (by first | omega | (simp; done) | (simp; omega)) _ | refine Below.alloc ?_ (by first | omega | (simp; done) | (simp; omega)) _)
    · simp; omega
  have l4 : w3.heap.size < w4.heap.size := by have := b4.size; simp at this; omega
  obtain ⟨hc4, hf4⟩ := bcell b4
  have z4 := a4.size
  have l4_w : w.heap.size < w4.heap.size := by omega
  go_wp2_with fail
  refine (dparse_yes (Dy.txt p q r) p q r _ (HM.out.below a4) (by have := HS2.out; omega) HB2.out).mono ?_
  rintro e w5 ⟨rfl, b5⟩
  have a5 := a4.trans (b5.mono a4.size)
  have l5 : w4.heap.size ≤ w5.heap.size := b5.size
  obtain ⟨hc5, hf5⟩ := bcell b5
  have z5 := a5.size
  have l5_w : w.heap.size < w5.heap.size := by omega
  have l5_w3 : w3.heap.size < w5.heap.size := by omega
  go_wp2_with fail
  refine (dcheck_yes p q r _ HR2.out).mono ?_
  rintro e w6 ⟨rfl, b6⟩
  have a6 : Below w.heap.size w w6 := by
    refine Below.trans ?_ (b6.mono ?_)
    · repeat (first | exact Below.refl _ _ | assumption | refine below_drewN ?_ _ | refine Below.drew ?_ | refine Below.setCell ?_ (by first | omega | (simp; done) | (simp; omega)) _ | refine Below.alloc ?_ (by first | omega | (simp; done) | (simp; omega)) _)
    · simp; omega
  have l6 : w5.heap.size < w6.heap.size := by have := b6.size; simp at this; omega
  obtain ⟨hc6, hf6⟩ := bcell b6
  have z6 := a6.size
  have l6_w : w.heap.size < w6.heap.size := by omega
  have l6_w3 : w3.heap.size < w6.heap.size := by omega
  go_wp2_with fail
  go_ret
  exact ⟨rfl, a6⟩
set_option maxRecDepth 100000 in
set_option maxHeartbeats 4000000 in
theorem dayBack_wrong_none (k n d : Int) (s : ByteArray) (hs : s.size ≤ 1000) (w : World) (HM : Hid (Mx w)) (HR : Hid (Dy.right k n d = false)) (HP : Hid (Dy.prs s = none)) :
    Calls Tryd.prog 3 #[.agg #[.int .u8 k, .int .i64 n, .int .i64 d], .string s] w fun e w' => e = .returned (.bool true) ∧ Below w.heap.size w w' := by
  go_enter Tryd.func3, Tryd.ntmps3
  go_wp2_with fail
  refine (lives06 _ (HM.out.below ((Below.refl _ _).alloc (Nat.le_refl _) _))).mono ?_
  rintro e w1 ⟨rfl, b1⟩
  have a1 : Below w.heap.size w w1 := by
    refine Below.trans ?_ (b1.mono ?_)
    · repeat (first | exact Below.refl _ _ | assumption | refine below_drewN ?_ _ | refine Below.drew ?_ | refine Below.setCell ?_ (by first | omega | (simp; done) | (simp; omega)) _ | refine Below.alloc ?_ (by first | omega | (simp; done) | (simp; omega)) _)
    · simp
  have l1 : w.heap.size < w1.heap.size := by have := b1.size; simp at this; omega
  obtain ⟨hc1, hf1⟩ := bcell b1
  have z1 := a1.size
  go_wp2_with fail
  refine (dtext_no k n d _ HR.out).mono ?_
  rintro e w2 ⟨rfl, b2⟩
  have a2 := a1.trans (b2.mono a1.size)
  have l2 : w1.heap.size ≤ w2.heap.size := b2.size
  obtain ⟨hc2, hf2⟩ := bcell b2
  have z2 := a2.size
  have l2_w : w.heap.size < w2.heap.size := by omega
  go_wp2_with fail
  refine (dparse_no s _ (HM.out.below a2) (by omega) HP.out).mono ?_
  rintro e w3 ⟨rfl, b3⟩
  have a3 := a2.trans (b3.mono a2.size)
  have l3 : w2.heap.size ≤ w3.heap.size := b3.size
  obtain ⟨hc3, hf3⟩ := bcell b3
  have z3 := a3.size
  have l3_w : w.heap.size < w3.heap.size := by omega
  go_wp2_with fail
  refine (dcheck_no k n d _ HR.out).mono ?_
  rintro e w4 ⟨rfl, b4⟩
  have a4 : Below w.heap.size w w4 := by
    refine Below.trans ?_ (b4.mono ?_)
    · repeat (first | exact Below.refl _ _ | assumption | refine below_drewN ?_ _ | refine Below.drew ?_ | refine Below.setCell ?_ (by first | omega | (simp; done) | (simp; omega)) _ | refine Below.alloc ?_ (by first | omega | (simp; done) | (simp; omega)) _)
    · simp; omega
  have l4 : w3.heap.size < w4.heap.size := by have := b4.size; simp at this; omega
  obtain ⟨hc4, hf4⟩ := bcell b4
  have z4 := a4.size
  have l4_w : w.heap.size < w4.heap.size := by omega
  go_wp2_with fail
  go_ret
  exact ⟨rfl, a4⟩
theorem dayBack_any (k n d : Int) (s : ByteArray) (hs : s.size ≤ 9223372036854775807) (w : World) (hM : Mx w) :
    Calls Tryd.prog 3 #[.agg #[.int .u8 k, .int .i64 n, .int .i64 d], .string s] w fun e w' => e = .returned (.bool true) ∧ Below w.heap.size w w' := by
  by_cases h1 : 1000 < s.size
  · have HM := Lib.hid hM
    clear hM
    go_enter Tryd.func3, Tryd.ntmps3
    go_wp2_with fail
    refine (lives06 _ (HM.out.below ((Below.refl _ _).alloc (Nat.le_refl _) _))).mono ?_
    rintro e w1 ⟨rfl, b1⟩
    have a1 : Below w.heap.size w w1 := ((Below.refl _ _).alloc (Nat.le_refl _) _).trans (b1.mono (by simp))
    go_wp2_with fail
    go_ret
    exact ⟨rfl, a1⟩
  · have hs' : s.size ≤ 1000 := by omega
    cases hr : Dy.right k n d with
    | true =>
      cases hp : Dy.prs s with
      | none => exact dayBack_right_none k n d s hs' w (Lib.hid hM) (Lib.hid hr) (Lib.hid (Dy.back hr)) (Lib.hid (txt_size k n d hr)) (Lib.hid hp)
      | some x =>
        obtain ⟨p, q, r⟩ := x
        have h2 := Dy.prs_right hp
        exact dayBack_right_some k n d s hs' w (Lib.hid hM) (Lib.hid hr) (Lib.hid (Dy.back hr)) (Lib.hid (txt_size k n d hr)) p q r (Lib.hid hp) (Lib.hid h2) (Lib.hid (Dy.back h2)) (Lib.hid (txt_size p q r h2))
    | false =>
      cases hp : Dy.prs s with
      | none => exact dayBack_wrong_none k n d s hs' w (Lib.hid hM) (Lib.hid hr) (Lib.hid hp)
      | some x =>
        obtain ⟨p, q, r⟩ := x
        have h2 := Dy.prs_right hp
        exact dayBack_wrong_some k n d s hs' w (Lib.hid hM) (Lib.hid hr) p q r (Lib.hid hp) (Lib.hid h2) (Lib.hid (Dy.back h2)) (Lib.hid (txt_size p q r h2))
theorem walkDayBack (k : Int) (_ : (Lit.int .u8 k).wf = true) (n : Int) (_ : (Lit.int .i64 n).wf = true) (d : Int) (_ : (Lit.int .i64 d).wf = true) (s : ByteArray) (hs : s.size ≤ maxLen) (w : World) (hM : Mx w) :
    Calls Tryd.prog 3 #[.agg #[.int .u8 k, .int .i64 n, .int .i64 d], .string s] w fun e w' => e = .returned (.bool true) ∧ Below w.heap.size w w' :=
  dayBack_any k n d s (by unfold maxLen at hs; omega) w hM
end Go.Proofs.YtgeelolbgjmfgaaDoor
