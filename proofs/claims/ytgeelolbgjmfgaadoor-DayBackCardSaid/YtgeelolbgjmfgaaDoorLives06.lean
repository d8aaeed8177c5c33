/- The first questions of layer 6's statements. -/
import Derived.Test.YtgeelolbgjmfgaaDoorDayText
namespace Go.Proofs.YtgeelolbgjmfgaaDoor
open Go.RowKit
theorem dtext_is (k n d : Int) (S : ByteArray) (w : World) (h : Dy.right k n d = true) (hS : Dy.txt k n d = S) : Calls Tryd.prog 7 #[.agg #[.int .u8 k, .int .i64 n, .int .i64 d]] w fun e w' => e = .returned (.tuple #[.string S, .int .i64 0]) ∧ Below w.heap.size w w' := by
  subst hS
  exact dtext_yes k n d w h
set_option maxRecDepth 100000 in
set_option maxHeartbeats 4000000 in
theorem lives06 (w : World) (hM : Mx w) : Calls Tryd.prog 6 #[] w fun e w' => e = .returned (.bool true) ∧ Below w.heap.size w w' := by
  have HM := Lib.hid hM
  clear hM
  go_enter Tryd.func6, Tryd.ntmps6
  go_wp2_with fail
  refine (dparse_yes ⟨#[108, 97, 115, 116, 83, 117, 110]⟩ 1 0 0 _ HM.out (by decide) (by decide +kernel)).mono ?_
  rintro e w1 ⟨rfl, b1⟩
  have a1 := b1
  have z1 := a1.size
  go_wp2_with fail
  refine (dparse_yes ⟨#[83, 117, 110, 62, 61, 56]⟩ 2 8 0 _ (HM.out.below (by repeat (first | exact Below.refl _ _ | assumption | refine below_drewN ?_ _ | refine Below.drew ?_ | refine Below.setCell ?_ (by first | omega | (simp; done) | (simp; omega)) _ | refine Below.alloc ?_ (by first | omega | (simp; done) | (simp; omega)) _))) (by decide) (by decide +kernel)).mono ?_
  rintro e w2 ⟨rfl, b2⟩
  have a2 : Below w.heap.size w w2 := by
    refine Below.trans ?_ (b2.mono ?_)
    · repeat (first | exact Below.refl _ _ | assumption | refine below_drewN ?_ _ | refine Below.drew ?_ | refine Below.setCell ?_ (by first | omega | (simp; done) | (simp; omega)) _ | refine Below.alloc ?_ (by first | omega | (simp; done) | (simp; omega)) _)
    · simp; omega
  obtain ⟨hc2, hf2⟩ := bcell b2
  have l2 : w1.heap.size < w2.heap.size := by have := b2.size; simp at this; omega
  have z2 := a2.size
  go_wp2_with fail
  refine (dparse_yes ⟨#[50, 57]⟩ 0 29 0 _ (HM.out.below (by repeat (first | exact Below.refl _ _ | assumption | refine below_drewN ?_ _ | refine Below.drew ?_ | refine Below.setCell ?_ (by first | omega | (simp; done) | (simp; omega)) _ | refine Below.alloc ?_ (by first | omega | (simp; done) | (simp; omega)) _))) (by decide) (by decide +kernel)).mono ?_
  rintro e w3 ⟨rfl, b3⟩
  have a3 : Below w.heap.size w w3 := by
    refine Below.trans ?_ (b3.mono ?_)
    · repeat (first | exact Below.refl _ _ | assumption | refine below_drewN ?_ _ | refine Below.drew ?_ | refine Below.setCell ?_ (by first | omega | (simp; done) | (simp; omega)) _ | refine Below.alloc ?_ (by first | omega | (simp; done) | (simp; omega)) _)
    · simp; omega
  obtain ⟨hc3, hf3⟩ := bcell b3
  have l3 : w2.heap.size < w3.heap.size := by have := b3.size; simp at this; omega
  have l13 : w1.heap.size < w3.heap.size := by omega
  have z3 := a3.size
  go_wp2_with fail
  refine (dparse_no ⟨#[83, 117, 110, 62, 61, 51, 50]⟩ _ (HM.out.below (by repeat (first | exact Below.refl _ _ | assumption | refine below_drewN ?_ _ | refine Below.drew ?_ | refine Below.setCell ?_ (by first | omega | (simp; done) | (simp; omega)) _ | refine Below.alloc ?_ (by first | omega | (simp; done) | (simp; omega)) _))) (by decide) (by decide +kernel)).mono ?_
  rintro e w4 ⟨rfl, b4⟩
  have a4 : Below w.heap.size w w4 := by
    refine Below.trans ?_ (b4.mono ?_)
    · repeat (first | exact Below.refl _ _ | assumption | refine below_drewN ?_ _ | refine Below.drew ?_ | refine Below.setCell ?_ (by first | omega | (simp; done) | (simp; omega)) _ | refine Below.alloc ?_ (by first | omega | (simp; done) | (simp; omega)) _)
    · simp; omega
  obtain ⟨hc4, hf4⟩ := bcell b4
  have l4 : w3.heap.size < w4.heap.size := by have := b4.size; simp at this; omega
  have l14 : w1.heap.size < w4.heap.size := by omega
  have l24 : w2.heap.size < w4.heap.size := by omega
  have z4 := a4.size
  go_wp2_with fail
  refine (dparse_no ⟨#[84, 60, 61, 52]⟩ _ (HM.out.below (by repeat (first | exact Below.refl _ _ | assumption | refine below_drewN ?_ _ | refine Below.drew ?_ | refine Below.setCell ?_ (by first | omega | (simp; done) | (simp; omega)) _ | refine Below.alloc ?_ (by first | omega | (simp; done) | (simp; omega)) _))) (by decide) (by decide +kernel)).mono ?_
  rintro e w5 ⟨rfl, b5⟩
  have a5 : Below w.heap.size w w5 := by
    refine Below.trans ?_ (b5.mono ?_)
    · repeat (first | exact Below.refl _ _ | assumption | refine below_drewN ?_ _ | refine Below.drew ?_ | refine Below.setCell ?_ (by first | omega | (simp; done) | (simp; omega)) _ | refine Below.alloc ?_ (by first | omega | (simp; done) | (simp; omega)) _)
    · simp; omega
  obtain ⟨hc5, hf5⟩ := bcell b5
  have l5 : w4.heap.size < w5.heap.size := by have := b5.size; simp at this; omega
  have l15 : w1.heap.size < w5.heap.size := by omega
  have l25 : w2.heap.size < w5.heap.size := by omega
  have l35 : w3.heap.size < w5.heap.size := by omega
  have z5 := a5.size
  go_wp2_with fail
  refine (din_yes 1 0 0 2024 3 19813 _ (by decide) (by omega) (by omega) (by omega) (by omega) (by decide) (Lib.hid (by decide +kernel)) (by omega) (by omega)).mono ?_
  rintro e w6 ⟨rfl, b6⟩
  have a6 : Below w.heap.size w w6 := by
    refine Below.trans ?_ (b6.mono ?_)
    · repeat (first | exact Below.refl _ _ | assumption | refine below_drewN ?_ _ | refine Below.drew ?_ | refine Below.setCell ?_ (by first | omega | (simp; done) | (simp; omega)) _ | refine Below.alloc ?_ (by first | omega | (simp; done) | (simp; omega)) _)
    · simp; omega
  have l6 : w5.heap.size < w6.heap.size := by have := b6.size; simp at this; omega
  obtain ⟨hc6, hf6⟩ := bcell b6
  have l16 : w1.heap.size < w6.heap.size := by omega
  have l26 : w2.heap.size < w6.heap.size := by omega
  have l36 : w3.heap.size < w6.heap.size := by omega
  have l46 : w4.heap.size < w6.heap.size := by omega
  have z6 := a6.size
  go_wp2_with fail
  refine (din_yes 2 8 0 2024 3 19792 _ (by decide) (by omega) (by omega) (by omega) (by omega) (by decide) (Lib.hid (by decide +kernel)) (by omega) (by omega)).mono ?_
  rintro e w7 ⟨rfl, b7⟩
  have a7 := a6.trans (b7.mono a6.size)
  have l7 : w6.heap.size ≤ w7.heap.size := b7.size
  obtain ⟨hc7, hf7⟩ := bcell b7
  have l17 : w1.heap.size < w7.heap.size := by omega
  have l27 : w2.heap.size < w7.heap.size := by omega
  have l37 : w3.heap.size < w7.heap.size := by omega
  have l47 : w4.heap.size < w7.heap.size := by omega
  have l57 : w5.heap.size < w7.heap.size := by omega
  have z7 := a7.size
  go_wp2_with fail
  refine (din_few 0 29 0 2023 2 _ (by decide) (by omega) (by omega) (by omega) (by omega) (by decide)).mono ?_
  rintro e w8 ⟨rfl, b8⟩
  have a8 := a7.trans (b8.mono a7.size)
  have l8 : w7.heap.size ≤ w8.heap.size := b8.size
  obtain ⟨hc8, hf8⟩ := bcell b8
  have l18 : w1.heap.size < w8.heap.size := by omega
  have l28 : w2.heap.size < w8.heap.size := by omega
  have l38 : w3.heap.size < w8.heap.size := by omega
  have l48 : w4.heap.size < w8.heap.size := by omega
  have l58 : w5.heap.size < w8.heap.size := by omega
  have z8 := a8.size
  go_wp2_with fail
  refine (dtext_is 3 25 5 ⟨#[70, 114, 105, 60, 61, 50, 53]⟩ _ (by decide) (by decide +kernel)).mono ?_
  rintro e w9 ⟨rfl, b9⟩
  have a9 := a8.trans (b9.mono a8.size)
  have l9 : w8.heap.size ≤ w9.heap.size := b9.size
  obtain ⟨hc9, hf9⟩ := bcell b9
  have l19 : w1.heap.size < w9.heap.size := by omega
  have l29 : w2.heap.size < w9.heap.size := by omega
  have l39 : w3.heap.size < w9.heap.size := by omega
  go_wp2_with fail
  refine (dcheck_no 0 0 0 _ (by decide)).mono ?_
  rintro e w10 ⟨rfl, b10⟩
  have a10 := a9.trans (b10.mono a9.size)
  go_wp2_with fail
  go_ret
  exact ⟨rfl, a10⟩
end Go.Proofs.YtgeelolbgjmfgaaDoor
