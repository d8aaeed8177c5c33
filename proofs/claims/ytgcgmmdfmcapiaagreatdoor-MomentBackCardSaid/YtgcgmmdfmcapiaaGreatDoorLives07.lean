/- The first questions of layer 7's statements (by program). -/
import Derived.Test.YtgcgmmdfmcapiaaGreatDoorMoZ
import Derived.Test.YtgcgmmdfmcapiaaGreatDoorRef07
import Derived.Deep.QuietTactic
import Derived.BigQuiet
namespace Go.Proofs.YtgcgmmdfmcapiaaGreatDoor
open Go.RowKit
theorem mparse_lit (s : ByteArray) (t : Int) (k : Nat) (z : Int) (w : World) (hE : Env w) (hs : s.size ≤ 4096) (h : Mo.prs s.data.toList = (t, k, z)) : Calls Tryz.prog 12 #[.string s] w fun e w' => e = .returned (.tuple #[.agg #[.int .i64 t, .int .u8 (k : Int)], .int .i64 z]) ∧ Below w.heap.size w w' := by
  have hp := mparse_any s w hE hs
  rw [h] at hp
  exact hp
theorem nominal_lit (k n d y m s c v z : Int) (w : World) (h : Mo.nomV k n d y m s c = (v, z)) :
    Calls Tryz.prog 5 #[.int .i64 y, .int .i64 m, .agg #[.int .u8 k, .int .i64 n, .int .i64 d], .agg #[.int .i64 s, .int .u8 c]] w fun e w' => e = .returned (.tuple #[.int .i64 v, .int .i64 z]) ∧ Below w.heap.size w w' := by
  have hp := nominal_all k n d y m s c w
  rw [h] at hp
  exact hp
theorem instant_lit (n c s v x z : Int) (w : World) (h0 : 0 ≤ c) (h : Mo.instV n c s v = (x, z)) : Calls Tryz.prog 7 #[.int .i64 n, .int .u8 c, .int .i64 s, .int .i64 v] w fun e w' => e = .returned (.tuple #[.int .i64 x, .int .i64 z]) ∧ w = w' := by
  have hp := instant_all n c s v w h0
  rw [h] at hp
  exact hp
theorem at0 (g j : Nat) : (⟨g, 0, none⟩ : Addr).add j = ⟨g, j, none⟩ := by unfold Addr.add; split <;> simp_all
theorem uprs_2 (a b : ByteArray) (g : Nat) (u : Ut) (i : Nat) (z : Int) (w : World) (hE : Env w) (ha : a.size ≤ 4096) (hb : b.size ≤ 4096) (hg : g < w.heap.size) (h0 : w.cell? ⟨g, 0, none⟩ = some (.string a)) (h1 : w.cell? ⟨g, 1, none⟩ = some (.string b)) (h : Mo.prsU [a, b] = (u, i, z)) :
    Calls Tryz.prog 14 #[.slice (some ⟨g, 0, none⟩) 2 2] w fun e w' => e = .returned (.tuple #[.agg #[.int .i64 u.y, .int .i64 u.m, .int .u8 u.k, .int .i64 u.n, .int .i64 u.d, .int .i64 u.s, .int .u8 u.c], .int .i64 (i : Int), .int .i64 z]) ∧ Below w.heap.size w w' := by
  have hp := uprs_any (some ⟨g, 0, none⟩) 2 2 [a, b] rfl (by decide) (fun _ i hi => by
    have hi2 : i = 0 ∨ i = 1 := by omega
    rcases hi2 with rfl | rfl
    · exact ha
    · exact hb) w hE w.heap.size (Nat.le_refl _) (fun _ => ⟨_, rfl, hg, fun i hi => by
    have hi2 : i = 0 ∨ i = 1 := by omega
    rw [at0]
    rcases hi2 with rfl | rfl
    · exact h0
    · exact h1⟩)
  rw [h] at hp
  exact hp
theorem uprs_3 (a b c : ByteArray) (g : Nat) (u : Ut) (i : Nat) (z : Int) (w : World) (hE : Env w) (ha : a.size ≤ 4096) (hb : b.size ≤ 4096) (hc : c.size ≤ 4096) (hg : g < w.heap.size) (h0 : w.cell? ⟨g, 0, none⟩ = some (.string a)) (h1 : w.cell? ⟨g, 1, none⟩ = some (.string b)) (h2 : w.cell? ⟨g, 2, none⟩ = some (.string c)) (h : Mo.prsU [a, b, c] = (u, i, z)) :
    Calls Tryz.prog 14 #[.slice (some ⟨g, 0, none⟩) 3 3] w fun e w' => e = .returned (.tuple #[.agg #[.int .i64 u.y, .int .i64 u.m, .int .u8 u.k, .int .i64 u.n, .int .i64 u.d, .int .i64 u.s, .int .u8 u.c], .int .i64 (i : Int), .int .i64 z]) ∧ Below w.heap.size w w' := by
  have hp := uprs_any (some ⟨g, 0, none⟩) 3 3 [a, b, c] rfl (by decide) (fun _ i hi => by
    have hi2 : i = 0 ∨ i = 1 ∨ i = 2 := by omega
    rcases hi2 with rfl | rfl | rfl
    · exact ha
    · exact hb
    · exact hc) w hE w.heap.size (Nat.le_refl _) (fun _ => ⟨_, rfl, hg, fun i hi => by
    have hi2 : i = 0 ∨ i = 1 ∨ i = 2 := by omega
    rw [at0]
    rcases hi2 with rfl | rfl | rfl
    · exact h0
    · exact h1
    · exact h2⟩)
  rw [h] at hp
  exact hp
theorem texts_2 (a b : ByteArray) (g q : Nat) (w : World) (_hg : g < w.heap.size) (_hq : q < w.heap.size) (a0 : w.cell? ⟨g, 0, none⟩ = some (.string a)) (a1 : w.cell? ⟨g, 1, none⟩ = some (.string b)) (b0 : w.cell? ⟨q, 0, none⟩ = some (.string a)) (b1 : w.cell? ⟨q, 1, none⟩ = some (.string b)) :
    Calls Tryz.prog 25 #[.slice (some ⟨g, 0, none⟩) 2 2, .slice (some ⟨q, 0, none⟩) 2 2] w fun e w' => e = .returned (.bool true) ∧ Below w.heap.size w w' := by
  go_enter Tryz.func25, Tryz.ntmps25
  go_wp2_with fail
  refine wp_loop_rounds 3 ?_
  rw [rounds_succ]
  go_wp2_with fail
  go_quiet (fail)
  go_wp2_with fail
  rw [rounds_succ]
  go_wp2_with fail
  go_quiet (fail)
  go_wp2_with fail
  rw [rounds_succ]
  go_wp2_with fail
  go_ret
  refine ⟨rfl, ?_⟩
  repeat (first | exact Below.refl _ _ | assumption | refine below_drewN ?_ _ | refine Below.drew ?_ | refine Below.setCell ?_ (by first | omega | (simp; done) | (simp; omega)) _ | refine Below.alloc ?_ (by first | omega | (simp; done) | (simp; omega)) _)
def Ut.oct : Ut := ⟨1999, 10, 0, 1, 0, 0, 0⟩
theorem utext_oct (w : World) (hE : Env w) : Calls Tryz.prog 13 #[.agg #[.int .i64 1999, .int .i64 10, .int .u8 0, .int .i64 1, .int .i64 0, .int .i64 0, .int .u8 0]] w fun e w' => UTxtE w w' ⟨#[49, 57, 57, 57]⟩ ⟨#[79, 99, 116]⟩ ⟨#[49]⟩ ⟨#[48, 58, 48, 48]⟩ 2 e ∧ Below w.heap.size w w' := by
  have h := utext_yes Ut.oct w hE (by decide +kernel) (by decide)
  rw [show Mo.t0 Ut.oct = ⟨#[49, 57, 57, 57]⟩ by decide +kernel, show Mo.t1 Ut.oct = ⟨#[79, 99, 116]⟩ by decide +kernel, show Mo.t2 Ut.oct = ⟨#[49]⟩ by decide +kernel, show Mo.t3 Ut.oct = ⟨#[48, 58, 48, 48]⟩ by decide +kernel, show Mo.ndU Ut.oct = 2 by decide +kernel] at h
  exact h
set_option maxRecDepth 100000 in
set_option maxHeartbeats 8000000 in
theorem lives07 (w : World) (HE : Hid (Env w)) : Calls Tryz.prog 9 #[] w fun e w' => e = .returned (.bool true) ∧ Below w.heap.size w w' := by
  go_enter Tryz.func9, Tryz.ntmps9
  go_wp2_with fail
  refine (mparse_lit ⟨#[50, 58, 48, 48, 83]⟩ (7200) 1 0 _ HE.out (by decide) (by decide +kernel)).mono ?_
  rintro e w1 ⟨rfl, b1⟩
  have a1 := b1
  obtain ⟨hc1, hf1⟩ := bcell b1
  have z1 := a1.size
  go_wp2_with fail
  refine (mparse_lit ⟨#[45]⟩ (0) 0 0 _ (HE.out.below (by repeat (first | exact Below.refl _ _ | assumption | refine below_drewN ?_ _ | refine Below.drew ?_ | refine Below.setCell ?_ (by first | omega | (simp; done) | (simp; omega)) _ | refine Below.alloc ?_ (by first | omega | (simp; done) | (simp; omega)) _))) (by decide) (by decide +kernel)).mono ?_
  rintro e w2 ⟨rfl, b2⟩
  have a2 : Below w.heap.size w w2 := by
    refine Below.trans ?_ (b2.mono ?_)
    · repeat (first | exact Below.refl _ _ | assumption | refine below_drewN ?_ _ | refine Below.drew ?_ | refine Below.setCell ?_ (by first | omega | (simp; done) | (simp; omega)) _ | refine Below.alloc ?_ (by first | omega | (simp; done) | (simp; omega)) _)
    · simp; omega
  have l2 : w1.heap.size < w2.heap.size := by have := b2.size; simp at this; omega
  obtain ⟨hc2, hf2⟩ := bcell b2
  have z2 := a2.size
  have q1_2 : w1.heap.size < w1.heap.size + 1 + 1 := by omega
  have l1_2 : w1.heap.size < w2.heap.size := by omega
  go_wp2_with fail
  refine (mparse_lit ⟨#[45, 49, 58, 51, 48, 122]⟩ (-5400) 2 0 _ (HE.out.below (by repeat (first | exact Below.refl _ _ | assumption | refine below_drewN ?_ _ | refine Below.drew ?_ | refine Below.setCell ?_ (by first | omega | (simp; done) | (simp; omega)) _ | refine Below.alloc ?_ (by first | omega | (simp; done) | (simp; omega)) _))) (by decide) (by decide +kernel)).mono ?_
  rintro e w3 ⟨rfl, b3⟩
  have a3 : Below w.heap.size w w3 := by
    refine Below.trans ?_ (b3.mono ?_)
    · repeat (first | exact Below.refl _ _ | assumption | refine below_drewN ?_ _ | refine Below.drew ?_ | refine Below.setCell ?_ (by first | omega | (simp; done) | (simp; omega)) _ | refine Below.alloc ?_ (by first | omega | (simp; done) | (simp; omega)) _)
    · simp; omega
  have l3 : w2.heap.size < w3.heap.size := by have := b3.size; simp at this; omega
  obtain ⟨hc3, hf3⟩ := bcell b3
  have z3 := a3.size
  have p1_3 : w1.heap.size < w2.heap.size + 1 := by omega
  have q1_3 : w1.heap.size < w2.heap.size + 1 + 1 := by omega
  have l1_3 : w1.heap.size < w3.heap.size := by omega
  have q2_3 : w2.heap.size < w2.heap.size + 1 + 1 := by omega
  have l2_3 : w2.heap.size < w3.heap.size := by omega
  go_wp2_with fail
  refine (mparse_lit ⟨#[50, 58, 48, 48, 120]⟩ (0) 0 4 _ (HE.out.below (by repeat (first | exact Below.refl _ _ | assumption | refine below_drewN ?_ _ | refine Below.drew ?_ | refine Below.setCell ?_ (by first | omega | (simp; done) | (simp; omega)) _ | refine Below.alloc ?_ (by first | omega | (simp; done) | (simp; omega)) _))) (by decide) (by decide +kernel)).mono ?_
  rintro e w4 ⟨rfl, b4⟩
  have a4 : Below w.heap.size w w4 := by
    refine Below.trans ?_ (b4.mono ?_)
    · repeat (first | exact Below.refl _ _ | assumption | refine below_drewN ?_ _ | refine Below.drew ?_ | refine Below.setCell ?_ (by first | omega | (simp; done) | (simp; omega)) _ | refine Below.alloc ?_ (by first | omega | (simp; done) | (simp; omega)) _)
    · simp; omega
  have l4 : w3.heap.size < w4.heap.size := by have := b4.size; simp at this; omega
  obtain ⟨hc4, hf4⟩ := bcell b4
  have z4 := a4.size
  have p1_4 : w1.heap.size < w3.heap.size + 1 := by omega
  have q1_4 : w1.heap.size < w3.heap.size + 1 + 1 := by omega
  have l1_4 : w1.heap.size < w4.heap.size := by omega
  have p2_4 : w2.heap.size < w3.heap.size + 1 := by omega
  have q2_4 : w2.heap.size < w3.heap.size + 1 + 1 := by omega
  have l2_4 : w2.heap.size < w4.heap.size := by omega
  have q3_4 : w3.heap.size < w3.heap.size + 1 + 1 := by omega
  have l3_4 : w3.heap.size < w4.heap.size := by omega
  go_wp2_with fail
  refine (mparse_lit ⟨#[49, 54, 57, 119]⟩ (0) 0 1 _ (HE.out.below (by repeat (first | exact Below.refl _ _ | assumption | refine below_drewN ?_ _ | refine Below.drew ?_ | refine Below.setCell ?_ (by first | omega | (simp; done) | (simp; omega)) _ | refine Below.alloc ?_ (by first | omega | (simp; done) | (simp; omega)) _))) (by decide) (by decide +kernel)).mono ?_
  rintro e w5 ⟨rfl, b5⟩
  have a5 : Below w.heap.size w w5 := by
    refine Below.trans ?_ (b5.mono ?_)
    · repeat (first | exact Below.refl _ _ | assumption | refine below_drewN ?_ _ | refine Below.drew ?_ | refine Below.setCell ?_ (by first | omega | (simp; done) | (simp; omega)) _ | refine Below.alloc ?_ (by first | omega | (simp; done) | (simp; omega)) _)
    · simp; omega
  have l5 : w4.heap.size < w5.heap.size := by have := b5.size; simp at this; omega
  obtain ⟨hc5, hf5⟩ := bcell b5
  have z5 := a5.size
  have p1_5 : w1.heap.size < w4.heap.size + 1 := by omega
  have q1_5 : w1.heap.size < w4.heap.size + 1 + 1 := by omega
  have l1_5 : w1.heap.size < w5.heap.size := by omega
  have p2_5 : w2.heap.size < w4.heap.size + 1 := by omega
  have q2_5 : w2.heap.size < w4.heap.size + 1 + 1 := by omega
  have l2_5 : w2.heap.size < w5.heap.size := by omega
  have p3_5 : w3.heap.size < w4.heap.size + 1 := by omega
  have q3_5 : w3.heap.size < w4.heap.size + 1 + 1 := by omega
  have l3_5 : w3.heap.size < w5.heap.size := by omega
  have q4_5 : w4.heap.size < w4.heap.size + 1 + 1 := by omega
  have l4_5 : w4.heap.size < w5.heap.size := by omega
  go_wp2_with fail
  refine (mtext_yes 7200 2 ⟨#[50, 58, 48, 48, 117]⟩ _ (HE.out.below (by repeat (first | exact Below.refl _ _ | assumption | refine below_drewN ?_ _ | refine Below.drew ?_ | refine Below.setCell ?_ (by first | omega | (simp; done) | (simp; omega)) _ | refine Below.alloc ?_ (by first | omega | (simp; done) | (simp; omega)) _))) (by decide) (by decide) (by decide +kernel)).mono ?_
  rintro e w6 ⟨rfl, b6⟩
  have a6 : Below w.heap.size w w6 := by
    refine Below.trans ?_ (b6.mono ?_)
    · repeat (first | exact Below.refl _ _ | assumption | refine below_drewN ?_ _ | refine Below.drew ?_ | refine Below.setCell ?_ (by first | omega | (simp; done) | (simp; omega)) _ | refine Below.alloc ?_ (by first | omega | (simp; done) | (simp; omega)) _)
    · simp; omega
  have l6 : w5.heap.size < w6.heap.size := by have := b6.size; simp at this; omega
  obtain ⟨hc6, hf6⟩ := bcell b6
  have z6 := a6.size
  have p1_6 : w1.heap.size < w5.heap.size + 1 := by omega
  have q1_6 : w1.heap.size < w5.heap.size + 1 + 1 := by omega
  have l1_6 : w1.heap.size < w6.heap.size := by omega
  have p2_6 : w2.heap.size < w5.heap.size + 1 := by omega
  have q2_6 : w2.heap.size < w5.heap.size + 1 + 1 := by omega
  have l2_6 : w2.heap.size < w6.heap.size := by omega
  have p3_6 : w3.heap.size < w5.heap.size + 1 := by omega
  have q3_6 : w3.heap.size < w5.heap.size + 1 + 1 := by omega
  have l3_6 : w3.heap.size < w6.heap.size := by omega
  have p4_6 : w4.heap.size < w5.heap.size + 1 := by omega
  have q4_6 : w4.heap.size < w5.heap.size + 1 + 1 := by omega
  have l4_6 : w4.heap.size < w6.heap.size := by omega
  have q5_6 : w5.heap.size < w5.heap.size + 1 + 1 := by omega
  have l5_6 : w5.heap.size < w6.heap.size := by omega
  go_wp2_with fail
  refine (nominal_lit 0 2 0 1970 1 (-1) 0 86399 0 _ (by decide +kernel)).mono ?_
  rintro e w7 ⟨rfl, b7⟩
  have a7 := a6.trans (b7.mono a6.size)
  have l7 : w6.heap.size ≤ w7.heap.size := b7.size
  obtain ⟨hc7, hf7⟩ := bcell b7
  have z7 := a7.size
  have l1_7 : w1.heap.size < w7.heap.size := by omega
  have l2_7 : w2.heap.size < w7.heap.size := by omega
  have l3_7 : w3.heap.size < w7.heap.size := by omega
  have l4_7 : w4.heap.size < w7.heap.size := by omega
  have l5_7 : w5.heap.size < w7.heap.size := by omega
  go_wp2_with fail
  refine (instant_lit 1000 0 300 60 640 0 _ (by decide) (by decide +kernel)).mono ?_
  rintro e w' ⟨rfl, rfl⟩
  go_wp2_with fail
  refine (instant_lit 1000 1 300 60 700 0 _ (by decide) (by decide +kernel)).mono ?_
  rintro e w' ⟨rfl, rfl⟩
  go_wp2_with fail
  refine (uprs_2 ⟨#[49, 57, 57, 57]⟩ ⟨#[111, 99, 116]⟩ w7.heap.size Ut.oct 0 0 _ (HE.out.below (by repeat (first | exact Below.refl _ _ | assumption | refine below_drewN ?_ _ | refine Below.drew ?_ | refine Below.setCell ?_ (by first | omega | (simp; done) | (simp; omega)) _ | refine Below.alloc ?_ (by first | omega | (simp; done) | (simp; omega)) _))) (by decide) (by decide) (by simp) (by go_simp) (by go_simp) (by kernel_rfl)).mono ?_
  rintro e w8 ⟨rfl, b8⟩
  have a8 : Below w.heap.size w w8 := by
    refine Below.trans ?_ (b8.mono ?_)
    · repeat (first | exact Below.refl _ _ | assumption | refine below_drewN ?_ _ | refine Below.drew ?_ | refine Below.setCell ?_ (by first | omega | (simp; done) | (simp; omega)) _ | refine Below.alloc ?_ (by first | omega | (simp; done) | (simp; omega)) _)
    · simp; omega
  have l8 : w7.heap.size < w8.heap.size := by have := b8.size; simp at this; omega
  obtain ⟨hc8, hf8⟩ := bcell b8
  have z8 := a8.size
  have p1_8 : w1.heap.size < w7.heap.size + 1 := by omega
  have q1_8 : w1.heap.size < w7.heap.size + 1 + 1 := by omega
  have l1_8 : w1.heap.size < w8.heap.size := by omega
  have p2_8 : w2.heap.size < w7.heap.size + 1 := by omega
  have q2_8 : w2.heap.size < w7.heap.size + 1 + 1 := by omega
  have l2_8 : w2.heap.size < w8.heap.size := by omega
  have p3_8 : w3.heap.size < w7.heap.size + 1 := by omega
  have q3_8 : w3.heap.size < w7.heap.size + 1 + 1 := by omega
  have l3_8 : w3.heap.size < w8.heap.size := by omega
  have p4_8 : w4.heap.size < w7.heap.size + 1 := by omega
  have q4_8 : w4.heap.size < w7.heap.size + 1 + 1 := by omega
  have l4_8 : w4.heap.size < w8.heap.size := by omega
  have p5_8 : w5.heap.size < w7.heap.size + 1 := by omega
  have q5_8 : w5.heap.size < w7.heap.size + 1 + 1 := by omega
  have l5_8 : w5.heap.size < w8.heap.size := by omega
  go_wp2_with fail
  refine (uprs_3 ⟨#[49, 57, 57, 57]⟩ ⟨#[79, 99, 116]⟩ ⟨#[51, 49, 120]⟩ (w8.heap.size + 1) Ut.zero 2 4 _ (HE.out.below (by repeat (first | exact Below.refl _ _ | assumption | refine below_drewN ?_ _ | refine Below.drew ?_ | refine Below.setCell ?_ (by first | omega | (simp; done) | (simp; omega)) _ | refine Below.alloc ?_ (by first | omega | (simp; done) | (simp; omega)) _))) (by decide) (by decide) (by decide) (by simp) (by go_simp) (by go_simp) (by go_simp) (by kernel_rfl)).mono ?_
  rintro e w9 ⟨rfl, b9⟩
  have a9 : Below w.heap.size w w9 := by
    refine Below.trans ?_ (b9.mono ?_)
    · repeat (first | exact Below.refl _ _ | assumption | refine below_drewN ?_ _ | refine Below.drew ?_ | refine Below.setCell ?_ (by first | omega | (simp; done) | (simp; omega)) _ | refine Below.alloc ?_ (by first | omega | (simp; done) | (simp; omega)) _)
    · simp; omega
  have l9 : w8.heap.size < w9.heap.size := by have := b9.size; simp at this; omega
  obtain ⟨hc9, hf9⟩ := bcell b9
  have z9 := a9.size
  have p1_9 : w1.heap.size < w8.heap.size + 1 := by omega
  have q1_9 : w1.heap.size < w8.heap.size + 1 + 1 := by omega
  have l1_9 : w1.heap.size < w9.heap.size := by omega
  have p2_9 : w2.heap.size < w8.heap.size + 1 := by omega
  have q2_9 : w2.heap.size < w8.heap.size + 1 + 1 := by omega
  have l2_9 : w2.heap.size < w9.heap.size := by omega
  have p3_9 : w3.heap.size < w8.heap.size + 1 := by omega
  have q3_9 : w3.heap.size < w8.heap.size + 1 + 1 := by omega
  have l3_9 : w3.heap.size < w9.heap.size := by omega
  have p4_9 : w4.heap.size < w8.heap.size + 1 := by omega
  have q4_9 : w4.heap.size < w8.heap.size + 1 + 1 := by omega
  have l4_9 : w4.heap.size < w9.heap.size := by omega
  have p5_9 : w5.heap.size < w8.heap.size + 1 := by omega
  have q5_9 : w5.heap.size < w8.heap.size + 1 + 1 := by omega
  have l5_9 : w5.heap.size < w9.heap.size := by omega
  have q8_9 : w8.heap.size < w8.heap.size + 1 + 1 := by omega
  have l8_9 : w8.heap.size < w9.heap.size := by omega
  go_wp2_with fail
  refine (utext_oct _ (HE.out.below (by repeat (first | exact Below.refl _ _ | assumption | refine below_drewN ?_ _ | refine Below.drew ?_ | refine Below.setCell ?_ (by first | omega | (simp; done) | (simp; omega)) _ | refine Below.alloc ?_ (by first | omega | (simp; done) | (simp; omega)) _)))).mono ?_
  rintro e w10 ⟨⟨g, rfl, hg, hF⟩, b10⟩
  have a10 : Below w.heap.size w w10 := by
    refine Below.trans ?_ (b10.mono ?_)
    · repeat (first | exact Below.refl _ _ | assumption | refine below_drewN ?_ _ | refine Below.drew ?_ | refine Below.setCell ?_ (by first | omega | (simp; done) | (simp; omega)) _ | refine Below.alloc ?_ (by first | omega | (simp; done) | (simp; omega)) _)
    · simp; omega
  have l10 : w9.heap.size < w10.heap.size := by have := b10.size; simp at this; omega
  obtain ⟨hc10, hf10⟩ := bcell b10
  have z10 := a10.size
  have p1_10 : w1.heap.size < w9.heap.size + 1 := by omega
  have q1_10 : w1.heap.size < w9.heap.size + 1 + 1 := by omega
  have l1_10 : w1.heap.size < w10.heap.size := by omega
  have p2_10 : w2.heap.size < w9.heap.size + 1 := by omega
  have q2_10 : w2.heap.size < w9.heap.size + 1 + 1 := by omega
  have l2_10 : w2.heap.size < w10.heap.size := by omega
  have p3_10 : w3.heap.size < w9.heap.size + 1 := by omega
  have q3_10 : w3.heap.size < w9.heap.size + 1 + 1 := by omega
  have l3_10 : w3.heap.size < w10.heap.size := by omega
  have p4_10 : w4.heap.size < w9.heap.size + 1 := by omega
  have q4_10 : w4.heap.size < w9.heap.size + 1 + 1 := by omega
  have l4_10 : w4.heap.size < w10.heap.size := by omega
  have p5_10 : w5.heap.size < w9.heap.size + 1 := by omega
  have q5_10 : w5.heap.size < w9.heap.size + 1 + 1 := by omega
  have l5_10 : w5.heap.size < w10.heap.size := by omega
  have p8_10 : w8.heap.size < w9.heap.size + 1 := by omega
  have q8_10 : w8.heap.size < w9.heap.size + 1 + 1 := by omega
  have l8_10 : w8.heap.size < w10.heap.size := by omega
  have q9_10 : w9.heap.size < w9.heap.size + 1 + 1 := by omega
  have l9_10 : w9.heap.size < w10.heap.size := by omega
  go_wp2_with fail
  have hF2 := hF.below ((Below.refl w10.heap.size w10).alloc (Nat.le_refl _) (.cells #[.string ⟨#[49, 57, 57, 57]⟩, .string ⟨#[79, 99, 116]⟩] 9))
  refine (texts_2 ⟨#[49, 57, 57, 57]⟩ ⟨#[79, 99, 116]⟩ g w10.heap.size _ hF2.lt (by simp) hF2.c0 hF2.c1 (by go_simp) (by go_simp)).mono ?_
  have HF2 := Lib.hid hF2
  clear hF hF2
  rintro e w11 ⟨rfl, b11⟩
  have a11 : Below w.heap.size w w11 := by
    refine Below.trans ?_ (b11.mono ?_)
    · repeat (first | exact Below.refl _ _ | assumption | refine below_drewN ?_ _ | refine Below.drew ?_ | refine Below.setCell ?_ (by first | omega | (simp; done) | (simp; omega)) _ | refine Below.alloc ?_ (by first | omega | (simp; done) | (simp; omega)) _)
    · simp; omega
  have l11 : w10.heap.size < w11.heap.size := by have := b11.size; simp at this; omega
  obtain ⟨hc11, hf11⟩ := bcell b11
  have z11 := a11.size
  have p1_11 : w1.heap.size < w10.heap.size + 1 := by omega
  have q1_11 : w1.heap.size < w10.heap.size + 1 + 1 := by omega
  have l1_11 : w1.heap.size < w11.heap.size := by omega
  have p2_11 : w2.heap.size < w10.heap.size + 1 := by omega
  have q2_11 : w2.heap.size < w10.heap.size + 1 + 1 := by omega
  have l2_11 : w2.heap.size < w11.heap.size := by omega
  have p3_11 : w3.heap.size < w10.heap.size + 1 := by omega
  have q3_11 : w3.heap.size < w10.heap.size + 1 + 1 := by omega
  have l3_11 : w3.heap.size < w11.heap.size := by omega
  have p4_11 : w4.heap.size < w10.heap.size + 1 := by omega
  have q4_11 : w4.heap.size < w10.heap.size + 1 + 1 := by omega
  have l4_11 : w4.heap.size < w11.heap.size := by omega
  have p5_11 : w5.heap.size < w10.heap.size + 1 := by omega
  have q5_11 : w5.heap.size < w10.heap.size + 1 + 1 := by omega
  have l5_11 : w5.heap.size < w11.heap.size := by omega
  have p8_11 : w8.heap.size < w10.heap.size + 1 := by omega
  have q8_11 : w8.heap.size < w10.heap.size + 1 + 1 := by omega
  have l8_11 : w8.heap.size < w11.heap.size := by omega
  have p9_11 : w9.heap.size < w10.heap.size + 1 := by omega
  have q9_11 : w9.heap.size < w10.heap.size + 1 + 1 := by omega
  have l9_11 : w9.heap.size < w11.heap.size := by omega
  go_wp2_with fail
  refine (mcheck_no 0 3 _ (by decide)).mono ?_
  rintro e w12 ⟨rfl, b12⟩
  have a12 := a11.trans (b12.mono a11.size)
  have l12 : w11.heap.size ≤ w12.heap.size := b12.size
  obtain ⟨hc12, hf12⟩ := bcell b12
  have z12 := a12.size
  have l1_12 : w1.heap.size < w12.heap.size := by omega
  have l2_12 : w2.heap.size < w12.heap.size := by omega
  have l3_12 : w3.heap.size < w12.heap.size := by omega
  have l4_12 : w4.heap.size < w12.heap.size := by omega
  have l5_12 : w5.heap.size < w12.heap.size := by omega
  have l8_12 : w8.heap.size < w12.heap.size := by omega
  have l9_12 : w9.heap.size < w12.heap.size := by omega
  go_wp2_with fail
  refine (ucheck_yes 1999 10 0 1 0 0 0 _ (by decide +kernel)).mono ?_
  rintro e w13 ⟨rfl, b13⟩
  have a13 := a12.trans (b13.mono a12.size)
  go_wp2_with fail
  go_ret
  exact ⟨rfl, a13⟩
end Go.Proofs.YtgcgmmdfmcapiaaGreatDoor
