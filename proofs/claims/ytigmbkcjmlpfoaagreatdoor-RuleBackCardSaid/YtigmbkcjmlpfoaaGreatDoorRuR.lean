/- Contracts of package rule: isRight, Check. -/
import Derived.Test.YtigmbkcjmlpfoaaGreatDoorRuS
import Derived.Test.YtigmbkcjmlpfoaaGreatDoorMd
namespace Go.Proofs.YtigmbkcjmlpfoaaGreatDoor
open Go.RowKit
theorem up4_of (r : Ru) : up [1, r.fr, r.tl, 9999] = Rl.years r := by
  unfold Rl.years
  rw [Bool.eq_iff_iff]
  simp [up]
theorem up3_m (r : Ru) : up [1, r.m, 12] = Rl.month r := by
  unfold Rl.month
  rw [Bool.eq_iff_iff]
  simp [up]
theorem up3_s (t : Int) : up [-604800, t, 604800] = Rl.time t := by
  unfold Rl.time
  rw [Bool.eq_iff_iff]
  simp [up]
set_option maxHeartbeats 1000000 in
theorem rright_0 (nm : ByteArray) (fr tl m k n d s c sv : Int) (lt : ByteArray) (w : World) (hs : nm.size ≤ 9223372036854775807) (H0 : Hid (Rl.name nm.data.toList = false)) : Calls Tryz.prog 21 #[.agg #[.string nm, .int .i64 fr, .int .i64 tl, .int .i64 m, .int .u8 k, .int .i64 n, .int .i64 d, .int .i64 s, .int .u8 c, .int .i64 sv, .string lt]] w fun e w' => e = .returned (.bool false) ∧ Below w.heap.size w w' := by
  go_enter Tryz.func21, Tryz.ntmps21
  go_wp2_with fail
  refine (rname_is nm false _ hs H0.out).mono ?_
  rintro e w' ⟨rfl, rfl⟩
  have a0 : Below w.heap.size w (w.alloc (.cells #[.string nm, .int .i64 fr, .int .i64 tl, .int .i64 m, .int .u8 k, .int .i64 n, .int .i64 d, .int .i64 s, .int .u8 c, .int .i64 sv, .string lt] 29)) := (Below.refl _ _).alloc (Nat.le_refl _) _
  have k0 : Below (w.heap.size + 1) (w.alloc (.cells #[.string nm, .int .i64 fr, .int .i64 tl, .int .i64 m, .int .u8 k, .int .i64 n, .int .i64 d, .int .i64 s, .int .u8 c, .int .i64 sv, .string lt] 29)) (w.alloc (.cells #[.string nm, .int .i64 fr, .int .i64 tl, .int .i64 m, .int .u8 k, .int .i64 n, .int .i64 d, .int .i64 s, .int .u8 c, .int .i64 sv, .string lt] 29)) := Below.refl _ _
  have z0 : w.heap.size + 1 ≤ (w.alloc (.cells #[.string nm, .int .i64 fr, .int .i64 tl, .int .i64 m, .int .u8 k, .int .i64 n, .int .i64 d, .int .i64 s, .int .u8 c, .int .i64 sv, .string lt] 29)).heap.size := by simp
  go_wp2_with fail
  go_ret
  exact ⟨rfl, a0.trans (k0.mono (Nat.le_succ _))⟩
set_option maxHeartbeats 1000000 in
theorem rright_1 (nm : ByteArray) (fr tl m k n d s c sv : Int) (lt : ByteArray) (w : World) (hs : nm.size ≤ 9223372036854775807) (H0 : Hid (Rl.name nm.data.toList = true)) (H1 : Hid (up [1, fr, tl, 9999] = false)) : Calls Tryz.prog 21 #[.agg #[.string nm, .int .i64 fr, .int .i64 tl, .int .i64 m, .int .u8 k, .int .i64 n, .int .i64 d, .int .i64 s, .int .u8 c, .int .i64 sv, .string lt]] w fun e w' => e = .returned (.bool false) ∧ Below w.heap.size w w' := by
  go_enter Tryz.func21, Tryz.ntmps21
  go_wp2_with fail
  refine (rname_is nm true _ hs H0.out).mono ?_
  rintro e w' ⟨rfl, rfl⟩
  have a0 : Below w.heap.size w (w.alloc (.cells #[.string nm, .int .i64 fr, .int .i64 tl, .int .i64 m, .int .u8 k, .int .i64 n, .int .i64 d, .int .i64 s, .int .u8 c, .int .i64 sv, .string lt] 29)) := (Below.refl _ _).alloc (Nat.le_refl _) _
  have k0 : Below (w.heap.size + 1) (w.alloc (.cells #[.string nm, .int .i64 fr, .int .i64 tl, .int .i64 m, .int .u8 k, .int .i64 n, .int .i64 d, .int .i64 s, .int .u8 c, .int .i64 sv, .string lt] 29)) (w.alloc (.cells #[.string nm, .int .i64 fr, .int .i64 tl, .int .i64 m, .int .u8 k, .int .i64 n, .int .i64 d, .int .i64 s, .int .u8 c, .int .i64 sv, .string lt] 29)) := Below.refl _ _
  have z0 : w.heap.size + 1 ≤ (w.alloc (.cells #[.string nm, .int .i64 fr, .int .i64 tl, .int .i64 m, .int .u8 k, .int .i64 n, .int .i64 d, .int .i64 s, .int .u8 c, .int .i64 sv, .string lt] 29)).heap.size := by simp
  go_wp2_with fail
  refine (rise4 (w.heap.size + 1) _ 1 fr tl 9999 false (by simp) (by go_simp) (by go_simp) (by go_simp) (by go_simp) H1.out).mono ?_
  rintro e w1 ⟨rfl, b1⟩
  have k1 := (k0.alloc z0 _).trans (b1.mono (by first | (simp; done) | (simp; omega)))
  have z1 : w.heap.size + 1 ≤ w1.heap.size := Nat.le_trans z0 k1.size
  have hc1 : ∀ o, w1.cell? ⟨w.heap.size, o, none⟩ = (w.alloc (.cells #[.string nm, .int .i64 fr, .int .i64 tl, .int .i64 m, .int .u8 k, .int .i64 n, .int .i64 d, .int .i64 s, .int .u8 c, .int .i64 sv, .string lt] 29)).cell? ⟨w.heap.size, o, none⟩ := fun o => k1.cell (p := ⟨w.heap.size, o, none⟩) (Nat.lt_succ_self _)
  clear b1
  go_wp2_with fail
  go_ret
  exact ⟨rfl, a0.trans (k1.mono (Nat.le_succ _))⟩
set_option maxHeartbeats 1000000 in
theorem rright_2 (nm : ByteArray) (fr tl m k n d s c sv : Int) (lt : ByteArray) (w : World) (hs : nm.size ≤ 9223372036854775807) (H0 : Hid (Rl.name nm.data.toList = true)) (H1 : Hid (up [1, fr, tl, 9999] = true)) (H2 : Hid (up [1, m, 12] = false)) : Calls Tryz.prog 21 #[.agg #[.string nm, .int .i64 fr, .int .i64 tl, .int .i64 m, .int .u8 k, .int .i64 n, .int .i64 d, .int .i64 s, .int .u8 c, .int .i64 sv, .string lt]] w fun e w' => e = .returned (.bool false) ∧ Below w.heap.size w w' := by
  go_enter Tryz.func21, Tryz.ntmps21
  go_wp2_with fail
  refine (rname_is nm true _ hs H0.out).mono ?_
  rintro e w' ⟨rfl, rfl⟩
  have a0 : Below w.heap.size w (w.alloc (.cells #[.string nm, .int .i64 fr, .int .i64 tl, .int .i64 m, .int .u8 k, .int .i64 n, .int .i64 d, .int .i64 s, .int .u8 c, .int .i64 sv, .string lt] 29)) := (Below.refl _ _).alloc (Nat.le_refl _) _
  have k0 : Below (w.heap.size + 1) (w.alloc (.cells #[.string nm, .int .i64 fr, .int .i64 tl, .int .i64 m, .int .u8 k, .int .i64 n, .int .i64 d, .int .i64 s, .int .u8 c, .int .i64 sv, .string lt] 29)) (w.alloc (.cells #[.string nm, .int .i64 fr, .int .i64 tl, .int .i64 m, .int .u8 k, .int .i64 n, .int .i64 d, .int .i64 s, .int .u8 c, .int .i64 sv, .string lt] 29)) := Below.refl _ _
  have z0 : w.heap.size + 1 ≤ (w.alloc (.cells #[.string nm, .int .i64 fr, .int .i64 tl, .int .i64 m, .int .u8 k, .int .i64 n, .int .i64 d, .int .i64 s, .int .u8 c, .int .i64 sv, .string lt] 29)).heap.size := by simp
  go_wp2_with fail
  refine (rise4 (w.heap.size + 1) _ 1 fr tl 9999 true (by simp) (by go_simp) (by go_simp) (by go_simp) (by go_simp) H1.out).mono ?_
  rintro e w1 ⟨rfl, b1⟩
  have k1 := (k0.alloc z0 _).trans (b1.mono (by first | (simp; done) | (simp; omega)))
  have z1 : w.heap.size + 1 ≤ w1.heap.size := Nat.le_trans z0 k1.size
  have hc1 : ∀ o, w1.cell? ⟨w.heap.size, o, none⟩ = (w.alloc (.cells #[.string nm, .int .i64 fr, .int .i64 tl, .int .i64 m, .int .u8 k, .int .i64 n, .int .i64 d, .int .i64 s, .int .u8 c, .int .i64 sv, .string lt] 29)).cell? ⟨w.heap.size, o, none⟩ := fun o => k1.cell (p := ⟨w.heap.size, o, none⟩) (Nat.lt_succ_self _)
  clear b1
  go_wp2_with fail
  refine (rise3 w1.heap.size _ 1 m 12 false (by simp) (by go_simp) (by go_simp) (by go_simp) H2.out).mono ?_
  rintro e w2 ⟨rfl, b2⟩
  have k2 := (k1.alloc z1 _).trans (b2.mono (by first | (simp; done) | (simp; omega)))
  have z2 : w.heap.size + 1 ≤ w2.heap.size := Nat.le_trans z0 k2.size
  have hc2 : ∀ o, w2.cell? ⟨w.heap.size, o, none⟩ = (w.alloc (.cells #[.string nm, .int .i64 fr, .int .i64 tl, .int .i64 m, .int .u8 k, .int .i64 n, .int .i64 d, .int .i64 s, .int .u8 c, .int .i64 sv, .string lt] 29)).cell? ⟨w.heap.size, o, none⟩ := fun o => k2.cell (p := ⟨w.heap.size, o, none⟩) (Nat.lt_succ_self _)
  clear b2 k1 hc1
  go_wp2_with fail
  go_ret
  exact ⟨rfl, a0.trans (k2.mono (Nat.le_succ _))⟩
set_option maxHeartbeats 1000000 in
theorem rright_3 (nm : ByteArray) (fr tl m k n d s c sv : Int) (lt : ByteArray) (w : World) (hs : nm.size ≤ 9223372036854775807) (H0 : Hid (Rl.name nm.data.toList = true)) (H1 : Hid (up [1, fr, tl, 9999] = true)) (H2 : Hid (up [1, m, 12] = true)) (H3 : Hid (Dy.right k n d = false)) : Calls Tryz.prog 21 #[.agg #[.string nm, .int .i64 fr, .int .i64 tl, .int .i64 m, .int .u8 k, .int .i64 n, .int .i64 d, .int .i64 s, .int .u8 c, .int .i64 sv, .string lt]] w fun e w' => e = .returned (.bool false) ∧ Below w.heap.size w w' := by
  go_enter Tryz.func21, Tryz.ntmps21
  go_wp2_with fail
  refine (rname_is nm true _ hs H0.out).mono ?_
  rintro e w' ⟨rfl, rfl⟩
  have a0 : Below w.heap.size w (w.alloc (.cells #[.string nm, .int .i64 fr, .int .i64 tl, .int .i64 m, .int .u8 k, .int .i64 n, .int .i64 d, .int .i64 s, .int .u8 c, .int .i64 sv, .string lt] 29)) := (Below.refl _ _).alloc (Nat.le_refl _) _
  have k0 : Below (w.heap.size + 1) (w.alloc (.cells #[.string nm, .int .i64 fr, .int .i64 tl, .int .i64 m, .int .u8 k, .int .i64 n, .int .i64 d, .int .i64 s, .int .u8 c, .int .i64 sv, .string lt] 29)) (w.alloc (.cells #[.string nm, .int .i64 fr, .int .i64 tl, .int .i64 m, .int .u8 k, .int .i64 n, .int .i64 d, .int .i64 s, .int .u8 c, .int .i64 sv, .string lt] 29)) := Below.refl _ _
  have z0 : w.heap.size + 1 ≤ (w.alloc (.cells #[.string nm, .int .i64 fr, .int .i64 tl, .int .i64 m, .int .u8 k, .int .i64 n, .int .i64 d, .int .i64 s, .int .u8 c, .int .i64 sv, .string lt] 29)).heap.size := by simp
  go_wp2_with fail
  refine (rise4 (w.heap.size + 1) _ 1 fr tl 9999 true (by simp) (by go_simp) (by go_simp) (by go_simp) (by go_simp) H1.out).mono ?_
  rintro e w1 ⟨rfl, b1⟩
  have k1 := (k0.alloc z0 _).trans (b1.mono (by first | (simp; done) | (simp; omega)))
  have z1 : w.heap.size + 1 ≤ w1.heap.size := Nat.le_trans z0 k1.size
  have hc1 : ∀ o, w1.cell? ⟨w.heap.size, o, none⟩ = (w.alloc (.cells #[.string nm, .int .i64 fr, .int .i64 tl, .int .i64 m, .int .u8 k, .int .i64 n, .int .i64 d, .int .i64 s, .int .u8 c, .int .i64 sv, .string lt] 29)).cell? ⟨w.heap.size, o, none⟩ := fun o => k1.cell (p := ⟨w.heap.size, o, none⟩) (Nat.lt_succ_self _)
  clear b1
  go_wp2_with fail
  refine (rise3 w1.heap.size _ 1 m 12 true (by simp) (by go_simp) (by go_simp) (by go_simp) H2.out).mono ?_
  rintro e w2 ⟨rfl, b2⟩
  have k2 := (k1.alloc z1 _).trans (b2.mono (by first | (simp; done) | (simp; omega)))
  have z2 : w.heap.size + 1 ≤ w2.heap.size := Nat.le_trans z0 k2.size
  have hc2 : ∀ o, w2.cell? ⟨w.heap.size, o, none⟩ = (w.alloc (.cells #[.string nm, .int .i64 fr, .int .i64 tl, .int .i64 m, .int .u8 k, .int .i64 n, .int .i64 d, .int .i64 s, .int .u8 c, .int .i64 sv, .string lt] 29)).cell? ⟨w.heap.size, o, none⟩ := fun o => k2.cell (p := ⟨w.heap.size, o, none⟩) (Nat.lt_succ_self _)
  clear b2 k1 hc1
  go_wp2_with fail
  refine (dcheck_no k n d _ H3.out).mono ?_
  rintro e w3 ⟨rfl, b3⟩
  have k3 := k2.trans (b3.mono z2)
  have z3 : w.heap.size + 1 ≤ w3.heap.size := Nat.le_trans z0 k3.size
  have hc3 : ∀ o, w3.cell? ⟨w.heap.size, o, none⟩ = (w.alloc (.cells #[.string nm, .int .i64 fr, .int .i64 tl, .int .i64 m, .int .u8 k, .int .i64 n, .int .i64 d, .int .i64 s, .int .u8 c, .int .i64 sv, .string lt] 29)).cell? ⟨w.heap.size, o, none⟩ := fun o => k3.cell (p := ⟨w.heap.size, o, none⟩) (Nat.lt_succ_self _)
  clear b3 k2 hc2
  go_wp2_with fail
  go_ret
  exact ⟨rfl, a0.trans (k3.mono (Nat.le_succ _))⟩
set_option maxHeartbeats 1000000 in
theorem rright_4 (nm : ByteArray) (fr tl m k n d s c sv : Int) (lt : ByteArray) (w : World) (hs : nm.size ≤ 9223372036854775807) (H0 : Hid (Rl.name nm.data.toList = true)) (H1 : Hid (up [1, fr, tl, 9999] = true)) (H2 : Hid (up [1, m, 12] = true)) (H3 : Hid (Dy.right k n d = true)) (H4 : Hid (Mo.right s c = false)) : Calls Tryz.prog 21 #[.agg #[.string nm, .int .i64 fr, .int .i64 tl, .int .i64 m, .int .u8 k, .int .i64 n, .int .i64 d, .int .i64 s, .int .u8 c, .int .i64 sv, .string lt]] w fun e w' => e = .returned (.bool false) ∧ Below w.heap.size w w' := by
  go_enter Tryz.func21, Tryz.ntmps21
  go_wp2_with fail
  refine (rname_is nm true _ hs H0.out).mono ?_
  rintro e w' ⟨rfl, rfl⟩
  have a0 : Below w.heap.size w (w.alloc (.cells #[.string nm, .int .i64 fr, .int .i64 tl, .int .i64 m, .int .u8 k, .int .i64 n, .int .i64 d, .int .i64 s, .int .u8 c, .int .i64 sv, .string lt] 29)) := (Below.refl _ _).alloc (Nat.le_refl _) _
  have k0 : Below (w.heap.size + 1) (w.alloc (.cells #[.string nm, .int .i64 fr, .int .i64 tl, .int .i64 m, .int .u8 k, .int .i64 n, .int .i64 d, .int .i64 s, .int .u8 c, .int .i64 sv, .string lt] 29)) (w.alloc (.cells #[.string nm, .int .i64 fr, .int .i64 tl, .int .i64 m, .int .u8 k, .int .i64 n, .int .i64 d, .int .i64 s, .int .u8 c, .int .i64 sv, .string lt] 29)) := Below.refl _ _
  have z0 : w.heap.size + 1 ≤ (w.alloc (.cells #[.string nm, .int .i64 fr, .int .i64 tl, .int .i64 m, .int .u8 k, .int .i64 n, .int .i64 d, .int .i64 s, .int .u8 c, .int .i64 sv, .string lt] 29)).heap.size := by simp
  go_wp2_with fail
  refine (rise4 (w.heap.size + 1) _ 1 fr tl 9999 true (by simp) (by go_simp) (by go_simp) (by go_simp) (by go_simp) H1.out).mono ?_
  rintro e w1 ⟨rfl, b1⟩
  have k1 := (k0.alloc z0 _).trans (b1.mono (by first | (simp; done) | (simp; omega)))
  have z1 : w.heap.size + 1 ≤ w1.heap.size := Nat.le_trans z0 k1.size
  have hc1 : ∀ o, w1.cell? ⟨w.heap.size, o, none⟩ = (w.alloc (.cells #[.string nm, .int .i64 fr, .int .i64 tl, .int .i64 m, .int .u8 k, .int .i64 n, .int .i64 d, .int .i64 s, .int .u8 c, .int .i64 sv, .string lt] 29)).cell? ⟨w.heap.size, o, none⟩ := fun o => k1.cell (p := ⟨w.heap.size, o, none⟩) (Nat.lt_succ_self _)
  clear b1
  go_wp2_with fail
  refine (rise3 w1.heap.size _ 1 m 12 true (by simp) (by go_simp) (by go_simp) (by go_simp) H2.out).mono ?_
  rintro e w2 ⟨rfl, b2⟩
  have k2 := (k1.alloc z1 _).trans (b2.mono (by first | (simp; done) | (simp; omega)))
  have z2 : w.heap.size + 1 ≤ w2.heap.size := Nat.le_trans z0 k2.size
  have hc2 : ∀ o, w2.cell? ⟨w.heap.size, o, none⟩ = (w.alloc (.cells #[.string nm, .int .i64 fr, .int .i64 tl, .int .i64 m, .int .u8 k, .int .i64 n, .int .i64 d, .int .i64 s, .int .u8 c, .int .i64 sv, .string lt] 29)).cell? ⟨w.heap.size, o, none⟩ := fun o => k2.cell (p := ⟨w.heap.size, o, none⟩) (Nat.lt_succ_self _)
  clear b2 k1 hc1
  go_wp2_with fail
  refine (dcheck_yes k n d _ H3.out).mono ?_
  rintro e w3 ⟨rfl, b3⟩
  have k3 := k2.trans (b3.mono z2)
  have z3 : w.heap.size + 1 ≤ w3.heap.size := Nat.le_trans z0 k3.size
  have hc3 : ∀ o, w3.cell? ⟨w.heap.size, o, none⟩ = (w.alloc (.cells #[.string nm, .int .i64 fr, .int .i64 tl, .int .i64 m, .int .u8 k, .int .i64 n, .int .i64 d, .int .i64 s, .int .u8 c, .int .i64 sv, .string lt] 29)).cell? ⟨w.heap.size, o, none⟩ := fun o => k3.cell (p := ⟨w.heap.size, o, none⟩) (Nat.lt_succ_self _)
  clear b3 k2 hc2
  go_wp2_with fail
  refine (mcheck_no s c _ H4.out).mono ?_
  rintro e w4 ⟨rfl, b4⟩
  have k4 := k3.trans (b4.mono z3)
  have z4 : w.heap.size + 1 ≤ w4.heap.size := Nat.le_trans z0 k4.size
  have hc4 : ∀ o, w4.cell? ⟨w.heap.size, o, none⟩ = (w.alloc (.cells #[.string nm, .int .i64 fr, .int .i64 tl, .int .i64 m, .int .u8 k, .int .i64 n, .int .i64 d, .int .i64 s, .int .u8 c, .int .i64 sv, .string lt] 29)).cell? ⟨w.heap.size, o, none⟩ := fun o => k4.cell (p := ⟨w.heap.size, o, none⟩) (Nat.lt_succ_self _)
  clear b4 k3 hc3
  go_wp2_with fail
  go_ret
  exact ⟨rfl, a0.trans (k4.mono (Nat.le_succ _))⟩
set_option maxHeartbeats 1000000 in
theorem rright_5 (nm : ByteArray) (fr tl m k n d s c sv : Int) (lt : ByteArray) (w : World) (hs : nm.size ≤ 9223372036854775807) (H0 : Hid (Rl.name nm.data.toList = true)) (H1 : Hid (up [1, fr, tl, 9999] = true)) (H2 : Hid (up [1, m, 12] = true)) (H3 : Hid (Dy.right k n d = true)) (H4 : Hid (Mo.right s c = true)) (H5 : Hid (up [-604800, sv, 604800] = false)) : Calls Tryz.prog 21 #[.agg #[.string nm, .int .i64 fr, .int .i64 tl, .int .i64 m, .int .u8 k, .int .i64 n, .int .i64 d, .int .i64 s, .int .u8 c, .int .i64 sv, .string lt]] w fun e w' => e = .returned (.bool false) ∧ Below w.heap.size w w' := by
  go_enter Tryz.func21, Tryz.ntmps21
  go_wp2_with fail
  refine (rname_is nm true _ hs H0.out).mono ?_
  rintro e w' ⟨rfl, rfl⟩
  have a0 : Below w.heap.size w (w.alloc (.cells #[.string nm, .int .i64 fr, .int .i64 tl, .int .i64 m, .int .u8 k, .int .i64 n, .int .i64 d, .int .i64 s, .int .u8 c, .int .i64 sv, .string lt] 29)) := (Below.refl _ _).alloc (Nat.le_refl _) _
  have k0 : Below (w.heap.size + 1) (w.alloc (.cells #[.string nm, .int .i64 fr, .int .i64 tl, .int .i64 m, .int .u8 k, .int .i64 n, .int .i64 d, .int .i64 s, .int .u8 c, .int .i64 sv, .string lt] 29)) (w.alloc (.cells #[.string nm, .int .i64 fr, .int .i64 tl, .int .i64 m, .int .u8 k, .int .i64 n, .int .i64 d, .int .i64 s, .int .u8 c, .int .i64 sv, .string lt] 29)) := Below.refl _ _
  have z0 : w.heap.size + 1 ≤ (w.alloc (.cells #[.string nm, .int .i64 fr, .int .i64 tl, .int .i64 m, .int .u8 k, .int .i64 n, .int .i64 d, .int .i64 s, .int .u8 c, .int .i64 sv, .string lt] 29)).heap.size := by simp
  go_wp2_with fail
  refine (rise4 (w.heap.size + 1) _ 1 fr tl 9999 true (by simp) (by go_simp) (by go_simp) (by go_simp) (by go_simp) H1.out).mono ?_
  rintro e w1 ⟨rfl, b1⟩
  have k1 := (k0.alloc z0 _).trans (b1.mono (by first | (simp; done) | (simp; omega)))
  have z1 : w.heap.size + 1 ≤ w1.heap.size := Nat.le_trans z0 k1.size
  have hc1 : ∀ o, w1.cell? ⟨w.heap.size, o, none⟩ = (w.alloc (.cells #[.string nm, .int .i64 fr, .int .i64 tl, .int .i64 m, .int .u8 k, .int .i64 n, .int .i64 d, .int .i64 s, .int .u8 c, .int .i64 sv, .string lt] 29)).cell? ⟨w.heap.size, o, none⟩ := fun o => k1.cell (p := ⟨w.heap.size, o, none⟩) (Nat.lt_succ_self _)
  clear b1
  go_wp2_with fail
  refine (rise3 w1.heap.size _ 1 m 12 true (by simp) (by go_simp) (by go_simp) (by go_simp) H2.out).mono ?_
  rintro e w2 ⟨rfl, b2⟩
  have k2 := (k1.alloc z1 _).trans (b2.mono (by first | (simp; done) | (simp; omega)))
  have z2 : w.heap.size + 1 ≤ w2.heap.size := Nat.le_trans z0 k2.size
  have hc2 : ∀ o, w2.cell? ⟨w.heap.size, o, none⟩ = (w.alloc (.cells #[.string nm, .int .i64 fr, .int .i64 tl, .int .i64 m, .int .u8 k, .int .i64 n, .int .i64 d, .int .i64 s, .int .u8 c, .int .i64 sv, .string lt] 29)).cell? ⟨w.heap.size, o, none⟩ := fun o => k2.cell (p := ⟨w.heap.size, o, none⟩) (Nat.lt_succ_self _)
  clear b2 k1 hc1
  go_wp2_with fail
  refine (dcheck_yes k n d _ H3.out).mono ?_
  rintro e w3 ⟨rfl, b3⟩
  have k3 := k2.trans (b3.mono z2)
  have z3 : w.heap.size + 1 ≤ w3.heap.size := Nat.le_trans z0 k3.size
  have hc3 : ∀ o, w3.cell? ⟨w.heap.size, o, none⟩ = (w.alloc (.cells #[.string nm, .int .i64 fr, .int .i64 tl, .int .i64 m, .int .u8 k, .int .i64 n, .int .i64 d, .int .i64 s, .int .u8 c, .int .i64 sv, .string lt] 29)).cell? ⟨w.heap.size, o, none⟩ := fun o => k3.cell (p := ⟨w.heap.size, o, none⟩) (Nat.lt_succ_self _)
  clear b3 k2 hc2
  go_wp2_with fail
  refine (mcheck_yes s c _ H4.out).mono ?_
  rintro e w4 ⟨rfl, b4⟩
  have k4 := k3.trans (b4.mono z3)
  have z4 : w.heap.size + 1 ≤ w4.heap.size := Nat.le_trans z0 k4.size
  have hc4 : ∀ o, w4.cell? ⟨w.heap.size, o, none⟩ = (w.alloc (.cells #[.string nm, .int .i64 fr, .int .i64 tl, .int .i64 m, .int .u8 k, .int .i64 n, .int .i64 d, .int .i64 s, .int .u8 c, .int .i64 sv, .string lt] 29)).cell? ⟨w.heap.size, o, none⟩ := fun o => k4.cell (p := ⟨w.heap.size, o, none⟩) (Nat.lt_succ_self _)
  clear b4 k3 hc3
  go_wp2_with fail
  refine (rise3 w4.heap.size _ (-604800) sv 604800 false (by simp) (by go_simp) (by go_simp) (by go_simp) H5.out).mono ?_
  rintro e w5 ⟨rfl, b5⟩
  have k5 := (k4.alloc z4 _).trans (b5.mono (by first | (simp; done) | (simp; omega)))
  have z5 : w.heap.size + 1 ≤ w5.heap.size := Nat.le_trans z0 k5.size
  have hc5 : ∀ o, w5.cell? ⟨w.heap.size, o, none⟩ = (w.alloc (.cells #[.string nm, .int .i64 fr, .int .i64 tl, .int .i64 m, .int .u8 k, .int .i64 n, .int .i64 d, .int .i64 s, .int .u8 c, .int .i64 sv, .string lt] 29)).cell? ⟨w.heap.size, o, none⟩ := fun o => k5.cell (p := ⟨w.heap.size, o, none⟩) (Nat.lt_succ_self _)
  clear b5 k4 hc4
  go_wp2_with fail
  go_ret
  exact ⟨rfl, a0.trans (k5.mono (Nat.le_succ _))⟩
set_option maxHeartbeats 1000000 in
theorem rright_6 (nm : ByteArray) (fr tl m k n d s c sv : Int) (lt : ByteArray) (w : World) (hs : nm.size ≤ 9223372036854775807) (H0 : Hid (Rl.name nm.data.toList = true)) (H1 : Hid (up [1, fr, tl, 9999] = true)) (H2 : Hid (up [1, m, 12] = true)) (H3 : Hid (Dy.right k n d = true)) (H4 : Hid (Mo.right s c = true)) (H5 : Hid (up [-604800, sv, 604800] = true)) (H6 : Hid (Fm.ltr lt.data.toList = false)) : Calls Tryz.prog 21 #[.agg #[.string nm, .int .i64 fr, .int .i64 tl, .int .i64 m, .int .u8 k, .int .i64 n, .int .i64 d, .int .i64 s, .int .u8 c, .int .i64 sv, .string lt]] w fun e w' => e = .returned (.bool false) ∧ Below w.heap.size w w' := by
  go_enter Tryz.func21, Tryz.ntmps21
  go_wp2_with fail
  refine (rname_is nm true _ hs H0.out).mono ?_
  rintro e w' ⟨rfl, rfl⟩
  have a0 : Below w.heap.size w (w.alloc (.cells #[.string nm, .int .i64 fr, .int .i64 tl, .int .i64 m, .int .u8 k, .int .i64 n, .int .i64 d, .int .i64 s, .int .u8 c, .int .i64 sv, .string lt] 29)) := (Below.refl _ _).alloc (Nat.le_refl _) _
  have k0 : Below (w.heap.size + 1) (w.alloc (.cells #[.string nm, .int .i64 fr, .int .i64 tl, .int .i64 m, .int .u8 k, .int .i64 n, .int .i64 d, .int .i64 s, .int .u8 c, .int .i64 sv, .string lt] 29)) (w.alloc (.cells #[.string nm, .int .i64 fr, .int .i64 tl, .int .i64 m, .int .u8 k, .int .i64 n, .int .i64 d, .int .i64 s, .int .u8 c, .int .i64 sv, .string lt] 29)) := Below.refl _ _
  have z0 : w.heap.size + 1 ≤ (w.alloc (.cells #[.string nm, .int .i64 fr, .int .i64 tl, .int .i64 m, .int .u8 k, .int .i64 n, .int .i64 d, .int .i64 s, .int .u8 c, .int .i64 sv, .string lt] 29)).heap.size := by simp
  go_wp2_with fail
  refine (rise4 (w.heap.size + 1) _ 1 fr tl 9999 true (by simp) (by go_simp) (by go_simp) (by go_simp) (by go_simp) H1.out).mono ?_
  rintro e w1 ⟨rfl, b1⟩
  have k1 := (k0.alloc z0 _).trans (b1.mono (by first | (simp; done) | (simp; omega)))
  have z1 : w.heap.size + 1 ≤ w1.heap.size := Nat.le_trans z0 k1.size
  have hc1 : ∀ o, w1.cell? ⟨w.heap.size, o, none⟩ = (w.alloc (.cells #[.string nm, .int .i64 fr, .int .i64 tl, .int .i64 m, .int .u8 k, .int .i64 n, .int .i64 d, .int .i64 s, .int .u8 c, .int .i64 sv, .string lt] 29)).cell? ⟨w.heap.size, o, none⟩ := fun o => k1.cell (p := ⟨w.heap.size, o, none⟩) (Nat.lt_succ_self _)
  clear b1
  go_wp2_with fail
  refine (rise3 w1.heap.size _ 1 m 12 true (by simp) (by go_simp) (by go_simp) (by go_simp) H2.out).mono ?_
  rintro e w2 ⟨rfl, b2⟩
  have k2 := (k1.alloc z1 _).trans (b2.mono (by first | (simp; done) | (simp; omega)))
  have z2 : w.heap.size + 1 ≤ w2.heap.size := Nat.le_trans z0 k2.size
  have hc2 : ∀ o, w2.cell? ⟨w.heap.size, o, none⟩ = (w.alloc (.cells #[.string nm, .int .i64 fr, .int .i64 tl, .int .i64 m, .int .u8 k, .int .i64 n, .int .i64 d, .int .i64 s, .int .u8 c, .int .i64 sv, .string lt] 29)).cell? ⟨w.heap.size, o, none⟩ := fun o => k2.cell (p := ⟨w.heap.size, o, none⟩) (Nat.lt_succ_self _)
  clear b2 k1 hc1
  go_wp2_with fail
  refine (dcheck_yes k n d _ H3.out).mono ?_
  rintro e w3 ⟨rfl, b3⟩
  have k3 := k2.trans (b3.mono z2)
  have z3 : w.heap.size + 1 ≤ w3.heap.size := Nat.le_trans z0 k3.size
  have hc3 : ∀ o, w3.cell? ⟨w.heap.size, o, none⟩ = (w.alloc (.cells #[.string nm, .int .i64 fr, .int .i64 tl, .int .i64 m, .int .u8 k, .int .i64 n, .int .i64 d, .int .i64 s, .int .u8 c, .int .i64 sv, .string lt] 29)).cell? ⟨w.heap.size, o, none⟩ := fun o => k3.cell (p := ⟨w.heap.size, o, none⟩) (Nat.lt_succ_self _)
  clear b3 k2 hc2
  go_wp2_with fail
  refine (mcheck_yes s c _ H4.out).mono ?_
  rintro e w4 ⟨rfl, b4⟩
  have k4 := k3.trans (b4.mono z3)
  have z4 : w.heap.size + 1 ≤ w4.heap.size := Nat.le_trans z0 k4.size
  have hc4 : ∀ o, w4.cell? ⟨w.heap.size, o, none⟩ = (w.alloc (.cells #[.string nm, .int .i64 fr, .int .i64 tl, .int .i64 m, .int .u8 k, .int .i64 n, .int .i64 d, .int .i64 s, .int .u8 c, .int .i64 sv, .string lt] 29)).cell? ⟨w.heap.size, o, none⟩ := fun o => k4.cell (p := ⟨w.heap.size, o, none⟩) (Nat.lt_succ_self _)
  clear b4 k3 hc3
  go_wp2_with fail
  refine (rise3 w4.heap.size _ (-604800) sv 604800 true (by simp) (by go_simp) (by go_simp) (by go_simp) H5.out).mono ?_
  rintro e w5 ⟨rfl, b5⟩
  have k5 := (k4.alloc z4 _).trans (b5.mono (by first | (simp; done) | (simp; omega)))
  have z5 : w.heap.size + 1 ≤ w5.heap.size := Nat.le_trans z0 k5.size
  have hc5 : ∀ o, w5.cell? ⟨w.heap.size, o, none⟩ = (w.alloc (.cells #[.string nm, .int .i64 fr, .int .i64 tl, .int .i64 m, .int .u8 k, .int .i64 n, .int .i64 d, .int .i64 s, .int .u8 c, .int .i64 sv, .string lt] 29)).cell? ⟨w.heap.size, o, none⟩ := fun o => k5.cell (p := ⟨w.heap.size, o, none⟩) (Nat.lt_succ_self _)
  clear b5 k4 hc4
  go_wp2_with fail
  refine (cletter_no lt _ H6.out).mono ?_
  rintro e w6 ⟨rfl, b6⟩
  have k6 := k5.trans (b6.mono z5)
  have z6 : w.heap.size + 1 ≤ w6.heap.size := Nat.le_trans z0 k6.size
  have hc6 : ∀ o, w6.cell? ⟨w.heap.size, o, none⟩ = (w.alloc (.cells #[.string nm, .int .i64 fr, .int .i64 tl, .int .i64 m, .int .u8 k, .int .i64 n, .int .i64 d, .int .i64 s, .int .u8 c, .int .i64 sv, .string lt] 29)).cell? ⟨w.heap.size, o, none⟩ := fun o => k6.cell (p := ⟨w.heap.size, o, none⟩) (Nat.lt_succ_self _)
  clear b6 k5 hc5
  go_wp2_with fail
  go_ret
  exact ⟨rfl, a0.trans (k6.mono (Nat.le_succ _))⟩
set_option maxHeartbeats 1000000 in
theorem rright_7 (nm : ByteArray) (fr tl m k n d s c sv : Int) (lt : ByteArray) (w : World) (hs : nm.size ≤ 9223372036854775807) (H0 : Hid (Rl.name nm.data.toList = true)) (H1 : Hid (up [1, fr, tl, 9999] = true)) (H2 : Hid (up [1, m, 12] = true)) (H3 : Hid (Dy.right k n d = true)) (H4 : Hid (Mo.right s c = true)) (H5 : Hid (up [-604800, sv, 604800] = true)) (H6 : Hid (Fm.ltr lt.data.toList = true)) : Calls Tryz.prog 21 #[.agg #[.string nm, .int .i64 fr, .int .i64 tl, .int .i64 m, .int .u8 k, .int .i64 n, .int .i64 d, .int .i64 s, .int .u8 c, .int .i64 sv, .string lt]] w fun e w' => e = .returned (.bool true) ∧ Below w.heap.size w w' := by
  go_enter Tryz.func21, Tryz.ntmps21
  go_wp2_with fail
  refine (rname_is nm true _ hs H0.out).mono ?_
  rintro e w' ⟨rfl, rfl⟩
  have a0 : Below w.heap.size w (w.alloc (.cells #[.string nm, .int .i64 fr, .int .i64 tl, .int .i64 m, .int .u8 k, .int .i64 n, .int .i64 d, .int .i64 s, .int .u8 c, .int .i64 sv, .string lt] 29)) := (Below.refl _ _).alloc (Nat.le_refl _) _
  have k0 : Below (w.heap.size + 1) (w.alloc (.cells #[.string nm, .int .i64 fr, .int .i64 tl, .int .i64 m, .int .u8 k, .int .i64 n, .int .i64 d, .int .i64 s, .int .u8 c, .int .i64 sv, .string lt] 29)) (w.alloc (.cells #[.string nm, .int .i64 fr, .int .i64 tl, .int .i64 m, .int .u8 k, .int .i64 n, .int .i64 d, .int .i64 s, .int .u8 c, .int .i64 sv, .string lt] 29)) := Below.refl _ _
  have z0 : w.heap.size + 1 ≤ (w.alloc (.cells #[.string nm, .int .i64 fr, .int .i64 tl, .int .i64 m, .int .u8 k, .int .i64 n, .int .i64 d, .int .i64 s, .int .u8 c, .int .i64 sv, .string lt] 29)).heap.size := by simp
  go_wp2_with fail
  refine (rise4 (w.heap.size + 1) _ 1 fr tl 9999 true (by simp) (by go_simp) (by go_simp) (by go_simp) (by go_simp) H1.out).mono ?_
  rintro e w1 ⟨rfl, b1⟩
  have k1 := (k0.alloc z0 _).trans (b1.mono (by first | (simp; done) | (simp; omega)))
  have z1 : w.heap.size + 1 ≤ w1.heap.size := Nat.le_trans z0 k1.size
  have hc1 : ∀ o, w1.cell? ⟨w.heap.size, o, none⟩ = (w.alloc (.cells #[.string nm, .int .i64 fr, .int .i64 tl, .int .i64 m, .int .u8 k, .int .i64 n, .int .i64 d, .int .i64 s, .int .u8 c, .int .i64 sv, .string lt] 29)).cell? ⟨w.heap.size, o, none⟩ := fun o => k1.cell (p := ⟨w.heap.size, o, none⟩) (Nat.lt_succ_self _)
  clear b1
  go_wp2_with fail
  refine (rise3 w1.heap.size _ 1 m 12 true (by simp) (by go_simp) (by go_simp) (by go_simp) H2.out).mono ?_
  rintro e w2 ⟨rfl, b2⟩
  have k2 := (k1.alloc z1 _).trans (b2.mono (by first | (simp; done) | (simp; omega)))
  have z2 : w.heap.size + 1 ≤ w2.heap.size := Nat.le_trans z0 k2.size
  have hc2 : ∀ o, w2.cell? ⟨w.heap.size, o, none⟩ = (w.alloc (.cells #[.string nm, .int .i64 fr, .int .i64 tl, .int .i64 m, .int .u8 k, .int .i64 n, .int .i64 d, .int .i64 s, .int .u8 c, .int .i64 sv, .string lt] 29)).cell? ⟨w.heap.size, o, none⟩ := fun o => k2.cell (p := ⟨w.heap.size, o, none⟩) (Nat.lt_succ_self _)
  clear b2 k1 hc1
  go_wp2_with fail
  refine (dcheck_yes k n d _ H3.out).mono ?_
  rintro e w3 ⟨rfl, b3⟩
  have k3 := k2.trans (b3.mono z2)
  have z3 : w.heap.size + 1 ≤ w3.heap.size := Nat.le_trans z0 k3.size
  have hc3 : ∀ o, w3.cell? ⟨w.heap.size, o, none⟩ = (w.alloc (.cells #[.string nm, .int .i64 fr, .int .i64 tl, .int .i64 m, .int .u8 k, .int .i64 n, .int .i64 d, .int .i64 s, .int .u8 c, .int .i64 sv, .string lt] 29)).cell? ⟨w.heap.size, o, none⟩ := fun o => k3.cell (p := ⟨w.heap.size, o, none⟩) (Nat.lt_succ_self _)
  clear b3 k2 hc2
  go_wp2_with fail
  refine (mcheck_yes s c _ H4.out).mono ?_
  rintro e w4 ⟨rfl, b4⟩
  have k4 := k3.trans (b4.mono z3)
  have z4 : w.heap.size + 1 ≤ w4.heap.size := Nat.le_trans z0 k4.size
  have hc4 : ∀ o, w4.cell? ⟨w.heap.size, o, none⟩ = (w.alloc (.cells #[.string nm, .int .i64 fr, .int .i64 tl, .int .i64 m, .int .u8 k, .int .i64 n, .int .i64 d, .int .i64 s, .int .u8 c, .int .i64 sv, .string lt] 29)).cell? ⟨w.heap.size, o, none⟩ := fun o => k4.cell (p := ⟨w.heap.size, o, none⟩) (Nat.lt_succ_self _)
  clear b4 k3 hc3
  go_wp2_with fail
  refine (rise3 w4.heap.size _ (-604800) sv 604800 true (by simp) (by go_simp) (by go_simp) (by go_simp) H5.out).mono ?_
  rintro e w5 ⟨rfl, b5⟩
  have k5 := (k4.alloc z4 _).trans (b5.mono (by first | (simp; done) | (simp; omega)))
  have z5 : w.heap.size + 1 ≤ w5.heap.size := Nat.le_trans z0 k5.size
  have hc5 : ∀ o, w5.cell? ⟨w.heap.size, o, none⟩ = (w.alloc (.cells #[.string nm, .int .i64 fr, .int .i64 tl, .int .i64 m, .int .u8 k, .int .i64 n, .int .i64 d, .int .i64 s, .int .u8 c, .int .i64 sv, .string lt] 29)).cell? ⟨w.heap.size, o, none⟩ := fun o => k5.cell (p := ⟨w.heap.size, o, none⟩) (Nat.lt_succ_self _)
  clear b5 k4 hc4
  go_wp2_with fail
  refine (cletter_yes lt _ H6.out).mono ?_
  rintro e w6 ⟨rfl, b6⟩
  have k6 := k5.trans (b6.mono z5)
  have z6 : w.heap.size + 1 ≤ w6.heap.size := Nat.le_trans z0 k6.size
  have hc6 : ∀ o, w6.cell? ⟨w.heap.size, o, none⟩ = (w.alloc (.cells #[.string nm, .int .i64 fr, .int .i64 tl, .int .i64 m, .int .u8 k, .int .i64 n, .int .i64 d, .int .i64 s, .int .u8 c, .int .i64 sv, .string lt] 29)).cell? ⟨w.heap.size, o, none⟩ := fun o => k6.cell (p := ⟨w.heap.size, o, none⟩) (Nat.lt_succ_self _)
  clear b6 k5 hc5
  go_wp2_with fail
  go_ret
  exact ⟨rfl, a0.trans (k6.mono (Nat.le_succ _))⟩
theorem isRight_any (r : Ru) (w : World) (hs : r.nm.size ≤ 9223372036854775807) : Calls Tryz.prog 21 #[ruV r] w fun e w' => e = .returned (.bool (Rl.right r)) ∧ Below w.heap.size w w' := by
  have e1 := up4_of r
  have e2 := up3_m r
  have e5 := up3_s r.sv
  unfold Rl.right
  obtain ⟨nm, fr, tl, m, k, n, d, s, c, sv, lt⟩ := r
  simp only at e1 e2 e5 hs ⊢
  cases h0 : Rl.name nm.data.toList with
  | false => exact rright_0 nm fr tl m k n d s c sv lt w hs (Lib.hid h0)
  | true =>
    cases h1 : Rl.years ⟨nm, fr, tl, m, k, n, d, s, c, sv, lt⟩ with
    | false => exact rright_1 nm fr tl m k n d s c sv lt w hs (Lib.hid h0) (Lib.hid (e1.trans h1))
    | true =>
      cases h2 : Rl.month ⟨nm, fr, tl, m, k, n, d, s, c, sv, lt⟩ with
      | false => exact rright_2 nm fr tl m k n d s c sv lt w hs (Lib.hid h0) (Lib.hid (e1.trans h1)) (Lib.hid (e2.trans h2))
      | true =>
        cases h3 : Dy.right k n d with
        | false => exact rright_3 nm fr tl m k n d s c sv lt w hs (Lib.hid h0) (Lib.hid (e1.trans h1)) (Lib.hid (e2.trans h2)) (Lib.hid h3)
        | true =>
          cases h4 : Mo.right s c with
          | false => exact rright_4 nm fr tl m k n d s c sv lt w hs (Lib.hid h0) (Lib.hid (e1.trans h1)) (Lib.hid (e2.trans h2)) (Lib.hid h3) (Lib.hid h4)
          | true =>
            cases h5 : Rl.time sv with
            | false => exact rright_5 nm fr tl m k n d s c sv lt w hs (Lib.hid h0) (Lib.hid (e1.trans h1)) (Lib.hid (e2.trans h2)) (Lib.hid h3) (Lib.hid h4) (Lib.hid (e5.trans h5))
            | true =>
              cases h6 : Fm.ltr lt.data.toList with
              | false => exact rright_6 nm fr tl m k n d s c sv lt w hs (Lib.hid h0) (Lib.hid (e1.trans h1)) (Lib.hid (e2.trans h2)) (Lib.hid h3) (Lib.hid h4) (Lib.hid (e5.trans h5)) (Lib.hid h6)
              | true =>
                exact rright_7 nm fr tl m k n d s c sv lt w hs (Lib.hid h0) (Lib.hid (e1.trans h1)) (Lib.hid (e2.trans h2)) (Lib.hid h3) (Lib.hid h4) (Lib.hid (e5.trans h5)) (Lib.hid h6)
theorem isRight_is (r : Ru) (v : Bool) (w : World) (hs : r.nm.size ≤ 9223372036854775807) (h : Rl.right r = v) : Calls Tryz.prog 21 #[ruV r] w fun e w' => e = .returned (.bool v) ∧ Below w.heap.size w w' := by
  subst h
  exact isRight_any r w hs
/-- What Check answers. -/
theorem rcheck_is (r : Ru) (v : Bool) (w : World) (hs : r.nm.size ≤ 9223372036854775807) (h : Rl.right r = v) : Calls Tryz.prog 11 #[ruV r] w fun e w' => e = .returned (.int .i64 (if v = true then 0 else 2)) ∧ Below w.heap.size w w' := by
  have H := fun W => isRight_is r v W hs h
  obtain ⟨nm, fr, tl, m, k, n, d, s, c, sv, lt⟩ := r
  have HH := Lib.hid H
  clear H h
  cases v with
  | false =>
    go_enter Tryz.func11, Tryz.ntmps11
    go_wp2_with fail
    refine (HH.out _).mono ?_
    rintro e w1 ⟨rfl, b1⟩
    have a1 : Below w.heap.size w w1 := ((Below.refl _ _).alloc (Nat.le_refl _) _).trans (b1.mono (by simp))
    go_wp2_with fail
    go_ret
    exact ⟨rfl, a1⟩
  | true =>
    go_enter Tryz.func11, Tryz.ntmps11
    go_wp2_with fail
    refine (HH.out _).mono ?_
    rintro e w1 ⟨rfl, b1⟩
    have a1 : Below w.heap.size w w1 := ((Below.refl _ _).alloc (Nat.le_refl _) _).trans (b1.mono (by simp))
    go_wp2_with fail
    go_ret
    exact ⟨rfl, a1⟩
end Go.Proofs.YtigmbkcjmlpfoaaGreatDoor
