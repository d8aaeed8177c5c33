/- What is wanted of the texts behind: a piece, by program. -/
import Derived.Test.YthlbockphdbpkaaDoorProg
import Derived.Test.YthlbockphdbpkaaDoorShelf
import Derived.Lib.Join
import Derived.Shelf.Abstract
import Init
import Derived.WalkKit
import Derived.Lib.Hide
import Derived.Deep.QuietTactic
import Derived.BigQuiet
import Derived.Outline
import Derived.Lib.ItoaNum
import Derived.Lib.Split
import Derived.LoopTactic
import Derived.Lib.LaidTab
import Derived.Lib.AppendIntMem
import Derived.LoopN
import Derived.Handy
import Derived.Deep.RegionHeld3
import Derived.Below
import Derived.ChangeSlices
import Derived.SliceStrings
import Derived.WideShapes
import Derived.Deep.Slices
import Derived.OpenShut
import Derived.Calls
import Derived.Lib.IndexMore
import Derived.Laws.IdiomStrings
import Derived.Laws.AppendOwn
import Derived.Lib.BufferWrite
import Derived.Deep.RegionLaw
import Derived.Lib.LazyBuf
import Derived.OwnWalk
import Derived.ChangeArms
import Derived.Deep.LoopGhost
import Derived.Scope
import Derived.ScopeJumps
import Derived.WalkMore
import Derived.Lib.BufferRead
import Derived.Laws.OwnMore
import Derived.Maps.AppendAt
import Derived.Deep.AppendLies
import Derived.Lib.AppendZeros
import Derived.Laws.AppendOwnNone
import Derived.Lib.SplitLaws
import Derived.Lib.SmallJoins
import Derived.Test.YthlbockphdbpkaaDoorSd0a
import Derived.Test.YthlbockphdbpkaaDoorSd0b
import Derived.Test.YthlbockphdbpkaaDoorSd0c
namespace Go.Proofs.YthlbockphdbpkaaDoor
open Go.RowKit
theorem up4_of (r : Ru) : up [1, r.fr, r.tl, 9999] = Rl.years r := by
  unfold Rl.years
  rw [Bool.eq_iff_iff]
  simp [up]
theorem up3_m (r : Ru) : up [1, r.m, 12] = Rl.month r := by
  unfold Rl.month
  rw [Bool.eq_iff_iff]
  simp [up]
theorem up3_s (t : Int) : up [-604800, t, 604800] = Rl.time t := by
  unfold Rl.time
  rw [Bool.eq_iff_iff]
  simp [up]
set_option maxHeartbeats 1000000 in
theorem rright_0 (nm : ByteArray) (fr tl m k n d s c sv : Int) (lt : ByteArray) (w : World) (hs : nm.size ≤ 9223372036854775807) (H0 : Hid (Rl.name nm.data.toList = false)) : Calls Tryd.prog 22 #[.agg #[.string nm, .int .i64 fr, .int .i64 tl, .int .i64 m, .int .u8 k, .int .i64 n, .int .i64 d, .int .i64 s, .int .u8 c, .int .i64 sv, .string lt]] w fun e w' => e = .returned (.bool false) ∧ Below w.heap.size w w' := by
  go_enter Tryd.func22, Tryd.ntmps22
  go_wp2_with fail
  refine (rname_is nm false _ hs H0.out).mono ?_
  rintro e w' ⟨rfl, rfl⟩
  have a0 : Below w.heap.size w (w.alloc (.cells #[.string nm, .int .i64 fr, .int .i64 tl, .int .i64 m, .int .u8 k, .int .i64 n, .int .i64 d, .int .i64 s, .int .u8 c, .int .i64 sv, .string lt] 34)) := (Below.refl _ _).alloc (Nat.le_refl _) _
  have k0 : Below (w.heap.size + 1) (w.alloc (.cells #[.string nm, .int .i64 fr, .int .i64 tl, .int .i64 m, .int .u8 k, .int .i64 n, .int .i64 d, .int .i64 s, .int .u8 c, .int .i64 sv, .string lt] 34)) (w.alloc (.cells #[.string nm, .int .i64 fr, .int .i64 tl, .int .i64 m, .int .u8 k, .int .i64 n, .int .i64 d, .int .i64 s, .int .u8 c, .int .i64 sv, .string lt] 34)) := Below.refl _ _
  have z0 : w.heap.size + 1 ≤ (w.alloc (.cells #[.string nm, .int .i64 fr, .int .i64 tl, .int .i64 m, .int .u8 k, .int .i64 n, .int .i64 d, .int .i64 s, .int .u8 c, .int .i64 sv, .string lt] 34)).heap.size := by simp
  go_wp2_with fail
  go_ret
  exact ⟨rfl, a0.trans (k0.mono (Nat.le_succ _))⟩
set_option maxHeartbeats 1000000 in
theorem rright_1 (nm : ByteArray) (fr tl m k n d s c sv : Int) (lt : ByteArray) (w : World) (hs : nm.size ≤ 9223372036854775807) (H0 : Hid (Rl.name nm.data.toList = true)) (H1 : Hid (up [1, fr, tl, 9999] = false)) : Calls Tryd.prog 22 #[.agg #[.string nm, .int .i64 fr, .int .i64 tl, .int .i64 m, .int .u8 k, .int .i64 n, .int .i64 d, .int .i64 s, .int .u8 c, .int .i64 sv, .string lt]] w fun e w' => e = .returned (.bool false) ∧ Below w.heap.size w w' := by
  go_enter Tryd.func22, Tryd.ntmps22
  go_wp2_with fail
  refine (rname_is nm true _ hs H0.out).mono ?_
  rintro e w' ⟨rfl, rfl⟩
  have a0 : Below w.heap.size w (w.alloc (.cells #[.string nm, .int .i64 fr, .int .i64 tl, .int .i64 m, .int .u8 k, .int .i64 n, .int .i64 d, .int .i64 s, .int .u8 c, .int .i64 sv, .string lt] 34)) := (Below.refl _ _).alloc (Nat.le_refl _) _
  have k0 : Below (w.heap.size + 1) (w.alloc (.cells #[.string nm, .int .i64 fr, .int .i64 tl, .int .i64 m, .int .u8 k, .int .i64 n, .int .i64 d, .int .i64 s, .int .u8 c, .int .i64 sv, .string lt] 34)) (w.alloc (.cells #[.string nm, .int .i64 fr, .int .i64 tl, .int .i64 m, .int .u8 k, .int .i64 n, .int .i64 d, .int .i64 s, .int .u8 c, .int .i64 sv, .string lt] 34)) := Below.refl _ _
  have z0 : w.heap.size + 1 ≤ (w.alloc (.cells #[.string nm, .int .i64 fr, .int .i64 tl, .int .i64 m, .int .u8 k, .int .i64 n, .int .i64 d, .int .i64 s, .int .u8 c, .int .i64 sv, .string lt] 34)).heap.size := by simp
  go_wp2_with fail
  refine (rise4 (w.heap.size + 1) _ 1 fr tl 9999 false (by simp) (by go_simp) (by go_simp) (by go_simp) (by go_simp) H1.out).mono ?_
  rintro e w1 ⟨rfl, b1⟩
  have k1 := (k0.alloc z0 _).trans (b1.mono (by first | (simp; done) | (simp; omega)))
  have z1 : w.heap.size + 1 ≤ w1.heap.size := Nat.le_trans z0 k1.size
  have hc1 : ∀ o, w1.cell? ⟨w.heap.size, o, none⟩ = (w.alloc (.cells #[.string nm, .int .i64 fr, .int .i64 tl, .int .i64 m, .int .u8 k, .int .i64 n, .int .i64 d, .int .i64 s, .int .u8 c, .int .i64 sv, .string lt] 34)).cell? ⟨w.heap.size, o, none⟩ := fun o => k1.cell (p := ⟨w.heap.size, o, none⟩) (Nat.lt_succ_self _)
  clear b1
  go_wp2_with fail
  go_ret
  exact ⟨rfl, a0.trans (k1.mono (Nat.le_succ _))⟩
set_option maxHeartbeats 1000000 in
theorem rright_2 (nm : ByteArray) (fr tl m k n d s c sv : Int) (lt : ByteArray) (w : World) (hs : nm.size ≤ 9223372036854775807) (H0 : Hid (Rl.name nm.data.toList = true)) (H1 : Hid (up [1, fr, tl, 9999] = true)) (H2 : Hid (up [1, m, 12] = false)) : Calls Tryd.prog 22 #[.agg #[.string nm, .int .i64 fr, .int .i64 tl, .int .i64 m, .int .u8 k, .int .i64 n, .int .i64 d, .int .i64 s, .int .u8 c, .int .i64 sv, .string lt]] w fun e w' => e = .returned (.bool false) ∧ Below w.heap.size w w' := by
  go_enter Tryd.func22, Tryd.ntmps22
  go_wp2_with fail
  refine (rname_is nm true _ hs H0.out).mono ?_
  rintro e w' ⟨rfl, rfl⟩
  have a0 : Below w.heap.size w (w.alloc (.cells #[.string nm, .int .i64 fr, .int .i64 tl, .int .i64 m, .int .u8 k, .int .i64 n, .int .i64 d, .int .i64 s, .int .u8 c, .int .i64 sv, .string lt] 34)) := (Below.refl _ _).alloc (Nat.le_refl _) _
  have k0 : Below (w.heap.size + 1) (w.alloc (.cells #[.string nm, .int .i64 fr, .int .i64 tl, .int .i64 m, .int .u8 k, .int .i64 n, .int .i64 d, .int .i64 s, .int .u8 c, .int .i64 sv, .string lt] 34)) (w.alloc (.cells #[.string nm, .int .i64 fr, .int .i64 tl, .int .i64 m, .int .u8 k, .int .i64 n, .int .i64 d, .int .i64 s, .int .u8 c, .int .i64 sv, .string lt] 34)) := Below.refl _ _
  have z0 : w.heap.size + 1 ≤ (w.alloc (.cells #[.string nm, .int .i64 fr, .int .i64 tl, .int .i64 m, .int .u8 k, .int .i64 n, .int .i64 d, .int .i64 s, .int .u8 c, .int .i64 sv, .string lt] 34)).heap.size := by simp
  go_wp2_with fail
  refine (rise4 (w.heap.size + 1) _ 1 fr tl 9999 true (by simp) (by go_simp) (by go_simp) (by go_simp) (by go_simp) H1.out).mono ?_
  rintro e w1 ⟨rfl, b1⟩
  have k1 := (k0.alloc z0 _).trans (b1.mono (by first | (simp; done) | (simp; omega)))
  have z1 : w.heap.size + 1 ≤ w1.heap.size := Nat.le_trans z0 k1.size
  have hc1 : ∀ o, w1.cell? ⟨w.heap.size, o, none⟩ = (w.alloc (.cells #[.string nm, .int .i64 fr, .int .i64 tl, .int .i64 m, .int .u8 k, .int .i64 n, .int .i64 d, .int .i64 s, .int .u8 c, .int .i64 sv, .string lt] 34)).cell? ⟨w.heap.size, o, none⟩ := fun o => k1.cell (p := ⟨w.heap.size, o, none⟩) (Nat.lt_succ_self _)
  clear b1
  go_wp2_with fail
  refine (rise3 w1.heap.size _ 1 m 12 false (by simp) (by go_simp) (by go_simp) (by go_simp) H2.out).mono ?_
  rintro e w2 ⟨rfl, b2⟩
  have k2 := (k1.alloc z1 _).trans (b2.mono (by first | (simp; done) | (simp; omega)))
  have z2 : w.heap.size + 1 ≤ w2.heap.size := Nat.le_trans z0 k2.size
  have hc2 : ∀ o, w2.cell? ⟨w.heap.size, o, none⟩ = (w.alloc (.cells #[.string nm, .int .i64 fr, .int .i64 tl, .int .i64 m, .int .u8 k, .int .i64 n, .int .i64 d, .int .i64 s, .int .u8 c, .int .i64 sv, .string lt] 34)).cell? ⟨w.heap.size, o, none⟩ := fun o => k2.cell (p := ⟨w.heap.size, o, none⟩) (Nat.lt_succ_self _)
  clear b2 k1 hc1
  go_wp2_with fail
  go_ret
  exact ⟨rfl, a0.trans (k2.mono (Nat.le_succ _))⟩
set_option maxHeartbeats 1000000 in
theorem rright_3 (nm : ByteArray) (fr tl m k n d s c sv : Int) (lt : ByteArray) (w : World) (hs : nm.size ≤ 9223372036854775807) (H0 : Hid (Rl.name nm.data.toList = true)) (H1 : Hid (up [1, fr, tl, 9999] = true)) (H2 : Hid (up [1, m, 12] = true)) (H3 : Hid (Dy.right k n d = false)) : Calls Tryd.prog 22 #[.agg #[.string nm, .int .i64 fr, .int .i64 tl, .int .i64 m, .int .u8 k, .int .i64 n, .int .i64 d, .int .i64 s, .int .u8 c, .int .i64 sv, .string lt]] w fun e w' => e = .returned (.bool false) ∧ Below w.heap.size w w' := by
  go_enter Tryd.func22, Tryd.ntmps22
  go_wp2_with fail
  refine (rname_is nm true _ hs H0.out).mono ?_
  rintro e w' ⟨rfl, rfl⟩
  have a0 : Below w.heap.size w (w.alloc (.cells #[.string nm, .int .i64 fr, .int .i64 tl, .int .i64 m, .int .u8 k, .int .i64 n, .int .i64 d, .int .i64 s, .int .u8 c, .int .i64 sv, .string lt] 34)) := (Below.refl _ _).alloc (Nat.le_refl _) _
  have k0 : Below (w.heap.size + 1) (w.alloc (.cells #[.string nm, .int .i64 fr, .int .i64 tl, .int .i64 m, .int .u8 k, .int .i64 n, .int .i64 d, .int .i64 s, .int .u8 c, .int .i64 sv, .string lt] 34)) (w.alloc (.cells #[.string nm, .int .i64 fr, .int .i64 tl, .int .i64 m, .int .u8 k, .int .i64 n, .int .i64 d, .int .i64 s, .int .u8 c, .int .i64 sv, .string lt] 34)) := Below.refl _ _
  have z0 : w.heap.size + 1 ≤ (w.alloc (.cells #[.string nm, .int .i64 fr, .int .i64 tl, .int .i64 m, .int .u8 k, .int .i64 n, .int .i64 d, .int .i64 s, .int .u8 c, .int .i64 sv, .string lt] 34)).heap.size := by simp
  go_wp2_with fail
  refine (rise4 (w.heap.size + 1) _ 1 fr tl 9999 true (by simp) (by go_simp) (by go_simp) (by go_simp) (by go_simp) H1.out).mono ?_
  rintro e w1 ⟨rfl, b1⟩
  have k1 := (k0.alloc z0 _).trans (b1.mono (by first | (simp; done) | (simp; omega)))
  have z1 : w.heap.size + 1 ≤ w1.heap.size := Nat.le_trans z0 k1.size
  have hc1 : ∀ o, w1.cell? ⟨w.heap.size, o, none⟩ = (w.alloc (.cells #[.string nm, .int .i64 fr, .int .i64 tl, .int .i64 m, .int .u8 k, .int .i64 n, .int .i64 d, .int .i64 s, .int .u8 c, .int .i64 sv, .string lt] 34)).cell? ⟨w.heap.size, o, none⟩ := fun o => k1.cell (p := ⟨w.heap.size, o, none⟩) (Nat.lt_succ_self _)
  clear b1
  go_wp2_with fail
  refine (rise3 w1.heap.size _ 1 m 12 true (by simp) (by go_simp) (by go_simp) (by go_simp) H2.out).mono ?_
  rintro e w2 ⟨rfl, b2⟩
  have k2 := (k1.alloc z1 _).trans (b2.mono (by first | (simp; done) | (simp; omega)))
  have z2 : w.heap.size + 1 ≤ w2.heap.size := Nat.le_trans z0 k2.size
  have hc2 : ∀ o, w2.cell? ⟨w.heap.size, o, none⟩ = (w.alloc (.cells #[.string nm, .int .i64 fr, .int .i64 tl, .int .i64 m, .int .u8 k, .int .i64 n, .int .i64 d, .int .i64 s, .int .u8 c, .int .i64 sv, .string lt] 34)).cell? ⟨w.heap.size, o, none⟩ := fun o => k2.cell (p := ⟨w.heap.size, o, none⟩) (Nat.lt_succ_self _)
  clear b2 k1 hc1
  go_wp2_with fail
  refine (dcheck_no k n d _ H3.out).mono ?_
  rintro e w3 ⟨rfl, b3⟩
  have k3 := k2.trans (b3.mono z2)
  have z3 : w.heap.size + 1 ≤ w3.heap.size := Nat.le_trans z0 k3.size
  have hc3 : ∀ o, w3.cell? ⟨w.heap.size, o, none⟩ = (w.alloc (.cells #[.string nm, .int .i64 fr, .int .i64 tl, .int .i64 m, .int .u8 k, .int .i64 n, .int .i64 d, .int .i64 s, .int .u8 c, .int .i64 sv, .string lt] 34)).cell? ⟨w.heap.size, o, none⟩ := fun o => k3.cell (p := ⟨w.heap.size, o, none⟩) (Nat.lt_succ_self _)
  clear b3 k2 hc2
  go_wp2_with fail
  go_ret
  exact ⟨rfl, a0.trans (k3.mono (Nat.le_succ _))⟩
set_option maxHeartbeats 1000000 in
theorem rright_4 (nm : ByteArray) (fr tl m k n d s c sv : Int) (lt : ByteArray) (w : World) (hs : nm.size ≤ 9223372036854775807) (H0 : Hid (Rl.name nm.data.toList = true)) (H1 : Hid (up [1, fr, tl, 9999] = true)) (H2 : Hid (up [1, m, 12] = true)) (H3 : Hid (Dy.right k n d = true)) (H4 : Hid (Mo.right s c = false)) : Calls Tryd.prog 22 #[.agg #[.string nm, .int .i64 fr, .int .i64 tl, .int .i64 m, .int .u8 k, .int .i64 n, .int .i64 d, .int .i64 s, .int .u8 c, .int .i64 sv, .string lt]] w fun e w' => e = .returned (.bool false) ∧ Below w.heap.size w w' := by
  go_enter Tryd.func22, Tryd.ntmps22
  go_wp2_with fail
  refine (rname_is nm true _ hs H0.out).mono ?_
  rintro e w' ⟨rfl, rfl⟩
  have a0 : Below w.heap.size w (w.alloc (.cells #[.string nm, .int .i64 fr, .int .i64 tl, .int .i64 m, .int .u8 k, .int .i64 n, .int .i64 d, .int .i64 s, .int .u8 c, .int .i64 sv, .string lt] 34)) := (Below.refl _ _).alloc (Nat.le_refl _) _
  have k0 : Below (w.heap.size + 1) (w.alloc (.cells #[.string nm, .int .i64 fr, .int .i64 tl, .int .i64 m, .int .u8 k, .int .i64 n, .int .i64 d, .int .i64 s, .int .u8 c, .int .i64 sv, .string lt] 34)) (w.alloc (.cells #[.string nm, .int .i64 fr, .int .i64 tl, .int .i64 m, .int .u8 k, .int .i64 n, .int .i64 d, .int .i64 s, .int .u8 c, .int .i64 sv, .string lt] 34)) := Below.refl _ _
  have z0 : w.heap.size + 1 ≤ (w.alloc (.cells #[.string nm, .int .i64 fr, .int .i64 tl, .int .i64 m, .int .u8 k, .int .i64 n, .int .i64 d, .int .i64 s, .int .u8 c, .int .i64 sv, .string lt] 34)).heap.size := by simp
  go_wp2_with fail
  refine (rise4 (w.heap.size + 1) _ 1 fr tl 9999 true (by simp) (by go_simp) (by go_simp) (by go_simp) (by go_simp) H1.out).mono ?_
  rintro e w1 ⟨rfl, b1⟩
  have k1 := (k0.alloc z0 _).trans (b1.mono (by first | (simp; done) | (simp; omega)))
  have z1 : w.heap.size + 1 ≤ w1.heap.size := Nat.le_trans z0 k1.size
  have hc1 : ∀ o, w1.cell? ⟨w.heap.size, o, none⟩ = (w.alloc (.cells #[.string nm, .int .i64 fr, .int .i64 tl, .int .i64 m, .int .u8 k, .int .i64 n, .int .i64 d, .int .i64 s, .int .u8 c, .int .i64 sv, .string lt] 34)).cell? ⟨w.heap.size, o, none⟩ := fun o => k1.cell (p := ⟨w.heap.size, o, none⟩) (Nat.lt_succ_self _)
  clear b1
  go_wp2_with fail
  refine (rise3 w1.heap.size _ 1 m 12 true (by simp) (by go_simp) (by go_simp) (by go_simp) H2.out).mono ?_
  rintro e w2 ⟨rfl, b2⟩
  have k2 := (k1.alloc z1 _).trans (b2.mono (by first | (simp; done) | (simp; omega)))
  have z2 : w.heap.size + 1 ≤ w2.heap.size := Nat.le_trans z0 k2.size
  have hc2 : ∀ o, w2.cell? ⟨w.heap.size, o, none⟩ = (w.alloc (.cells #[.string nm, .int .i64 fr, .int .i64 tl, .int .i64 m, .int .u8 k, .int .i64 n, .int .i64 d, .int .i64 s, .int .u8 c, .int .i64 sv, .string lt] 34)).cell? ⟨w.heap.size, o, none⟩ := fun o => k2.cell (p := ⟨w.heap.size, o, none⟩) (Nat.lt_succ_self _)
  clear b2 k1 hc1
  go_wp2_with fail
  refine (dcheck_yes k n d _ H3.out).mono ?_
  rintro e w3 ⟨rfl, b3⟩
  have k3 := k2.trans (b3.mono z2)
  have z3 : w.heap.size + 1 ≤ w3.heap.size := Nat.le_trans z0 k3.size
  have hc3 : ∀ o, w3.cell? ⟨w.heap.size, o, none⟩ = (w.alloc (.cells #[.string nm, .int .i64 fr, .int .i64 tl, .int .i64 m, .int .u8 k, .int .i64 n, .int .i64 d, .int .i64 s, .int .u8 c, .int .i64 sv, .string lt] 34)).cell? ⟨w.heap.size, o, none⟩ := fun o => k3.cell (p := ⟨w.heap.size, o, none⟩) (Nat.lt_succ_self _)
  clear b3 k2 hc2
  go_wp2_with fail
  refine (mcheck_no s c _ H4.out).mono ?_
  rintro e w4 ⟨rfl, b4⟩
  have k4 := k3.trans (b4.mono z3)
  have z4 : w.heap.size + 1 ≤ w4.heap.size := Nat.le_trans z0 k4.size
  have hc4 : ∀ o, w4.cell? ⟨w.heap.size, o, none⟩ = (w.alloc (.cells #[.string nm, .int .i64 fr, .int .i64 tl, .int .i64 m, .int .u8 k, .int .i64 n, .int .i64 d, .int .i64 s, .int .u8 c, .int .i64 sv, .string lt] 34)).cell? ⟨w.heap.size, o, none⟩ := fun o => k4.cell (p := ⟨w.heap.size, o, none⟩) (Nat.lt_succ_self _)
  clear b4 k3 hc3
  go_wp2_with fail
  go_ret
  exact ⟨rfl, a0.trans (k4.mono (Nat.le_succ _))⟩
set_option maxHeartbeats 1000000 in
theorem rright_5 (nm : ByteArray) (fr tl m k n d s c sv : Int) (lt : ByteArray) (w : World) (hs : nm.size ≤ 9223372036854775807) (H0 : Hid (Rl.name nm.data.toList = true)) (H1 : Hid (up [1, fr, tl, 9999] = true)) (H2 : Hid (up [1, m, 12] = true)) (H3 : Hid (Dy.right k n d = true)) (H4 : Hid (Mo.right s c = true)) (H5 : Hid (up [-604800, sv, 604800] = false)) : Calls Tryd.prog 22 #[.agg #[.string nm, .int .i64 fr, .int .i64 tl, .int .i64 m, .int .u8 k, .int .i64 n, .int .i64 d, .int .i64 s, .int .u8 c, .int .i64 sv, .string lt]] w fun e w' => e = .returned (.bool false) ∧ Below w.heap.size w w' := by
  go_enter Tryd.func22, Tryd.ntmps22
  go_wp2_with fail
  refine (rname_is nm true _ hs H0.out).mono ?_
  rintro e w' ⟨rfl, rfl⟩
  have a0 : Below w.heap.size w (w.alloc (.cells #[.string nm, .int .i64 fr, .int .i64 tl, .int .i64 m, .int .u8 k, .int .i64 n, .int .i64 d, .int .i64 s, .int .u8 c, .int .i64 sv, .string lt] 34)) := (Below.refl _ _).alloc (Nat.le_refl _) _
  have k0 : Below (w.heap.size + 1) (w.alloc (.cells #[.string nm, .int .i64 fr, .int .i64 tl, .int .i64 m, .int .u8 k, .int .i64 n, .int .i64 d, .int .i64 s, .int .u8 c, .int .i64 sv, .string lt] 34)) (w.alloc (.cells #[.string nm, .int .i64 fr, .int .i64 tl, .int .i64 m, .int .u8 k, .int .i64 n, .int .i64 d, .int .i64 s, .int .u8 c, .int .i64 sv, .string lt] 34)) := Below.refl _ _
  have z0 : w.heap.size + 1 ≤ (w.alloc (.cells #[.string nm, .int .i64 fr, .int .i64 tl, .int .i64 m, .int .u8 k, .int .i64 n, .int .i64 d, .int .i64 s, .int .u8 c, .int .i64 sv, .string lt] 34)).heap.size := by simp
  go_wp2_with fail
  refine (rise4 (w.heap.size + 1) _ 1 fr tl 9999 true (by simp) (by go_simp) (by go_simp) (by go_simp) (by go_simp) H1.out).mono ?_
  rintro e w1 ⟨rfl, b1⟩
  have k1 := (k0.alloc z0 _).trans (b1.mono (by first | (simp; done) | (simp; omega)))
  have z1 : w.heap.size + 1 ≤ w1.heap.size := Nat.le_trans z0 k1.size
  have hc1 : ∀ o, w1.cell? ⟨w.heap.size, o, none⟩ = (w.alloc (.cells #[.string nm, .int .i64 fr, .int .i64 tl, .int .i64 m, .int .u8 k, .int .i64 n, .int .i64 d, .int .i64 s, .int .u8 c, .int .i64 sv, .string lt] 34)).cell? ⟨w.heap.size, o, none⟩ := fun o => k1.cell (p := ⟨w.heap.size, o, none⟩) (Nat.lt_succ_self _)
  clear b1
  go_wp2_with fail
  refine (rise3 w1.heap.size _ 1 m 12 true (by simp) (by go_simp) (by go_simp) (by go_simp) H2.out).mono ?_
  rintro e w2 ⟨rfl, b2⟩
  have k2 := (k1.alloc z1 _).trans (b2.mono (by first | (simp; done) | (simp; omega)))
  have z2 : w.heap.size + 1 ≤ w2.heap.size := Nat.le_trans z0 k2.size
  have hc2 : ∀ o, w2.cell? ⟨w.heap.size, o, none⟩ = (w.alloc (.cells #[.string nm, .int .i64 fr, .int .i64 tl, .int .i64 m, .int .u8 k, .int .i64 n, .int .i64 d, .int .i64 s, .int .u8 c, .int .i64 sv, .string lt] 34)).cell? ⟨w.heap.size, o, none⟩ := fun o => k2.cell (p := ⟨w.heap.size, o, none⟩) (Nat.lt_succ_self _)
  clear b2 k1 hc1
  go_wp2_with fail
  refine (dcheck_yes k n d _ H3.out).mono ?_
  rintro e w3 ⟨rfl, b3⟩
  have k3 := k2.trans (b3.mono z2)
  have z3 : w.heap.size + 1 ≤ w3.heap.size := Nat.le_trans z0 k3.size
  have hc3 : ∀ o, w3.cell? ⟨w.heap.size, o, none⟩ = (w.alloc (.cells #[.string nm, .int .i64 fr, .int .i64 tl, .int .i64 m, .int .u8 k, .int .i64 n, .int .i64 d, .int .i64 s, .int .u8 c, .int .i64 sv, .string lt] 34)).cell? ⟨w.heap.size, o, none⟩ := fun o => k3.cell (p := ⟨w.heap.size, o, none⟩) (Nat.lt_succ_self _)
  clear b3 k2 hc2
  go_wp2_with fail
  refine (mcheck_yes s c _ H4.out).mono ?_
  rintro e w4 ⟨rfl, b4⟩
  have k4 := k3.trans (b4.mono z3)
  have z4 : w.heap.size + 1 ≤ w4.heap.size := Nat.le_trans z0 k4.size
  have hc4 : ∀ o, w4.cell? ⟨w.heap.size, o, none⟩ = (w.alloc (.cells #[.string nm, .int .i64 fr, .int .i64 tl, .int .i64 m, .int .u8 k, .int .i64 n, .int .i64 d, .int .i64 s, .int .u8 c, .int .i64 sv, .string lt] 34)).cell? ⟨w.heap.size, o, none⟩ := fun o => k4.cell (p := ⟨w.heap.size, o, none⟩) (Nat.lt_succ_self _)
  clear b4 k3 hc3
  go_wp2_with fail
  refine (rise3 w4.heap.size _ (-604800) sv 604800 false (by simp) (by go_simp) (by go_simp) (by go_simp) H5.out).mono ?_
  rintro e w5 ⟨rfl, b5⟩
  have k5 := (k4.alloc z4 _).trans (b5.mono (by first | (simp; done) | (simp; omega)))
  have z5 : w.heap.size + 1 ≤ w5.heap.size := Nat.le_trans z0 k5.size
  have hc5 : ∀ o, w5.cell? ⟨w.heap.size, o, none⟩ = (w.alloc (.cells #[.string nm, .int .i64 fr, .int .i64 tl, .int .i64 m, .int .u8 k, .int .i64 n, .int .i64 d, .int .i64 s, .int .u8 c, .int .i64 sv, .string lt] 34)).cell? ⟨w.heap.size, o, none⟩ := fun o => k5.cell (p := ⟨w.heap.size, o, none⟩) (Nat.lt_succ_self _)
  clear b5 k4 hc4
  go_wp2_with fail
  go_ret
  exact ⟨rfl, a0.trans (k5.mono (Nat.le_succ _))⟩
set_option maxHeartbeats 1000000 in
theorem rright_6 (nm : ByteArray) (fr tl m k n d s c sv : Int) (lt : ByteArray) (w : World) (hs : nm.size ≤ 9223372036854775807) (H0 : Hid (Rl.name nm.data.toList = true)) (H1 : Hid (up [1, fr, tl, 9999] = true)) (H2 : Hid (up [1, m, 12] = true)) (H3 : Hid (Dy.right k n d = true)) (H4 : Hid (Mo.right s c = true)) (H5 : Hid (up [-604800, sv, 604800] = true)) (H6 : Hid (Fm.ltr lt.data.toList = false)) : Calls Tryd.prog 22 #[.agg #[.string nm, .int .i64 fr, .int .i64 tl, .int .i64 m, .int .u8 k, .int .i64 n, .int .i64 d, .int .i64 s, .int .u8 c, .int .i64 sv, .string lt]] w fun e w' => e = .returned (.bool false) ∧ Below w.heap.size w w' := by
  go_enter Tryd.func22, Tryd.ntmps22
  go_wp2_with fail
  refine (rname_is nm true _ hs H0.out).mono ?_
  rintro e w' ⟨rfl, rfl⟩
  have a0 : Below w.heap.size w (w.alloc (.cells #[.string nm, .int .i64 fr, .int .i64 tl, .int .i64 m, .int .u8 k, .int .i64 n, .int .i64 d, .int .i64 s, .int .u8 c, .int .i64 sv, .string lt] 34)) := (Below.refl _ _).alloc (Nat.le_refl _) _
  have k0 : Below (w.heap.size + 1) (w.alloc (.cells #[.string nm, .int .i64 fr, .int .i64 tl, .int .i64 m, .int .u8 k, .int .i64 n, .int .i64 d, .int .i64 s, .int .u8 c, .int .i64 sv, .string lt] 34)) (w.alloc (.cells #[.string nm, .int .i64 fr, .int .i64 tl, .int .i64 m, .int .u8 k, .int .i64 n, .int .i64 d, .int .i64 s, .int .u8 c, .int .i64 sv, .string lt] 34)) := Below.refl _ _
  have z0 : w.heap.size + 1 ≤ (w.alloc (.cells #[.string nm, .int .i64 fr, .int .i64 tl, .int .i64 m, .int .u8 k, .int .i64 n, .int .i64 d, .int .i64 s, .int .u8 c, .int .i64 sv, .string lt] 34)).heap.size := by simp
  go_wp2_with fail
  refine (rise4 (w.heap.size + 1) _ 1 fr tl 9999 true (by simp) (by go_simp) (by go_simp) (by go_simp) (by go_simp) H1.out).mono ?_
  rintro e w1 ⟨rfl, b1⟩
  have k1 := (k0.alloc z0 _).trans (b1.mono (by first | (simp; done) | (simp; omega)))
  have z1 : w.heap.size + 1 ≤ w1.heap.size := Nat.le_trans z0 k1.size
  have hc1 : ∀ o, w1.cell? ⟨w.heap.size, o, none⟩ = (w.alloc (.cells #[.string nm, .int .i64 fr, .int .i64 tl, .int .i64 m, .int .u8 k, .int .i64 n, .int .i64 d, .int .i64 s, .int .u8 c, .int .i64 sv, .string lt] 34)).cell? ⟨w.heap.size, o, none⟩ := fun o => k1.cell (p := ⟨w.heap.size, o, none⟩) (Nat.lt_succ_self _)
  clear b1
  go_wp2_with fail
  refine (rise3 w1.heap.size _ 1 m 12 true (by simp) (by go_simp) (by go_simp) (by go_simp) H2.out).mono ?_
  rintro e w2 ⟨rfl, b2⟩
  have k2 := (k1.alloc z1 _).trans (b2.mono (by first | (simp; done) | (simp; omega)))
  have z2 : w.heap.size + 1 ≤ w2.heap.size := Nat.le_trans z0 k2.size
  have hc2 : ∀ o, w2.cell? ⟨w.heap.size, o, none⟩ = (w.alloc (.cells #[.string nm, .int .i64 fr, .int .i64 tl, .int .i64 m, .int .u8 k, .int .i64 n, .int .i64 d, .int .i64 s, .int .u8 c, .int .i64 sv, .string lt] 34)).cell? ⟨w.heap.size, o, none⟩ := fun o => k2.cell (p := ⟨w.heap.size, o, none⟩) (Nat.lt_succ_self _)
  clear b2 k1 hc1
  go_wp2_with fail
  refine (dcheck_yes k n d _ H3.out).mono ?_
  rintro e w3 ⟨rfl, b3⟩
  have k3 := k2.trans (b3.mono z2)
  have z3 : w.heap.size + 1 ≤ w3.heap.size := Nat.le_trans z0 k3.size
  have hc3 : ∀ o, w3.cell? ⟨w.heap.size, o, none⟩ = (w.alloc (.cells #[.string nm, .int .i64 fr, .int .i64 tl, .int .i64 m, .int .u8 k, .int .i64 n, .int .i64 d, .int .i64 s, .int .u8 c, .int .i64 sv, .string lt] 34)).cell? ⟨w.heap.size, o, none⟩ := fun o => k3.cell (p := ⟨w.heap.size, o, none⟩) (Nat.lt_succ_self _)
  clear b3 k2 hc2
  go_wp2_with fail
  refine (mcheck_yes s c _ H4.out).mono ?_
  rintro e w4 ⟨rfl, b4⟩
  have k4 := k3.trans (b4.mono z3)
  have z4 : w.heap.size + 1 ≤ w4.heap.size := Nat.le_trans z0 k4.size
  have hc4 : ∀ o, w4.cell? ⟨w.heap.size, o, none⟩ = (w.alloc (.cells #[.string nm, .int .i64 fr, .int .i64 tl, .int .i64 m, .int .u8 k, .int .i64 n, .int .i64 d, .int .i64 s, .int .u8 c, .int .i64 sv, .string lt] 34)).cell? ⟨w.heap.size, o, none⟩ := fun o => k4.cell (p := ⟨w.heap.size, o, none⟩) (Nat.lt_succ_self _)
  clear b4 k3 hc3
  go_wp2_with fail
  refine (rise3 w4.heap.size _ (-604800) sv 604800 true (by simp) (by go_simp) (by go_simp) (by go_simp) H5.out).mono ?_
  rintro e w5 ⟨rfl, b5⟩
  have k5 := (k4.alloc z4 _).trans (b5.mono (by first | (simp; done) | (simp; omega)))
  have z5 : w.heap.size + 1 ≤ w5.heap.size := Nat.le_trans z0 k5.size
  have hc5 : ∀ o, w5.cell? ⟨w.heap.size, o, none⟩ = (w.alloc (.cells #[.string nm, .int .i64 fr, .int .i64 tl, .int .i64 m, .int .u8 k, .int .i64 n, .int .i64 d, .int .i64 s, .int .u8 c, .int .i64 sv, .string lt] 34)).cell? ⟨w.heap.size, o, none⟩ := fun o => k5.cell (p := ⟨w.heap.size, o, none⟩) (Nat.lt_succ_self _)
  clear b5 k4 hc4
  go_wp2_with fail
  refine (cletter_no lt _ H6.out).mono ?_
  rintro e w6 ⟨rfl, b6⟩
  have k6 := k5.trans (b6.mono z5)
  have z6 : w.heap.size + 1 ≤ w6.heap.size := Nat.le_trans z0 k6.size
  have hc6 : ∀ o, w6.cell? ⟨w.heap.size, o, none⟩ = (w.alloc (.cells #[.string nm, .int .i64 fr, .int .i64 tl, .int .i64 m, .int .u8 k, .int .i64 n, .int .i64 d, .int .i64 s, .int .u8 c, .int .i64 sv, .string lt] 34)).cell? ⟨w.heap.size, o, none⟩ := fun o => k6.cell (p := ⟨w.heap.size, o, none⟩) (Nat.lt_succ_self _)
  clear b6 k5 hc5
  go_wp2_with fail
  go_ret
  exact ⟨rfl, a0.trans (k6.mono (Nat.le_succ _))⟩
set_option maxHeartbeats 1000000 in
theorem rright_7 (nm : ByteArray) (fr tl m k n d s c sv : Int) (lt : ByteArray) (w : World) (hs : nm.size ≤ 9223372036854775807) (H0 : Hid (Rl.name nm.data.toList = true)) (H1 : Hid (up [1, fr, tl, 9999] = true)) (H2 : Hid (up [1, m, 12] = true)) (H3 : Hid (Dy.right k n d = true)) (H4 : Hid (Mo.right s c = true)) (H5 : Hid (up [-604800, sv, 604800] = true)) (H6 : Hid (Fm.ltr lt.data.toList = true)) : Calls Tryd.prog 22 #[.agg #[.string nm, .int .i64 fr, .int .i64 tl, .int .i64 m, .int .u8 k, .int .i64 n, .int .i64 d, .int .i64 s, .int .u8 c, .int .i64 sv, .string lt]] w fun e w' => e = .returned (.bool true) ∧ Below w.heap.size w w' := by
  go_enter Tryd.func22, Tryd.ntmps22
  go_wp2_with fail
  refine (rname_is nm true _ hs H0.out).mono ?_
  rintro e w' ⟨rfl, rfl⟩
  have a0 : Below w.heap.size w (w.alloc (.cells #[.string nm, .int .i64 fr, .int .i64 tl, .int .i64 m, .int .u8 k, .int .i64 n, .int .i64 d, .int .i64 s, .int .u8 c, .int .i64 sv, .string lt] 34)) := (Below.refl _ _).alloc (Nat.le_refl _) _
  have k0 : Below (w.heap.size + 1) (w.alloc (.cells #[.string nm, .int .i64 fr, .int .i64 tl, .int .i64 m, .int .u8 k, .int .i64 n, .int .i64 d, .int .i64 s, .int .u8 c, .int .i64 sv, .string lt] 34)) (w.alloc (.cells #[.string nm, .int .i64 fr, .int .i64 tl, .int .i64 m, .int .u8 k, .int .i64 n, .int .i64 d, .int .i64 s, .int .u8 c, .int .i64 sv, .string lt] 34)) := Below.refl _ _
  have z0 : w.heap.size + 1 ≤ (w.alloc (.cells #[.string nm, .int .i64 fr, .int .i64 tl, .int .i64 m, .int .u8 k, .int .i64 n, .int .i64 d, .int .i64 s, .int .u8 c, .int .i64 sv, .string lt] 34)).heap.size := by simp
  go_wp2_with fail
  refine (rise4 (w.heap.size + 1) _ 1 fr tl 9999 true (by simp) (by go_simp) (by go_simp) (by go_simp) (by go_simp) H1.out).mono ?_
  rintro e w1 ⟨rfl, b1⟩
  have k1 := (k0.alloc z0 _).trans (b1.mono (by first | (simp; done) | (simp; omega)))
  have z1 : w.heap.size + 1 ≤ w1.heap.size := Nat.le_trans z0 k1.size
  have hc1 : ∀ o, w1.cell? ⟨w.heap.size, o, none⟩ = (w.alloc (.cells #[.string nm, .int .i64 fr, .int .i64 tl, .int .i64 m, .int .u8 k, .int .i64 n, .int .i64 d, .int .i64 s, .int .u8 c, .int .i64 sv, .string lt] 34)).cell? ⟨w.heap.size, o, none⟩ := fun o => k1.cell (p := ⟨w.heap.size, o, none⟩) (Nat.lt_succ_self _)
  clear b1
  go_wp2_with fail
  refine (rise3 w1.heap.size _ 1 m 12 true (by simp) (by go_simp) (by go_simp) (by go_simp) H2.out).mono ?_
  rintro e w2 ⟨rfl, b2⟩
  have k2 := (k1.alloc z1 _).trans (b2.mono (by first | (simp; done) | (simp; omega)))
  have z2 : w.heap.size + 1 ≤ w2.heap.size := Nat.le_trans z0 k2.size
  have hc2 : ∀ o, w2.cell? ⟨w.heap.size, o, none⟩ = (w.alloc (.cells #[.string nm, .int .i64 fr, .int .i64 tl, .int .i64 m, .int .u8 k, .int .i64 n, .int .i64 d, .int .i64 s, .int .u8 c, .int .i64 sv, .string lt] 34)).cell? ⟨w.heap.size, o, none⟩ := fun o => k2.cell (p := ⟨w.heap.size, o, none⟩) (Nat.lt_succ_self _)
  clear b2 k1 hc1
  go_wp2_with fail
  refine (dcheck_yes k n d _ H3.out).mono ?_
  rintro e w3 ⟨rfl, b3⟩
  have k3 := k2.trans (b3.mono z2)
  have z3 : w.heap.size + 1 ≤ w3.heap.size := Nat.le_trans z0 k3.size
  have hc3 : ∀ o, w3.cell? ⟨w.heap.size, o, none⟩ = (w.alloc (.cells #[.string nm, .int .i64 fr, .int .i64 tl, .int .i64 m, .int .u8 k, .int .i64 n, .int .i64 d, .int .i64 s, .int .u8 c, .int .i64 sv, .string lt] 34)).cell? ⟨w.heap.size, o, none⟩ := fun o => k3.cell (p := ⟨w.heap.size, o, none⟩) (Nat.lt_succ_self _)
  clear b3 k2 hc2
  go_wp2_with fail
  refine (mcheck_yes s c _ H4.out).mono ?_
  rintro e w4 ⟨rfl, b4⟩
  have k4 := k3.trans (b4.mono z3)
  have z4 : w.heap.size + 1 ≤ w4.heap.size := Nat.le_trans z0 k4.size
  have hc4 : ∀ o, w4.cell? ⟨w.heap.size, o, none⟩ = (w.alloc (.cells #[.string nm, .int .i64 fr, .int .i64 tl, .int .i64 m, .int .u8 k, .int .i64 n, .int .i64 d, .int .i64 s, .int .u8 c, .int .i64 sv, .string lt] 34)).cell? ⟨w.heap.size, o, none⟩ := fun o => k4.cell (p := ⟨w.heap.size, o, none⟩) (Nat.lt_succ_self _)
  clear b4 k3 hc3
  go_wp2_with fail
  refine (rise3 w4.heap.size _ (-604800) sv 604800 true (by simp) (by go_simp) (by go_simp) (by go_simp) H5.out).mono ?_
  rintro e w5 ⟨rfl, b5⟩
  have k5 := (k4.alloc z4 _).trans (b5.mono (by first | (simp; done) | (simp; omega)))
  have z5 : w.heap.size + 1 ≤ w5.heap.size := Nat.le_trans z0 k5.size
  have hc5 : ∀ o, w5.cell? ⟨w.heap.size, o, none⟩ = (w.alloc (.cells #[.string nm, .int .i64 fr, .int .i64 tl, .int .i64 m, .int .u8 k, .int .i64 n, .int .i64 d, .int .i64 s, .int .u8 c, .int .i64 sv, .string lt] 34)).cell? ⟨w.heap.size, o, none⟩ := fun o => k5.cell (p := ⟨w.heap.size, o, none⟩) (Nat.lt_succ_self _)
  clear b5 k4 hc4
  go_wp2_with fail
  refine (cletter_yes lt _ H6.out).mono ?_
  rintro e w6 ⟨rfl, b6⟩
  have k6 := k5.trans (b6.mono z5)
  have z6 : w.heap.size + 1 ≤ w6.heap.size := Nat.le_trans z0 k6.size
  have hc6 : ∀ o, w6.cell? ⟨w.heap.size, o, none⟩ = (w.alloc (.cells #[.string nm, .int .i64 fr, .int .i64 tl, .int .i64 m, .int .u8 k, .int .i64 n, .int .i64 d, .int .i64 s, .int .u8 c, .int .i64 sv, .string lt] 34)).cell? ⟨w.heap.size, o, none⟩ := fun o => k6.cell (p := ⟨w.heap.size, o, none⟩) (Nat.lt_succ_self _)
  clear b6 k5 hc5
  go_wp2_with fail
  go_ret
  exact ⟨rfl, a0.trans (k6.mono (Nat.le_succ _))⟩
theorem isRight_any (r : Ru) (w : World) (hs : r.nm.size ≤ 9223372036854775807) : Calls Tryd.prog 22 #[ruV r] w fun e w' => e = .returned (.bool (Rl.right r)) ∧ Below w.heap.size w w' := by
  have e1 := up4_of r
  have e2 := up3_m r
  have e5 := up3_s r.sv
  unfold Rl.right
  obtain ⟨nm, fr, tl, m, k, n, d, s, c, sv, lt⟩ := r
  simp only at e1 e2 e5 hs ⊢
  cases h0 : Rl.name nm.data.toList with
  | false => exact rright_0 nm fr tl m k n d s c sv lt w hs (Lib.hid h0)
  | true =>
    cases h1 : Rl.years ⟨nm, fr, tl, m, k, n, d, s, c, sv, lt⟩ with
    | false => exact rright_1 nm fr tl m k n d s c sv lt w hs (Lib.hid h0) (Lib.hid (e1.trans h1))
    | true =>
      cases h2 : Rl.month ⟨nm, fr, tl, m, k, n, d, s, c, sv, lt⟩ with
      | false => exact rright_2 nm fr tl m k n d s c sv lt w hs (Lib.hid h0) (Lib.hid (e1.trans h1)) (Lib.hid (e2.trans h2))
      | true =>
        cases h3 : Dy.right k n d with
        | false => exact rright_3 nm fr tl m k n d s c sv lt w hs (Lib.hid h0) (Lib.hid (e1.trans h1)) (Lib.hid (e2.trans h2)) (Lib.hid h3)
        | true =>
          cases h4 : Mo.right s c with
          | false => exact rright_4 nm fr tl m k n d s c sv lt w hs (Lib.hid h0) (Lib.hid (e1.trans h1)) (Lib.hid (e2.trans h2)) (Lib.hid h3) (Lib.hid h4)
          | true =>
            cases h5 : Rl.time sv with
            | false => exact rright_5 nm fr tl m k n d s c sv lt w hs (Lib.hid h0) (Lib.hid (e1.trans h1)) (Lib.hid (e2.trans h2)) (Lib.hid h3) (Lib.hid h4) (Lib.hid (e5.trans h5))
            | true =>
              cases h6 : Fm.ltr lt.data.toList with
              | false => exact rright_6 nm fr tl m k n d s c sv lt w hs (Lib.hid h0) (Lib.hid (e1.trans h1)) (Lib.hid (e2.trans h2)) (Lib.hid h3) (Lib.hid h4) (Lib.hid (e5.trans h5)) (Lib.hid h6)
              | true =>
                exact rright_7 nm fr tl m k n d s c sv lt w hs (Lib.hid h0) (Lib.hid (e1.trans h1)) (Lib.hid (e2.trans h2)) (Lib.hid h3) (Lib.hid h4) (Lib.hid (e5.trans h5)) (Lib.hid h6)
theorem isRight_is (r : Ru) (v : Bool) (w : World) (hs : r.nm.size ≤ 9223372036854775807) (h : Rl.right r = v) : Calls Tryd.prog 22 #[ruV r] w fun e w' => e = .returned (.bool v) ∧ Below w.heap.size w w' := by
  subst h
  exact isRight_any r w hs
/-- What Check answers. -/
theorem rcheck_is (r : Ru) (v : Bool) (w : World) (hs : r.nm.size ≤ 9223372036854775807) (h : Rl.right r = v) : Calls Tryd.prog 12 #[ruV r] w fun e w' => e = .returned (.int .i64 (if v = true then 0 else 2)) ∧ Below w.heap.size w w' := by
  have H := fun W => isRight_is r v W hs h
  obtain ⟨nm, fr, tl, m, k, n, d, s, c, sv, lt⟩ := r
  have HH := Lib.hid H
  clear H h
  cases v with
  | false =>
    go_enter Tryd.func12, Tryd.ntmps12
    go_wp2_with fail
    refine (HH.out _).mono ?_
    rintro e w1 ⟨rfl, b1⟩
    have a1 : Below w.heap.size w w1 := ((Below.refl _ _).alloc (Nat.le_refl _) _).trans (b1.mono (by simp))
    go_wp2_with fail
    go_ret
    exact ⟨rfl, a1⟩
  | true =>
    go_enter Tryd.func12, Tryd.ntmps12
    go_wp2_with fail
    refine (HH.out _).mono ?_
    rintro e w1 ⟨rfl, b1⟩
    have a1 : Below w.heap.size w w1 := ((Below.refl _ _).alloc (Nat.le_refl _) _).trans (b1.mono (by simp))
    go_wp2_with fail
    go_ret
    exact ⟨rfl, a1⟩
end Go.Proofs.YthlbockphdbpkaaDoor
namespace Go.Proofs.YthlbockphdbpkaaDoor
open Go.RowKit
/-- A rule at block g. -/
structure Rn (w : World) (B g : Nat) (r : Ru) : Prop where
  base : B ≤ g
  lt : g < w.heap.size
  c0 : w.cell? ⟨g, 0, none⟩ = some (.string r.nm)
  c1 : w.cell? ⟨g, 1, none⟩ = some (.int .i64 r.fr)
  c2 : w.cell? ⟨g, 2, none⟩ = some (.int .i64 r.tl)
  c3 : w.cell? ⟨g, 3, none⟩ = some (.int .i64 r.m)
  c4 : w.cell? ⟨g, 4, none⟩ = some (.int .u8 r.k)
  c5 : w.cell? ⟨g, 5, none⟩ = some (.int .i64 r.n)
  c6 : w.cell? ⟨g, 6, none⟩ = some (.int .i64 r.d)
  c7 : w.cell? ⟨g, 7, none⟩ = some (.int .i64 r.s)
  c8 : w.cell? ⟨g, 8, none⟩ = some (.int .u8 r.c)
  c9 : w.cell? ⟨g, 9, none⟩ = some (.int .i64 r.sv)
  c10 : w.cell? ⟨g, 10, none⟩ = some (.string r.lt)
  f0 : w.frozen? ⟨g, 0, none⟩ = false
  f1 : w.frozen? ⟨g, 1, none⟩ = false
  f2 : w.frozen? ⟨g, 2, none⟩ = false
  f3 : w.frozen? ⟨g, 3, none⟩ = false
  f4 : w.frozen? ⟨g, 4, none⟩ = false
  f5 : w.frozen? ⟨g, 5, none⟩ = false
  f6 : w.frozen? ⟨g, 6, none⟩ = false
  f7 : w.frozen? ⟨g, 7, none⟩ = false
  f8 : w.frozen? ⟨g, 8, none⟩ = false
  f9 : w.frozen? ⟨g, 9, none⟩ = false
  f10 : w.frozen? ⟨g, 10, none⟩ = false
theorem Rn.below {w w' : World} {B g : Nat} {r : Ru} (h : Rn w B g r) (hb : Below w.heap.size w w') : Rn w' B g r := by
  obtain ⟨hc, hf⟩ := bcell hb
  have hl := h.lt
  exact ⟨h.base, Nat.lt_of_lt_of_le hl hb.size, (hc _ _ hl).trans h.c0, (hc _ _ hl).trans h.c1, (hc _ _ hl).trans h.c2, (hc _ _ hl).trans h.c3, (hc _ _ hl).trans h.c4, (hc _ _ hl).trans h.c5, (hc _ _ hl).trans h.c6, (hc _ _ hl).trans h.c7, (hc _ _ hl).trans h.c8, (hc _ _ hl).trans h.c9, (hc _ _ hl).trans h.c10,
    (hf _ _ hl).trans h.f0, (hf _ _ hl).trans h.f1, (hf _ _ hl).trans h.f2, (hf _ _ hl).trans h.f3, (hf _ _ hl).trans h.f4, (hf _ _ hl).trans h.f5, (hf _ _ hl).trans h.f6, (hf _ _ hl).trans h.f7, (hf _ _ hl).trans h.f8, (hf _ _ hl).trans h.f9, (hf _ _ hl).trans h.f10⟩
theorem Rn.stay {w w' : World} {B B' g : Nat} {r : Ru} (h : Rn w B g r) (hb : Below B' w w') (hg : g < B') : Rn w' B g r := by
  have hc : ∀ o, w'.cell? ⟨g, o, none⟩ = w.cell? ⟨g, o, none⟩ := fun o => hb.cell (p := ⟨g, o, none⟩) hg
  have hf : ∀ o, w'.frozen? ⟨g, o, none⟩ = w.frozen? ⟨g, o, none⟩ := fun o => hb.frozen (p := ⟨g, o, none⟩) hg
  exact ⟨h.base, Nat.lt_of_lt_of_le h.lt hb.size, (hc _).trans h.c0, (hc _).trans h.c1, (hc _).trans h.c2, (hc _).trans h.c3, (hc _).trans h.c4, (hc _).trans h.c5, (hc _).trans h.c6, (hc _).trans h.c7, (hc _).trans h.c8, (hc _).trans h.c9, (hc _).trans h.c10,
    (hf _).trans h.f0, (hf _).trans h.f1, (hf _).trans h.f2, (hf _).trans h.f3, (hf _).trans h.f4, (hf _).trans h.f5, (hf _).trans h.f6, (hf _).trans h.f7, (hf _).trans h.f8, (hf _).trans h.f9, (hf _).trans h.f10⟩
section
variable (s : ByteArray) (fr : Int) (w : World)
end
section
variable (B g : Nat) (t : ByteArray) (r : Ru) (w : World)
end
end Go.Proofs.YthlbockphdbpkaaDoor
