/- Contracts of package abbr: readUnits, read, ParseOffset. -/
import Derived.Test.YtgcgmmdfmcapiaaDoorFmO
namespace Go.Proofs.YtgcgmmdfmcapiaaDoor
open Go.RowKit
namespace Fm
/-- The number of two digits. -/
def dg (c d : UInt8) : Int := 10 * ((c.toNat : Int) - 48) + ((d.toNat : Int) - 48)
/-- The seconds that digits tell, two for each unit. -/
def ru : List Int → List UInt8 → Option Int
  | _, [] => some 0
  | u :: us, c :: d :: l => if isd c && isd d then (ru us l).map fun x => u * dg c d + x else none
  | _, _ => none
/-- The offset that a text tells: a sign, and two digits for each unit. -/
def rd : List UInt8 → Option Int
  | [] => none
  | c :: l => if c = 43 then ru [3600, 60, 1] l else if c = 45 then (ru [3600, 60, 1] l).map fun x => -x else none
/-- The offset whose text it is. -/
def po (s : List UInt8) : Option Int := match rd s with
  | none => none
  | some v => if -360000 < v ∧ v < 360000 ∧ offT v = s then some v else none
end Fm
/-- What readUnits, and read, answer. -/
def RuR (r : Option Int) (e : Ending) : Prop := match r with
  | some v => e = .returned (.tuple #[.int .i64 v, .bool true])
  | none => e = .returned (.tuple #[.int .i64 0, .bool false])
theorem isd_bd {c : UInt8} (h : Fm.isd c = true) : 48 ≤ (c.toNat : Int) ∧ (c.toNat : Int) ≤ 57 := by
  have := of_decide_eq_true h
  omega
theorem ret_ib {a b : Int} {c : Bool} (h : a = b) : Ending.returned (.tuple #[.int .i64 a, .bool c]) = .returned (.tuple #[.int .i64 b, .bool c]) := by rw [h]
set_option maxRecDepth 100000 in
set_option maxHeartbeats 1000000 in
theorem units_0_0 (w : World) (hU : Units w) : Calls Tryd.prog 35 #[.string ⟨#[]⟩] w fun e w' => e = .returned (.tuple #[.int .i64 (0), .bool true]) ∧ Below w.heap.size w w' := by
  have u0 := hU.u0
  have u1 := hU.u1
  have u2 := hU.u2
  have l0 := lt_cell u0
  clear hU
  go_enter Tryd.func35, Tryd.ntmps35
  go_wp2_with fail
  refine wp_loop_rounds 1 ?_
  rw [rounds_succ]
  go_wp2_with fail
  go_ret2
  refine ⟨rfl, ?_⟩
  repeat (first | exact Below.refl _ _ | assumption | refine below_drewN ?_ _ | refine Below.drew ?_ | refine Below.setCell ?_ (by first | omega | (simp; done) | (simp; omega)) _ | refine Below.alloc ?_ (by first | omega | (simp; done) | (simp; omega)) _)
set_option maxRecDepth 100000 in
set_option maxHeartbeats 1000000 in
theorem units_1_0 (c0 c1 : UInt8) (w : World) (hU : Units w) (h0 : Fm.isd c0 = false) : Calls Tryd.prog 35 #[.string ⟨#[c0, c1]⟩] w fun e w' => e = .returned (.tuple #[.int .i64 0, .bool false]) ∧ Below w.heap.size w w' := by
  have u0 := hU.u0
  have u1 := hU.u1
  have u2 := hU.u2
  have l0 := lt_cell u0
  clear hU
  have hz : ((⟨#[c0, c1]⟩ : ByteArray)).size = 2 := rfl
  have i0 := aidx ⟨#[c0, c1]⟩ .i64 0 (by rw [hz]; decide)
  change ∀ W, _ = Result.ok (Value.int .u8 (c0.toNat : Int)) W at i0
  have i0 : ∀ W : World, (Instr.index 9 (.string ⟨#[c0, c1]⟩) (.int .i64 0)).run Tryd.prog W = .ok (.int .u8 (c0.toNat : Int)) W := i0
  have i1 := aidx ⟨#[c0, c1]⟩ .i64 1 (by rw [hz]; decide)
  change ∀ W, _ = Result.ok (Value.int .u8 (c1.toNat : Int)) W at i1
  have i1 : ∀ W : World, (Instr.index 9 (.string ⟨#[c0, c1]⟩) (.int .i64 1)).run Tryd.prog W = .ok (.int .u8 (c1.toNat : Int)) W := i1
  have H0 := Lib.hid h0
  clear h0
  generalize (⟨#[c0, c1]⟩ : ByteArray) = S at *
  go_enter Tryd.func35, Tryd.ntmps35
  go_wp2_with fail
  refine wp_loop_rounds 2 ?_
  rw [rounds_succ]
  go_wp2_with fail
  refine (adigit_is c0 false _ H0.out).mono ?_
  rintro e w' ⟨rfl, rfl⟩
  go_wp2_with fail
  go_ret2
  refine ⟨rfl, ?_⟩
  repeat (first | exact Below.refl _ _ | assumption | refine below_drewN ?_ _ | refine Below.drew ?_ | refine Below.setCell ?_ (by first | omega | (simp; done) | (simp; omega)) _ | refine Below.alloc ?_ (by first | omega | (simp; done) | (simp; omega)) _)
set_option maxRecDepth 100000 in
set_option maxHeartbeats 1000000 in
theorem units_1_1 (c0 c1 : UInt8) (w : World) (hU : Units w) (h0 : Fm.isd c0 = true) (h1 : Fm.isd c1 = false) : Calls Tryd.prog 35 #[.string ⟨#[c0, c1]⟩] w fun e w' => e = .returned (.tuple #[.int .i64 0, .bool false]) ∧ Below w.heap.size w w' := by
  have u0 := hU.u0
  have u1 := hU.u1
  have u2 := hU.u2
  have l0 := lt_cell u0
  clear hU
  have hz : ((⟨#[c0, c1]⟩ : ByteArray)).size = 2 := rfl
  have i0 := aidx ⟨#[c0, c1]⟩ .i64 0 (by rw [hz]; decide)
  change ∀ W, _ = Result.ok (Value.int .u8 (c0.toNat : Int)) W at i0
  have i0 : ∀ W : World, (Instr.index 9 (.string ⟨#[c0, c1]⟩) (.int .i64 0)).run Tryd.prog W = .ok (.int .u8 (c0.toNat : Int)) W := i0
  have i1 := aidx ⟨#[c0, c1]⟩ .i64 1 (by rw [hz]; decide)
  change ∀ W, _ = Result.ok (Value.int .u8 (c1.toNat : Int)) W at i1
  have i1 : ∀ W : World, (Instr.index 9 (.string ⟨#[c0, c1]⟩) (.int .i64 1)).run Tryd.prog W = .ok (.int .u8 (c1.toNat : Int)) W := i1
  obtain ⟨l0, g0⟩ := isd_bd h0
  have H0 := Lib.hid h0
  have H1 := Lib.hid h1
  clear h0 h1
  generalize (⟨#[c0, c1]⟩ : ByteArray) = S at *
  go_enter Tryd.func35, Tryd.ntmps35
  go_wp2_with fail
  refine wp_loop_rounds 2 ?_
  rw [rounds_succ]
  go_wp2_with fail
  refine (adigit_is c0 true _ H0.out).mono ?_
  rintro e w' ⟨rfl, rfl⟩
  go_wp2_with fail
  refine (adigit_is c1 false _ H1.out).mono ?_
  rintro e w' ⟨rfl, rfl⟩
  go_wp2_with fail
  go_ret2
  refine ⟨rfl, ?_⟩
  repeat (first | exact Below.refl _ _ | assumption | refine below_drewN ?_ _ | refine Below.drew ?_ | refine Below.setCell ?_ (by first | omega | (simp; done) | (simp; omega)) _ | refine Below.alloc ?_ (by first | omega | (simp; done) | (simp; omega)) _)
set_option maxRecDepth 100000 in
set_option maxHeartbeats 1000000 in
theorem units_1_2 (c0 c1 : UInt8) (w : World) (hU : Units w) (h0 : Fm.isd c0 = true) (h1 : Fm.isd c1 = true) : Calls Tryd.prog 35 #[.string ⟨#[c0, c1]⟩] w fun e w' => e = .returned (.tuple #[.int .i64 (3600 * (10 * ((c0.toNat : Int) - 48) + ((c1.toNat : Int) - 48))), .bool true]) ∧ Below w.heap.size w w' := by
  have u0 := hU.u0
  have u1 := hU.u1
  have u2 := hU.u2
  have l0 := lt_cell u0
  clear hU
  have hz : ((⟨#[c0, c1]⟩ : ByteArray)).size = 2 := rfl
  have i0 := aidx ⟨#[c0, c1]⟩ .i64 0 (by rw [hz]; decide)
  change ∀ W, _ = Result.ok (Value.int .u8 (c0.toNat : Int)) W at i0
  have i0 : ∀ W : World, (Instr.index 9 (.string ⟨#[c0, c1]⟩) (.int .i64 0)).run Tryd.prog W = .ok (.int .u8 (c0.toNat : Int)) W := i0
  have i1 := aidx ⟨#[c0, c1]⟩ .i64 1 (by rw [hz]; decide)
  change ∀ W, _ = Result.ok (Value.int .u8 (c1.toNat : Int)) W at i1
  have i1 : ∀ W : World, (Instr.index 9 (.string ⟨#[c0, c1]⟩) (.int .i64 1)).run Tryd.prog W = .ok (.int .u8 (c1.toNat : Int)) W := i1
  obtain ⟨l0, g0⟩ := isd_bd h0
  obtain ⟨l1, g1⟩ := isd_bd h1
  have H0 := Lib.hid h0
  have H1 := Lib.hid h1
  clear h0 h1
  generalize (⟨#[c0, c1]⟩ : ByteArray) = S at *
  go_enter Tryd.func35, Tryd.ntmps35
  go_wp2_with fail
  refine wp_loop_rounds 2 ?_
  rw [rounds_succ]
  go_wp2_with fail
  refine (adigit_is c0 true _ H0.out).mono ?_
  rintro e w' ⟨rfl, rfl⟩
  go_wp2_with fail
  refine (adigit_is c1 true _ H1.out).mono ?_
  rintro e w' ⟨rfl, rfl⟩
  go_wp2_with fail
  go_quiet (fail)
  go_wp2_with fail
  rw [rounds_succ]
  go_wp2_with fail
  go_ret2
  refine ⟨ret_ib (by omega), ?_⟩
  repeat (first | exact Below.refl _ _ | assumption | refine below_drewN ?_ _ | refine Below.drew ?_ | refine Below.setCell ?_ (by first | omega | (simp; done) | (simp; omega)) _ | refine Below.alloc ?_ (by first | omega | (simp; done) | (simp; omega)) _)
set_option maxRecDepth 100000 in
set_option maxHeartbeats 1000000 in
theorem units_2_0 (c0 c1 c2 c3 : UInt8) (w : World) (hU : Units w) (h0 : Fm.isd c0 = false) : Calls Tryd.prog 35 #[.string ⟨#[c0, c1, c2, c3]⟩] w fun e w' => e = .returned (.tuple #[.int .i64 0, .bool false]) ∧ Below w.heap.size w w' := by
  have u0 := hU.u0
  have u1 := hU.u1
  have u2 := hU.u2
  have l0 := lt_cell u0
  clear hU
  have hz : ((⟨#[c0, c1, c2, c3]⟩ : ByteArray)).size = 4 := rfl
  have i0 := aidx ⟨#[c0, c1, c2, c3]⟩ .i64 0 (by rw [hz]; decide)
  change ∀ W, _ = Result.ok (Value.int .u8 (c0.toNat : Int)) W at i0
  have i0 : ∀ W : World, (Instr.index 9 (.string ⟨#[c0, c1, c2, c3]⟩) (.int .i64 0)).run Tryd.prog W = .ok (.int .u8 (c0.toNat : Int)) W := i0
  have i1 := aidx ⟨#[c0, c1, c2, c3]⟩ .i64 1 (by rw [hz]; decide)
  change ∀ W, _ = Result.ok (Value.int .u8 (c1.toNat : Int)) W at i1
  have i1 : ∀ W : World, (Instr.index 9 (.string ⟨#[c0, c1, c2, c3]⟩) (.int .i64 1)).run Tryd.prog W = .ok (.int .u8 (c1.toNat : Int)) W := i1
  have i2 := aidx ⟨#[c0, c1, c2, c3]⟩ .i64 2 (by rw [hz]; decide)
  change ∀ W, _ = Result.ok (Value.int .u8 (c2.toNat : Int)) W at i2
  have i2 : ∀ W : World, (Instr.index 9 (.string ⟨#[c0, c1, c2, c3]⟩) (.int .i64 2)).run Tryd.prog W = .ok (.int .u8 (c2.toNat : Int)) W := i2
  have i3 := aidx ⟨#[c0, c1, c2, c3]⟩ .i64 3 (by rw [hz]; decide)
  change ∀ W, _ = Result.ok (Value.int .u8 (c3.toNat : Int)) W at i3
  have i3 : ∀ W : World, (Instr.index 9 (.string ⟨#[c0, c1, c2, c3]⟩) (.int .i64 3)).run Tryd.prog W = .ok (.int .u8 (c3.toNat : Int)) W := i3
  have H0 := Lib.hid h0
  clear h0
  generalize (⟨#[c0, c1, c2, c3]⟩ : ByteArray) = S at *
  go_enter Tryd.func35, Tryd.ntmps35
  go_wp2_with fail
  refine wp_loop_rounds 3 ?_
  rw [rounds_succ]
  go_wp2_with fail
  refine (adigit_is c0 false _ H0.out).mono ?_
  rintro e w' ⟨rfl, rfl⟩
  go_wp2_with fail
  go_ret2
  refine ⟨rfl, ?_⟩
  repeat (first | exact Below.refl _ _ | assumption | refine below_drewN ?_ _ | refine Below.drew ?_ | refine Below.setCell ?_ (by first | omega | (simp; done) | (simp; omega)) _ | refine Below.alloc ?_ (by first | omega | (simp; done) | (simp; omega)) _)
set_option maxRecDepth 100000 in
set_option maxHeartbeats 1000000 in
theorem units_2_1 (c0 c1 c2 c3 : UInt8) (w : World) (hU : Units w) (h0 : Fm.isd c0 = true) (h1 : Fm.isd c1 = false) : Calls Tryd.prog 35 #[.string ⟨#[c0, c1, c2, c3]⟩] w fun e w' => e = .returned (.tuple #[.int .i64 0, .bool false]) ∧ Below w.heap.size w w' := by
  have u0 := hU.u0
  have u1 := hU.u1
  have u2 := hU.u2
  have l0 := lt_cell u0
  clear hU
  have hz : ((⟨#[c0, c1, c2, c3]⟩ : ByteArray)).size = 4 := rfl
  have i0 := aidx ⟨#[c0, c1, c2, c3]⟩ .i64 0 (by rw [hz]; decide)
  change ∀ W, _ = Result.ok (Value.int .u8 (c0.toNat : Int)) W at i0
  have i0 : ∀ W : World, (Instr.index 9 (.string ⟨#[c0, c1, c2, c3]⟩) (.int .i64 0)).run Tryd.prog W = .ok (.int .u8 (c0.toNat : Int)) W := i0
  have i1 := aidx ⟨#[c0, c1, c2, c3]⟩ .i64 1 (by rw [hz]; decide)
  change ∀ W, _ = Result.ok (Value.int .u8 (c1.toNat : Int)) W at i1
  have i1 : ∀ W : World, (Instr.index 9 (.string ⟨#[c0, c1, c2, c3]⟩) (.int .i64 1)).run Tryd.prog W = .ok (.int .u8 (c1.toNat : Int)) W := i1
  have i2 := aidx ⟨#[c0, c1, c2, c3]⟩ .i64 2 (by rw [hz]; decide)
  change ∀ W, _ = Result.ok (Value.int .u8 (c2.toNat : Int)) W at i2
  have i2 : ∀ W : World, (Instr.index 9 (.string ⟨#[c0, c1, c2, c3]⟩) (.int .i64 2)).run Tryd.prog W = .ok (.int .u8 (c2.toNat : Int)) W := i2
  have i3 := aidx ⟨#[c0, c1, c2, c3]⟩ .i64 3 (by rw [hz]; decide)
  change ∀ W, _ = Result.ok (Value.int .u8 (c3.toNat : Int)) W at i3
  have i3 : ∀ W : World, (Instr.index 9 (.string ⟨#[c0, c1, c2, c3]⟩) (.int .i64 3)).run Tryd.prog W = .ok (.int .u8 (c3.toNat : Int)) W := i3
  obtain ⟨l0, g0⟩ := isd_bd h0
  have H0 := Lib.hid h0
  have H1 := Lib.hid h1
  clear h0 h1
  generalize (⟨#[c0, c1, c2, c3]⟩ : ByteArray) = S at *
  go_enter Tryd.func35, Tryd.ntmps35
  go_wp2_with fail
  refine wp_loop_rounds 3 ?_
  rw [rounds_succ]
  go_wp2_with fail
  refine (adigit_is c0 true _ H0.out).mono ?_
  rintro e w' ⟨rfl, rfl⟩
  go_wp2_with fail
  refine (adigit_is c1 false _ H1.out).mono ?_
  rintro e w' ⟨rfl, rfl⟩
  go_wp2_with fail
  go_ret2
  refine ⟨rfl, ?_⟩
  repeat (first | exact Below.refl _ _ | assumption | refine below_drewN ?_ _ | refine Below.drew ?_ | refine Below.setCell ?_ (by first | omega | (simp; done) | (simp; omega)) _ | refine Below.alloc ?_ (by first | omega | (simp; done) | (simp; omega)) _)
set_option maxRecDepth 100000 in
set_option maxHeartbeats 1000000 in
theorem units_2_2 (c0 c1 c2 c3 : UInt8) (w : World) (hU : Units w) (h0 : Fm.isd c0 = true) (h1 : Fm.isd c1 = true) (h2 : Fm.isd c2 = false) : Calls Tryd.prog 35 #[.string ⟨#[c0, c1, c2, c3]⟩] w fun e w' => e = .returned (.tuple #[.int .i64 0, .bool false]) ∧ Below w.heap.size w w' := by
  have u0 := hU.u0
  have u1 := hU.u1
  have u2 := hU.u2
  have l0 := lt_cell u0
  clear hU
  have hz : ((⟨#[c0, c1, c2, c3]⟩ : ByteArray)).size = 4 := rfl
  have i0 := aidx ⟨#[c0, c1, c2, c3]⟩ .i64 0 (by rw [hz]; decide)
  change ∀ W, _ = Result.ok (Value.int .u8 (c0.toNat : Int)) W at i0
  have i0 : ∀ W : World, (Instr.index 9 (.string ⟨#[c0, c1, c2, c3]⟩) (.int .i64 0)).run Tryd.prog W = .ok (.int .u8 (c0.toNat : Int)) W := i0
  have i1 := aidx ⟨#[c0, c1, c2, c3]⟩ .i64 1 (by rw [hz]; decide)
  change ∀ W, _ = Result.ok (Value.int .u8 (c1.toNat : Int)) W at i1
  have i1 : ∀ W : World, (Instr.index 9 (.string ⟨#[c0, c1, c2, c3]⟩) (.int .i64 1)).run Tryd.prog W = .ok (.int .u8 (c1.toNat : Int)) W := i1
  have i2 := aidx ⟨#[c0, c1, c2, c3]⟩ .i64 2 (by rw [hz]; decide)
  change ∀ W, _ = Result.ok (Value.int .u8 (c2.toNat : Int)) W at i2
  have i2 : ∀ W : World, (Instr.index 9 (.string ⟨#[c0, c1, c2, c3]⟩) (.int .i64 2)).run Tryd.prog W = .ok (.int .u8 (c2.toNat : Int)) W := i2
  have i3 := aidx ⟨#[c0, c1, c2, c3]⟩ .i64 3 (by rw [hz]; decide)
  change ∀ W, _ = Result.ok (Value.int .u8 (c3.toNat : Int)) W at i3
  have i3 : ∀ W : World, (Instr.index 9 (.string ⟨#[c0, c1, c2, c3]⟩) (.int .i64 3)).run Tryd.prog W = .ok (.int .u8 (c3.toNat : Int)) W := i3
  obtain ⟨l0, g0⟩ := isd_bd h0
  obtain ⟨l1, g1⟩ := isd_bd h1
  have H0 := Lib.hid h0
  have H1 := Lib.hid h1
  have H2 := Lib.hid h2
  clear h0 h1 h2
  generalize (⟨#[c0, c1, c2, c3]⟩ : ByteArray) = S at *
  go_enter Tryd.func35, Tryd.ntmps35
  go_wp2_with fail
  refine wp_loop_rounds 3 ?_
  rw [rounds_succ]
  go_wp2_with fail
  refine (adigit_is c0 true _ H0.out).mono ?_
  rintro e w' ⟨rfl, rfl⟩
  go_wp2_with fail
  refine (adigit_is c1 true _ H1.out).mono ?_
  rintro e w' ⟨rfl, rfl⟩
  go_wp2_with fail
  go_quiet (fail)
  go_wp2_with fail
  rw [rounds_succ]
  go_wp2_with fail
  refine (adigit_is c2 false _ H2.out).mono ?_
  rintro e w' ⟨rfl, rfl⟩
  go_wp2_with fail
  go_ret2
  refine ⟨rfl, ?_⟩
  repeat (first | exact Below.refl _ _ | assumption | refine below_drewN ?_ _ | refine Below.drew ?_ | refine Below.setCell ?_ (by first | omega | (simp; done) | (simp; omega)) _ | refine Below.alloc ?_ (by first | omega | (simp; done) | (simp; omega)) _)
set_option maxRecDepth 100000 in
set_option maxHeartbeats 1000000 in
theorem units_2_3 (c0 c1 c2 c3 : UInt8) (w : World) (hU : Units w) (h0 : Fm.isd c0 = true) (h1 : Fm.isd c1 = true) (h2 : Fm.isd c2 = true) (h3 : Fm.isd c3 = false) : Calls Tryd.prog 35 #[.string ⟨#[c0, c1, c2, c3]⟩] w fun e w' => e = .returned (.tuple #[.int .i64 0, .bool false]) ∧ Below w.heap.size w w' := by
  have u0 := hU.u0
  have u1 := hU.u1
  have u2 := hU.u2
  have l0 := lt_cell u0
  clear hU
  have hz : ((⟨#[c0, c1, c2, c3]⟩ : ByteArray)).size = 4 := rfl
  have i0 := aidx ⟨#[c0, c1, c2, c3]⟩ .i64 0 (by rw [hz]; decide)
  change ∀ W, _ = Result.ok (Value.int .u8 (c0.toNat : Int)) W at i0
  have i0 : ∀ W : World, (Instr.index 9 (.string ⟨#[c0, c1, c2, c3]⟩) (.int .i64 0)).run Tryd.prog W = .ok (.int .u8 (c0.toNat : Int)) W := i0
  have i1 := aidx ⟨#[c0, c1, c2, c3]⟩ .i64 1 (by rw [hz]; decide)
  change ∀ W, _ = Result.ok (Value.int .u8 (c1.toNat : Int)) W at i1
  have i1 : ∀ W : World, (Instr.index 9 (.string ⟨#[c0, c1, c2, c3]⟩) (.int .i64 1)).run Tryd.prog W = .ok (.int .u8 (c1.toNat : Int)) W := i1
  have i2 := aidx ⟨#[c0, c1, c2, c3]⟩ .i64 2 (by rw [hz]; decide)
  change ∀ W, _ = Result.ok (Value.int .u8 (c2.toNat : Int)) W at i2
  have i2 : ∀ W : World, (Instr.index 9 (.string ⟨#[c0, c1, c2, c3]⟩) (.int .i64 2)).run Tryd.prog W = .ok (.int .u8 (c2.toNat : Int)) W := i2
  have i3 := aidx ⟨#[c0, c1, c2, c3]⟩ .i64 3 (by rw [hz]; decide)
  change ∀ W, _ = Result.ok (Value.int .u8 (c3.toNat : Int)) W at i3
  have i3 : ∀ W : World, (Instr.index 9 (.string ⟨#[c0, c1, c2, c3]⟩) (.int .i64 3)).run Tryd.prog W = .ok (.int .u8 (c3.toNat : Int)) W := i3
  obtain ⟨l0, g0⟩ := isd_bd h0
  obtain ⟨l1, g1⟩ := isd_bd h1
  obtain ⟨l2, g2⟩ := isd_bd h2
  have H0 := Lib.hid h0
  have H1 := Lib.hid h1
  have H2 := Lib.hid h2
  have H3 := Lib.hid h3
  clear h0 h1 h2 h3
  generalize (⟨#[c0, c1, c2, c3]⟩ : ByteArray) = S at *
  go_enter Tryd.func35, Tryd.ntmps35
  go_wp2_with fail
  refine wp_loop_rounds 3 ?_
  rw [rounds_succ]
  go_wp2_with fail
  refine (adigit_is c0 true _ H0.out).mono ?_
  rintro e w' ⟨rfl, rfl⟩
  go_wp2_with fail
  refine (adigit_is c1 true _ H1.out).mono ?_
  rintro e w' ⟨rfl, rfl⟩
  go_wp2_with fail
  go_quiet (fail)
  go_wp2_with fail
  rw [rounds_succ]
  go_wp2_with fail
  refine (adigit_is c2 true _ H2.out).mono ?_
  rintro e w' ⟨rfl, rfl⟩
  go_wp2_with fail
  refine (adigit_is c3 false _ H3.out).mono ?_
  rintro e w' ⟨rfl, rfl⟩
  go_wp2_with fail
  go_ret2
  refine ⟨rfl, ?_⟩
  repeat (first | exact Below.refl _ _ | assumption | refine below_drewN ?_ _ | refine Below.drew ?_ | refine Below.setCell ?_ (by first | omega | (simp; done) | (simp; omega)) _ | refine Below.alloc ?_ (by first | omega | (simp; done) | (simp; omega)) _)
set_option maxRecDepth 100000 in
set_option maxHeartbeats 1000000 in
theorem units_2_4 (c0 c1 c2 c3 : UInt8) (w : World) (hU : Units w) (h0 : Fm.isd c0 = true) (h1 : Fm.isd c1 = true) (h2 : Fm.isd c2 = true) (h3 : Fm.isd c3 = true) : Calls Tryd.prog 35 #[.string ⟨#[c0, c1, c2, c3]⟩] w fun e w' => e = .returned (.tuple #[.int .i64 (3600 * (10 * ((c0.toNat : Int) - 48) + ((c1.toNat : Int) - 48)) + 60 * (10 * ((c2.toNat : Int) - 48) + ((c3.toNat : Int) - 48))), .bool true]) ∧ Below w.heap.size w w' := by
  have u0 := hU.u0
  have u1 := hU.u1
  have u2 := hU.u2
  have l0 := lt_cell u0
  clear hU
  have hz : ((⟨#[c0, c1, c2, c3]⟩ : ByteArray)).size = 4 := rfl
  have i0 := aidx ⟨#[c0, c1, c2, c3]⟩ .i64 0 (by rw [hz]; decide)
  change ∀ W, _ = Result.ok (Value.int .u8 (c0.toNat : Int)) W at i0
  have i0 : ∀ W : World, (Instr.index 9 (.string ⟨#[c0, c1, c2, c3]⟩) (.int .i64 0)).run Tryd.prog W = .ok (.int .u8 (c0.toNat : Int)) W := i0
  have i1 := aidx ⟨#[c0, c1, c2, c3]⟩ .i64 1 (by rw [hz]; decide)
  change ∀ W, _ = Result.ok (Value.int .u8 (c1.toNat : Int)) W at i1
  have i1 : ∀ W : World, (Instr.index 9 (.string ⟨#[c0, c1, c2, c3]⟩) (.int .i64 1)).run Tryd.prog W = .ok (.int .u8 (c1.toNat : Int)) W := i1
  have i2 := aidx ⟨#[c0, c1, c2, c3]⟩ .i64 2 (by rw [hz]; decide)
  change ∀ W, _ = Result.ok (Value.int .u8 (c2.toNat : Int)) W at i2
  have i2 : ∀ W : World, (Instr.index 9 (.string ⟨#[c0, c1, c2, c3]⟩) (.int .i64 2)).run Tryd.prog W = .ok (.int .u8 (c2.toNat : Int)) W := i2
  have i3 := aidx ⟨#[c0, c1, c2, c3]⟩ .i64 3 (by rw [hz]; decide)
  change ∀ W, _ = Result.ok (Value.int .u8 (c3.toNat : Int)) W at i3
  have i3 : ∀ W : World, (Instr.index 9 (.string ⟨#[c0, c1, c2, c3]⟩) (.int .i64 3)).run Tryd.prog W = .ok (.int .u8 (c3.toNat : Int)) W := i3
  obtain ⟨l0, g0⟩ := isd_bd h0
  obtain ⟨l1, g1⟩ := isd_bd h1
  obtain ⟨l2, g2⟩ := isd_bd h2
  obtain ⟨l3, g3⟩ := isd_bd h3
  have H0 := Lib.hid h0
  have H1 := Lib.hid h1
  have H2 := Lib.hid h2
  have H3 := Lib.hid h3
  clear h0 h1 h2 h3
  generalize (⟨#[c0, c1, c2, c3]⟩ : ByteArray) = S at *
  go_enter Tryd.func35, Tryd.ntmps35
  go_wp2_with fail
  refine wp_loop_rounds 3 ?_
  rw [rounds_succ]
  go_wp2_with fail
  refine (adigit_is c0 true _ H0.out).mono ?_
  rintro e w' ⟨rfl, rfl⟩
  go_wp2_with fail
  refine (adigit_is c1 true _ H1.out).mono ?_
  rintro e w' ⟨rfl, rfl⟩
  go_wp2_with fail
  go_quiet (fail)
  go_wp2_with fail
  rw [rounds_succ]
  go_wp2_with fail
  refine (adigit_is c2 true _ H2.out).mono ?_
  rintro e w' ⟨rfl, rfl⟩
  go_wp2_with fail
  refine (adigit_is c3 true _ H3.out).mono ?_
  rintro e w' ⟨rfl, rfl⟩
  go_wp2_with fail
  go_quiet (fail)
  go_wp2_with fail
  rw [rounds_succ]
  go_wp2_with fail
  go_ret2
  refine ⟨ret_ib (by omega), ?_⟩
  repeat (first | exact Below.refl _ _ | assumption | refine below_drewN ?_ _ | refine Below.drew ?_ | refine Below.setCell ?_ (by first | omega | (simp; done) | (simp; omega)) _ | refine Below.alloc ?_ (by first | omega | (simp; done) | (simp; omega)) _)
set_option maxRecDepth 100000 in
set_option maxHeartbeats 1000000 in
theorem units_3_0 (c0 c1 c2 c3 c4 c5 : UInt8) (w : World) (hU : Units w) (h0 : Fm.isd c0 = false) : Calls Tryd.prog 35 #[.string ⟨#[c0, c1, c2, c3, c4, c5]⟩] w fun e w' => e = .returned (.tuple #[.int .i64 0, .bool false]) ∧ Below w.heap.size w w' := by
  have u0 := hU.u0
  have u1 := hU.u1
  have u2 := hU.u2
  have l0 := lt_cell u0
  clear hU
  have hz : ((⟨#[c0, c1, c2, c3, c4, c5]⟩ : ByteArray)).size = 6 := rfl
  have i0 := aidx ⟨#[c0, c1, c2, c3, c4, c5]⟩ .i64 0 (by rw [hz]; decide)
  change ∀ W, _ = Result.ok (Value.int .u8 (c0.toNat : Int)) W at i0
  have i0 : ∀ W : World, (Instr.index 9 (.string ⟨#[c0, c1, c2, c3, c4, c5]⟩) (.int .i64 0)).run Tryd.prog W = .ok (.int .u8 (c0.toNat : Int)) W := i0
  have i1 := aidx ⟨#[c0, c1, c2, c3, c4, c5]⟩ .i64 1 (by rw [hz]; decide)
  change ∀ W, _ = Result.ok (Value.int .u8 (c1.toNat : Int)) W at i1
  have i1 : ∀ W : World, (Instr.index 9 (.string ⟨#[c0, c1, c2, c3, c4, c5]⟩) (.int .i64 1)).run Tryd.prog W = .ok (.int .u8 (c1.toNat : Int)) W := i1
  have i2 := aidx ⟨#[c0, c1, c2, c3, c4, c5]⟩ .i64 2 (by rw [hz]; decide)
  change ∀ W, _ = Result.ok (Value.int .u8 (c2.toNat : Int)) W at i2
  have i2 : ∀ W : World, (Instr.index 9 (.string ⟨#[c0, c1, c2, c3, c4, c5]⟩) (.int .i64 2)).run Tryd.prog W = .ok (.int .u8 (c2.toNat : Int)) W := i2
  have i3 := aidx ⟨#[c0, c1, c2, c3, c4, c5]⟩ .i64 3 (by rw [hz]; decide)
  change ∀ W, _ = Result.ok (Value.int .u8 (c3.toNat : Int)) W at i3
  have i3 : ∀ W : World, (Instr.index 9 (.string ⟨#[c0, c1, c2, c3, c4, c5]⟩) (.int .i64 3)).run Tryd.prog W = .ok (.int .u8 (c3.toNat : Int)) W := i3
  have i4 := aidx ⟨#[c0, c1, c2, c3, c4, c5]⟩ .i64 4 (by rw [hz]; decide)
  change ∀ W, _ = Result.ok (Value.int .u8 (c4.toNat : Int)) W at i4
  have i4 : ∀ W : World, (Instr.index 9 (.string ⟨#[c0, c1, c2, c3, c4, c5]⟩) (.int .i64 4)).run Tryd.prog W = .ok (.int .u8 (c4.toNat : Int)) W := i4
  have i5 := aidx ⟨#[c0, c1, c2, c3, c4, c5]⟩ .i64 5 (by rw [hz]; decide)
  change ∀ W, _ = Result.ok (Value.int .u8 (c5.toNat : Int)) W at i5
  have i5 : ∀ W : World, (Instr.index 9 (.string ⟨#[c0, c1, c2, c3, c4, c5]⟩) (.int .i64 5)).run Tryd.prog W = .ok (.int .u8 (c5.toNat : Int)) W := i5
  have H0 := Lib.hid h0
  clear h0
  generalize (⟨#[c0, c1, c2, c3, c4, c5]⟩ : ByteArray) = S at *
  go_enter Tryd.func35, Tryd.ntmps35
  go_wp2_with fail
  refine wp_loop_rounds 4 ?_
  rw [rounds_succ]
  go_wp2_with fail
  refine (adigit_is c0 false _ H0.out).mono ?_
  rintro e w' ⟨rfl, rfl⟩
  go_wp2_with fail
  go_ret2
  refine ⟨rfl, ?_⟩
  repeat (first | exact Below.refl _ _ | assumption | refine below_drewN ?_ _ | refine Below.drew ?_ | refine Below.setCell ?_ (by first | omega | (simp; done) | (simp; omega)) _ | refine Below.alloc ?_ (by first | omega | (simp; done) | (simp; omega)) _)
set_option maxRecDepth 100000 in
set_option maxHeartbeats 1000000 in
theorem units_3_1 (c0 c1 c2 c3 c4 c5 : UInt8) (w : World) (hU : Units w) (h0 : Fm.isd c0 = true) (h1 : Fm.isd c1 = false) : Calls Tryd.prog 35 #[.string ⟨#[c0, c1, c2, c3, c4, c5]⟩] w fun e w' => e = .returned (.tuple #[.int .i64 0, .bool false]) ∧ Below w.heap.size w w' := by
  have u0 := hU.u0
  have u1 := hU.u1
  have u2 := hU.u2
  have l0 := lt_cell u0
  clear hU
  have hz : ((⟨#[c0, c1, c2, c3, c4, c5]⟩ : ByteArray)).size = 6 := rfl
  have i0 := aidx ⟨#[c0, c1, c2, c3, c4, c5]⟩ .i64 0 (by rw [hz]; decide)
  change ∀ W, _ = Result.ok (Value.int .u8 (c0.toNat : Int)) W at i0
  have i0 : ∀ W : World, (Instr.index 9 (.string ⟨#[c0, c1, c2, c3, c4, c5]⟩) (.int .i64 0)).run Tryd.prog W = .ok (.int .u8 (c0.toNat : Int)) W := i0
  have i1 := aidx ⟨#[c0, c1, c2, c3, c4, c5]⟩ .i64 1 (by rw [hz]; decide)
  change ∀ W, _ = Result.ok (Value.int .u8 (c1.toNat : Int)) W at i1
  have i1 : ∀ W : World, (Instr.index 9 (.string ⟨#[c0, c1, c2, c3, c4, c5]⟩) (.int .i64 1)).run Tryd.prog W = .ok (.int .u8 (c1.toNat : Int)) W := i1
  have i2 := aidx ⟨#[c0, c1, c2, c3, c4, c5]⟩ .i64 2 (by rw [hz]; decide)
  change ∀ W, _ = Result.ok (Value.int .u8 (c2.toNat : Int)) W at i2
  have i2 : ∀ W : World, (Instr.index 9 (.string ⟨#[c0, c1, c2, c3, c4, c5]⟩) (.int .i64 2)).run Tryd.prog W = .ok (.int .u8 (c2.toNat : Int)) W := i2
  have i3 := aidx ⟨#[c0, c1, c2, c3, c4, c5]⟩ .i64 3 (by rw [hz]; decide)
  change ∀ W, _ = Result.ok (Value.int .u8 (c3.toNat : Int)) W at i3
  have i3 : ∀ W : World, (Instr.index 9 (.string ⟨#[c0, c1, c2, c3, c4, c5]⟩) (.int .i64 3)).run Tryd.prog W = .ok (.int .u8 (c3.toNat : Int)) W := i3
  have i4 := aidx ⟨#[c0, c1, c2, c3, c4, c5]⟩ .i64 4 (by rw [hz]; decide)
  change ∀ W, _ = Result.ok (Value.int .u8 (c4.toNat : Int)) W at i4
  have i4 : ∀ W : World, (Instr.index 9 (.string ⟨#[c0, c1, c2, c3, c4, c5]⟩) (.int .i64 4)).run Tryd.prog W = .ok (.int .u8 (c4.toNat : Int)) W := i4
  have i5 := aidx ⟨#[c0, c1, c2, c3, c4, c5]⟩ .i64 5 (by rw [hz]; decide)
  change ∀ W, _ = Result.ok (Value.int .u8 (c5.toNat : Int)) W at i5
  have i5 : ∀ W : World, (Instr.index 9 (.string ⟨#[c0, c1, c2, c3, c4, c5]⟩) (.int .i64 5)).run Tryd.prog W = .ok (.int .u8 (c5.toNat : Int)) W := i5
  obtain ⟨l0, g0⟩ := isd_bd h0
  have H0 := Lib.hid h0
  have H1 := Lib.hid h1
  clear h0 h1
  generalize (⟨#[c0, c1, c2, c3, c4, c5]⟩ : ByteArray) = S at *
  go_enter Tryd.func35, Tryd.ntmps35
  go_wp2_with fail
  refine wp_loop_rounds 4 ?_
  rw [rounds_succ]
  go_wp2_with fail
  refine (adigit_is c0 true _ H0.out).mono ?_
  rintro e w' ⟨rfl, rfl⟩
  go_wp2_with fail
  refine (adigit_is c1 false _ H1.out).mono ?_
  rintro e w' ⟨rfl, rfl⟩
  go_wp2_with fail
  go_ret2
  refine ⟨rfl, ?_⟩
  repeat (first | exact Below.refl _ _ | assumption | refine below_drewN ?_ _ | refine Below.drew ?_ | refine Below.setCell ?_ (by first | omega | (simp; done) | (simp; omega)) _ | refine Below.alloc ?_ (by first | omega | (simp; done) | (simp; omega)) _)
set_option maxRecDepth 100000 in
set_option maxHeartbeats 1000000 in
theorem units_3_2 (c0 c1 c2 c3 c4 c5 : UInt8) (w : World) (hU : Units w) (h0 : Fm.isd c0 = true) (h1 : Fm.isd c1 = true) (h2 : Fm.isd c2 = false) : Calls Tryd.prog 35 #[.string ⟨#[c0, c1, c2, c3, c4, c5]⟩] w fun e w' => e = .returned (.tuple #[.int .i64 0, .bool false]) ∧ Below w.heap.size w w' := by
  have u0 := hU.u0
  have u1 := hU.u1
  have u2 := hU.u2
  have l0 := lt_cell u0
  clear hU
  have hz : ((⟨#[c0, c1, c2, c3, c4, c5]⟩ : ByteArray)).size = 6 := rfl
  have i0 := aidx ⟨#[c0, c1, c2, c3, c4, c5]⟩ .i64 0 (by rw [hz]; decide)
  change ∀ W, _ = Result.ok (Value.int .u8 (c0.toNat : Int)) W at i0
  have i0 : ∀ W : World, (Instr.index 9 (.string ⟨#[c0, c1, c2, c3, c4, c5]⟩) (.int .i64 0)).run Tryd.prog W = .ok (.int .u8 (c0.toNat : Int)) W := i0
  have i1 := aidx ⟨#[c0, c1, c2, c3, c4, c5]⟩ .i64 1 (by rw [hz]; decide)
  change ∀ W, _ = Result.ok (Value.int .u8 (c1.toNat : Int)) W at i1
  have i1 : ∀ W : World, (Instr.index 9 (.string ⟨#[c0, c1, c2, c3, c4, c5]⟩) (.int .i64 1)).run Tryd.prog W = .ok (.int .u8 (c1.toNat : Int)) W := i1
  have i2 := aidx ⟨#[c0, c1, c2, c3, c4, c5]⟩ .i64 2 (by rw [hz]; decide)
  change ∀ W, _ = Result.ok (Value.int .u8 (c2.toNat : Int)) W at i2
  have i2 : ∀ W : World, (Instr.index 9 (.string ⟨#[c0, c1, c2, c3, c4, c5]⟩) (.int .i64 2)).run Tryd.prog W = .ok (.int .u8 (c2.toNat : Int)) W := i2
  have i3 := aidx ⟨#[c0, c1, c2, c3, c4, c5]⟩ .i64 3 (by rw [hz]; decide)
  change ∀ W, _ = Result.ok (Value.int .u8 (c3.toNat : Int)) W at i3
  have i3 : ∀ W : World, (Instr.index 9 (.string ⟨#[c0, c1, c2, c3, c4, c5]⟩) (.int .i64 3)).run Tryd.prog W = .ok (.int .u8 (c3.toNat : Int)) W := i3
  have i4 := aidx ⟨#[c0, c1, c2, c3, c4, c5]⟩ .i64 4 (by rw [hz]; decide)
  change ∀ W, _ = Result.ok (Value.int .u8 (c4.toNat : Int)) W at i4
  have i4 : ∀ W : World, (Instr.index 9 (.string ⟨#[c0, c1, c2, c3, c4, c5]⟩) (.int .i64 4)).run Tryd.prog W = .ok (.int .u8 (c4.toNat : Int)) W := i4
  have i5 := aidx ⟨#[c0, c1, c2, c3, c4, c5]⟩ .i64 5 (by rw [hz]; decide)
  change ∀ W, _ = Result.ok (Value.int .u8 (c5.toNat : Int)) W at i5
  have i5 : ∀ W : World, (Instr.index 9 (.string ⟨#[c0, c1, c2, c3, c4, c5]⟩) (.int .i64 5)).run Tryd.prog W = .ok (.int .u8 (c5.toNat : Int)) W := i5
  obtain ⟨l0, g0⟩ := isd_bd h0
  obtain ⟨l1, g1⟩ := isd_bd h1
  have H0 := Lib.hid h0
  have H1 := Lib.hid h1
  have H2 := Lib.hid h2
  clear h0 h1 h2
  generalize (⟨#[c0, c1, c2, c3, c4, c5]⟩ : ByteArray) = S at *
  go_enter Tryd.func35, Tryd.ntmps35
  go_wp2_with fail
  refine wp_loop_rounds 4 ?_
  rw [rounds_succ]
  go_wp2_with fail
  refine (adigit_is c0 true _ H0.out).mono ?_
  rintro e w' ⟨rfl, rfl⟩
  go_wp2_with fail
  refine (adigit_is c1 true _ H1.out).mono ?_
  rintro e w' ⟨rfl, rfl⟩
  go_wp2_with fail
  go_quiet (fail)
  go_wp2_with fail
  rw [rounds_succ]
  go_wp2_with fail
  refine (adigit_is c2 false _ H2.out).mono ?_
  rintro e w' ⟨rfl, rfl⟩
  go_wp2_with fail
  go_ret2
  refine ⟨rfl, ?_⟩
  repeat (first | exact Below.refl _ _ | assumption | refine below_drewN ?_ _ | refine Below.drew ?_ | refine Below.setCell ?_ (by first | omega | (simp; done) | (simp; omega)) _ | refine Below.alloc ?_ (by first | omega | (simp; done) | (simp; omega)) _)
set_option maxRecDepth 100000 in
set_option maxHeartbeats 1000000 in
theorem units_3_3 (c0 c1 c2 c3 c4 c5 : UInt8) (w : World) (hU : Units w) (h0 : Fm.isd c0 = true) (h1 : Fm.isd c1 = true) (h2 : Fm.isd c2 = true) (h3 : Fm.isd c3 = false) : Calls Tryd.prog 35 #[.string ⟨#[c0, c1, c2, c3, c4, c5]⟩] w fun e w' => e = .returned (.tuple #[.int .i64 0, .bool false]) ∧ Below w.heap.size w w' := by
  have u0 := hU.u0
  have u1 := hU.u1
  have u2 := hU.u2
  have l0 := lt_cell u0
  clear hU
  have hz : ((⟨#[c0, c1, c2, c3, c4, c5]⟩ : ByteArray)).size = 6 := rfl
  have i0 := aidx ⟨#[c0, c1, c2, c3, c4, c5]⟩ .i64 0 (by rw [hz]; decide)
  change ∀ W, _ = Result.ok (Value.int .u8 (c0.toNat : Int)) W at i0
  have i0 : ∀ W : World, (Instr.index 9 (.string ⟨#[c0, c1, c2, c3, c4, c5]⟩) (.int .i64 0)).run Tryd.prog W = .ok (.int .u8 (c0.toNat : Int)) W := i0
  have i1 := aidx ⟨#[c0, c1, c2, c3, c4, c5]⟩ .i64 1 (by rw [hz]; decide)
  change ∀ W, _ = Result.ok (Value.int .u8 (c1.toNat : Int)) W at i1
  have i1 : ∀ W : World, (Instr.index 9 (.string ⟨#[c0, c1, c2, c3, c4, c5]⟩) (.int .i64 1)).run Tryd.prog W = .ok (.int .u8 (c1.toNat : Int)) W := i1
  have i2 := aidx ⟨#[c0, c1, c2, c3, c4, c5]⟩ .i64 2 (by rw [hz]; decide)
  change ∀ W, _ = Result.ok (Value.int .u8 (c2.toNat : Int)) W at i2
  have i2 : ∀ W : World, (Instr.index 9 (.string ⟨#[c0, c1, c2, c3, c4, c5]⟩) (.int .i64 2)).run Tryd.prog W = .ok (.int .u8 (c2.toNat : Int)) W := i2
  have i3 := aidx ⟨#[c0, c1, c2, c3, c4, c5]⟩ .i64 3 (by rw [hz]; decide)
  change ∀ W, _ = Result.ok (Value.int .u8 (c3.toNat : Int)) W at i3
  have i3 : ∀ W : World, (Instr.index 9 (.string ⟨#[c0, c1, c2, c3, c4, c5]⟩) (.int .i64 3)).run Tryd.prog W = .ok (.int .u8 (c3.toNat : Int)) W := i3
  have i4 := aidx ⟨#[c0, c1, c2, c3, c4, c5]⟩ .i64 4 (by rw [hz]; decide)
  change ∀ W, _ = Result.ok (Value.int .u8 (c4.toNat : Int)) W at i4
  have i4 : ∀ W : World, (Instr.index 9 (.string ⟨#[c0, c1, c2, c3, c4, c5]⟩) (.int .i64 4)).run Tryd.prog W = .ok (.int .u8 (c4.toNat : Int)) W := i4
  have i5 := aidx ⟨#[c0, c1, c2, c3, c4, c5]⟩ .i64 5 (by rw [hz]; decide)
  change ∀ W, _ = Result.ok (Value.int .u8 (c5.toNat : Int)) W at i5
  have i5 : ∀ W : World, (Instr.index 9 (.string ⟨#[c0, c1, c2, c3, c4, c5]⟩) (.int .i64 5)).run Tryd.prog W = .ok (.int .u8 (c5.toNat : Int)) W := i5
  obtain ⟨l0, g0⟩ := isd_bd h0
  obtain ⟨l1, g1⟩ := isd_bd h1
  obtain ⟨l2, g2⟩ := isd_bd h2
  have H0 := Lib.hid h0
  have H1 := Lib.hid h1
  have H2 := Lib.hid h2
  have H3 := Lib.hid h3
  clear h0 h1 h2 h3
  generalize (⟨#[c0, c1, c2, c3, c4, c5]⟩ : ByteArray) = S at *
  go_enter Tryd.func35, Tryd.ntmps35
  go_wp2_with fail
  refine wp_loop_rounds 4 ?_
  rw [rounds_succ]
  go_wp2_with fail
  refine (adigit_is c0 true _ H0.out).mono ?_
  rintro e w' ⟨rfl, rfl⟩
  go_wp2_with fail
  refine (adigit_is c1 true _ H1.out).mono ?_
  rintro e w' ⟨rfl, rfl⟩
  go_wp2_with fail
  go_quiet (fail)
  go_wp2_with fail
  rw [rounds_succ]
  go_wp2_with fail
  refine (adigit_is c2 true _ H2.out).mono ?_
  rintro e w' ⟨rfl, rfl⟩
  go_wp2_with fail
  refine (adigit_is c3 false _ H3.out).mono ?_
  rintro e w' ⟨rfl, rfl⟩
  go_wp2_with fail
  go_ret2
  refine ⟨rfl, ?_⟩
  repeat (first | exact Below.refl _ _ | assumption | refine below_drewN ?_ _ | refine Below.drew ?_ | refine Below.setCell ?_ (by first | omega | (simp; done) | (simp; omega)) _ | refine Below.alloc ?_ (by first | omega | (simp; done) | (simp; omega)) _)
set_option maxRecDepth 100000 in
set_option maxHeartbeats 1000000 in
theorem units_3_4 (c0 c1 c2 c3 c4 c5 : UInt8) (w : World) (hU : Units w) (h0 : Fm.isd c0 = true) (h1 : Fm.isd c1 = true) (h2 : Fm.isd c2 = true) (h3 : Fm.isd c3 = true) (h4 : Fm.isd c4 = false) : Calls Tryd.prog 35 #[.string ⟨#[c0, c1, c2, c3, c4, c5]⟩] w fun e w' => e = .returned (.tuple #[.int .i64 0, .bool false]) ∧ Below w.heap.size w w' := by
  have u0 := hU.u0
  have u1 := hU.u1
  have u2 := hU.u2
  have l0 := lt_cell u0
  clear hU
  have hz : ((⟨#[c0, c1, c2, c3, c4, c5]⟩ : ByteArray)).size = 6 := rfl
  have i0 := aidx ⟨#[c0, c1, c2, c3, c4, c5]⟩ .i64 0 (by rw [hz]; decide)
  change ∀ W, _ = Result.ok (Value.int .u8 (c0.toNat : Int)) W at i0
  have i0 : ∀ W : World, (Instr.index 9 (.string ⟨#[c0, c1, c2, c3, c4, c5]⟩) (.int .i64 0)).run Tryd.prog W = .ok (.int .u8 (c0.toNat : Int)) W := i0
  have i1 := aidx ⟨#[c0, c1, c2, c3, c4, c5]⟩ .i64 1 (by rw [hz]; decide)
  change ∀ W, _ = Result.ok (Value.int .u8 (c1.toNat : Int)) W at i1
  have i1 : ∀ W : World, (Instr.index 9 (.string ⟨#[c0, c1, c2, c3, c4, c5]⟩) (.int .i64 1)).run Tryd.prog W = .ok (.int .u8 (c1.toNat : Int)) W := i1
  have i2 := aidx ⟨#[c0, c1, c2, c3, c4, c5]⟩ .i64 2 (by rw [hz]; decide)
  change ∀ W, _ = Result.ok (Value.int .u8 (c2.toNat : Int)) W at i2
  have i2 : ∀ W : World, (Instr.index 9 (.string ⟨#[c0, c1, c2, c3, c4, c5]⟩) (.int .i64 2)).run Tryd.prog W = .ok (.int .u8 (c2.toNat : Int)) W := i2
  have i3 := aidx ⟨#[c0, c1, c2, c3, c4, c5]⟩ .i64 3 (by rw [hz]; decide)
  change ∀ W, _ = Result.ok (Value.int .u8 (c3.toNat : Int)) W at i3
  have i3 : ∀ W : World, (Instr.index 9 (.string ⟨#[c0, c1, c2, c3, c4, c5]⟩) (.int .i64 3)).run Tryd.prog W = .ok (.int .u8 (c3.toNat : Int)) W := i3
  have i4 := aidx ⟨#[c0, c1, c2, c3, c4, c5]⟩ .i64 4 (by rw [hz]; decide)
  change ∀ W, _ = Result.ok (Value.int .u8 (c4.toNat : Int)) W at i4
  have i4 : ∀ W : World, (Instr.index 9 (.string ⟨#[c0, c1, c2, c3, c4, c5]⟩) (.int .i64 4)).run Tryd.prog W = .ok (.int .u8 (c4.toNat : Int)) W := i4
  have i5 := aidx ⟨#[c0, c1, c2, c3, c4, c5]⟩ .i64 5 (by rw [hz]; decide)
  change ∀ W, _ = Result.ok (Value.int .u8 (c5.toNat : Int)) W at i5
  have i5 : ∀ W : World, (Instr.index 9 (.string ⟨#[c0, c1, c2, c3, c4, c5]⟩) (.int .i64 5)).run Tryd.prog W = .ok (.int .u8 (c5.toNat : Int)) W := i5
  obtain ⟨l0, g0⟩ := isd_bd h0
  obtain ⟨l1, g1⟩ := isd_bd h1
  obtain ⟨l2, g2⟩ := isd_bd h2
  obtain ⟨l3, g3⟩ := isd_bd h3
  have H0 := Lib.hid h0
  have H1 := Lib.hid h1
  have H2 := Lib.hid h2
  have H3 := Lib.hid h3
  have H4 := Lib.hid h4
  clear h0 h1 h2 h3 h4
  generalize (⟨#[c0, c1, c2, c3, c4, c5]⟩ : ByteArray) = S at *
  go_enter Tryd.func35, Tryd.ntmps35
  go_wp2_with fail
  refine wp_loop_rounds 4 ?_
  rw [rounds_succ]
  go_wp2_with fail
  refine (adigit_is c0 true _ H0.out).mono ?_
  rintro e w' ⟨rfl, rfl⟩
  go_wp2_with fail
  refine (adigit_is c1 true _ H1.out).mono ?_
  rintro e w' ⟨rfl, rfl⟩
  go_wp2_with fail
  go_quiet (fail)
  go_wp2_with fail
  rw [rounds_succ]
  go_wp2_with fail
  refine (adigit_is c2 true _ H2.out).mono ?_
  rintro e w' ⟨rfl, rfl⟩
  go_wp2_with fail
  refine (adigit_is c3 true _ H3.out).mono ?_
  rintro e w' ⟨rfl, rfl⟩
  go_wp2_with fail
  go_quiet (fail)
  go_wp2_with fail
  rw [rounds_succ]
  go_wp2_with fail
  refine (adigit_is c4 false _ H4.out).mono ?_
  rintro e w' ⟨rfl, rfl⟩
  go_wp2_with fail
  go_ret2
  refine ⟨rfl, ?_⟩
  repeat (first | exact Below.refl _ _ | assumption | refine below_drewN ?_ _ | refine Below.drew ?_ | refine Below.setCell ?_ (by first | omega | (simp; done) | (simp; omega)) _ | refine Below.alloc ?_ (by first | omega | (simp; done) | (simp; omega)) _)
set_option maxRecDepth 100000 in
set_option maxHeartbeats 1000000 in
theorem units_3_5 (c0 c1 c2 c3 c4 c5 : UInt8) (w : World) (hU : Units w) (h0 : Fm.isd c0 = true) (h1 : Fm.isd c1 = true) (h2 : Fm.isd c2 = true) (h3 : Fm.isd c3 = true) (h4 : Fm.isd c4 = true) (h5 : Fm.isd c5 = false) : Calls Tryd.prog 35 #[.string ⟨#[c0, c1, c2, c3, c4, c5]⟩] w fun e w' => e = .returned (.tuple #[.int .i64 0, .bool false]) ∧ Below w.heap.size w w' := by
  have u0 := hU.u0
  have u1 := hU.u1
  have u2 := hU.u2
  have l0 := lt_cell u0
  clear hU
  have hz : ((⟨#[c0, c1, c2, c3, c4, c5]⟩ : ByteArray)).size = 6 := rfl
  have i0 := aidx ⟨#[c0, c1, c2, c3, c4, c5]⟩ .i64 0 (by rw [hz]; decide)
  change ∀ W, _ = Result.ok (Value.int .u8 (c0.toNat : Int)) W at i0
  have i0 : ∀ W : World, (Instr.index 9 (.string ⟨#[c0, c1, c2, c3, c4, c5]⟩) (.int .i64 0)).run Tryd.prog W = .ok (.int .u8 (c0.toNat : Int)) W := i0
  have i1 := aidx ⟨#[c0, c1, c2, c3, c4, c5]⟩ .i64 1 (by rw [hz]; decide)
  change ∀ W, _ = Result.ok (Value.int .u8 (c1.toNat : Int)) W at i1
  have i1 : ∀ W : World, (Instr.index 9 (.string ⟨#[c0, c1, c2, c3, c4, c5]⟩) (.int .i64 1)).run Tryd.prog W = .ok (.int .u8 (c1.toNat : Int)) W := i1
  have i2 := aidx ⟨#[c0, c1, c2, c3, c4, c5]⟩ .i64 2 (by rw [hz]; decide)
  change ∀ W, _ = Result.ok (Value.int .u8 (c2.toNat : Int)) W at i2
  have i2 : ∀ W : World, (Instr.index 9 (.string ⟨#[c0, c1, c2, c3, c4, c5]⟩) (.int .i64 2)).run Tryd.prog W = .ok (.int .u8 (c2.toNat : Int)) W := i2
  have i3 := aidx ⟨#[c0, c1, c2, c3, c4, c5]⟩ .i64 3 (by rw [hz]; decide)
  change ∀ W, _ = Result.ok (Value.int .u8 (c3.toNat : Int)) W at i3
  have i3 : ∀ W : World, (Instr.index 9 (.string ⟨#[c0, c1, c2, c3, c4, c5]⟩) (.int .i64 3)).run Tryd.prog W = .ok (.int .u8 (c3.toNat : Int)) W := i3
  have i4 := aidx ⟨#[c0, c1, c2, c3, c4, c5]⟩ .i64 4 (by rw [hz]; decide)
  change ∀ W, _ = Result.ok (Value.int .u8 (c4.toNat : Int)) W at i4
  have i4 : ∀ W : World, (Instr.index 9 (.string ⟨#[c0, c1, c2, c3, c4, c5]⟩) (.int .i64 4)).run Tryd.prog W = .ok (.int .u8 (c4.toNat : Int)) W := i4
  have i5 := aidx ⟨#[c0, c1, c2, c3, c4, c5]⟩ .i64 5 (by rw [hz]; decide)
  change ∀ W, _ = Result.ok (Value.int .u8 (c5.toNat : Int)) W at i5
  have i5 : ∀ W : World, (Instr.index 9 (.string ⟨#[c0, c1, c2, c3, c4, c5]⟩) (.int .i64 5)).run Tryd.prog W = .ok (.int .u8 (c5.toNat : Int)) W := i5
  obtain ⟨l0, g0⟩ := isd_bd h0
  obtain ⟨l1, g1⟩ := isd_bd h1
  obtain ⟨l2, g2⟩ := isd_bd h2
  obtain ⟨l3, g3⟩ := isd_bd h3
  obtain ⟨l4, g4⟩ := isd_bd h4
  have H0 := Lib.hid h0
  have H1 := Lib.hid h1
  have H2 := Lib.hid h2
  have H3 := Lib.hid h3
  have H4 := Lib.hid h4
  have H5 := Lib.hid h5
  clear h0 h1 h2 h3 h4 h5
  generalize (⟨#[c0, c1, c2, c3, c4, c5]⟩ : ByteArray) = S at *
  go_enter Tryd.func35, Tryd.ntmps35
  go_wp2_with fail
  refine wp_loop_rounds 4 ?_
  rw [rounds_succ]
  go_wp2_with fail
  refine (adigit_is c0 true _ H0.out).mono ?_
  rintro e w' ⟨rfl, rfl⟩
  go_wp2_with fail
  refine (adigit_is c1 true _ H1.out).mono ?_
  rintro e w' ⟨rfl, rfl⟩
  go_wp2_with fail
  go_quiet (fail)
  go_wp2_with fail
  rw [rounds_succ]
  go_wp2_with fail
  refine (adigit_is c2 true _ H2.out).mono ?_
  rintro e w' ⟨rfl, rfl⟩
  go_wp2_with fail
  refine (adigit_is c3 true _ H3.out).mono ?_
  rintro e w' ⟨rfl, rfl⟩
  go_wp2_with fail
  go_quiet (fail)
  go_wp2_with fail
  rw [rounds_succ]
  go_wp2_with fail
  refine (adigit_is c4 true _ H4.out).mono ?_
  rintro e w' ⟨rfl, rfl⟩
  go_wp2_with fail
  refine (adigit_is c5 false _ H5.out).mono ?_
  rintro e w' ⟨rfl, rfl⟩
  go_wp2_with fail
  go_ret2
  refine ⟨rfl, ?_⟩
  repeat (first | exact Below.refl _ _ | assumption | refine below_drewN ?_ _ | refine Below.drew ?_ | refine Below.setCell ?_ (by first | omega | (simp; done) | (simp; omega)) _ | refine Below.alloc ?_ (by first | omega | (simp; done) | (simp; omega)) _)
set_option maxRecDepth 100000 in
set_option maxHeartbeats 1000000 in
theorem units_3_6 (c0 c1 c2 c3 c4 c5 : UInt8) (w : World) (hU : Units w) (h0 : Fm.isd c0 = true) (h1 : Fm.isd c1 = true) (h2 : Fm.isd c2 = true) (h3 : Fm.isd c3 = true) (h4 : Fm.isd c4 = true) (h5 : Fm.isd c5 = true) : Calls Tryd.prog 35 #[.string ⟨#[c0, c1, c2, c3, c4, c5]⟩] w fun e w' => e = .returned (.tuple #[.int .i64 (3600 * (10 * ((c0.toNat : Int) - 48) + ((c1.toNat : Int) - 48)) + 60 * (10 * ((c2.toNat : Int) - 48) + ((c3.toNat : Int) - 48)) + 1 * (10 * ((c4.toNat : Int) - 48) + ((c5.toNat : Int) - 48))), .bool true]) ∧ Below w.heap.size w w' := by
  have u0 := hU.u0
  have u1 := hU.u1
  have u2 := hU.u2
  have l0 := lt_cell u0
  clear hU
  have hz : ((⟨#[c0, c1, c2, c3, c4, c5]⟩ : ByteArray)).size = 6 := rfl
  have i0 := aidx ⟨#[c0, c1, c2, c3, c4, c5]⟩ .i64 0 (by rw [hz]; decide)
  change ∀ W, _ = Result.ok (Value.int .u8 (c0.toNat : Int)) W at i0
  have i0 : ∀ W : World, (Instr.index 9 (.string ⟨#[c0, c1, c2, c3, c4, c5]⟩) (.int .i64 0)).run Tryd.prog W = .ok (.int .u8 (c0.toNat : Int)) W := i0
  have i1 := aidx ⟨#[c0, c1, c2, c3, c4, c5]⟩ .i64 1 (by rw [hz]; decide)
  change ∀ W, _ = Result.ok (Value.int .u8 (c1.toNat : Int)) W at i1
  have i1 : ∀ W : World, (Instr.index 9 (.string ⟨#[c0, c1, c2, c3, c4, c5]⟩) (.int .i64 1)).run Tryd.prog W = .ok (.int .u8 (c1.toNat : Int)) W := i1
  have i2 := aidx ⟨#[c0, c1, c2, c3, c4, c5]⟩ .i64 2 (by rw [hz]; decide)
  change ∀ W, _ = Result.ok (Value.int .u8 (c2.toNat : Int)) W at i2
  have i2 : ∀ W : World, (Instr.index 9 (.string ⟨#[c0, c1, c2, c3, c4, c5]⟩) (.int .i64 2)).run Tryd.prog W = .ok (.int .u8 (c2.toNat : Int)) W := i2
  have i3 := aidx ⟨#[c0, c1, c2, c3, c4, c5]⟩ .i64 3 (by rw [hz]; decide)
  change ∀ W, _ = Result.ok (Value.int .u8 (c3.toNat : Int)) W at i3
  have i3 : ∀ W : World, (Instr.index 9 (.string ⟨#[c0, c1, c2, c3, c4, c5]⟩) (.int .i64 3)).run Tryd.prog W = .ok (.int .u8 (c3.toNat : Int)) W := i3
  have i4 := aidx ⟨#[c0, c1, c2, c3, c4, c5]⟩ .i64 4 (by rw [hz]; decide)
  change ∀ W, _ = Result.ok (Value.int .u8 (c4.toNat : Int)) W at i4
  have i4 : ∀ W : World, (Instr.index 9 (.string ⟨#[c0, c1, c2, c3, c4, c5]⟩) (.int .i64 4)).run Tryd.prog W = .ok (.int .u8 (c4.toNat : Int)) W := i4
  have i5 := aidx ⟨#[c0, c1, c2, c3, c4, c5]⟩ .i64 5 (by rw [hz]; decide)
  change ∀ W, _ = Result.ok (Value.int .u8 (c5.toNat : Int)) W at i5
  have i5 : ∀ W : World, (Instr.index 9 (.string ⟨#[c0, c1, c2, c3, c4, c5]⟩) (.int .i64 5)).run Tryd.prog W = .ok (.int .u8 (c5.toNat : Int)) W := i5
  obtain ⟨l0, g0⟩ := isd_bd h0
  obtain ⟨l1, g1⟩ := isd_bd h1
  obtain ⟨l2, g2⟩ := isd_bd h2
  obtain ⟨l3, g3⟩ := isd_bd h3
  obtain ⟨l4, g4⟩ := isd_bd h4
  obtain ⟨l5, g5⟩ := isd_bd h5
  have H0 := Lib.hid h0
  have H1 := Lib.hid h1
  have H2 := Lib.hid h2
  have H3 := Lib.hid h3
  have H4 := Lib.hid h4
  have H5 := Lib.hid h5
  clear h0 h1 h2 h3 h4 h5
  generalize (⟨#[c0, c1, c2, c3, c4, c5]⟩ : ByteArray) = S at *
  go_enter Tryd.func35, Tryd.ntmps35
  go_wp2_with fail
  refine wp_loop_rounds 4 ?_
  rw [rounds_succ]
  go_wp2_with fail
  refine (adigit_is c0 true _ H0.out).mono ?_
  rintro e w' ⟨rfl, rfl⟩
  go_wp2_with fail
  refine (adigit_is c1 true _ H1.out).mono ?_
  rintro e w' ⟨rfl, rfl⟩
  go_wp2_with fail
  go_quiet (fail)
  go_wp2_with fail
  rw [rounds_succ]
  go_wp2_with fail
  refine (adigit_is c2 true _ H2.out).mono ?_
  rintro e w' ⟨rfl, rfl⟩
  go_wp2_with fail
  refine (adigit_is c3 true _ H3.out).mono ?_
  rintro e w' ⟨rfl, rfl⟩
  go_wp2_with fail
  go_quiet (fail)
  go_wp2_with fail
  rw [rounds_succ]
  go_wp2_with fail
  refine (adigit_is c4 true _ H4.out).mono ?_
  rintro e w' ⟨rfl, rfl⟩
  go_wp2_with fail
  refine (adigit_is c5 true _ H5.out).mono ?_
  rintro e w' ⟨rfl, rfl⟩
  go_wp2_with fail
  go_quiet (fail)
  go_wp2_with fail
  rw [rounds_succ]
  go_wp2_with fail
  go_ret2
  refine ⟨ret_ib (by omega), ?_⟩
  repeat (first | exact Below.refl _ _ | assumption | refine below_drewN ?_ _ | refine Below.drew ?_ | refine Below.setCell ?_ (by first | omega | (simp; done) | (simp; omega)) _ | refine Below.alloc ?_ (by first | omega | (simp; done) | (simp; omega)) _)
-- REST
end Go.Proofs.YtgcgmmdfmcapiaaDoor
