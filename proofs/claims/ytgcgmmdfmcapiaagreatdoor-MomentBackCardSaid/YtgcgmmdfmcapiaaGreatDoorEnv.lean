/- What the calls below read of package-level variables, and that it stays so while only new memory is written. -/
import Derived.Test.YtgcgmmdfmcapiaaGreatDoorClock2
import Derived.Test.YtgcgmmdfmcapiaaGreatDoorShelf
import Derived.Lib.LaidTab
import Derived.Lib.AppendIntMem
import Derived.LoopN
import Derived.Handy
import Derived.Deep.RegionHeld3
namespace Go.Proofs.YtgcgmmdfmcapiaaGreatDoor
open Go.RowKit
/-- The three units of a time, the powers of ten that the library keeps, and the length up to which the library looks for a byte by itself. -/
structure Env (w : World) : Prop where
  units : Lib.TabIs Tryz.prog w "solstice/clock.units" .i64 [3600, 60, 1]
  tens : Lib.TabIs Tryz.prog w "internal/strconv.uint64pow10" .u64 Lib.pow10Tab
  longest : ∃ m : Int, w.cell? ⟨4, 0, none⟩ = some (.int .i64 m)
theorem gUnits : Tryz.prog.globalNamed "solstice/clock.units" = some 0 := by kernel_rfl
theorem Env.unit0 {w : World} (h : Env w) : w.cell? ⟨0, 0, none⟩ = some (.int .i64 3600) := h.units.cell gUnits 0 (by decide)
theorem Env.unit1 {w : World} (h : Env w) : w.cell? ⟨0, 1, none⟩ = some (.int .i64 60) := h.units.cell gUnits 1 (by decide)
theorem Env.unit2 {w : World} (h : Env w) : w.cell? ⟨0, 2, none⟩ = some (.int .i64 1) := h.units.cell gUnits 2 (by decide)
theorem lt_of_cell {w : World} {b o : Nat} {v : Value} (h : w.cell? ⟨b, o, none⟩ = some v) : b < w.heap.size := by
  rcases Nat.lt_or_ge b w.heap.size with h' | h'
  · exact h'
  · exfalso
    unfold World.cell? at h
    rw [Array.getElem?_eq_none h'] at h
    cases h
theorem Env.below {w w' : World} (h : Env w) (hb : Below w.heap.size w w') : Env w' :=
  ⟨Lib.tabBelow_of_tabIs h.units w' hb, Lib.tabBelow_of_tabIs h.tens w' hb, by
    obtain ⟨m, hm⟩ := h.longest
    exact ⟨m, (hb.cell (lt_of_cell hm)).trans hm⟩⟩
theorem Env.alloc {w : World} (h : Env w) (o : Obj) : Env (w.alloc o) := h.below ((Below.refl _ _).alloc (Nat.le_refl _) o)
theorem Env.drew {w : World} (h : Env w) : Env w.drew := h.below (Below.refl _ _).drew
set_option maxRecDepth 100000 in
set_option maxHeartbeats 1000000 in
theorem together_any (a b c : Int) (w : World) (hE : Env w) (a1 : 0 ≤ a) (a2 : a < 1000) (b1 : 0 ≤ b) (b2 : b < 1000) (c1 : 0 ≤ c) (c2 : c < 1000) :
    Calls Tryz.prog 55 #[.agg #[.int .i64 a, .int .i64 b, .int .i64 c]] w fun e w' => e = .returned (.int .i64 (a * 3600 + b * 60 + c)) ∧ Below w.heap.size w w' := by
  have u0 := hE.unit0
  have u1 := hE.unit1
  have u2 := hE.unit2
  have l0 := lt_of_cell u0
  clear hE
  go_enter Tryz.func55, Tryz.ntmps55
  go_wp2_with fail
  refine wp_loop_rounds 4 ?_
  rw [rounds_succ]
  go_wp2_with fail
  go_quiet (fail)
  go_wp2_with fail
  rw [rounds_succ]
  go_wp2_with fail
  go_quiet (fail)
  go_wp2_with fail
  rw [rounds_succ]
  go_wp2_with fail
  go_quiet (fail)
  go_wp2_with fail
  rw [rounds_succ]
  go_wp2_with fail
  go_ret
  refine ⟨ret_int (by simp), ?_⟩
  repeat (first | exact Below.refl _ _ | assumption | refine below_drewN ?_ _ | refine Below.drew ?_ | refine Below.setCell ?_ (by first | omega | (simp; done) | (simp; omega)) _ | refine Below.alloc ?_ (by first | omega | (simp; done) | (simp; omega)) _)
set_option maxRecDepth 100000 in
set_option maxHeartbeats 1000000 in
theorem cut_any (t : Int) (w : World) (hE : Env w) (h1 : 0 ≤ t) (h2 : t ≤ 604800) :
    Calls Tryz.prog 50 #[.int .i64 t] w fun e w' => e = .returned (.agg #[.int .i64 (t / 3600), .int .i64 (t % 3600 / 60), .int .i64 (t % 60)]) ∧ Below w.heap.size w w' := by
  have u0 := hE.unit0
  have u1 := hE.unit1
  have u2 := hE.unit2
  have l0 := lt_of_cell u0
  clear hE
  go_enter Tryz.func50, Tryz.ntmps50
  go_wp2_with fail
  refine wp_loop_rounds 4 ?_
  rw [rounds_succ]
  go_wp2_with fail
  rw [rounds_succ]
  go_wp2_with fail
  rw [rounds_succ]
  go_wp2_with fail
  rw [rounds_succ]
  go_wp2_with fail
  refine bodyPost_ret (v := .agg #[.int .i64 (t / 3600), .int .i64 (t % 3600 / 60), .int .i64 (t % 60)]) (by simp [results, Tryz.results50, go_sem]) rfl ⟨rfl, ?_⟩
  repeat (first | exact Below.refl _ _ | assumption | refine below_drewN ?_ _ | refine Below.drew ?_ | refine Below.setCell ?_ (by first | omega | (simp; done) | (simp; omega)) _ | refine Below.alloc ?_ (by first | omega | (simp; done) | (simp; omega)) _)
theorem fmt_any (n : Int) (w : World) (hE : Env w) (h0 : -9223372036854775808 ≤ n) (h1 : n ≤ 9223372036854775807) :
    Calls Tryz.prog 51 #[.int .i64 n, .int .i64 10] w fun e w' => e = .returned (.string ⟨(Lib.itoa n).toArray⟩) ∧ Below w.heap.size w w' :=
  (Tryz.strconv_FormatInt_10 n h0 h1 w hE.tens).mono fun _ _ ⟨he, k, os, hw⟩ => ⟨he, by rw [hw]; exact Lib.below_grow _ w (Nat.le_refl _) k os⟩
/-- Two digits. -/
def two (n : Int) : List UInt8 := [UInt8.ofNat (48 + n.toNat / 10), UInt8.ofNat (48 + n.toNat % 10)]
theorem itoa_lt10 (n : Int) (h0 : 0 ≤ n) (h1 : n < 10) : (48 : UInt8) :: Lib.itoa n = two n := by
  unfold Lib.itoa two
  rw [if_neg (by omega), Lib.decDigits, dif_pos (by omega)]
  have e1 : n.toNat / 10 = 0 := by omega
  have e2 : n.toNat % 10 = n.toNat := by omega
  rw [e1, e2]
  rfl
theorem itoa_ge10 (n : Int) (h0 : 10 ≤ n) (h1 : n < 100) : Lib.itoa n = two n := by
  unfold Lib.itoa two
  rw [if_neg (by omega), Lib.decDigits, dif_neg (by omega), Lib.decDigits, dif_pos (by omega)]
  rfl
theorem ret_str {a b : List UInt8} (h : a = b) : Ending.returned (.string ⟨a.toArray⟩) = .returned (.string ⟨b.toArray⟩) := by rw [h]
theorem ret_bytes {a b : ByteArray} (h : a = b) : Ending.returned (.string a) = .returned (.string b) := by rw [h]
theorem bytes_app (a b : List UInt8) : (⟨a.toArray⟩ : ByteArray) ++ ⟨b.toArray⟩ = ⟨(a ++ b).toArray⟩ := by
  apply ByteArray.ext
  simp
theorem itoa_len (n : Int) (h0 : 0 ≤ n) (h1 : n < 1000) : (Lib.itoa n).length ≤ 3 := by
  unfold Lib.itoa
  rw [if_neg (by omega), Lib.decDigits]
  split
  · simp
  · rw [Lib.decDigits]
    split
    · simp
    · rw [Lib.decDigits]
      rw [dif_pos (by omega)]
      simp
theorem twoDigits_any (n : Int) (w : World) (hE : Env w) (h0 : 0 ≤ n) (h1 : n < 100) :
    Calls Tryz.prog 52 #[.int .i64 n] w fun e w' => e = .returned (.string ⟨(two n).toArray⟩) ∧ Below w.heap.size w w' := by
  have hl := itoa_len n h0 (by omega)
  by_cases h : n < 10
  · have H := Lib.hid (itoa_lt10 n h0 h)
    go_enter Tryz.func52, Tryz.ntmps52
    go_wp2_with fail
    refine (fmt_any n _ hE (by omega) (by omega)).mono ?_
    rintro e w1 ⟨rfl, hb⟩
    go_wp2_with fail
    go_ret
    exact ⟨ret_bytes ((bytes_app [48] (Lib.itoa n)).trans (by rw [← H.out]; rfl)), hb⟩
  · have H := Lib.hid (itoa_ge10 n (by omega) h1)
    go_enter Tryz.func52, Tryz.ntmps52
    go_wp2_with fail
    refine (fmt_any n _ hE (by omega) (by omega)).mono ?_
    rintro e w1 ⟨rfl, hb⟩
    go_wp2_with fail
    go_ret
    exact ⟨ret_str H.out, hb⟩
/-- The text of a time that is not below nought, and of any. -/
def txt0 (t : Int) : List UInt8 := Lib.itoa (t / 3600) ++ [58] ++ two (t % 3600 / 60) ++ (if t % 60 = 0 then [] else 58 :: two (t % 60))
def txt (t : Int) : List UInt8 := if t < 0 then 45 :: txt0 (-t) else txt0 t
theorem two_len (n : Int) : (two n).length = 2 := rfl
theorem keep_parts {B b1 : Nat} {w0 w w1 : World} {x1 x2 x3 : Value}
    (h : w.cell? ⟨b1, 0, none⟩ = some x1 ∧ w.cell? ⟨b1, 1, none⟩ = some x2 ∧ w.cell? ⟨b1, 2, none⟩ = some x3 ∧ b1 < w.heap.size ∧ B ≤ w.heap.size ∧ Env w ∧ Below B w0 w) (hb : Below w.heap.size w w1) :
    w1.cell? ⟨b1, 0, none⟩ = some x1 ∧ w1.cell? ⟨b1, 1, none⟩ = some x2 ∧ w1.cell? ⟨b1, 2, none⟩ = some x3 ∧ b1 < w1.heap.size ∧ B ≤ w1.heap.size ∧ Env w1 ∧ Below B w0 w1 := by
  obtain ⟨h1, h2, h3, l1, l4, he, h0⟩ := h
  obtain ⟨hc, _⟩ := bcell hb
  have := hb.size
  refine ⟨?_, ?_, ?_, by omega, by omega, he.below hb, h0.trans (hb.mono l4)⟩
  all_goals (rw [hc _ _ (by assumption)]; assumption)
theorem env_of_parts {B b1 : Nat} {w0 w : World} {x1 x2 x3 : Value}
    (h : w.cell? ⟨b1, 0, none⟩ = some x1 ∧ w.cell? ⟨b1, 1, none⟩ = some x2 ∧ w.cell? ⟨b1, 2, none⟩ = some x3 ∧ b1 < w.heap.size ∧ B ≤ w.heap.size ∧ Env w ∧ Below B w0 w) : Env w := by
  obtain ⟨h1, h2, h3, l1, l4, he, h0⟩ := h
  exact he
theorem below_trans_parts {B b1 : Nat} {w0 w w1 : World} {x1 x2 x3 : Value}
    (h : w.cell? ⟨b1, 0, none⟩ = some x1 ∧ w.cell? ⟨b1, 1, none⟩ = some x2 ∧ w.cell? ⟨b1, 2, none⟩ = some x3 ∧ b1 < w.heap.size ∧ B ≤ w.heap.size ∧ Env w ∧ Below B w0 w) (hb : Below w.heap.size w w1) : Below B w0 w1 := by
  obtain ⟨h1, h2, h3, l1, l4, he, h0⟩ := h
  exact h0.trans (hb.mono l4)
theorem txt0_yes (t : Int) (h : (t % 60 != 0) = true) : ((((⟨#[]⟩ : ByteArray) ++ ⟨(Lib.itoa (t / 3600)).toArray⟩) ++ ⟨#[58]⟩) ++ ⟨(two (t % 3600 / 60)).toArray⟩) ++ ((⟨#[58]⟩ : ByteArray) ++ ⟨(two (t % 60)).toArray⟩) = ⟨(txt0 t).toArray⟩ := by
  have h : ¬ t % 60 = 0 := bne_iff_ne.1 h
  unfold txt0
  rw [if_neg h]
  apply ByteArray.ext
  simp
theorem txt0_no (t : Int) (h : (t % 60 != 0) = false) : ((((⟨#[]⟩ : ByteArray) ++ ⟨(Lib.itoa (t / 3600)).toArray⟩) ++ ⟨#[58]⟩) ++ ⟨(two (t % 3600 / 60)).toArray⟩) = ⟨(txt0 t).toArray⟩ := by
  have h : t % 60 = 0 := by simpa using h
  unfold txt0
  rw [if_pos h]
  apply ByteArray.ext
  simp
theorem txtn_yes (t : Int) (h : (t % 60 != 0) = true) : ((((⟨#[45]⟩ : ByteArray) ++ ⟨(Lib.itoa (t / 3600)).toArray⟩) ++ ⟨#[58]⟩) ++ ⟨(two (t % 3600 / 60)).toArray⟩) ++ ((⟨#[58]⟩ : ByteArray) ++ ⟨(two (t % 60)).toArray⟩) = ⟨(45 :: txt0 t).toArray⟩ := by
  have h : ¬ t % 60 = 0 := bne_iff_ne.1 h
  unfold txt0
  rw [if_neg h]
  apply ByteArray.ext
  simp
theorem txtn_no (t : Int) (h : (t % 60 != 0) = false) : ((((⟨#[45]⟩ : ByteArray) ++ ⟨(Lib.itoa (t / 3600)).toArray⟩) ++ ⟨#[58]⟩) ++ ⟨(two (t % 3600 / 60)).toArray⟩) = ⟨(45 :: txt0 t).toArray⟩ := by
  have h : t % 60 = 0 := by simpa using h
  unfold txt0
  rw [if_pos h]
  apply ByteArray.ext
  simp
set_option maxHeartbeats 4000000 in
set_option maxRecDepth 100000 in
theorem text_pos (t : Int) (w : World) (hE : Env w) (h1 : 0 ≤ t) (h2 : t ≤ 604800) :
    Calls Tryz.prog 27 #[.int .i64 t] w fun e w' => e = .returned (.string ⟨(txt0 t).toArray⟩) ∧ Below w.heap.size w w' := by
  have hl := itoa_len (t / 3600) (by omega) (by omega)
  have hl2 : (two (t % 3600 / 60)).length ≤ 2 := Nat.le_refl _
  have q1 : ¬ 9223372036854775807 < (Lib.itoa (t / 3600)).length := by omega
  have q2 : ¬ 9223372036854775807 < (Lib.itoa (t / 3600)).length + 1 := by omega
  have q3 : ¬ 9223372036854775807 < (Lib.itoa (t / 3600)).length + 1 + (two (t % 3600 / 60)).length := by omega
  go_enter Tryz.func27, Tryz.ntmps27
  go_wp2_with fail
  refine (isTime_yes t _ (by omega) (by omega)).mono ?_
  rintro e w' ⟨rfl, rfl⟩
  go_wp2_with fail
  refine (cut_any t _ hE h1 h2).mono ?_
  rintro e w1 ⟨rfl, hb1⟩
  have hE1 := hE.below hb1
  go_wp2_with fail
  have S0 : (w1.alloc (.cells #[.int .i64 (t / 3600), .int .i64 (t % 3600 / 60), .int .i64 (t % 60)] 77)).drew.cell? ⟨w1.heap.size, 0, none⟩ = some (.int .i64 (t / 3600)) ∧
      (w1.alloc (.cells #[.int .i64 (t / 3600), .int .i64 (t % 3600 / 60), .int .i64 (t % 60)] 77)).drew.cell? ⟨w1.heap.size, 1, none⟩ = some (.int .i64 (t % 3600 / 60)) ∧
      (w1.alloc (.cells #[.int .i64 (t / 3600), .int .i64 (t % 3600 / 60), .int .i64 (t % 60)] 77)).drew.cell? ⟨w1.heap.size, 2, none⟩ = some (.int .i64 (t % 60)) ∧
      w1.heap.size < (w1.alloc (.cells #[.int .i64 (t / 3600), .int .i64 (t % 3600 / 60), .int .i64 (t % 60)] 77)).drew.heap.size ∧
      w.heap.size ≤ (w1.alloc (.cells #[.int .i64 (t / 3600), .int .i64 (t % 3600 / 60), .int .i64 (t % 60)] 77)).drew.heap.size ∧
      Env (w1.alloc (.cells #[.int .i64 (t / 3600), .int .i64 (t % 3600 / 60), .int .i64 (t % 60)] 77)).drew ∧
      Below w.heap.size w (w1.alloc (.cells #[.int .i64 (t / 3600), .int .i64 (t % 3600 / 60), .int .i64 (t % 60)] 77)).drew := by
    have hs := hb1.size
    refine ⟨?_, ?_, ?_, ?_, ?_, (hE1.alloc _).drew, (hb1.alloc hb1.size _).drew⟩
    · show (w1.alloc _).cell? _ = _; go_simp
    · show (w1.alloc _).cell? _ = _; go_simp
    · show (w1.alloc _).cell? _ = _; go_simp
    · show _ < (w1.alloc _).heap.size; simp
    · show _ ≤ (w1.alloc _).heap.size; simp; omega
  clear hE1 hE hb1
  go_region_held3 (fun w' => w'.cell? ⟨w1.heap.size, 0, none⟩ = some (.int .i64 (t / 3600)) ∧ w'.cell? ⟨w1.heap.size, 1, none⟩ = some (.int .i64 (t % 3600 / 60)) ∧ w'.cell? ⟨w1.heap.size, 2, none⟩ = some (.int .i64 (t % 60)) ∧ w1.heap.size < w'.heap.size ∧ w.heap.size ≤ w'.heap.size ∧ Env w' ∧ Below w.heap.size w w')
    (first | assumption | exact keep_parts (by assumption) (by assumption))
    (first
      | (go_at_call 51; refine (fmt_any _ _ (env_of_parts (B := w.heap.size) (b1 := w1.heap.size) (w0 := w) (x1 := .int .i64 (t / 3600)) (x2 := .int .i64 (t % 3600 / 60)) (x3 := .int .i64 (t % 60)) (by assumption)) (by omega) (by omega)).mono ?_; rintro e w' ⟨rfl, hb⟩)
      | (go_at_call 52; refine (twoDigits_any _ _ (env_of_parts (B := w.heap.size) (b1 := w1.heap.size) (w0 := w) (x1 := .int .i64 (t / 3600)) (x2 := .int .i64 (t % 3600 / 60)) (x3 := .int .i64 (t % 60)) (by assumption)) (by omega) (by omega)).mono ?_; rintro e w' ⟨rfl, hb⟩))
  all_goals go_wp2_with fail
  · refine (twoDigits_any _ _ (env_of_parts (B := w.heap.size) (b1 := w1.heap.size) (w0 := w) (x1 := .int .i64 (t / 3600)) (x2 := .int .i64 (t % 3600 / 60)) (x3 := .int .i64 (t % 60)) (by assumption)) (by omega) (by omega)).mono ?_
    rintro e w2 ⟨rfl, hb2⟩
    have q4 : (two (t % 60)).length ≤ 2 := Nat.le_refl _
    go_wp2_with fail
    go_ret
    exact ⟨ret_bytes (txt0_yes t (by assumption)), below_trans_parts (b1 := w1.heap.size) (x1 := .int .i64 (t / 3600)) (x2 := .int .i64 (t % 3600 / 60)) (x3 := .int .i64 (t % 60)) (by assumption) hb2⟩
  · go_ret
    exact ⟨ret_bytes (txt0_no t (by assumption)), below_trans_parts (b1 := w1.heap.size) (x1 := .int .i64 (t / 3600)) (x2 := .int .i64 (t % 3600 / 60)) (x3 := .int .i64 (t % 60)) (by assumption) (Below.refl _ _)⟩
set_option maxHeartbeats 4000000 in
set_option maxRecDepth 100000 in
theorem text_neg (t : Int) (w : World) (hE : Env w) (h1 : 1 ≤ t) (h2 : t ≤ 604800) :
    Calls Tryz.prog 27 #[.int .i64 (-t)] w fun e w' => e = .returned (.string ⟨(45 :: txt0 t).toArray⟩) ∧ Below w.heap.size w w' := by
  have hl := itoa_len (t / 3600) (by omega) (by omega)
  have hl2 : (two (t % 3600 / 60)).length ≤ 2 := Nat.le_refl _
  have ht0 : -t < 0 := by omega
  have q1 : ¬ 9223372036854775807 < 1 + (Lib.itoa (t / 3600)).length := by omega
  have q2 : ¬ 9223372036854775807 < 1 + (Lib.itoa (t / 3600)).length + 1 := by omega
  have q3 : ¬ 9223372036854775807 < 1 + (Lib.itoa (t / 3600)).length + 1 + (two (t % 3600 / 60)).length := by omega
  go_enter Tryz.func27, Tryz.ntmps27
  go_wp2_with fail
  refine (isTime_yes (-t) _ (by omega) (by omega)).mono ?_
  rintro e w' ⟨rfl, rfl⟩
  go_wp2_with fail
  refine (cut_any t _ hE (by omega) h2).mono ?_
  rintro e w1 ⟨rfl, hb1⟩
  have hE1 := hE.below hb1
  go_wp2_with fail
  have S0 : (w1.alloc (.cells #[.int .i64 (t / 3600), .int .i64 (t % 3600 / 60), .int .i64 (t % 60)] 77)).drew.cell? ⟨w1.heap.size, 0, none⟩ = some (.int .i64 (t / 3600)) ∧
      (w1.alloc (.cells #[.int .i64 (t / 3600), .int .i64 (t % 3600 / 60), .int .i64 (t % 60)] 77)).drew.cell? ⟨w1.heap.size, 1, none⟩ = some (.int .i64 (t % 3600 / 60)) ∧
      (w1.alloc (.cells #[.int .i64 (t / 3600), .int .i64 (t % 3600 / 60), .int .i64 (t % 60)] 77)).drew.cell? ⟨w1.heap.size, 2, none⟩ = some (.int .i64 (t % 60)) ∧
      w1.heap.size < (w1.alloc (.cells #[.int .i64 (t / 3600), .int .i64 (t % 3600 / 60), .int .i64 (t % 60)] 77)).drew.heap.size ∧
      w.heap.size ≤ (w1.alloc (.cells #[.int .i64 (t / 3600), .int .i64 (t % 3600 / 60), .int .i64 (t % 60)] 77)).drew.heap.size ∧
      Env (w1.alloc (.cells #[.int .i64 (t / 3600), .int .i64 (t % 3600 / 60), .int .i64 (t % 60)] 77)).drew ∧
      Below w.heap.size w (w1.alloc (.cells #[.int .i64 (t / 3600), .int .i64 (t % 3600 / 60), .int .i64 (t % 60)] 77)).drew := by
    have hs := hb1.size
    refine ⟨?_, ?_, ?_, ?_, ?_, (hE1.alloc _).drew, (hb1.alloc hb1.size _).drew⟩
    · show (w1.alloc _).cell? _ = _; go_simp
    · show (w1.alloc _).cell? _ = _; go_simp
    · show (w1.alloc _).cell? _ = _; go_simp
    · show _ < (w1.alloc _).heap.size; simp
    · show _ ≤ (w1.alloc _).heap.size; simp; omega
  clear hE1 hE hb1
  go_region_held3 (fun w' => w'.cell? ⟨w1.heap.size, 0, none⟩ = some (.int .i64 (t / 3600)) ∧ w'.cell? ⟨w1.heap.size, 1, none⟩ = some (.int .i64 (t % 3600 / 60)) ∧ w'.cell? ⟨w1.heap.size, 2, none⟩ = some (.int .i64 (t % 60)) ∧ w1.heap.size < w'.heap.size ∧ w.heap.size ≤ w'.heap.size ∧ Env w' ∧ Below w.heap.size w w')
    (first | assumption | exact keep_parts (by assumption) (by assumption))
    (first
      | (go_at_call 51; refine (fmt_any _ _ (env_of_parts (B := w.heap.size) (b1 := w1.heap.size) (w0 := w) (x1 := .int .i64 (t / 3600)) (x2 := .int .i64 (t % 3600 / 60)) (x3 := .int .i64 (t % 60)) (by assumption)) (by omega) (by omega)).mono ?_; rintro e w' ⟨rfl, hb⟩)
      | (go_at_call 52; refine (twoDigits_any _ _ (env_of_parts (B := w.heap.size) (b1 := w1.heap.size) (w0 := w) (x1 := .int .i64 (t / 3600)) (x2 := .int .i64 (t % 3600 / 60)) (x3 := .int .i64 (t % 60)) (by assumption)) (by omega) (by omega)).mono ?_; rintro e w' ⟨rfl, hb⟩))
  all_goals go_wp2_with fail
  · refine (twoDigits_any _ _ (env_of_parts (B := w.heap.size) (b1 := w1.heap.size) (w0 := w) (x1 := .int .i64 (t / 3600)) (x2 := .int .i64 (t % 3600 / 60)) (x3 := .int .i64 (t % 60)) (by assumption)) (by omega) (by omega)).mono ?_
    rintro e w2 ⟨rfl, hb2⟩
    have q4 : (two (t % 60)).length ≤ 2 := Nat.le_refl _
    go_wp2_with fail
    go_ret
    exact ⟨ret_bytes (txtn_yes t (by assumption)), below_trans_parts (b1 := w1.heap.size) (x1 := .int .i64 (t / 3600)) (x2 := .int .i64 (t % 3600 / 60)) (x3 := .int .i64 (t % 60)) (by assumption) hb2⟩
  · go_ret
    exact ⟨ret_bytes (txtn_no t (by assumption)), below_trans_parts (b1 := w1.heap.size) (x1 := .int .i64 (t / 3600)) (x2 := .int .i64 (t % 3600 / 60)) (x3 := .int .i64 (t % 60)) (by assumption) (Below.refl _ _)⟩
theorem text_out (t : Int) (w : World) (h : t < -604800 ∨ 604800 < t) :
    Calls Tryz.prog 27 #[.int .i64 t] w fun e w' => e = .returned (.string ByteArray.empty) ∧ Below w.heap.size w w' := by
  have H := Lib.hid h
  clear h
  go_enter Tryz.func27, Tryz.ntmps27
  go_wp2_with fail
  refine (isTime_no t _ H.out).mono ?_
  rintro e w' ⟨rfl, rfl⟩
  go_wp2_with fail
  go_ret
  exact ⟨rfl, Below.refl _ _⟩
theorem text_in (t : Int) (w : World) (hE : Env w) (h1 : -604800 ≤ t) (h2 : t ≤ 604800) :
    Calls Tryz.prog 27 #[.int .i64 t] w fun e w' => e = .returned (.string ⟨(txt t).toArray⟩) ∧ Below w.heap.size w w' := by
  unfold txt
  by_cases h : t < 0
  · rw [if_pos h]
    have := text_neg (-t) w hE (by omega) (by omega)
    rw [Int.neg_neg] at this
    exact this
  · rw [if_neg h]
    exact text_pos t w hE (by omega) h2
end Go.Proofs.YtgcgmmdfmcapiaaGreatDoor
