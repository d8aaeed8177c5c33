/- Contracts of package moment: isYear, isUntil, CheckUntil, readYear, readMonth. -/
import Derived.Test.YtgcgmmdfmcapiaaGreatDoorMoP
import Derived.LoopTactic
namespace Go.Proofs.YtgcgmmdfmcapiaaGreatDoor
open Go.RowKit
theorem isYear_yes (y : Int) (w : World) (h1 : 1 ≤ y) (h2 : y ≤ 9999) : Calls Tryz.prog 56 #[.int .i64 y] w fun e w' => e = .returned (.bool true) ∧ w = w' := by
  go_enter Tryz.func56, Tryz.ntmps56
  go_wp2
  go_ret
  exact ⟨rfl, rfl⟩
theorem isYear_no (y : Int) (w : World) (h : y < 1 ∨ 9999 < y) : Calls Tryz.prog 56 #[.int .i64 y] w fun e w' => e = .returned (.bool false) ∧ w = w' := by
  rcases h with h | h
  · go_enter Tryz.func56, Tryz.ntmps56
    go_wp2
    go_ret
    exact ⟨rfl, rfl⟩
  · have h' : 1 ≤ y := by omega
    have t1 : decide (y ≤ 9999) = false := by simp; omega
    go_enter Tryz.func56, Tryz.ntmps56
    go_wp2
    go_ret
    exact ⟨rfl, rfl⟩
/-- An until's value. -/
@[reducible] def untV (y m k n d s c : Int) : Value := .agg #[.int .i64 y, .int .i64 m, .int .u8 k, .int .i64 n, .int .i64 d, .int .i64 s, .int .u8 c]
theorem isUntil_yes (y m k n d s c : Int) (w : World) (y1 : 1 ≤ y) (y2 : y ≤ 9999) (m1 : 1 ≤ m) (m2 : m ≤ 12) (HD : Hid (Dy.right k n d = true)) (HM : Hid (Mo.right s c = true)) : Calls Tryz.prog 31 #[untV y m k n d s c] w fun e w' => e = .returned (.bool true) ∧ Below w.heap.size w w' := by
  go_enter Tryz.func31, Tryz.ntmps31
  go_wp2_with fail
  refine (isYear_yes y _ y1 y2).mono ?_
  rintro e w' ⟨rfl, rfl⟩
  go_wp2_with fail
  refine (dcheck_yes k n d _ HD.out).mono ?_
  rintro e w1 ⟨rfl, b1⟩
  obtain ⟨hc1, hf1⟩ := bcell b1
  have a1 : Below w.heap.size w w1 := ((Below.refl _ _).alloc (Nat.le_refl _) _).trans (b1.mono (by simp))
  have z1 : w.heap.size < w1.heap.size := by have := b1.size; simp at this; omega
  go_wp2_with fail
  refine (isMoment_yes s c _ HM.out).mono ?_
  rintro e w2 ⟨rfl, b2⟩
  obtain ⟨hc2, hf2⟩ := bcell b2
  have a2 := a1.trans (b2.mono a1.size)
  have z2 : w.heap.size < w2.heap.size := by have := b2.size; omega
  go_wp2_with fail
  go_ret
  exact ⟨rfl, a2⟩
theorem isUntil_year (y m k n d s c : Int) (w : World) (HY : Hid (y < 1 ∨ 9999 < y)) : Calls Tryz.prog 31 #[untV y m k n d s c] w fun e w' => e = .returned (.bool false) ∧ Below w.heap.size w w' := by
  go_enter Tryz.func31, Tryz.ntmps31
  go_wp2_with fail
  refine (isYear_no y _ HY.out).mono ?_
  rintro e w' ⟨rfl, rfl⟩
  go_wp2_with fail
  go_ret
  exact ⟨rfl, (Below.refl _ _).alloc (Nat.le_refl _) _⟩
theorem isUntil_mlo (y m k n d s c : Int) (w : World) (y1 : 1 ≤ y) (y2 : y ≤ 9999) (m1 : m < 1) : Calls Tryz.prog 31 #[untV y m k n d s c] w fun e w' => e = .returned (.bool false) ∧ Below w.heap.size w w' := by
  have t1 : decide (1 ≤ m) = false := by simp; omega
  go_enter Tryz.func31, Tryz.ntmps31
  go_wp2_with fail
  refine (isYear_yes y _ y1 y2).mono ?_
  rintro e w' ⟨rfl, rfl⟩
  go_wp2_with fail
  go_ret
  exact ⟨rfl, (Below.refl _ _).alloc (Nat.le_refl _) _⟩
theorem isUntil_mhi (y m k n d s c : Int) (w : World) (y1 : 1 ≤ y) (y2 : y ≤ 9999) (m1 : 12 < m) : Calls Tryz.prog 31 #[untV y m k n d s c] w fun e w' => e = .returned (.bool false) ∧ Below w.heap.size w w' := by
  have t1 : decide (m ≤ 12) = false := by simp; omega
  have t2 : 1 ≤ m := by omega
  go_enter Tryz.func31, Tryz.ntmps31
  go_wp2_with fail
  refine (isYear_yes y _ y1 y2).mono ?_
  rintro e w' ⟨rfl, rfl⟩
  go_wp2_with fail
  go_ret
  exact ⟨rfl, (Below.refl _ _).alloc (Nat.le_refl _) _⟩
theorem isUntil_day (y m k n d s c : Int) (w : World) (y1 : 1 ≤ y) (y2 : y ≤ 9999) (m1 : 1 ≤ m) (m2 : m ≤ 12) (HD : Hid (Dy.right k n d = false)) : Calls Tryz.prog 31 #[untV y m k n d s c] w fun e w' => e = .returned (.bool false) ∧ Below w.heap.size w w' := by
  go_enter Tryz.func31, Tryz.ntmps31
  go_wp2_with fail
  refine (isYear_yes y _ y1 y2).mono ?_
  rintro e w' ⟨rfl, rfl⟩
  go_wp2_with fail
  refine (dcheck_no k n d _ HD.out).mono ?_
  rintro e w1 ⟨rfl, b1⟩
  obtain ⟨hc1, hf1⟩ := bcell b1
  have a1 : Below w.heap.size w w1 := ((Below.refl _ _).alloc (Nat.le_refl _) _).trans (b1.mono (by simp))
  have z1 : w.heap.size < w1.heap.size := by have := b1.size; simp at this; omega
  go_wp2_with fail
  go_ret
  exact ⟨rfl, a1⟩
theorem isUntil_mom (y m k n d s c : Int) (w : World) (y1 : 1 ≤ y) (y2 : y ≤ 9999) (m1 : 1 ≤ m) (m2 : m ≤ 12) (HD : Hid (Dy.right k n d = true)) (HM : Hid (Mo.right s c = false)) : Calls Tryz.prog 31 #[untV y m k n d s c] w fun e w' => e = .returned (.bool false) ∧ Below w.heap.size w w' := by
  go_enter Tryz.func31, Tryz.ntmps31
  go_wp2_with fail
  refine (isYear_yes y _ y1 y2).mono ?_
  rintro e w' ⟨rfl, rfl⟩
  go_wp2_with fail
  refine (dcheck_yes k n d _ HD.out).mono ?_
  rintro e w1 ⟨rfl, b1⟩
  obtain ⟨hc1, hf1⟩ := bcell b1
  have a1 : Below w.heap.size w w1 := ((Below.refl _ _).alloc (Nat.le_refl _) _).trans (b1.mono (by simp))
  have z1 : w.heap.size < w1.heap.size := by have := b1.size; simp at this; omega
  go_wp2_with fail
  refine (isMoment_no s c _ HM.out).mono ?_
  rintro e w2 ⟨rfl, b2⟩
  obtain ⟨hc2, hf2⟩ := bcell b2
  have a2 := a1.trans (b2.mono a1.size)
  have z2 : w.heap.size < w2.heap.size := by have := b2.size; omega
  go_wp2_with fail
  go_ret
  exact ⟨rfl, a2⟩
/-- An until is right. -/
def Mo.unt (y m k n d s c : Int) : Bool := decide (1 ≤ y ∧ y ≤ 9999 ∧ 1 ≤ m ∧ m ≤ 12) && (Dy.right k n d && Mo.right s c)
theorem unt_parts {y m k n d s c : Int} (h : Mo.unt y m k n d s c = true) : (1 ≤ y ∧ y ≤ 9999 ∧ 1 ≤ m ∧ m ≤ 12) ∧ Dy.right k n d = true ∧ Mo.right s c = true := by
  unfold Mo.unt at h
  rw [Bool.and_eq_true, Bool.and_eq_true, decide_eq_true_eq] at h
  exact h
theorem isUntil_any (y m k n d s c : Int) (w : World) : Calls Tryz.prog 31 #[untV y m k n d s c] w fun e w' => e = .returned (.bool (Mo.unt y m k n d s c)) ∧ Below w.heap.size w w' := by
  unfold Mo.unt
  by_cases hy : 1 ≤ y ∧ y ≤ 9999
  · by_cases hm : 1 ≤ m ∧ m ≤ 12
    · rw [show decide (1 ≤ y ∧ y ≤ 9999 ∧ 1 ≤ m ∧ m ≤ 12) = true by simp; omega]
      cases hd : Dy.right k n d with
      | false => exact isUntil_day y m k n d s c w hy.1 hy.2 hm.1 hm.2 (Lib.hid hd)
      | true =>
        cases hr : Mo.right s c with
        | false => exact isUntil_mom y m k n d s c w hy.1 hy.2 hm.1 hm.2 (Lib.hid hd) (Lib.hid hr)
        | true => exact isUntil_yes y m k n d s c w hy.1 hy.2 hm.1 hm.2 (Lib.hid hd) (Lib.hid hr)
    · rw [show decide (1 ≤ y ∧ y ≤ 9999 ∧ 1 ≤ m ∧ m ≤ 12) = false by simp; omega]
      by_cases h1 : m < 1
      · exact isUntil_mlo y m k n d s c w hy.1 hy.2 h1
      · exact isUntil_mhi y m k n d s c w hy.1 hy.2 (by omega)
  · rw [show decide (1 ≤ y ∧ y ≤ 9999 ∧ 1 ≤ m ∧ m ≤ 12) = false by simp; omega]
    exact isUntil_year y m k n d s c w (Lib.hid (by omega))
theorem isUntil_is (y m k n d s c : Int) (v : Bool) (w : World) (h : Mo.unt y m k n d s c = v) : Calls Tryz.prog 31 #[untV y m k n d s c] w fun e w' => e = .returned (.bool v) ∧ Below w.heap.size w w' := by
  subst h
  exact isUntil_any y m k n d s c w
theorem ucheck_yes (y m k n d s c : Int) (w : World) (h : Mo.unt y m k n d s c = true) : Calls Tryz.prog 17 #[untV y m k n d s c] w fun e w' => e = .returned (.int .i64 0) ∧ Below w.heap.size w w' := by
  have H := Lib.hid h
  clear h
  go_enter Tryz.func17, Tryz.ntmps17
  go_wp2_with fail
  refine (isUntil_is y m k n d s c true _ H.out).mono ?_
  rintro e w1 ⟨rfl, b1⟩
  have a1 : Below w.heap.size w w1 := ((Below.refl _ _).alloc (Nat.le_refl _) _).trans (b1.mono (by simp))
  go_wp2_with fail
  go_ret
  exact ⟨rfl, a1⟩
/-- The number that digits tell. -/
def Mo.yv (l : List UInt8) : Int := l.foldl (fun v c => 10 * v + ((c.toNat : Int) - 48)) 0
/-- The year that a text tells; 0: none. -/
def Mo.yr (l : List UInt8) : Int := if l.length ≤ 4 ∧ l.all Dy.isd = true ∧ 1 ≤ Mo.yv l then Mo.yv l else 0
theorem yv_snoc (l : List UInt8) (c : UInt8) : Mo.yv (l ++ [c]) = 10 * Mo.yv l + ((c.toNat : Int) - 48) := by unfold Mo.yv; rw [List.foldl_append]; rfl
theorem yv_bd : ∀ (k : Nat) (l : List UInt8), l.length = k → k ≤ 4 → l.all Dy.isd = true → 0 ≤ Mo.yv l ∧ Mo.yv l < 10 ^ k
  | 0, l, h, _, _ => by
    obtain rfl := List.eq_nil_of_length_eq_zero h
    exact ⟨by decide, by decide⟩
  | k + 1, l, h, hk, ha => by
    obtain ⟨r, c, rfl⟩ : ∃ r c, l = r ++ [c] := ⟨l.dropLast, l.getLast (by intro e; rw [e] at h; cases h), (List.dropLast_concat_getLast _).symm⟩
    rw [List.length_append, List.length_cons, List.length_nil] at h
    rw [List.all_append, Bool.and_eq_true] at ha
    have ih := yv_bd k r (by omega) (by omega) ha.1
    have hc : Dy.isd c = true := by simpa using ha.2
    rw [yv_snoc]
    rcases isd_cases c with ⟨_, h1, h2⟩ | ⟨e, _⟩ | ⟨e, _⟩
    · have e : (10 : Int) ^ (k + 1) = 10 * 10 ^ k := by rw [Int.pow_succ]; omega
      rw [e]
      omega
    · rw [hc] at e; cases e
    · rw [hc] at e; cases e
theorem pow_le4 (k : Nat) (h : k ≤ 4) : (10 : Int) ^ k ≤ 10000 := by
  have hk : k = 0 ∨ k = 1 ∨ k = 2 ∨ k = 3 ∨ k = 4 := by omega
  rcases hk with rfl | rfl | rfl | rfl | rfl <;> decide
theorem yd_take (s : ByteArray) (k : Nat) (h : k < s.size) : s.data.toList.take (k + 1) = s.data.toList.take k ++ [s[k]] := by
  rw [List.take_succ_eq_append_getElem (by simpa using h)]; rfl
theorem ret2_y {a z : Int} {b y : Int} (h1 : a = b) (h2 : z = y) : Ending.returned (.tuple #[.int .i64 a, .int .i64 z]) = .returned (.tuple #[.int .i64 b, .int .i64 y]) := by rw [h1, h2]
theorem yr_stop {s : ByteArray} {k : Nat} (h : k < s.size) (hc : Dy.isd s[k] = false) : Mo.yr s.data.toList = 0 := by
  unfold Mo.yr
  rw [if_neg]
  rintro ⟨_, h2, _⟩
  have := List.all_eq_true.1 h2 s[k] (List.mem_of_getElem? (Lib.data_getElem? s k h))
  rw [hc] at this
  cases this
/-- What readYear answers. -/
def YrE (y : Int) (e : Ending) : Prop := if y = 0 then e = .returned (.tuple #[.int .i64 0, .int .i64 4]) else e = .returned (.tuple #[.int .i64 y, .int .i64 0])
theorem yrE_no {y : Int} (h : y = 0) : YrE y (.returned (.tuple #[.int .i64 0, .int .i64 4])) := by unfold YrE; rw [if_pos h]
theorem yrE_yes {y v : Int} (h : y = v) (h0 : v ≠ 0) : YrE y (.returned (.tuple #[.int .i64 v, .int .i64 0])) := by subst h; unfold YrE; rw [if_neg h0]
set_option maxHeartbeats 1000000 in
theorem readYear_any (s : ByteArray) (w : World) (hs : s.size ≤ 4294967296) : Calls Tryz.prog 62 #[.string s] w fun e w' => YrE (Mo.yr s.data.toList) e ∧ w = w' := by
  have hz : s.data.toList.length = s.size := by simp
  by_cases h4 : s.size ≤ 4
  · have HZ := Lib.hid hz
    clear hz
    go_enter Tryz.func62, Tryz.ntmps62
    go_wp2_with fail
    go_loop [4, 11] (fun v i => ∃ k : Nat, k ≤ s.size ∧ i = .int .i64 k ∧ v = .int .i64 (Mo.yv (s.data.toList.take k)) ∧ (s.data.toList.take k).all Dy.isd = true) (fun _ i => s.size - (intOf i).toNat)
    case atStart => exact ⟨0, Nat.zero_le _, rfl, rfl, rfl⟩
    case round =>
      obtain ⟨k, hk, rfl, rfl, hA⟩ := hrel
      have hB := yv_bd k (s.data.toList.take k) (by rw [List.length_take, HZ.out]; omega) (by omega) hA
      have hB4 : Mo.yv (s.data.toList.take k) < 10000 := by
        have := pow_le4 k (by omega)
        omega
      have hB0 := hB.1
      clear hB
      by_cases hlt : k < s.size
      · have hi0 := idx_any s .i64 k hlt
        have hT := yd_take s k hlt
        rcases isd_cases s[k] with ⟨hd, g1, g2⟩ | ⟨hd, g1⟩ | ⟨hd, g1, g2⟩
        · have HV := Lib.hid (show Mo.yv (s.data.toList.take (k + 1)) = 10 * Mo.yv (s.data.toList.take k) + ((s[k].toNat : Int) - 48) by rw [hT, yv_snoc])
          have HA := Lib.hid (show (s.data.toList.take (k + 1)).all Dy.isd = true by rw [hT, List.all_append, hA]; simp [hd])
          have t1 : ¬ (s[k].toNat : Int) < 48 := by omega
          have t2 : ¬ 57 < (s[k].toNat : Int) := by omega
          generalize s[k].toNat = x at *
          generalize Mo.yv (s.data.toList.take k) = V at *
          clear hT hd hA g1 g2
          go_wp2_with fail
          go_round
          case rel => exact ⟨k + 1, by omega, by go_num, by rw [HV.out], HA.out⟩
          case measure => simp [intOf]; omega
        · have HE := Lib.hid (yrE_no (yr_stop hlt hd))
          have t1 : (s[k].toNat : Int) < 48 := by omega
          generalize s[k].toNat = x at *
          clear hT hd hA g1
          go_wp2_with fail
          go_ret2
          exact ⟨HE.out, rfl⟩
        · have HE := Lib.hid (yrE_no (yr_stop hlt hd))
          have t1 : ¬ (s[k].toNat : Int) < 48 := by omega
          have t2 : 57 < (s[k].toNat : Int) := by omega
          generalize s[k].toNat = x at *
          clear hT hd hA g1 g2
          go_wp2_with fail
          go_ret2
          exact ⟨HE.out, rfl⟩
      · obtain rfl : k = s.size := by omega
        rw [show s.data.toList.take s.size = s.data.toList from List.take_of_length_le (by rw [HZ.out]; exact Nat.le_refl _)] at *
        by_cases h1 : 1 ≤ Mo.yv s.data.toList
        · have HE := Lib.hid (yrE_yes (show Mo.yr s.data.toList = Mo.yv s.data.toList by unfold Mo.yr; rw [if_pos ⟨by rw [HZ.out]; exact h4, hA, h1⟩]) (by omega))
          generalize Mo.yv s.data.toList = V at *
          clear hA hlt
          go_wp2_with fail
          refine (isYear_yes V _ h1 (by omega)).mono ?_
          rintro e w' ⟨rfl, rfl⟩
          go_wp2_with fail
          go_ret2
          exact ⟨HE.out, rfl⟩
        · have HE := Lib.hid (yrE_no (show Mo.yr s.data.toList = 0 by unfold Mo.yr; rw [if_neg (fun h => h1 h.2.2)]))
          have H1 := Lib.hid (show Mo.yv s.data.toList < 1 ∨ 9999 < Mo.yv s.data.toList by omega)
          generalize Mo.yv s.data.toList = V at *
          clear hA hlt h1
          go_wp2_with fail
          refine (isYear_no V _ H1.out).mono ?_
          rintro e w' ⟨rfl, rfl⟩
          go_wp2_with fail
          go_ret2
          exact ⟨HE.out, rfl⟩
  · have HE := Lib.hid (yrE_no (show Mo.yr s.data.toList = 0 by unfold Mo.yr; rw [if_neg (fun h => h4 (by rw [← hz]; exact h.1))]))
    have h4' : 4 < s.size := by omega
    clear hz h4
    go_enter Tryz.func62, Tryz.ntmps62
    go_wp2_with fail
    go_ret2
    exact ⟨HE.out, rfl⟩
end Go.Proofs.YtgcgmmdfmcapiaaGreatDoor
