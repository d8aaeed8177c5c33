/- Contracts of package moment: cutClock, Parse; a moment is read from its text. -/
import Derived.Test.YtgcgmmdfmcapiaaGreatDoorMoT
namespace Go.Proofs.YtgcgmmdfmcapiaaGreatDoor
open Go.RowKit
/-- The clock that a last letter means. -/
def Mo.ck (x : Nat) : Option Nat := if x = 119 ∨ x = 87 then some 0 else if x = 115 ∨ x = 83 then some 1 else if x = 117 ∨ x = 85 ∨ x = 103 ∨ x = 71 ∨ x = 122 ∨ x = 90 then some 2 else none
/-- A text without the letter of a clock, and that clock. -/
def Mo.cutC (l : List UInt8) : List UInt8 × Nat := match l.getLast? with
  | none => (l, 0)
  | some c => match Mo.ck c.toNat with
    | some k => (l.dropLast, k)
    | none => (l, 0)
def CutE (r : List UInt8 × Nat) (e : Ending) : Prop := e = .returned (.tuple #[.string ⟨r.1.toArray⟩, .int .u8 (r.2 : Nat)])
theorem cutE_of {r : List UInt8 × Nat} {S : ByteArray} {k : Nat} (h : r = (S.data.toList, k)) : CutE r (.returned (.tuple #[.string S, .int .u8 (k : Int)])) := by
  subst h
  rfl
theorem last_of {s : ByteArray} (h : 0 < s.size) : s.data.toList.getLast? = some (s[s.size - 1]'(by omega)) := by
  rw [List.getLast?_eq_getElem?, show s.data.toList.length = s.size by simp]
  exact Lib.data_getElem? s (s.size - 1) (by omega)
theorem front_of (s : ByteArray) : (s.extract 0 (s.size - 1)).data.toList = s.data.toList.dropLast := by
  simp
theorem cutClock_any (s : ByteArray) (w : World) (hs : s.size ≤ 4294967296) : Calls Tryz.prog 29 #[.string s] w fun e w' => CutE (Mo.cutC s.data.toList) e ∧ w = w' := by
  by_cases h0 : s.size = 0
  · have hl0 : s.data.toList = [] := List.eq_nil_of_length_eq_zero (by simpa using h0)
    obtain rfl : s = ⟨#[]⟩ := ByteArray.ext (Array.toList_inj.1 hl0)
    clear hl0 h0 hs
    go_enter Tryz.func29, Tryz.ntmps29
    go_wp2_with fail
    go_ret2
    exact ⟨rfl, rfl⟩
  · have hp : 0 < s.size := by omega
    have ne := not_empty h0
    obtain ⟨c, hc⟩ : ∃ c, s[s.size - 1]'(by omega) = c := ⟨_, rfl⟩
    have hi : ∀ W : World, (Instr.index 9 (.string s) (.int .i64 ((s.size : Int) - 1))).run Tryz.prog W = .ok (.int .u8 (c.toNat : Int)) W := by
      intro W
      rw [show ((s.size : Int) - 1) = ((s.size - 1 : Nat) : Int) by omega, ← hc]
      exact idx_any s .i64 (s.size - 1) (by omega) W
    have hlast := last_of hp
    rw [hc] at hlast
    have hcut : Mo.cutC s.data.toList = match Mo.ck c.toNat with
        | some k => ((s.extract 0 (s.size - 1)).data.toList, k)
        | none => (s.data.toList, 0) := by
      unfold Mo.cutC
      rw [hlast, front_of]
    clear hlast hc h0
    generalize c.toNat = x at hi hcut
    by_cases hx : x = 119 ∨ x = 87 ∨ x = 115 ∨ x = 83 ∨ x = 117 ∨ x = 85 ∨ x = 103 ∨ x = 71 ∨ x = 122 ∨ x = 90
    · rcases hx with rfl | rfl | rfl | rfl | rfl | rfl | rfl | rfl | rfl | rfl
      all_goals
        have HE := Lib.hid (cutE_of hcut)
        change ∀ W : World, (Instr.index 9 (.string s) (.int .i64 ((s.size : Int) - 1))).run Tryz.prog W = .ok (.int .u8 _) W at hi
        clear hcut
        go_enter Tryz.func29, Tryz.ntmps29
        go_wp2_with fail
        go_ret2
        exact ⟨HE.out, rfl⟩
    · have hn : Mo.ck x = none := by
        unfold Mo.ck
        rw [if_neg (by omega), if_neg (by omega), if_neg (by omega)]
      rw [hn] at hcut
      have HE := Lib.hid (cutE_of hcut)
      have t1 : ((x : Int) == 119) = false := by rw [beq_eq_false_iff_ne]; omega
      have t2 : ((x : Int) == 87) = false := by rw [beq_eq_false_iff_ne]; omega
      have t3 : ((x : Int) == 115) = false := by rw [beq_eq_false_iff_ne]; omega
      have t4 : ((x : Int) == 83) = false := by rw [beq_eq_false_iff_ne]; omega
      have t5 : ((x : Int) == 117) = false := by rw [beq_eq_false_iff_ne]; omega
      have t6 : ((x : Int) == 85) = false := by rw [beq_eq_false_iff_ne]; omega
      have t7 : ((x : Int) == 103) = false := by rw [beq_eq_false_iff_ne]; omega
      have t8 : ((x : Int) == 71) = false := by rw [beq_eq_false_iff_ne]; omega
      have t9 : ((x : Int) == 122) = false := by rw [beq_eq_false_iff_ne]; omega
      have t10 : ((x : Int) == 90) = false := by rw [beq_eq_false_iff_ne]; omega
      clear hcut hn hx
      go_enter Tryz.func29, Tryz.ntmps29
      go_wp2_with fail
      go_ret2
      exact ⟨HE.out, rfl⟩
/-- The moment that a text tells, and why it tells none. -/
def Mo.prs (l : List UInt8) : Int × Nat × Int := if l = [45] then (0, 0, 0) else if (parseL (Mo.cutC l).1).2 = 0 then ((parseL (Mo.cutC l).1).1, (Mo.cutC l).2, 0) else (0, 0, (parseL (Mo.cutC l).1).2)
def MPrsE (r : Int × Nat × Int) (e : Ending) : Prop := e = .returned (.tuple #[.agg #[.int .i64 r.1, .int .u8 (r.2.1 : Nat)], .int .i64 r.2.2])
theorem mprs_dash (w : World) : Calls Tryz.prog 12 #[.string ⟨#[45]⟩] w fun e w' => MPrsE (0, 0, 0) e ∧ Below w.heap.size w w' := by
  go_enter Tryz.func12, Tryz.ntmps12
  go_wp2_with fail
  refine bodyPost_ret (v := .tuple #[.agg #[.int .i64 0, .int .u8 0], .int .i64 0]) (by simp [results, Tryz.results12, go_sem]) rfl ⟨rfl, ?_⟩
  repeat (first | exact Below.refl _ _ | assumption | refine below_drewN ?_ _ | refine Below.drew ?_ | refine Below.setCell ?_ (by first | omega | (simp; done) | (simp; omega)) _ | refine Below.alloc ?_ (by first | omega | (simp; done) | (simp; omega)) _)
theorem mprs_ok (s a : ByteArray) (t : Int) (k : Nat) (w : World) (hd : (s.toList == [45]) = false) (hC : Hid (∀ W, Calls Tryz.prog 29 #[.string s] W fun e w' => e = .returned (.tuple #[.string a, .int .u8 (k : Int)]) ∧ W = w'))
    (hP : Hid (∀ W, Below w.heap.size w W → Calls Tryz.prog 30 #[.string a] W fun e w' => e = .returned (.tuple #[.int .i64 t, .int .i64 0]) ∧ Below W.heap.size W w')) :
    Calls Tryz.prog 12 #[.string s] w fun e w' => MPrsE (t, k, 0) e ∧ Below w.heap.size w w' := by
  go_enter Tryz.func12, Tryz.ntmps12
  go_wp2_with fail
  refine (hC.out _).mono ?_
  rintro e w' ⟨rfl, rfl⟩
  go_wp2_with fail
  refine (hP.out _ ((Below.refl _ _).alloc (Nat.le_refl _) _)).mono ?_
  rintro e w1 ⟨rfl, b1⟩
  have z1 : w.heap.size < w1.heap.size := by have := b1.size; simp at this; omega
  obtain ⟨hc, hf⟩ := bcell b1
  have a1 : Below w.heap.size w w1 := ((Below.refl _ _).alloc (Nat.le_refl _) _).trans (b1.mono (by simp))
  go_wp2_with fail
  refine bodyPost_ret (v := .tuple #[.agg #[.int .i64 t, .int .u8 (k : Int)], .int .i64 0]) (by simp [results, Tryz.results12, go_sem, hc]) rfl ⟨rfl, ?_⟩
  repeat (first | exact Below.refl _ _ | assumption | refine below_drewN ?_ _ | refine Below.drew ?_ | refine Below.setCell ?_ (by first | omega | (simp; done) | (simp; omega)) _ | refine Below.alloc ?_ (by first | omega | (simp; done) | (simp; omega)) _)
theorem mprs_no (s a : ByteArray) (t z : Int) (k : Nat) (w : World) (hd : (s.toList == [45]) = false) (hz : (z != 0) = true) (hC : Hid (∀ W, Calls Tryz.prog 29 #[.string s] W fun e w' => e = .returned (.tuple #[.string a, .int .u8 (k : Int)]) ∧ W = w'))
    (hP : Hid (∀ W, Below w.heap.size w W → Calls Tryz.prog 30 #[.string a] W fun e w' => e = .returned (.tuple #[.int .i64 t, .int .i64 z]) ∧ Below W.heap.size W w')) :
    Calls Tryz.prog 12 #[.string s] w fun e w' => MPrsE (0, 0, z) e ∧ Below w.heap.size w w' := by
  go_enter Tryz.func12, Tryz.ntmps12
  go_wp2_with fail
  refine (hC.out _).mono ?_
  rintro e w' ⟨rfl, rfl⟩
  go_wp2_with fail
  refine (hP.out _ ((Below.refl _ _).alloc (Nat.le_refl _) _)).mono ?_
  rintro e w1 ⟨rfl, b1⟩
  have z1 : w.heap.size < w1.heap.size := by have := b1.size; simp at this; omega
  obtain ⟨hc, hf⟩ := bcell b1
  have a1 : Below w.heap.size w w1 := ((Below.refl _ _).alloc (Nat.le_refl _) _).trans (b1.mono (by simp))
  go_wp2_with fail
  refine bodyPost_ret (v := .tuple #[.agg #[.int .i64 0, .int .u8 0], .int .i64 z]) (by simp [results, Tryz.results12, go_sem, hc]) rfl ⟨rfl, ?_⟩
  repeat (first | exact Below.refl _ _ | assumption | refine below_drewN ?_ _ | refine Below.drew ?_ | refine Below.setCell ?_ (by first | omega | (simp; done) | (simp; omega)) _ | refine Below.alloc ?_ (by first | omega | (simp; done) | (simp; omega)) _)
theorem cutC_len (l : List UInt8) : (Mo.cutC l).1.length ≤ l.length := by
  unfold Mo.cutC
  split
  · exact Nat.le_refl _
  · split
    · simp
    · exact Nat.le_refl _
theorem mparse_any (s : ByteArray) (w : World) (hE : Env w) (hs : s.size ≤ 4096) : Calls Tryz.prog 12 #[.string s] w fun e w' => MPrsE (Mo.prs s.data.toList) e ∧ Below w.heap.size w w' := by
  unfold Mo.prs
  by_cases hd : s.data.toList = [45]
  · rw [if_pos hd]
    obtain rfl : s = ⟨#[45]⟩ := ByteArray.ext (Array.toList_inj.1 hd)
    exact mprs_dash w
  · rw [if_neg hd]
    have hd2 : (s.toList == [45]) = false := by rw [ByteArray.toList_eq, beq_eq_false_iff_ne]; exact hd
    obtain ⟨a, ha⟩ : ∃ a : ByteArray, a.data.toList = (Mo.cutC s.data.toList).1 := ⟨⟨(Mo.cutC s.data.toList).1.toArray⟩, by simp⟩
    have haz : a.data.toList.length = a.size := by simp
    have hsz : s.data.toList.length = s.size := by simp
    have hl := cutC_len s.data.toList
    rw [← ha] at hl
    have hC : ∀ W, Calls Tryz.prog 29 #[.string s] W fun e w' => e = .returned (.tuple #[.string a, .int .u8 ((Mo.cutC s.data.toList).2 : Int)]) ∧ W = w' := by
      intro W
      have h := cutClock_any s W (by omega)
      unfold CutE at h
      rw [← ha] at h
      exact h
    have hP : ∀ W, Below w.heap.size w W → Calls Tryz.prog 30 #[.string a] W fun e w' => e = .returned (.tuple #[.int .i64 (parseL a.data.toList).1, .int .i64 (parseL a.data.toList).2]) ∧ Below W.heap.size W w' :=
      fun W hW => parse_any a W (hE.below hW) (by omega)
    rw [← ha]
    by_cases hz : (parseL a.data.toList).2 = 0
    · rw [if_pos hz]
      rw [hz] at hP
      exact mprs_ok s a _ _ w hd2 (Lib.hid hC) (Lib.hid hP)
    · rw [if_neg hz]
      exact mprs_no s a _ _ _ w hd2 (by rw [bne_iff_ne]; exact hz) (Lib.hid hC) (Lib.hid hP)
/-- What is read is right. -/
theorem prs_right (l : List UInt8) (h : (Mo.prs l).2.2 = 0) : Mo.right (Mo.prs l).1 (Mo.prs l).2.1 = true := by
  rw [Mo.right_iff]
  have hk : (Mo.cutC l).2 ≤ 2 := by
    unfold Mo.cutC
    split
    · simp
    · rename_i c _
      split
      · rename_i k hk
        unfold Mo.ck at hk
        split at hk
        · injection hk with hk; omega
        · split at hk
          · injection hk with hk; omega
          · split at hk
            · injection hk with hk; omega
            · cases hk
      · simp
  unfold Mo.prs at h ⊢
  split at h
  · rename_i hd
    rw [if_pos hd]
    simp
  · rename_i hd
    rw [if_neg hd]
    split at h
    · rename_i hz
      rw [if_pos hz]
      have := parse_ok _ hz
      refine ⟨this.1, this.2, ?_⟩
      show (((Mo.cutC l).2 : Nat) : Int) ≤ 2
      omega
    · rename_i hz
      exact absurd h hz
/-- A time's text ends with a digit. -/
theorem txt_last (t : Int) (h1 : -604800 ≤ t) (h2 : t ≤ 604800) : ∃ c r, txt t = r ++ [c] ∧ Mo.ck c.toNat = none := by
  have hd : ∀ n : Int, 0 ≤ n → n < 60 → ∃ c r, two n = r ++ [c] ∧ Mo.ck c.toNat = none := fun n n0 n1 => by
    refine ⟨UInt8.ofNat (48 + n.toNat % 10), [UInt8.ofNat (48 + n.toNat / 10)], rfl, ?_⟩
    have e : (UInt8.ofNat (48 + n.toNat % 10)).toNat = 48 + n.toNat % 10 := dig_nat _ (by omega)
    unfold Mo.ck
    rw [e, if_neg (by omega), if_neg (by omega), if_neg (by omega)]
  have h0 : ∀ u : Int, 0 ≤ u → ∃ c r, txt0 u = r ++ [c] ∧ Mo.ck c.toNat = none := fun u u0 => by
    unfold txt0
    by_cases hz : u % 60 = 0
    · rw [if_pos hz, List.append_nil]
      obtain ⟨c, r, e, hc⟩ := hd (u % 3600 / 60) (by omega) (by omega)
      exact ⟨c, Lib.itoa (u / 3600) ++ [58] ++ r, by rw [e]; simp, hc⟩
    · rw [if_neg hz]
      obtain ⟨c, r, e, hc⟩ := hd (u % 60) (by omega) (by omega)
      exact ⟨c, Lib.itoa (u / 3600) ++ [58] ++ two (u % 3600 / 60) ++ (58 :: r), by rw [e]; simp, hc⟩
  unfold txt
  by_cases hn : t < 0
  · rw [if_pos hn]
    obtain ⟨c, r, e, hc⟩ := h0 (-t) (by omega)
    exact ⟨c, 45 :: r, by rw [e]; rfl, hc⟩
  · rw [if_neg hn]
    exact h0 t (by omega)
/-- A moment is read from its text. -/
theorem prs_txt (s : Int) (c : Nat) (h : Mo.right s c = true) : Mo.prs (Mo.txt s c) = (s, c, 0) := by
  obtain ⟨h1, h2, h3⟩ := (Mo.right_iff s c).1 h
  obtain ⟨x, r, e, hx⟩ := txt_last s h1 h2
  have hp := parse_txt s h1 h2
  have hlen : 2 ≤ (txt s).length := by
    have h0 : ∀ u : Int, 2 ≤ (txt0 u).length := fun u => by unfold txt0; simp [two_len]; omega
    unfold txt
    split
    · simp only [List.length_cons]
      have := h0 (-s)
      omega
    · exact h0 s
  have hne : Mo.txt s c ≠ [45] := fun h => by
    have := congrArg List.length h
    unfold Mo.txt at this
    simp only [List.length_append, List.length_cons, List.length_nil] at this
    omega
  have hcut : Mo.cutC (Mo.txt s c) = (txt s, c) := by
    unfold Mo.txt
    have hc : c = 0 ∨ c = 1 ∨ c = 2 := by omega
    rcases hc with rfl | rfl | rfl
    · show Mo.cutC (txt s ++ []) = _
      rw [List.append_nil]
      unfold Mo.cutC
      rw [e, List.getLast?_concat]
      simp only [hx]
    · show Mo.cutC (txt s ++ [115]) = _
      unfold Mo.cutC
      rw [List.getLast?_concat, List.dropLast_concat]
      rfl
    · show Mo.cutC (txt s ++ [117]) = _
      unfold Mo.cutC
      rw [List.getLast?_concat, List.dropLast_concat]
      rfl
  unfold Mo.prs
  rw [if_neg hne, hcut, hp]
  rfl
end Go.Proofs.YtgcgmmdfmcapiaaGreatDoor
