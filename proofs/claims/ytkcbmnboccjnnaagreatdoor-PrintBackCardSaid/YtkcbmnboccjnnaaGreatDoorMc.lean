/- Mo, MoT, MoP, MoU, MoV, MoW, MoX, MoY, MoZ, one behind the other. -/
import Derived.Test.YtkcbmnboccjnnaaGreatDoorMa
import Derived.Test.YtkcbmnboccjnnaaGreatDoorMb
import Derived.LoopTactic
import Derived.Deep.QuietTactic
import Derived.BigQuiet
import Derived.Deep.RegionHeld3
/- Contracts of package moment, its numbers: isClock, isNear, isMoment, Check, Nominal, Instant. -/


namespace Go.Proofs.YtkcbmnboccjnnaaGreatDoor
open Go.RowKit
theorem isClock_yes (c : Int) (w : World) (h : c ≤ 2) : Calls Tryz.prog 157 #[.int .u8 c] w fun e w' => e = .returned (.bool true) ∧ w = w' := by
  have h3 : c < 3 := by omega
  go_enter Tryz.func157, Tryz.ntmps157
  go_wp2
  go_ret
  exact ⟨rfl, rfl⟩
theorem isClock_no (c : Int) (w : World) (h : 2 < c) : Calls Tryz.prog 157 #[.int .u8 c] w fun e w' => e = .returned (.bool false) ∧ w = w' := by
  have t1 : decide (c < 3) = false := by simp; omega
  go_enter Tryz.func157, Tryz.ntmps157
  go_wp2
  go_ret
  exact ⟨rfl, rfl⟩
/-- A moment is right. -/
def Mo.right (s c : Int) : Bool := decide (-604800 ≤ s ∧ s ≤ 604800 ∧ c ≤ 2)
theorem Mo.right_iff (s c : Int) : Mo.right s c = true ↔ (-604800 ≤ s ∧ s ≤ 604800 ∧ c ≤ 2) := by unfold Mo.right; exact decide_eq_true_iff
theorem isMoment_yes (s c : Int) (w : World) (h : Mo.right s c = true) : Calls Tryz.prog 115 #[.agg #[.int .i64 s, .int .u8 c]] w fun e w' => e = .returned (.bool true) ∧ Below w.heap.size w w' := by
  rw [Mo.right_iff] at h
  obtain ⟨h1, h2, h3⟩ := h
  go_enter Tryz.func115, Tryz.ntmps115
  go_wp2_with fail
  refine (isClock_yes _ _ h3).mono ?_
  rintro e w' ⟨rfl, rfl⟩
  go_wp2_with fail
  go_ret
  exact ⟨rfl, (Below.refl _ _).alloc (Nat.le_refl _) _⟩
theorem isMoment_no (s c : Int) (w : World) (h : Mo.right s c = false) : Calls Tryz.prog 115 #[.agg #[.int .i64 s, .int .u8 c]] w fun e w' => e = .returned (.bool false) ∧ Below w.heap.size w w' := by
  have h := of_decide_eq_false h
  by_cases g1 : s < -604800
  · clear h
    go_enter Tryz.func115, Tryz.ntmps115
    go_wp2_with fail
    go_ret
    exact ⟨rfl, (Below.refl _ _).alloc (Nat.le_refl _) _⟩
  · by_cases g2 : 604800 < s
    · have h' : -604800 ≤ s := by omega
      have t1 : decide (s ≤ 604800) = false := by simp; omega
      clear h g1
      go_enter Tryz.func115, Tryz.ntmps115
      go_wp2_with fail
      go_ret
      exact ⟨rfl, (Below.refl _ _).alloc (Nat.le_refl _) _⟩
    · have h1 : -604800 ≤ s := by omega
      have h2 : s ≤ 604800 := by omega
      have h3 : 2 < c := by omega
      clear h g1 g2
      go_enter Tryz.func115, Tryz.ntmps115
      go_wp2_with fail
      refine (isClock_no _ _ h3).mono ?_
      rintro e w' ⟨rfl, rfl⟩
      go_wp2_with fail
      go_ret
      exact ⟨rfl, (Below.refl _ _).alloc (Nat.le_refl _) _⟩
theorem mcheck_yes (s c : Int) (w : World) (h : Mo.right s c = true) : Calls Tryz.prog 111 #[.agg #[.int .i64 s, .int .u8 c]] w fun e w' => e = .returned (.int .i64 0) ∧ Below w.heap.size w w' := by
  have H := Lib.hid h
  clear h
  go_enter Tryz.func111, Tryz.ntmps111
  go_wp2_with fail
  refine (isMoment_yes _ _ _ H.out).mono ?_
  rintro e w1 ⟨rfl, b1⟩
  have a1 := ((Below.refl w.heap.size w).alloc (Nat.le_refl _) (.cells #[.int .i64 s, .int .u8 c] 46)).trans (b1.mono (by simp))
  go_wp2_with fail
  go_ret
  exact ⟨rfl, a1⟩
theorem mcheck_no (s c : Int) (w : World) (h : Mo.right s c = false) : Calls Tryz.prog 111 #[.agg #[.int .i64 s, .int .u8 c]] w fun e w' => e = .returned (.int .i64 2) ∧ Below w.heap.size w w' := by
  have H := Lib.hid h
  clear h
  go_enter Tryz.func111, Tryz.ntmps111
  go_wp2_with fail
  refine (isMoment_no _ _ _ H.out).mono ?_
  rintro e w1 ⟨rfl, b1⟩
  have a1 := ((Below.refl w.heap.size w).alloc (Nat.le_refl _) (.cells #[.int .i64 s, .int .u8 c] 46)).trans (b1.mono (by simp))
  go_wp2_with fail
  go_ret
  exact ⟨rfl, a1⟩
/-- The number that a day is, if it is one; 0: it is none, and why. -/
def Mo.inV (k n d y m : Int) : Int × Int :=
  if Dy.right k n d = false then (0, 2) else if ¬ (1 ≤ y ∧ y ≤ 9999 ∧ 1 ≤ m ∧ m ≤ 12) then (0, 1) else if Cal.len y m < n then (0, 3) else if Dy.at_ k n d y m < -719162 ∨ 2932896 < Dy.at_ k n d y m then (0, 1) else (Dy.at_ k n d y m, 0)
theorem in_cases (k n d y m : Int) : ((Mo.inV k n d y m).1 = 0 ∧ 1 ≤ (Mo.inV k n d y m).2 ∧ (Mo.inV k n d y m).2 ≤ 3) ∨ ((Mo.inV k n d y m).2 = 0 ∧ -719162 ≤ (Mo.inV k n d y m).1 ∧ (Mo.inV k n d y m).1 ≤ 2932896) := by
  unfold Mo.inV
  split
  · exact .inl ⟨rfl, by decide, by decide⟩
  · split
    · exact .inl ⟨rfl, by decide, by decide⟩
    · split
      · exact .inl ⟨rfl, by decide, by decide⟩
      · split
        · exact .inl ⟨rfl, by decide, by decide⟩
        · exact .inr ⟨rfl, by omega, by omega⟩
/-- The instant of a nominal time. -/
def Mo.inst (n c s v : Int) : Int := if c = 0 then n - v - s else if c = 1 then n - s else n
end Go.Proofs.YtkcbmnboccjnnaaGreatDoor
/- Contracts of package moment: letter, Text, cutClock, Parse. -/



namespace Go.Proofs.YtkcbmnboccjnnaaGreatDoor
open Go.RowKit
/-- What stands for a clock behind a time, and the text of a moment. -/
def Mo.ltr (c : Int) : List UInt8 := if c = 1 then [115] else if c = 2 then [117] else []
def Mo.txt (s c : Int) : List UInt8 := Go.Proofs.YtkcbmnboccjnnaaGreatDoor.txt s ++ Mo.ltr c
theorem letter_c (c : Int) (w : World) (h0 : 0 ≤ c) (h : c ≤ 2) : Calls Tryz.prog 116 #[.int .u8 c] w fun e w' => e = .returned (.string ⟨(Mo.ltr c).toArray⟩) ∧ w = w' := by
  have hc : c = 0 ∨ c = 1 ∨ c = 2 := by omega
  rcases hc with rfl | rfl | rfl
  all_goals
    go_enter Tryz.func116, Tryz.ntmps116
    go_wp2_with fail
    go_ret
    exact ⟨rfl, rfl⟩
theorem ltr_len (c : Int) : (Mo.ltr c).length ≤ 1 := by
  unfold Mo.ltr
  split
  · simp
  · split
    · simp
    · simp
theorem mtext_no (s c : Int) (w : World) (h : Mo.right s c = false) : Calls Tryz.prog 69 #[.agg #[.int .i64 s, .int .u8 c]] w fun e w' => e = .returned (.tuple #[.string ⟨#[]⟩, .int .i64 2]) ∧ Below w.heap.size w w' := by
  have H := Lib.hid h
  clear h
  go_enter Tryz.func69, Tryz.ntmps69
  go_wp2_with fail
  refine (isMoment_no _ _ _ H.out).mono ?_
  rintro e w1 ⟨rfl, b1⟩
  have a1 := ((Below.refl w.heap.size w).alloc (Nat.le_refl _) (.cells #[.int .i64 s, .int .u8 c] 46)).trans (b1.mono (by simp))
  go_wp2_with fail
  go_ret2
  exact ⟨rfl, a1⟩
/-- What is kept while the two texts are made. -/
structure MKeep (B : Nat) (w0 w : World) : Prop where
  lt : B < w.heap.size
  env : Env w
  bel : Below B w0 w
theorem mkeep_on {B : Nat} {w0 w w1 : World} {x y : Value} (h : w.cell? ⟨B, 0, none⟩ = some x ∧ w.cell? ⟨B, 1, none⟩ = some y ∧ MKeep B w0 w) (hb : Below w.heap.size w w1) : w1.cell? ⟨B, 0, none⟩ = some x ∧ w1.cell? ⟨B, 1, none⟩ = some y ∧ MKeep B w0 w1 := by
  obtain ⟨c0, c1, hl, he, hbw⟩ := h
  obtain ⟨hc, _⟩ := bcell hb
  have := hb.size
  exact ⟨(hc _ _ hl).trans c0, (hc _ _ hl).trans c1, by omega, he.below hb, hbw.trans (hb.mono (Nat.le_of_lt hl))⟩
theorem mkeep_env {B : Nat} {w0 w : World} {x y : Value} (h : w.cell? ⟨B, 0, none⟩ = some x ∧ w.cell? ⟨B, 1, none⟩ = some y ∧ MKeep B w0 w) : Env w := h.2.2.env
theorem mkeep_bel {B : Nat} {w0 w : World} {x y : Value} (h : w.cell? ⟨B, 0, none⟩ = some x ∧ w.cell? ⟨B, 1, none⟩ = some y ∧ MKeep B w0 w) : Below B w0 w := h.2.2.bel
theorem clk_text (t : Int) (T : ByteArray) (w : World) (hE : Env w) (h1 : -604800 ≤ t) (h2 : t ≤ 604800) (hT : (⟨(txt t).toArray⟩ : ByteArray) = T) : Calls Tryz.prog 73 #[.int .i64 t] w fun e w' => e = .returned (.string T) ∧ Below w.heap.size w w' := by
  subst hT
  exact text_in t w hE h1 h2
theorem letter_L (c : Int) (L : ByteArray) (w : World) (h0 : 0 ≤ c) (h : c ≤ 2) (hL : (⟨(Mo.ltr c).toArray⟩ : ByteArray) = L) : Calls Tryz.prog 116 #[.int .u8 c] w fun e w' => e = .returned (.string L) ∧ w = w' := by
  subst hL
  exact letter_c c w h0 h
set_option maxRecDepth 100000 in
set_option maxHeartbeats 2000000 in
theorem mtext_in (s c : Int) (T L : ByteArray) (w : World) (HE : Hid (Env w)) (s1 : -604800 ≤ s) (s2 : s ≤ 604800) (c0 : 0 ≤ c) (c2 : c ≤ 2) (HT : Hid ((⟨(txt s).toArray⟩ : ByteArray) = T)) (HL : Hid ((⟨(Mo.ltr c).toArray⟩ : ByteArray) = L)) (q1 : ¬ 9223372036854775807 < T.size + L.size) :
    Calls Tryz.prog 69 #[.agg #[.int .i64 s, .int .u8 c]] w fun e w' => e = .returned (.tuple #[.string (T ++ L), .int .i64 0]) ∧ Below w.heap.size w w' := by
  have H := Lib.hid ((Mo.right_iff s c).2 ⟨s1, s2, c2⟩)
  go_enter Tryz.func69, Tryz.ntmps69
  go_wp2_with fail
  refine (isMoment_yes _ _ _ H.out).mono ?_
  rintro e w1 ⟨rfl, b1⟩
  have k0 := mkeep_on (w0 := w) (w := w.alloc (.cells #[.int .i64 s, .int .u8 c] 46)) (B := w.heap.size) (x := .int .i64 s) (y := .int .u8 c) ⟨by go_simp, by go_simp, by simp, HE.out.alloc _, (Below.refl _ _).alloc (Nat.le_refl _) _⟩ b1
  have S0 := mkeep_on k0 (Below.drew (Below.refl _ w1))
  clear b1
  obtain ⟨hc0, hc1, hk⟩ := k0
  have hlt := hk.lt
  clear hk
  go_wp2_with fail
  go_region_held3 (fun w' => w'.cell? ⟨w.heap.size, 0, none⟩ = some (.int .i64 s) ∧ w'.cell? ⟨w.heap.size, 1, none⟩ = some (.int .u8 c) ∧ MKeep w.heap.size w w')
    (first | assumption | exact mkeep_on (by assumption) (by assumption))
    (first
      | (go_at_call 73; refine (clk_text s T _ (mkeep_env (B := w.heap.size) (w0 := w) (x := .int .i64 s) (y := .int .u8 c) (by assumption)) s1 s2 HT.out).mono ?_; rintro e w' ⟨rfl, hb⟩)
      | (go_at_call 116; refine (letter_L c L _ c0 c2 HL.out).mono ?_; rintro e w' ⟨rfl, rfl⟩))
  all_goals go_wp2_with fail
  all_goals go_ret2
  all_goals exact ⟨rfl, mkeep_bel (x := .int .i64 s) (y := .int .u8 c) (by assumption)⟩
theorem mtext_yes (s c : Int) (S : ByteArray) (w : World) (hE : Env w) (h : Mo.right s c = true) (c0 : 0 ≤ c) (hS : S.data.toList = Mo.txt s c) : Calls Tryz.prog 69 #[.agg #[.int .i64 s, .int .u8 c]] w fun e w' => e = .returned (.tuple #[.string S, .int .i64 0]) ∧ Below w.heap.size w w' := by
  obtain ⟨h1, h2, h3⟩ := (Mo.right_iff s c).1 h
  have hl := txt_len s h1 h2
  have hr := ltr_len c
  have e : S = (⟨(txt s).toArray⟩ : ByteArray) ++ ⟨(Mo.ltr c).toArray⟩ := ByteArray.ext (Array.toList_inj.1 (by rw [hS]; simp [Mo.txt]))
  rw [e]
  exact mtext_in s c _ _ w (Lib.hid hE) h1 h2 c0 h3 (Lib.hid rfl) (Lib.hid rfl) (by rw [size_ba, size_ba]; omega)
end Go.Proofs.YtkcbmnboccjnnaaGreatDoor
/- Contracts of package moment: cutClock, Parse; a moment is read from its text. -/

namespace Go.Proofs.YtkcbmnboccjnnaaGreatDoor
open Go.RowKit
/-- The clock that a last letter means. -/
def Mo.ck (x : Nat) : Option Nat := if x = 119 ∨ x = 87 then some 0 else if x = 115 ∨ x = 83 then some 1 else if x = 117 ∨ x = 85 ∨ x = 103 ∨ x = 71 ∨ x = 122 ∨ x = 90 then some 2 else none
/-- A text without the letter of a clock, and that clock. -/
def Mo.cutC (l : List UInt8) : List UInt8 × Nat := match l.getLast? with
  | none => (l, 0)
  | some c => match Mo.ck c.toNat with
    | some k => (l.dropLast, k)
    | none => (l, 0)
def CkE (r : List UInt8 × Nat) (e : Ending) : Prop := e = .returned (.tuple #[.string ⟨r.1.toArray⟩, .int .u8 (r.2 : Nat)])
theorem ckE_of {r : List UInt8 × Nat} {S : ByteArray} {k : Nat} (h : r = (S.data.toList, k)) : CkE r (.returned (.tuple #[.string S, .int .u8 (k : Int)])) := by
  subst h
  rfl
theorem last_of {s : ByteArray} (h : 0 < s.size) : s.data.toList.getLast? = some (s[s.size - 1]'(by omega)) := by
  rw [List.getLast?_eq_getElem?, show s.data.toList.length = s.size by simp]
  exact Lib.data_getElem? s (s.size - 1) (by omega)
theorem front_of (s : ByteArray) : (s.extract 0 (s.size - 1)).data.toList = s.data.toList.dropLast := by
  simp
theorem cutClock_any (s : ByteArray) (w : World) (hs : s.size ≤ 4294967296) : Calls Tryz.prog 205 #[.string s] w fun e w' => CkE (Mo.cutC s.data.toList) e ∧ w = w' := by
  by_cases h0 : s.size = 0
  · have hl0 : s.data.toList = [] := List.eq_nil_of_length_eq_zero (by simpa using h0)
    obtain rfl : s = ⟨#[]⟩ := ByteArray.ext (Array.toList_inj.1 hl0)
    clear hl0 h0 hs
    go_enter Tryz.func205, Tryz.ntmps205
    go_wp2_with fail
    go_ret2
    exact ⟨rfl, rfl⟩
  · have hp : 0 < s.size := by omega
    have ne := not_empty h0
    obtain ⟨c, hc⟩ : ∃ c, s[s.size - 1]'(by omega) = c := ⟨_, rfl⟩
    have hi : ∀ W : World, (Instr.index 9 (.string s) (.int .i64 ((s.size : Int) - 1))).run Tryz.prog W = .ok (.int .u8 (c.toNat : Int)) W := by
      intro W
      rw [show ((s.size : Int) - 1) = ((s.size - 1 : Nat) : Int) by omega, ← hc]
      exact idx_any s .i64 (s.size - 1) (by omega) W
    have hlast := last_of hp
    rw [hc] at hlast
    have hcut : Mo.cutC s.data.toList = match Mo.ck c.toNat with
        | some k => ((s.extract 0 (s.size - 1)).data.toList, k)
        | none => (s.data.toList, 0) := by
      unfold Mo.cutC
      rw [hlast, front_of]
    clear hlast hc h0
    generalize c.toNat = x at hi hcut
    by_cases hx : x = 119 ∨ x = 87 ∨ x = 115 ∨ x = 83 ∨ x = 117 ∨ x = 85 ∨ x = 103 ∨ x = 71 ∨ x = 122 ∨ x = 90
    · rcases hx with rfl | rfl | rfl | rfl | rfl | rfl | rfl | rfl | rfl | rfl
      all_goals
        have HE := Lib.hid (ckE_of hcut)
        change ∀ W : World, (Instr.index 9 (.string s) (.int .i64 ((s.size : Int) - 1))).run Tryz.prog W = .ok (.int .u8 _) W at hi
        clear hcut
        go_enter Tryz.func205, Tryz.ntmps205
        go_wp2_with fail
        go_ret2
        exact ⟨HE.out, rfl⟩
    · have hn : Mo.ck x = none := by
        unfold Mo.ck
        rw [if_neg (by omega), if_neg (by omega), if_neg (by omega)]
      rw [hn] at hcut
      have HE := Lib.hid (ckE_of hcut)
      have t1 : ((x : Int) == 119) = false := by rw [beq_eq_false_iff_ne]; omega
      have t2 : ((x : Int) == 87) = false := by rw [beq_eq_false_iff_ne]; omega
      have t3 : ((x : Int) == 115) = false := by rw [beq_eq_false_iff_ne]; omega
      have t4 : ((x : Int) == 83) = false := by rw [beq_eq_false_iff_ne]; omega
      have t5 : ((x : Int) == 117) = false := by rw [beq_eq_false_iff_ne]; omega
      have t6 : ((x : Int) == 85) = false := by rw [beq_eq_false_iff_ne]; omega
      have t7 : ((x : Int) == 103) = false := by rw [beq_eq_false_iff_ne]; omega
      have t8 : ((x : Int) == 71) = false := by rw [beq_eq_false_iff_ne]; omega
      have t9 : ((x : Int) == 122) = false := by rw [beq_eq_false_iff_ne]; omega
      have t10 : ((x : Int) == 90) = false := by rw [beq_eq_false_iff_ne]; omega
      clear hcut hn hx
      go_enter Tryz.func205, Tryz.ntmps205
      go_wp2_with fail
      go_ret2
      exact ⟨HE.out, rfl⟩
/-- The moment that a text tells, and why it tells none. -/
def Mo.prs (l : List UInt8) : Int × Nat × Int := if l = [45] then (0, 0, 0) else if (parseL (Mo.cutC l).1).2 = 0 then ((parseL (Mo.cutC l).1).1, (Mo.cutC l).2, 0) else (0, 0, (parseL (Mo.cutC l).1).2)
def MPrsE (r : Int × Nat × Int) (e : Ending) : Prop := e = .returned (.tuple #[.agg #[.int .i64 r.1, .int .u8 (r.2.1 : Nat)], .int .i64 r.2.2])
theorem mprs_dash (w : World) : Calls Tryz.prog 182 #[.string ⟨#[45]⟩] w fun e w' => MPrsE (0, 0, 0) e ∧ Below w.heap.size w w' := by
  go_enter Tryz.func182, Tryz.ntmps182
  go_wp2_with fail
  refine bodyPost_ret (v := .tuple #[.agg #[.int .i64 0, .int .u8 0], .int .i64 0]) (by simp [results, Tryz.results182, go_sem]) rfl ⟨rfl, ?_⟩
  repeat (first | exact Below.refl _ _ | assumption | refine below_drewN ?_ _ | refine Below.drew ?_ | refine Below.setCell ?_ (by first | omega | (simp; done) | (simp; omega)) _ | refine Below.alloc ?_ (by first | omega | (simp; done) | (simp; omega)) _)
theorem mprs_ok (s a : ByteArray) (t : Int) (k : Nat) (w : World) (hd : (s.toList == [45]) = false) (hC : Hid (∀ W, Calls Tryz.prog 205 #[.string s] W fun e w' => e = .returned (.tuple #[.string a, .int .u8 (k : Int)]) ∧ W = w'))
    (hP : Hid (∀ W, Below w.heap.size w W → Calls Tryz.prog 199 #[.string a] W fun e w' => e = .returned (.tuple #[.int .i64 t, .int .i64 0]) ∧ Below W.heap.size W w')) :
    Calls Tryz.prog 182 #[.string s] w fun e w' => MPrsE (t, k, 0) e ∧ Below w.heap.size w w' := by
  go_enter Tryz.func182, Tryz.ntmps182
  go_wp2_with fail
  refine (hC.out _).mono ?_
  rintro e w' ⟨rfl, rfl⟩
  go_wp2_with fail
  refine (hP.out _ ((Below.refl _ _).alloc (Nat.le_refl _) _)).mono ?_
  rintro e w1 ⟨rfl, b1⟩
  have z1 : w.heap.size < w1.heap.size := by have := b1.size; simp at this; omega
  obtain ⟨hc, hf⟩ := bcell b1
  have a1 : Below w.heap.size w w1 := ((Below.refl _ _).alloc (Nat.le_refl _) _).trans (b1.mono (by simp))
  go_wp2_with fail
  refine bodyPost_ret (v := .tuple #[.agg #[.int .i64 t, .int .u8 (k : Int)], .int .i64 0]) (by simp [results, Tryz.results182, go_sem, hc]) rfl ⟨rfl, ?_⟩
  repeat (first | exact Below.refl _ _ | assumption | refine below_drewN ?_ _ | refine Below.drew ?_ | refine Below.setCell ?_ (by first | omega | (simp; done) | (simp; omega)) _ | refine Below.alloc ?_ (by first | omega | (simp; done) | (simp; omega)) _)
theorem mprs_no (s a : ByteArray) (t z : Int) (k : Nat) (w : World) (hd : (s.toList == [45]) = false) (hz : (z != 0) = true) (hC : Hid (∀ W, Calls Tryz.prog 205 #[.string s] W fun e w' => e = .returned (.tuple #[.string a, .int .u8 (k : Int)]) ∧ W = w'))
    (hP : Hid (∀ W, Below w.heap.size w W → Calls Tryz.prog 199 #[.string a] W fun e w' => e = .returned (.tuple #[.int .i64 t, .int .i64 z]) ∧ Below W.heap.size W w')) :
    Calls Tryz.prog 182 #[.string s] w fun e w' => MPrsE (0, 0, z) e ∧ Below w.heap.size w w' := by
  go_enter Tryz.func182, Tryz.ntmps182
  go_wp2_with fail
  refine (hC.out _).mono ?_
  rintro e w' ⟨rfl, rfl⟩
  go_wp2_with fail
  refine (hP.out _ ((Below.refl _ _).alloc (Nat.le_refl _) _)).mono ?_
  rintro e w1 ⟨rfl, b1⟩
  have z1 : w.heap.size < w1.heap.size := by have := b1.size; simp at this; omega
  obtain ⟨hc, hf⟩ := bcell b1
  have a1 : Below w.heap.size w w1 := ((Below.refl _ _).alloc (Nat.le_refl _) _).trans (b1.mono (by simp))
  go_wp2_with fail
  refine bodyPost_ret (v := .tuple #[.agg #[.int .i64 0, .int .u8 0], .int .i64 z]) (by simp [results, Tryz.results182, go_sem, hc]) rfl ⟨rfl, ?_⟩
  repeat (first | exact Below.refl _ _ | assumption | refine below_drewN ?_ _ | refine Below.drew ?_ | refine Below.setCell ?_ (by first | omega | (simp; done) | (simp; omega)) _ | refine Below.alloc ?_ (by first | omega | (simp; done) | (simp; omega)) _)
theorem cutC_len (l : List UInt8) : (Mo.cutC l).1.length ≤ l.length := by
  unfold Mo.cutC
  split
  · exact Nat.le_refl _
  · split
    · simp
    · exact Nat.le_refl _
theorem mparse_any (s : ByteArray) (w : World) (hE : Env w) (hs : s.size ≤ 4096) : Calls Tryz.prog 182 #[.string s] w fun e w' => MPrsE (Mo.prs s.data.toList) e ∧ Below w.heap.size w w' := by
  unfold Mo.prs
  by_cases hd : s.data.toList = [45]
  · rw [if_pos hd]
    obtain rfl : s = ⟨#[45]⟩ := ByteArray.ext (Array.toList_inj.1 hd)
    exact mprs_dash w
  · rw [if_neg hd]
    have hd2 : (s.toList == [45]) = false := by rw [ByteArray.toList_eq, beq_eq_false_iff_ne]; exact hd
    obtain ⟨a, ha⟩ : ∃ a : ByteArray, a.data.toList = (Mo.cutC s.data.toList).1 := ⟨⟨(Mo.cutC s.data.toList).1.toArray⟩, by simp⟩
    have haz : a.data.toList.length = a.size := by simp
    have hsz : s.data.toList.length = s.size := by simp
    have hl := cutC_len s.data.toList
    rw [← ha] at hl
    have hC : ∀ W, Calls Tryz.prog 205 #[.string s] W fun e w' => e = .returned (.tuple #[.string a, .int .u8 ((Mo.cutC s.data.toList).2 : Int)]) ∧ W = w' := by
      intro W
      have h := cutClock_any s W (by omega)
      unfold CkE at h
      rw [← ha] at h
      exact h
    have hP : ∀ W, Below w.heap.size w W → Calls Tryz.prog 199 #[.string a] W fun e w' => e = .returned (.tuple #[.int .i64 (parseL a.data.toList).1, .int .i64 (parseL a.data.toList).2]) ∧ Below W.heap.size W w' :=
      fun W hW => parse_any a W (hE.below hW) (by omega)
    rw [← ha]
    by_cases hz : (parseL a.data.toList).2 = 0
    · rw [if_pos hz]
      rw [hz] at hP
      exact mprs_ok s a _ _ w hd2 (Lib.hid hC) (Lib.hid hP)
    · rw [if_neg hz]
      exact mprs_no s a _ _ _ w hd2 (by rw [bne_iff_ne]; exact hz) (Lib.hid hC) (Lib.hid hP)
/-- What is read is right. -/
theorem prs_right (l : List UInt8) (h : (Mo.prs l).2.2 = 0) : Mo.right (Mo.prs l).1 (Mo.prs l).2.1 = true := by
  rw [Mo.right_iff]
  have hk : (Mo.cutC l).2 ≤ 2 := by
    unfold Mo.cutC
    split
    · simp
    · rename_i c _
      split
      · rename_i k hk
        unfold Mo.ck at hk
        split at hk
        · injection hk with hk; omega
        · split at hk
          · injection hk with hk; omega
          · split at hk
            · injection hk with hk; omega
            · cases hk
      · simp
  unfold Mo.prs at h ⊢
  split at h
  · rename_i hd
    rw [if_pos hd]
    simp
  · rename_i hd
    rw [if_neg hd]
    split at h
    · rename_i hz
      rw [if_pos hz]
      have := parse_ok _ hz
      refine ⟨this.1, this.2, ?_⟩
      show (((Mo.cutC l).2 : Nat) : Int) ≤ 2
      omega
    · rename_i hz
      exact absurd h hz
/-- A time's text ends with a digit. -/
theorem txt_last (t : Int) (h1 : -604800 ≤ t) (h2 : t ≤ 604800) : ∃ c r, txt t = r ++ [c] ∧ Mo.ck c.toNat = none := by
  have hd : ∀ n : Int, 0 ≤ n → n < 60 → ∃ c r, two n = r ++ [c] ∧ Mo.ck c.toNat = none := fun n n0 n1 => by
    refine ⟨UInt8.ofNat (48 + n.toNat % 10), [UInt8.ofNat (48 + n.toNat / 10)], rfl, ?_⟩
    have e : (UInt8.ofNat (48 + n.toNat % 10)).toNat = 48 + n.toNat % 10 := dig_nat _ (by omega)
    unfold Mo.ck
    rw [e, if_neg (by omega), if_neg (by omega), if_neg (by omega)]
  have h0 : ∀ u : Int, 0 ≤ u → ∃ c r, txt0 u = r ++ [c] ∧ Mo.ck c.toNat = none := fun u u0 => by
    unfold txt0
    by_cases hz : u % 60 = 0
    · rw [if_pos hz, List.append_nil]
      obtain ⟨c, r, e, hc⟩ := hd (u % 3600 / 60) (by omega) (by omega)
      exact ⟨c, Lib.itoa (u / 3600) ++ [58] ++ r, by rw [e]; simp, hc⟩
    · rw [if_neg hz]
      obtain ⟨c, r, e, hc⟩ := hd (u % 60) (by omega) (by omega)
      exact ⟨c, Lib.itoa (u / 3600) ++ [58] ++ two (u % 3600 / 60) ++ (58 :: r), by rw [e]; simp, hc⟩
  unfold txt
  by_cases hn : t < 0
  · rw [if_pos hn]
    obtain ⟨c, r, e, hc⟩ := h0 (-t) (by omega)
    exact ⟨c, 45 :: r, by rw [e]; rfl, hc⟩
  · rw [if_neg hn]
    exact h0 t (by omega)
/-- A moment is read from its text. -/
theorem prs_txt (s : Int) (c : Nat) (h : Mo.right s c = true) : Mo.prs (Mo.txt s c) = (s, c, 0) := by
  obtain ⟨h1, h2, h3⟩ := (Mo.right_iff s c).1 h
  obtain ⟨x, r, e, hx⟩ := txt_last s h1 h2
  have hp := parse_txt s h1 h2
  have hlen : 2 ≤ (txt s).length := by
    have h0 : ∀ u : Int, 2 ≤ (txt0 u).length := fun u => by unfold txt0; simp [two_len]; omega
    unfold txt
    split
    · simp only [List.length_cons]
      have := h0 (-s)
      omega
    · exact h0 s
  have hne : Mo.txt s c ≠ [45] := fun h => by
    have := congrArg List.length h
    unfold Mo.txt at this
    simp only [List.length_append, List.length_cons, List.length_nil] at this
    omega
  have hcut : Mo.cutC (Mo.txt s c) = (txt s, c) := by
    unfold Mo.txt
    have hc : c = 0 ∨ c = 1 ∨ c = 2 := by omega
    rcases hc with rfl | rfl | rfl
    · show Mo.cutC (txt s ++ []) = _
      rw [List.append_nil]
      unfold Mo.cutC
      rw [e, List.getLast?_concat]
      simp only [hx]
    · show Mo.cutC (txt s ++ [115]) = _
      unfold Mo.cutC
      rw [List.getLast?_concat, List.dropLast_concat]
      rfl
    · show Mo.cutC (txt s ++ [117]) = _
      unfold Mo.cutC
      rw [List.getLast?_concat, List.dropLast_concat]
      rfl
  unfold Mo.prs
  rw [if_neg hne, hcut, hp]
  rfl
end Go.Proofs.YtkcbmnboccjnnaaGreatDoor
/- Contracts of package moment: isYear, isUntil, CheckUntil, readYear, readMonth. -/


namespace Go.Proofs.YtkcbmnboccjnnaaGreatDoor
open Go.RowKit
theorem isYear_yes (y : Int) (w : World) (h1 : 1 ≤ y) (h2 : y ≤ 9999) : Calls Tryz.prog 164 #[.int .i64 y] w fun e w' => e = .returned (.bool true) ∧ w = w' := by
  go_enter Tryz.func164, Tryz.ntmps164
  go_wp2
  go_ret
  exact ⟨rfl, rfl⟩
theorem isYear_no (y : Int) (w : World) (h : y < 1 ∨ 9999 < y) : Calls Tryz.prog 164 #[.int .i64 y] w fun e w' => e = .returned (.bool false) ∧ w = w' := by
  rcases h with h | h
  · go_enter Tryz.func164, Tryz.ntmps164
    go_wp2
    go_ret
    exact ⟨rfl, rfl⟩
  · have h' : 1 ≤ y := by omega
    have t1 : decide (y ≤ 9999) = false := by simp; omega
    go_enter Tryz.func164, Tryz.ntmps164
    go_wp2
    go_ret
    exact ⟨rfl, rfl⟩
/-- An until's value. -/
@[reducible] def untV (y m k n d s c : Int) : Value := .agg #[.int .i64 y, .int .i64 m, .int .u8 k, .int .i64 n, .int .i64 d, .int .i64 s, .int .u8 c]
theorem isUntil_yes (y m k n d s c : Int) (w : World) (y1 : 1 ≤ y) (y2 : y ≤ 9999) (m1 : 1 ≤ m) (m2 : m ≤ 12) (HD : Hid (Dy.right k n d = true)) (HM : Hid (Mo.right s c = true)) : Calls Tryz.prog 137 #[untV y m k n d s c] w fun e w' => e = .returned (.bool true) ∧ Below w.heap.size w w' := by
  go_enter Tryz.func137, Tryz.ntmps137
  go_wp2_with fail
  refine (isYear_yes y _ y1 y2).mono ?_
  rintro e w' ⟨rfl, rfl⟩
  go_wp2_with fail
  refine (dcheck_yes k n d _ HD.out).mono ?_
  rintro e w1 ⟨rfl, b1⟩
  obtain ⟨hc1, hf1⟩ := bcell b1
  have a1 : Below w.heap.size w w1 := ((Below.refl _ _).alloc (Nat.le_refl _) _).trans (b1.mono (by simp))
  have z1 : w.heap.size < w1.heap.size := by have := b1.size; simp at this; omega
  go_wp2_with fail
  refine (isMoment_yes s c _ HM.out).mono ?_
  rintro e w2 ⟨rfl, b2⟩
  obtain ⟨hc2, hf2⟩ := bcell b2
  have a2 := a1.trans (b2.mono a1.size)
  have z2 : w.heap.size < w2.heap.size := by have := b2.size; omega
  go_wp2_with fail
  go_ret
  exact ⟨rfl, a2⟩
theorem isUntil_year (y m k n d s c : Int) (w : World) (HY : Hid (y < 1 ∨ 9999 < y)) : Calls Tryz.prog 137 #[untV y m k n d s c] w fun e w' => e = .returned (.bool false) ∧ Below w.heap.size w w' := by
  go_enter Tryz.func137, Tryz.ntmps137
  go_wp2_with fail
  refine (isYear_no y _ HY.out).mono ?_
  rintro e w' ⟨rfl, rfl⟩
  go_wp2_with fail
  go_ret
  exact ⟨rfl, (Below.refl _ _).alloc (Nat.le_refl _) _⟩
theorem isUntil_mlo (y m k n d s c : Int) (w : World) (y1 : 1 ≤ y) (y2 : y ≤ 9999) (m1 : m < 1) : Calls Tryz.prog 137 #[untV y m k n d s c] w fun e w' => e = .returned (.bool false) ∧ Below w.heap.size w w' := by
  have t1 : decide (1 ≤ m) = false := by simp; omega
  go_enter Tryz.func137, Tryz.ntmps137
  go_wp2_with fail
  refine (isYear_yes y _ y1 y2).mono ?_
  rintro e w' ⟨rfl, rfl⟩
  go_wp2_with fail
  go_ret
  exact ⟨rfl, (Below.refl _ _).alloc (Nat.le_refl _) _⟩
theorem isUntil_mhi (y m k n d s c : Int) (w : World) (y1 : 1 ≤ y) (y2 : y ≤ 9999) (m1 : 12 < m) : Calls Tryz.prog 137 #[untV y m k n d s c] w fun e w' => e = .returned (.bool false) ∧ Below w.heap.size w w' := by
  have t1 : decide (m ≤ 12) = false := by simp; omega
  have t2 : 1 ≤ m := by omega
  go_enter Tryz.func137, Tryz.ntmps137
  go_wp2_with fail
  refine (isYear_yes y _ y1 y2).mono ?_
  rintro e w' ⟨rfl, rfl⟩
  go_wp2_with fail
  go_ret
  exact ⟨rfl, (Below.refl _ _).alloc (Nat.le_refl _) _⟩
theorem isUntil_day (y m k n d s c : Int) (w : World) (y1 : 1 ≤ y) (y2 : y ≤ 9999) (m1 : 1 ≤ m) (m2 : m ≤ 12) (HD : Hid (Dy.right k n d = false)) : Calls Tryz.prog 137 #[untV y m k n d s c] w fun e w' => e = .returned (.bool false) ∧ Below w.heap.size w w' := by
  go_enter Tryz.func137, Tryz.ntmps137
  go_wp2_with fail
  refine (isYear_yes y _ y1 y2).mono ?_
  rintro e w' ⟨rfl, rfl⟩
  go_wp2_with fail
  refine (dcheck_no k n d _ HD.out).mono ?_
  rintro e w1 ⟨rfl, b1⟩
  obtain ⟨hc1, hf1⟩ := bcell b1
  have a1 : Below w.heap.size w w1 := ((Below.refl _ _).alloc (Nat.le_refl _) _).trans (b1.mono (by simp))
  have z1 : w.heap.size < w1.heap.size := by have := b1.size; simp at this; omega
  go_wp2_with fail
  go_ret
  exact ⟨rfl, a1⟩
theorem isUntil_mom (y m k n d s c : Int) (w : World) (y1 : 1 ≤ y) (y2 : y ≤ 9999) (m1 : 1 ≤ m) (m2 : m ≤ 12) (HD : Hid (Dy.right k n d = true)) (HM : Hid (Mo.right s c = false)) : Calls Tryz.prog 137 #[untV y m k n d s c] w fun e w' => e = .returned (.bool false) ∧ Below w.heap.size w w' := by
  go_enter Tryz.func137, Tryz.ntmps137
  go_wp2_with fail
  refine (isYear_yes y _ y1 y2).mono ?_
  rintro e w' ⟨rfl, rfl⟩
  go_wp2_with fail
  refine (dcheck_yes k n d _ HD.out).mono ?_
  rintro e w1 ⟨rfl, b1⟩
  obtain ⟨hc1, hf1⟩ := bcell b1
  have a1 : Below w.heap.size w w1 := ((Below.refl _ _).alloc (Nat.le_refl _) _).trans (b1.mono (by simp))
  have z1 : w.heap.size < w1.heap.size := by have := b1.size; simp at this; omega
  go_wp2_with fail
  refine (isMoment_no s c _ HM.out).mono ?_
  rintro e w2 ⟨rfl, b2⟩
  obtain ⟨hc2, hf2⟩ := bcell b2
  have a2 := a1.trans (b2.mono a1.size)
  have z2 : w.heap.size < w2.heap.size := by have := b2.size; omega
  go_wp2_with fail
  go_ret
  exact ⟨rfl, a2⟩
/-- An until is right. -/
def Mo.unt (y m k n d s c : Int) : Bool := decide (1 ≤ y ∧ y ≤ 9999 ∧ 1 ≤ m ∧ m ≤ 12) && (Dy.right k n d && Mo.right s c)
theorem unt_parts {y m k n d s c : Int} (h : Mo.unt y m k n d s c = true) : (1 ≤ y ∧ y ≤ 9999 ∧ 1 ≤ m ∧ m ≤ 12) ∧ Dy.right k n d = true ∧ Mo.right s c = true := by
  unfold Mo.unt at h
  rw [Bool.and_eq_true, Bool.and_eq_true, decide_eq_true_eq] at h
  exact h
theorem isUntil_any (y m k n d s c : Int) (w : World) : Calls Tryz.prog 137 #[untV y m k n d s c] w fun e w' => e = .returned (.bool (Mo.unt y m k n d s c)) ∧ Below w.heap.size w w' := by
  unfold Mo.unt
  by_cases hy : 1 ≤ y ∧ y ≤ 9999
  · by_cases hm : 1 ≤ m ∧ m ≤ 12
    · rw [show decide (1 ≤ y ∧ y ≤ 9999 ∧ 1 ≤ m ∧ m ≤ 12) = true by simp; omega]
      cases hd : Dy.right k n d with
      | false => exact isUntil_day y m k n d s c w hy.1 hy.2 hm.1 hm.2 (Lib.hid hd)
      | true =>
        cases hr : Mo.right s c with
        | false => exact isUntil_mom y m k n d s c w hy.1 hy.2 hm.1 hm.2 (Lib.hid hd) (Lib.hid hr)
        | true => exact isUntil_yes y m k n d s c w hy.1 hy.2 hm.1 hm.2 (Lib.hid hd) (Lib.hid hr)
    · rw [show decide (1 ≤ y ∧ y ≤ 9999 ∧ 1 ≤ m ∧ m ≤ 12) = false by simp; omega]
      by_cases h1 : m < 1
      · exact isUntil_mlo y m k n d s c w hy.1 hy.2 h1
      · exact isUntil_mhi y m k n d s c w hy.1 hy.2 (by omega)
  · rw [show decide (1 ≤ y ∧ y ≤ 9999 ∧ 1 ≤ m ∧ m ≤ 12) = false by simp; omega]
    exact isUntil_year y m k n d s c w (Lib.hid (by omega))
theorem isUntil_is (y m k n d s c : Int) (v : Bool) (w : World) (h : Mo.unt y m k n d s c = v) : Calls Tryz.prog 137 #[untV y m k n d s c] w fun e w' => e = .returned (.bool v) ∧ Below w.heap.size w w' := by
  subst h
  exact isUntil_any y m k n d s c w
theorem ucheck_yes (y m k n d s c : Int) (w : World) (h : Mo.unt y m k n d s c = true) : Calls Tryz.prog 163 #[untV y m k n d s c] w fun e w' => e = .returned (.int .i64 0) ∧ Below w.heap.size w w' := by
  have H := Lib.hid h
  clear h
  go_enter Tryz.func163, Tryz.ntmps163
  go_wp2_with fail
  refine (isUntil_is y m k n d s c true _ H.out).mono ?_
  rintro e w1 ⟨rfl, b1⟩
  have a1 : Below w.heap.size w w1 := ((Below.refl _ _).alloc (Nat.le_refl _) _).trans (b1.mono (by simp))
  go_wp2_with fail
  go_ret
  exact ⟨rfl, a1⟩
/-- The number that digits tell. -/
def Mo.yv (l : List UInt8) : Int := l.foldl (fun v c => 10 * v + ((c.toNat : Int) - 48)) 0
/-- The year that a text tells; 0: none. -/
def Mo.yr (l : List UInt8) : Int := if l.length ≤ 4 ∧ l.all Dy.isd = true ∧ 1 ≤ Mo.yv l then Mo.yv l else 0
theorem yv_snoc (l : List UInt8) (c : UInt8) : Mo.yv (l ++ [c]) = 10 * Mo.yv l + ((c.toNat : Int) - 48) := by unfold Mo.yv; rw [List.foldl_append]; rfl
theorem yv_bd : ∀ (k : Nat) (l : List UInt8), l.length = k → k ≤ 4 → l.all Dy.isd = true → 0 ≤ Mo.yv l ∧ Mo.yv l < 10 ^ k
  | 0, l, h, _, _ => by
    obtain rfl := List.eq_nil_of_length_eq_zero h
    exact ⟨by decide, by decide⟩
  | k + 1, l, h, hk, ha => by
    obtain ⟨r, c, rfl⟩ : ∃ r c, l = r ++ [c] := ⟨l.dropLast, l.getLast (by intro e; rw [e] at h; cases h), (List.dropLast_concat_getLast _).symm⟩
    rw [List.length_append, List.length_cons, List.length_nil] at h
    rw [List.all_append, Bool.and_eq_true] at ha
    have ih := yv_bd k r (by omega) (by omega) ha.1
    have hc : Dy.isd c = true := by simpa using ha.2
    rw [yv_snoc]
    rcases isd_cases c with ⟨_, h1, h2⟩ | ⟨e, _⟩ | ⟨e, _⟩
    · have e : (10 : Int) ^ (k + 1) = 10 * 10 ^ k := by rw [Int.pow_succ]; omega
      rw [e]
      omega
    · rw [hc] at e; cases e
    · rw [hc] at e; cases e
theorem pow_le4 (k : Nat) (h : k ≤ 4) : (10 : Int) ^ k ≤ 10000 := by
  have hk : k = 0 ∨ k = 1 ∨ k = 2 ∨ k = 3 ∨ k = 4 := by omega
  rcases hk with rfl | rfl | rfl | rfl | rfl <;> decide
theorem yd_take (s : ByteArray) (k : Nat) (h : k < s.size) : s.data.toList.take (k + 1) = s.data.toList.take k ++ [s[k]] := by
  rw [List.take_succ_eq_append_getElem (by simpa using h)]; rfl
theorem ret2_y {a z : Int} {b y : Int} (h1 : a = b) (h2 : z = y) : Ending.returned (.tuple #[.int .i64 a, .int .i64 z]) = .returned (.tuple #[.int .i64 b, .int .i64 y]) := by rw [h1, h2]
theorem yr_stop {s : ByteArray} {k : Nat} (h : k < s.size) (hc : Dy.isd s[k] = false) : Mo.yr s.data.toList = 0 := by
  unfold Mo.yr
  rw [if_neg]
  rintro ⟨_, h2, _⟩
  have := List.all_eq_true.1 h2 s[k] (List.mem_of_getElem? (Lib.data_getElem? s k h))
  rw [hc] at this
  cases this
/-- What readYear answers. -/
def YrE (y : Int) (e : Ending) : Prop := if y = 0 then e = .returned (.tuple #[.int .i64 0, .int .i64 4]) else e = .returned (.tuple #[.int .i64 y, .int .i64 0])
theorem yrE_no {y : Int} (h : y = 0) : YrE y (.returned (.tuple #[.int .i64 0, .int .i64 4])) := by unfold YrE; rw [if_pos h]
theorem yrE_yes {y v : Int} (h : y = v) (h0 : v ≠ 0) : YrE y (.returned (.tuple #[.int .i64 v, .int .i64 0])) := by subst h; unfold YrE; rw [if_neg h0]
set_option maxHeartbeats 1000000 in
theorem readYear_any (s : ByteArray) (w : World) (hs : s.size ≤ 4294967296) : Calls Tryz.prog 201 #[.string s] w fun e w' => YrE (Mo.yr s.data.toList) e ∧ w = w' := by
  have hz : s.data.toList.length = s.size := by simp
  by_cases h4 : s.size ≤ 4
  · have HZ := Lib.hid hz
    clear hz
    go_enter Tryz.func201, Tryz.ntmps201
    go_wp2_with fail
    go_loop [4, 11] (fun v i => ∃ k : Nat, k ≤ s.size ∧ i = .int .i64 k ∧ v = .int .i64 (Mo.yv (s.data.toList.take k)) ∧ (s.data.toList.take k).all Dy.isd = true) (fun _ i => s.size - (intOf i).toNat)
    case atStart => exact ⟨0, Nat.zero_le _, rfl, rfl, rfl⟩
    case round =>
      obtain ⟨k, hk, rfl, rfl, hA⟩ := hrel
      have hB := yv_bd k (s.data.toList.take k) (by rw [List.length_take, HZ.out]; omega) (by omega) hA
      have hB4 : Mo.yv (s.data.toList.take k) < 10000 := by
        have := pow_le4 k (by omega)
        omega
      have hB0 := hB.1
      clear hB
      by_cases hlt : k < s.size
      · have hi0 := idx_any s .i64 k hlt
        have hT := yd_take s k hlt
        rcases isd_cases s[k] with ⟨hd, g1, g2⟩ | ⟨hd, g1⟩ | ⟨hd, g1, g2⟩
        · have HV := Lib.hid (show Mo.yv (s.data.toList.take (k + 1)) = 10 * Mo.yv (s.data.toList.take k) + ((s[k].toNat : Int) - 48) by rw [hT, yv_snoc])
          have HA := Lib.hid (show (s.data.toList.take (k + 1)).all Dy.isd = true by rw [hT, List.all_append, hA]; simp [hd])
          have t1 : ¬ (s[k].toNat : Int) < 48 := by omega
          have t2 : ¬ 57 < (s[k].toNat : Int) := by omega
          generalize s[k].toNat = x at *
          generalize Mo.yv (s.data.toList.take k) = V at *
          clear hT hd hA g1 g2
          go_wp2_with fail
          go_round
          case rel => exact ⟨k + 1, by omega, by go_num, by rw [HV.out], HA.out⟩
          case measure => simp [intOf]; omega
        · have HE := Lib.hid (yrE_no (yr_stop hlt hd))
          have t1 : (s[k].toNat : Int) < 48 := by omega
          generalize s[k].toNat = x at *
          clear hT hd hA g1
          go_wp2_with fail
          go_ret2
          exact ⟨HE.out, rfl⟩
        · have HE := Lib.hid (yrE_no (yr_stop hlt hd))
          have t1 : ¬ (s[k].toNat : Int) < 48 := by omega
          have t2 : 57 < (s[k].toNat : Int) := by omega
          generalize s[k].toNat = x at *
          clear hT hd hA g1 g2
          go_wp2_with fail
          go_ret2
          exact ⟨HE.out, rfl⟩
      · obtain rfl : k = s.size := by omega
        rw [show s.data.toList.take s.size = s.data.toList from List.take_of_length_le (by rw [HZ.out]; exact Nat.le_refl _)] at *
        by_cases h1 : 1 ≤ Mo.yv s.data.toList
        · have HE := Lib.hid (yrE_yes (show Mo.yr s.data.toList = Mo.yv s.data.toList by unfold Mo.yr; rw [if_pos ⟨by rw [HZ.out]; exact h4, hA, h1⟩]) (by omega))
          generalize Mo.yv s.data.toList = V at *
          clear hA hlt
          go_wp2_with fail
          refine (isYear_yes V _ h1 (by omega)).mono ?_
          rintro e w' ⟨rfl, rfl⟩
          go_wp2_with fail
          go_ret2
          exact ⟨HE.out, rfl⟩
        · have HE := Lib.hid (yrE_no (show Mo.yr s.data.toList = 0 by unfold Mo.yr; rw [if_neg (fun h => h1 h.2.2)]))
          have H1 := Lib.hid (show Mo.yv s.data.toList < 1 ∨ 9999 < Mo.yv s.data.toList by omega)
          generalize Mo.yv s.data.toList = V at *
          clear hA hlt h1
          go_wp2_with fail
          refine (isYear_no V _ H1.out).mono ?_
          rintro e w' ⟨rfl, rfl⟩
          go_wp2_with fail
          go_ret2
          exact ⟨HE.out, rfl⟩
  · have HE := Lib.hid (yrE_no (show Mo.yr s.data.toList = 0 by unfold Mo.yr; rw [if_neg (fun h => h4 (by rw [← hz]; exact h.1))]))
    have h4' : 4 < s.size := by omega
    clear hz h4
    go_enter Tryz.func201, Tryz.ntmps201
    go_wp2_with fail
    go_ret2
    exact ⟨HE.out, rfl⟩
end Go.Proofs.YtkcbmnboccjnnaaGreatDoor
/- Contracts of package moment: readMonth, readPart. -/

namespace Go.Proofs.YtkcbmnboccjnnaaGreatDoor
open Go.RowKit
/-- An until's seven numbers. -/
structure Ut where
  y : Int
  m : Int
  k : Int
  n : Int
  d : Int
  s : Int
  c : Int
@[reducible] def utV (u : Ut) : Value := .agg #[.int .i64 u.y, .int .i64 u.m, .int .u8 u.k, .int .i64 u.n, .int .i64 u.d, .int .i64 u.s, .int .u8 u.c]
/-- What a text at a place makes of an until, and why it makes none. -/
def Mo.step (i : Nat) (t : ByteArray) (u : Ut) : Ut × Int :=
  match i with
  | 0 => ({ u with y := Mo.yr t.data.toList }, if Mo.yr t.data.toList = 0 then 4 else 0)
  | 1 => ({ u with m := Wd.pick t Wd.mons + 1 }, if Wd.pick t Wd.mons + 1 = 0 then 7 else 0)
  | 2 => match Dy.prs t with
    | some (k, n, d) => ({ u with k := k, n := n, d := d }, 0)
    | none => ({ u with k := 0, n := 0, d := 0 }, 4)
  | _ => ({ u with s := (Mo.prs t.data.toList).1, c := (Mo.prs t.data.toList).2.1 }, (Mo.prs t.data.toList).2.2)
/-- An until at block g. -/
structure Un (w : World) (B g : Nat) (u : Ut) : Prop where
  base : B ≤ g
  lt : g < w.heap.size
  c0 : w.cell? ⟨g, 0, none⟩ = some (.int .i64 u.y)
  c1 : w.cell? ⟨g, 1, none⟩ = some (.int .i64 u.m)
  c2 : w.cell? ⟨g, 2, none⟩ = some (.int .u8 u.k)
  c3 : w.cell? ⟨g, 3, none⟩ = some (.int .i64 u.n)
  c4 : w.cell? ⟨g, 4, none⟩ = some (.int .i64 u.d)
  c5 : w.cell? ⟨g, 5, none⟩ = some (.int .i64 u.s)
  c6 : w.cell? ⟨g, 6, none⟩ = some (.int .u8 u.c)
  f0 : w.frozen? ⟨g, 0, none⟩ = false
  f1 : w.frozen? ⟨g, 1, none⟩ = false
  f2 : w.frozen? ⟨g, 2, none⟩ = false
  f3 : w.frozen? ⟨g, 3, none⟩ = false
  f4 : w.frozen? ⟨g, 4, none⟩ = false
  f5 : w.frozen? ⟨g, 5, none⟩ = false
  f6 : w.frozen? ⟨g, 6, none⟩ = false
theorem Un.below {w w' : World} {B g : Nat} {u : Ut} (h : Un w B g u) (hb : Below w.heap.size w w') : Un w' B g u := by
  obtain ⟨hc, hf⟩ := bcell hb
  have hl := h.lt
  exact ⟨h.base, Nat.lt_of_lt_of_le hl hb.size, (hc _ _ hl).trans h.c0, (hc _ _ hl).trans h.c1, (hc _ _ hl).trans h.c2, (hc _ _ hl).trans h.c3, (hc _ _ hl).trans h.c4, (hc _ _ hl).trans h.c5, (hc _ _ hl).trans h.c6,
    (hf _ _ hl).trans h.f0, (hf _ _ hl).trans h.f1, (hf _ _ hl).trans h.f2, (hf _ _ hl).trans h.f3, (hf _ _ hl).trans h.f4, (hf _ _ hl).trans h.f5, (hf _ _ hl).trans h.f6⟩
theorem readMonth_any (t : ByteArray) (w : World) (hs : t.size ≤ 4294967296) : Calls Tryz.prog 202 #[.string t] w fun e w' => e = .returned (.tuple #[.int .i64 (Wd.pick t Wd.mons + 1), .int .i64 (if Wd.pick t Wd.mons + 1 = 0 then 7 else 0)]) ∧ Below w.heap.size w w' := by
  have hb1 := Wd.pick_ge t Wd.mons
  have hm := monthWord_any t
  by_cases h : Wd.pick t Wd.mons + 1 = 0
  · rw [if_pos h, h]
    rw [h] at hm
    have HM := Lib.hid hm
    clear h hm hb1
    go_enter Tryz.func202, Tryz.ntmps202
    go_wp2_with fail
    refine (HM.out _ hs).mono ?_
    rintro e w1 ⟨rfl, b1⟩
    go_wp2_with fail
    go_ret2
    exact ⟨rfl, b1⟩
  · rw [if_neg h]
    have t1 : (Wd.pick t Wd.mons + 1 == 0) = false := by rw [beq_eq_false_iff_ne]; exact h
    generalize Wd.pick t Wd.mons + 1 = p at *
    have HM := Lib.hid hm
    clear h hm
    go_enter Tryz.func202, Tryz.ntmps202
    go_wp2_with fail
    refine (HM.out _ hs).mono ?_
    rintro e w1 ⟨rfl, b1⟩
    go_wp2_with fail
    go_ret2
    exact ⟨rfl, b1⟩
section
variable (B g : Nat) (t : ByteArray) (u : Ut) (w : World)
theorem part0 (z v : Int) (hu : Un w B g u) (hR : Hid (∀ W, Calls Tryz.prog 201 #[.string t] W fun e w' => e = .returned (.tuple #[.int .i64 v, .int .i64 z]) ∧ W = w')) :
    Calls Tryz.prog 174 #[.pointer (some ⟨g, 0, none⟩), .int .i64 0, .string t] w fun e w' => e = .returned (.int .i64 z) ∧ Un w' B g { u with y := v } ∧ Below B w w' := by
  obtain ⟨hB, hl, c0, c1, c2, c3, c4, c5, c6, f0, f1, f2, f3, f4, f5, f6⟩ := hu
  go_enter Tryz.func174, Tryz.ntmps174
  go_wp2_with fail
  refine (hR.out _).mono ?_
  rintro e w' ⟨rfl, rfl⟩
  go_wp2_with fail
  go_ret
  refine ⟨rfl, ⟨hB, by simpa using hl, by go_simp, by go_simp, by go_simp, by go_simp, by go_simp, by go_simp, by go_simp, by go_simp, by go_simp, by go_simp, by go_simp, by go_simp, by go_simp, by go_simp⟩, ?_⟩
  repeat (first | exact Below.refl _ _ | assumption | refine below_drewN ?_ _ | refine Below.drew ?_ | refine Below.setCell ?_ (by first | omega | (simp; done) | (simp; omega)) _ | refine Below.alloc ?_ (by first | omega | (simp; done) | (simp; omega)) _)
theorem part1 (z v : Int) (hu : Un w B g u) (hR : Hid (∀ W, Calls Tryz.prog 202 #[.string t] W fun e w' => e = .returned (.tuple #[.int .i64 v, .int .i64 z]) ∧ Below W.heap.size W w')) :
    Calls Tryz.prog 174 #[.pointer (some ⟨g, 0, none⟩), .int .i64 1, .string t] w fun e w' => e = .returned (.int .i64 z) ∧ Un w' B g { u with m := v } ∧ Below B w w' := by
  have HU := Lib.hid hu
  have hB := hu.base
  have hl0 := hu.lt
  clear hu
  go_enter Tryz.func174, Tryz.ntmps174
  go_wp2_with fail
  refine (hR.out _).mono ?_
  rintro e w1 ⟨rfl, b1⟩
  obtain ⟨_, hl, c0, c1, c2, c3, c4, c5, c6, f0, f1, f2, f3, f4, f5, f6⟩ := HU.out.below b1
  have a1 := b1.mono (show B ≤ w.heap.size by omega)
  clear b1 HU
  go_wp2_with fail
  go_ret
  refine ⟨rfl, ⟨hB, by simpa using hl, by go_simp, by go_simp, by go_simp, by go_simp, by go_simp, by go_simp, by go_simp, by go_simp, by go_simp, by go_simp, by go_simp, by go_simp, by go_simp, by go_simp⟩, ?_⟩
  repeat (first | exact Below.refl _ _ | assumption | refine below_drewN ?_ _ | refine Below.drew ?_ | refine Below.setCell ?_ (by first | omega | (simp; done) | (simp; omega)) _ | refine Below.alloc ?_ (by first | omega | (simp; done) | (simp; omega)) _)
theorem part2 (z k n d : Int) (hu : Un w B g u) (hR : Hid (∀ W, Below w.heap.size w W → Calls Tryz.prog 181 #[.string t] W fun e w' => e = .returned (.tuple #[.agg #[.int .u8 k, .int .i64 n, .int .i64 d], .int .i64 z]) ∧ Below W.heap.size W w')) :
    Calls Tryz.prog 174 #[.pointer (some ⟨g, 0, none⟩), .int .i64 2, .string t] w fun e w' => e = .returned (.int .i64 z) ∧ Un w' B g { u with k := k, n := n, d := d } ∧ Below B w w' := by
  have HU := Lib.hid hu
  have hB := hu.base
  have hl0 := hu.lt
  clear hu
  go_enter Tryz.func174, Tryz.ntmps174
  go_wp2_with fail
  refine (hR.out _ (Below.refl _ _)).mono ?_
  rintro e w1 ⟨rfl, b1⟩
  obtain ⟨_, hl, c0, c1, c2, c3, c4, c5, c6, f0, f1, f2, f3, f4, f5, f6⟩ := HU.out.below b1
  have a1 := b1.mono (show B ≤ w.heap.size by omega)
  clear b1 HU
  go_wp2_with fail
  go_ret
  refine ⟨rfl, ⟨hB, by simpa using hl, by go_simp, by go_simp, by go_simp, by go_simp, by go_simp, by go_simp, by go_simp, by go_simp, by go_simp, by go_simp, by go_simp, by go_simp, by go_simp, by go_simp⟩, ?_⟩
  repeat (first | exact Below.refl _ _ | assumption | refine below_drewN ?_ _ | refine Below.drew ?_ | refine Below.setCell ?_ (by first | omega | (simp; done) | (simp; omega)) _ | refine Below.alloc ?_ (by first | omega | (simp; done) | (simp; omega)) _)
theorem part3 (z s c : Int) (hu : Un w B g u) (hR : Hid (∀ W, Below w.heap.size w W → Calls Tryz.prog 182 #[.string t] W fun e w' => e = .returned (.tuple #[.agg #[.int .i64 s, .int .u8 c], .int .i64 z]) ∧ Below W.heap.size W w')) :
    Calls Tryz.prog 174 #[.pointer (some ⟨g, 0, none⟩), .int .i64 3, .string t] w fun e w' => e = .returned (.int .i64 z) ∧ Un w' B g { u with s := s, c := c } ∧ Below B w w' := by
  have HU := Lib.hid hu
  have hB := hu.base
  have hl0 := hu.lt
  clear hu
  go_enter Tryz.func174, Tryz.ntmps174
  go_wp2_with fail
  refine (hR.out _ (Below.refl _ _)).mono ?_
  rintro e w1 ⟨rfl, b1⟩
  obtain ⟨_, hl, c0, c1, c2, c3, c4, c5, c6, f0, f1, f2, f3, f4, f5, f6⟩ := HU.out.below b1
  have a1 := b1.mono (show B ≤ w.heap.size by omega)
  clear b1 HU
  go_wp2_with fail
  go_ret
  refine ⟨rfl, ⟨hB, by simpa using hl, by go_simp, by go_simp, by go_simp, by go_simp, by go_simp, by go_simp, by go_simp, by go_simp, by go_simp, by go_simp, by go_simp, by go_simp, by go_simp, by go_simp⟩, ?_⟩
  repeat (first | exact Below.refl _ _ | assumption | refine below_drewN ?_ _ | refine Below.drew ?_ | refine Below.setCell ?_ (by first | omega | (simp; done) | (simp; omega)) _ | refine Below.alloc ?_ (by first | omega | (simp; done) | (simp; omega)) _)
theorem part_any (i : Nat) (hi : i < 4) (hE : Env w) (ht : t.size ≤ 4096) (hu : Un w B g u) :
    Calls Tryz.prog 174 #[.pointer (some ⟨g, 0, none⟩), .int .i64 (i : Int), .string t] w fun e w' => e = .returned (.int .i64 (Mo.step i t u).2) ∧ Un w' B g (Mo.step i t u).1 ∧ Below B w w' := by
  have hi4 : i = 0 ∨ i = 1 ∨ i = 2 ∨ i = 3 := by omega
  rcases hi4 with rfl | rfl | rfl | rfl
  · have h : ∀ W, Calls Tryz.prog 201 #[.string t] W fun e w' => e = .returned (.tuple #[.int .i64 (Mo.yr t.data.toList), .int .i64 (if Mo.yr t.data.toList = 0 then 4 else 0)]) ∧ W = w' := fun W =>
      (readYear_any t W (by omega)).mono fun e w' ⟨he, hw⟩ => ⟨by
        unfold YrE at he
        split at he
        · rename_i h0
          rw [he, h0, if_pos rfl]
        · rename_i h0
          rw [he, if_neg h0], hw⟩
    exact part0 B g t u w _ _ hu (Lib.hid h)
  · exact part1 B g t u w _ _ hu (Lib.hid fun W => readMonth_any t W (by omega))
  · show Calls Tryz.prog 174 #[.pointer (some ⟨g, 0, none⟩), .int .i64 2, .string t] w fun e w' => e = .returned (.int .i64 (Mo.step 2 t u).2) ∧ Un w' B g (Mo.step 2 t u).1 ∧ Below B w w'
    have hM : Mx w := hE.longest
    cases hp : Dy.prs t with
    | none =>
      have e : Mo.step 2 t u = ({ u with k := 0, n := 0, d := 0 }, 4) := by unfold Mo.step; rw [hp]; rfl
      rw [e]
      exact part2 B g t u w _ _ _ _ hu (Lib.hid fun W hW => dparse_no t W (hM.below hW) (by omega) hp)
    | some r =>
      obtain ⟨k, n, d⟩ := r
      have e : Mo.step 2 t u = ({ u with k := k, n := n, d := d }, 0) := by unfold Mo.step; rw [hp]; rfl
      rw [e]
      exact part2 B g t u w _ _ _ _ hu (Lib.hid fun W hW => dparse_yes t k n d W (hM.below hW) (by omega) hp)
  · exact part3 B g t u w _ _ _ hu (Lib.hid fun W hW => mparse_any t W (hE.below hW) ht)
end
end Go.Proofs.YtkcbmnboccjnnaaGreatDoor
/- Contract of package moment: ParseUntil. -/

namespace Go.Proofs.YtkcbmnboccjnnaaGreatDoor
open Go.RowKit
def Ut.zero : Ut := ⟨0, 0, 0, 0, 0, 0, 0⟩
def Ut.first : Ut := ⟨0, 1, 0, 1, 0, 0, 0⟩
/-- What texts from a place on make of an until: it, or the place of what makes none, and why. -/
def Mo.run : Nat → List ByteArray → Ut → Ut × Nat × Int
  | _, [], u => (u, 0, 0)
  | i, t :: l, u => if (Mo.step i t u).2 = 0 then Mo.run (i + 1) l (Mo.step i t u).1 else (Ut.zero, i, (Mo.step i t u).2)
/-- The until that texts tell, or the place of what tells none, and why. -/
def Mo.prsU (L : List ByteArray) : Ut × Nat × Int := if L = [] then (Ut.zero, 0, 5) else if 4 < L.length then (Ut.zero, 4, 6) else Mo.run 0 L Ut.first
def UPrsE (r : Ut × Nat × Int) (e : Ending) : Prop := e = .returned (.tuple #[utV r.1, .int .i64 (r.2.1 : Nat), .int .i64 r.2.2])
theorem uprsE_of {r : Ut × Nat × Int} {u : Ut} {i : Nat} {z : Int} (h : r = (u, i, z)) : UPrsE r (.returned (.tuple #[.agg #[.int .i64 u.y, .int .i64 u.m, .int .u8 u.k, .int .i64 u.n, .int .i64 u.d, .int .i64 u.s, .int .u8 u.c], .int .i64 (i : Int), .int .i64 z])) := by
  subst h
  rfl
theorem Un.stay {w w' : World} {B B' g : Nat} {u : Ut} (h : Un w B g u) (hb : Below B' w w') (hg : g < B') : Un w' B g u := by
  have hc : ∀ o, w'.cell? ⟨g, o, none⟩ = w.cell? ⟨g, o, none⟩ := fun o => hb.cell (p := ⟨g, o, none⟩) hg
  have hf : ∀ o, w'.frozen? ⟨g, o, none⟩ = w.frozen? ⟨g, o, none⟩ := fun o => hb.frozen (p := ⟨g, o, none⟩) hg
  exact ⟨h.base, Nat.lt_of_lt_of_le h.lt hb.size, (hc _).trans h.c0, (hc _).trans h.c1, (hc _).trans h.c2, (hc _).trans h.c3, (hc _).trans h.c4, (hc _).trans h.c5, (hc _).trans h.c6,
    (hf _).trans h.f0, (hf _).trans h.f1, (hf _).trans h.f2, (hf _).trans h.f3, (hf _).trans h.f4, (hf _).trans h.f5, (hf _).trans h.f6⟩
theorem uprs_none (A : Option Addr) (c : Nat) (w : World) : Calls Tryz.prog 146 #[.slice A 0 c] w fun e w' => UPrsE (Mo.prsU []) e ∧ Below w.heap.size w w' := by
  go_enter Tryz.func146, Tryz.ntmps146
  go_wp2_with fail
  refine bodyPost_ret (v := .tuple #[.agg #[.int .i64 0, .int .i64 0, .int .u8 0, .int .i64 0, .int .i64 0, .int .i64 0, .int .u8 0], .int .i64 0, .int .i64 5]) (by simp [results, Tryz.results146, go_sem]) rfl ⟨rfl, ?_⟩
  repeat (first | exact Below.refl _ _ | assumption | refine below_drewN ?_ _ | refine Below.drew ?_ | refine Below.setCell ?_ (by first | omega | (simp; done) | (simp; omega)) _ | refine Below.alloc ?_ (by first | omega | (simp; done) | (simp; omega)) _)
theorem uprs_long (A : Option Addr) (n c : Nat) (L : List ByteArray) (w : World) (h : 4 < n) (hn : n ≤ 4294967296) (hl : Hid (L.length = n)) : Calls Tryz.prog 146 #[.slice A n c] w fun e w' => UPrsE (Mo.prsU L) e ∧ Below w.heap.size w w' := by
  have HE := Lib.hid (uprsE_of (show Mo.prsU L = (Ut.zero, 4, 6) by
    unfold Mo.prsU
    rw [if_neg (by intro e; rw [e] at hl; have := hl.out; simp at this; omega), if_pos (by rw [hl.out]; exact h)]))
  have t0 : ((n : Int) == 0) = false := by rw [beq_eq_false_iff_ne]; omega
  go_enter Tryz.func146, Tryz.ntmps146
  go_wp2_with fail
  refine bodyPost_ret (v := .tuple #[.agg #[.int .i64 0, .int .i64 0, .int .u8 0, .int .i64 0, .int .i64 0, .int .i64 0, .int .u8 0], .int .i64 4, .int .i64 6]) (by simp [results, Tryz.results146, go_sem]) rfl ⟨HE.out, ?_⟩
  repeat (first | exact Below.refl _ _ | assumption | refine below_drewN ?_ _ | refine Below.drew ?_ | refine Below.setCell ?_ (by first | omega | (simp; done) | (simp; omega)) _ | refine Below.alloc ?_ (by first | omega | (simp; done) | (simp; omega)) _)
set_option maxRecDepth 100000 in
set_option maxHeartbeats 2000000 in
theorem uprs_run (A : Option Addr) (n c : Nat) (L : List ByteArray) (hl : Hid (L.length = n)) (n1 : 1 ≤ n) (n4 : n ≤ 4) (hL : Hid (∀ i, i < n → (L.getD i ByteArray.empty).size ≤ 4096)) (w : World) (HE : Hid (Env w)) (hS : Hid (Sl w w.heap.size A n (fun i => .string (L.getD i ByteArray.empty)))) :
    Calls Tryz.prog 146 #[.slice A n c] w fun e w' => UPrsE (Mo.run 0 L Ut.first) e ∧ Below w.heap.size w w' := by
  have t0 : ((n : Int) == 0) = false := by rw [beq_eq_false_iff_ne]; omega
  have t1 : decide (4 < n) = false := by simp; omega
  go_enter Tryz.func146, Tryz.ntmps146
  go_wp2_with fail
  go_loopw [21] (fun i wr => ∃ (k : Nat) (u : Ut), k ≤ n ∧ i = .int .i64 k ∧ Hid (Mo.run 0 L Ut.first = Mo.run k (L.drop k) u) ∧ Un wr w.heap.size w.heap.size Ut.zero ∧ Un wr (w.heap.size + 1) (w.heap.size + 1) u ∧ Below w.heap.size w wr) (fun i _ => n - (intOf i).toNat)
  case atStart =>
    refine ⟨0, Ut.first, Nat.zero_le _, rfl, Lib.hid rfl, ⟨Nat.le_refl _, by simp; omega, by go_simp; rfl, by go_simp; rfl, by go_simp; rfl, by go_simp; rfl, by go_simp; rfl, by go_simp; rfl, by go_simp; rfl, by go_simp, by go_simp, by go_simp, by go_simp, by go_simp, by go_simp, by go_simp⟩, ⟨Nat.le_refl _, by simp, by go_simp; rfl, by go_simp; rfl, by go_simp; rfl, by go_simp; rfl, by go_simp; rfl, by go_simp; rfl, by go_simp; rfl, by go_simp, by go_simp, by go_simp, by go_simp, by go_simp, by go_simp, by go_simp⟩, ?_⟩
    repeat (first | exact Below.refl _ _ | assumption | refine below_drewN ?_ _ | refine Below.drew ?_ | refine Below.setCell ?_ (by first | omega | (simp; done) | (simp; omega)) _ | refine Below.alloc ?_ (by first | omega | (simp; done) | (simp; omega)) _)
  case round =>
    obtain ⟨k, u, hk, rfl, hG, hR, hU, hbw⟩ := hrel
    have hEw := HE.out.below hbw
    by_cases hlt : k < n
    · obtain ⟨ad, rfl, hal, hc⟩ := (hS.out.below hbw).at_ hlt
      change wr.cell? (ad.add k) = some (.string (L.getD k ByteArray.empty)) at hc
      have hz := hL.out k hlt
      have hd : L.drop k = L.getD k ByteArray.empty :: L.drop (k + 1) := by
        have hkl : k < L.length := by rw [hl.out]; exact hlt
        rw [List.drop_eq_getElem_cons hkl, List.getD_eq_getElem?_getD, List.getElem?_eq_getElem hkl]
        rfl
      have hG2 := hG.out
      rw [hd] at hG2
      generalize L.getD k ByteArray.empty = X at *
      have HP := Lib.hid (fun W (hE : Env W) (h : Un W (w.heap.size + 1) (w.heap.size + 1) u) => part_any (w.heap.size + 1) (w.heap.size + 1) X u W k (by omega) hE hz h)
      by_cases h0 : (Mo.step k X u).2 = 0
      · have HG := Lib.hid (show Mo.run 0 L Ut.first = Mo.run (k + 1) (L.drop (k + 1)) (Mo.step k X u).1 by rw [hG2, Mo.run, if_pos h0])
        rw [h0] at HP
        have HEw := Lib.hid hEw
        have HR := Lib.hid hR
        have HU := Lib.hid hU
        clear hd hG hG2 h0 hEw hR hU
        go_wp2_with fail
        refine (HP.out _ HEw.out HU.out).mono ?_
        rintro e w1 ⟨rfl, u1, b1⟩
        have r1 := HR.out.stay b1 (Nat.lt_succ_self _)
        have a1 := hbw.trans (b1.mono (Nat.le_succ _))
        go_wp2_with fail
        go_roundw
        case rel => exact ⟨k + 1, _, by omega, by go_num, HG, r1, u1, a1⟩
        case measure => simp [intOf]; omega
      · have HRE := Lib.hid (uprsE_of (show Mo.run 0 L Ut.first = (Ut.zero, k, (Mo.step k X u).2) by rw [hG2, Mo.run, if_neg h0]))
        have t5 : ((Mo.step k X u).2 != 0) = true := by rw [bne_iff_ne]; exact h0
        generalize (Mo.step k X u).2 = z at *
        have HEw := Lib.hid hEw
        have HR := Lib.hid hR
        have HU := Lib.hid hU
        clear hd hG hG2 h0 hEw hR hU
        go_wp2_with fail
        refine (HP.out _ HEw.out HU.out).mono ?_
        rintro e w1 ⟨rfl, u1, b1⟩
        have r1 := HR.out.stay b1 (Nat.lt_succ_self _)
        have a1 := hbw.trans (b1.mono (Nat.le_succ _))
        obtain ⟨_, hl1, c0, c1, c2, c3, c4, c5, c6, f0, f1, f2, f3, f4, f5, f6⟩ := r1
        clear u1 b1
        go_wp2_with fail
        refine bodyPost_ret (v := .tuple #[.agg #[.int .i64 0, .int .i64 0, .int .u8 0, .int .i64 0, .int .i64 0, .int .i64 0, .int .u8 0], .int .i64 (k : Int), .int .i64 z]) (by simp [results, Tryz.results146, go_sem, c0, c1, c2, c3, c4, c5, c6]) rfl ⟨HRE.out, ?_⟩
        exact (((((((a1).setCell (Nat.le_refl _) _).setCell (Nat.le_refl _) _).setCell (Nat.le_refl _) _).setCell (Nat.le_refl _) _).setCell (Nat.le_refl _) _).setCell (Nat.le_refl _) _).setCell (Nat.le_refl _) _
    · obtain rfl : k = n := by omega
      have hG2 := hG.out
      rw [List.drop_of_length_le (by rw [hl.out]; exact Nat.le_refl _), Mo.run] at hG2
      have HRE := Lib.hid (uprsE_of hG2)
      obtain ⟨uy, um, uk, un, ud, us, uc⟩ := u
      obtain ⟨_, hl1, c0, c1, c2, c3, c4, c5, c6, f0, f1, f2, f3, f4, f5, f6⟩ := hR
      obtain ⟨_, hl2, d0, d1, d2, d3, d4, d5, d6, _, _, _, _, _, _, _⟩ := hU
      clear hG hG2 hEw hlt
      go_wp2_with fail
      refine bodyPost_ret (v := .tuple #[.agg #[.int .i64 uy, .int .i64 um, .int .u8 uk, .int .i64 un, .int .i64 ud, .int .i64 us, .int .u8 uc], .int .i64 0, .int .i64 0]) (by simp [results, Tryz.results146, go_sem, c0, c1, c2, c3, c4, c5, c6]) rfl ⟨HRE.out, ?_⟩
      exact (((((((hbw).setCell (Nat.le_refl _) _).setCell (Nat.le_refl _) _).setCell (Nat.le_refl _) _).setCell (Nat.le_refl _) _).setCell (Nat.le_refl _) _).setCell (Nat.le_refl _) _).setCell (Nat.le_refl _) _
theorem uprs_any (A : Option Addr) (n c : Nat) (L : List ByteArray) (hl : L.length = n) (hn : n ≤ 4294967296) (hL : n ≤ 4 → ∀ i, i < n → (L.getD i ByteArray.empty).size ≤ 4096) (w : World) (hE : Env w) (B : Nat) (hB : B ≤ w.heap.size) (hS : Sl w B A n (fun i => .string (L.getD i ByteArray.empty))) :
    Calls Tryz.prog 146 #[.slice A n c] w fun e w' => UPrsE (Mo.prsU L) e ∧ Below w.heap.size w w' := by
  by_cases h0 : n = 0
  · subst h0
    obtain rfl := List.eq_nil_of_length_eq_zero hl
    exact uprs_none A c w
  · by_cases h4 : 4 < n
    · exact uprs_long A n c L w h4 hn (Lib.hid hl)
    · rw [show Mo.prsU L = Mo.run 0 L Ut.first by
        unfold Mo.prsU
        rw [if_neg (by intro e; rw [e] at hl; simp at hl; omega), if_neg (by omega)]]
      have hS' : Sl w w.heap.size A n (fun i => .string (L.getD i ByteArray.empty)) := by
        intro hp
        obtain ⟨ad, e, hb, hc⟩ := hS hp
        exact ⟨ad, e, Nat.lt_of_lt_of_le hb hB, hc⟩
      exact uprs_run A n c L (Lib.hid hl) (by omega) (by omega) (Lib.hid (hL (by omega))) w (Lib.hid hE) (Lib.hid hS')
end Go.Proofs.YtkcbmnboccjnnaaGreatDoor
/- Contracts of package moment: needed, TextUntil. -/



namespace Go.Proofs.YtkcbmnboccjnnaaGreatDoor
open Go.RowKit
/-- Four texts at block g. -/
structure Four (w : World) (g : Nat) (T0 T1 T2 T3 : ByteArray) : Prop where
  lt : g < w.heap.size
  c0 : w.cell? ⟨g, 0, none⟩ = some (.string T0)
  c1 : w.cell? ⟨g, 1, none⟩ = some (.string T1)
  c2 : w.cell? ⟨g, 2, none⟩ = some (.string T2)
  c3 : w.cell? ⟨g, 3, none⟩ = some (.string T3)
theorem Four.below {w w' : World} {g : Nat} {T0 T1 T2 T3 : ByteArray} (h : Four w g T0 T1 T2 T3) (hb : Below w.heap.size w w') : Four w' g T0 T1 T2 T3 := by
  obtain ⟨hc, _⟩ := bcell hb
  exact ⟨Nat.lt_of_lt_of_le h.lt hb.size, (hc _ _ h.lt).trans h.c0, (hc _ _ h.lt).trans h.c1, (hc _ _ h.lt).trans h.c2, (hc _ _ h.lt).trans h.c3⟩
section
variable (g : Nat) (T0 T1 T2 T3 : ByteArray) (w : World)
theorem needed_4 (h : Four w g T0 T1 T2 T3) (h3 : (T3.toList == [48, 58, 48, 48]) = false) : Calls Tryz.prog 138 #[.slice (some ⟨g, 0, none⟩) 4 4] w fun e w' => e = .returned (.int .i64 4) ∧ Below w.heap.size w w' := by
  obtain ⟨hl, c0, c1, c2, c3⟩ := h
  go_enter Tryz.func138, Tryz.ntmps138
  go_wp2_with fail
  refine wp_loop_rounds 1 ?_
  rw [rounds_succ]
  go_wp2_with fail
  go_quiet (fail)
  go_wp2_with fail
  go_ret
  refine ⟨rfl, ?_⟩
  repeat (first | exact Below.refl _ _ | assumption | refine below_drewN ?_ _ | refine Below.drew ?_ | refine Below.setCell ?_ (by first | omega | (simp; done) | (simp; omega)) _ | refine Below.alloc ?_ (by first | omega | (simp; done) | (simp; omega)) _)
theorem needed_3 (h : Four w g T0 T1 T2 ⟨#[48, 58, 48, 48]⟩) (h2 : (T2.toList == [49]) = false) : Calls Tryz.prog 138 #[.slice (some ⟨g, 0, none⟩) 4 4] w fun e w' => e = .returned (.int .i64 3) ∧ Below w.heap.size w w' := by
  obtain ⟨hl, c0, c1, c2, c3⟩ := h
  go_enter Tryz.func138, Tryz.ntmps138
  go_wp2_with fail
  refine wp_loop_rounds 2 ?_
  rw [rounds_succ]
  go_wp2_with fail
  go_quiet (fail)
  go_wp2_with fail
  rw [rounds_succ]
  go_wp2_with fail
  go_quiet (fail)
  go_wp2_with fail
  go_ret
  refine ⟨rfl, ?_⟩
  repeat (first | exact Below.refl _ _ | assumption | refine below_drewN ?_ _ | refine Below.drew ?_ | refine Below.setCell ?_ (by first | omega | (simp; done) | (simp; omega)) _ | refine Below.alloc ?_ (by first | omega | (simp; done) | (simp; omega)) _)
theorem needed_2 (h : Four w g T0 T1 ⟨#[49]⟩ ⟨#[48, 58, 48, 48]⟩) (h1 : (T1.toList == [74, 97, 110]) = false) : Calls Tryz.prog 138 #[.slice (some ⟨g, 0, none⟩) 4 4] w fun e w' => e = .returned (.int .i64 2) ∧ Below w.heap.size w w' := by
  obtain ⟨hl, c0, c1, c2, c3⟩ := h
  go_enter Tryz.func138, Tryz.ntmps138
  go_wp2_with fail
  refine wp_loop_rounds 3 ?_
  rw [rounds_succ]
  go_wp2_with fail
  go_quiet (fail)
  go_wp2_with fail
  rw [rounds_succ]
  go_wp2_with fail
  go_quiet (fail)
  go_wp2_with fail
  rw [rounds_succ]
  go_wp2_with fail
  go_quiet (fail)
  go_wp2_with fail
  go_ret
  refine ⟨rfl, ?_⟩
  repeat (first | exact Below.refl _ _ | assumption | refine below_drewN ?_ _ | refine Below.drew ?_ | refine Below.setCell ?_ (by first | omega | (simp; done) | (simp; omega)) _ | refine Below.alloc ?_ (by first | omega | (simp; done) | (simp; omega)) _)
theorem needed_1 (h : Four w g T0 ⟨#[74, 97, 110]⟩ ⟨#[49]⟩ ⟨#[48, 58, 48, 48]⟩) : Calls Tryz.prog 138 #[.slice (some ⟨g, 0, none⟩) 4 4] w fun e w' => e = .returned (.int .i64 1) ∧ Below w.heap.size w w' := by
  obtain ⟨hl, c0, c1, c2, c3⟩ := h
  go_enter Tryz.func138, Tryz.ntmps138
  go_wp2_with fail
  refine wp_loop_rounds 4 ?_
  rw [rounds_succ]
  go_wp2_with fail
  go_quiet (fail)
  go_wp2_with fail
  rw [rounds_succ]
  go_wp2_with fail
  go_quiet (fail)
  go_wp2_with fail
  rw [rounds_succ]
  go_wp2_with fail
  go_quiet (fail)
  go_wp2_with fail
  rw [rounds_succ]
  go_wp2_with fail
  go_quiet (fail)
  go_wp2_with fail
  go_ret
  refine ⟨rfl, ?_⟩
  repeat (first | exact Below.refl _ _ | assumption | refine below_drewN ?_ _ | refine Below.drew ?_ | refine Below.setCell ?_ (by first | omega | (simp; done) | (simp; omega)) _ | refine Below.alloc ?_ (by first | omega | (simp; done) | (simp; omega)) _)
end
end Go.Proofs.YtkcbmnboccjnnaaGreatDoor
/- Contract of package moment: TextUntil. -/


namespace Go.Proofs.YtkcbmnboccjnnaaGreatDoor
open Go.RowKit
theorem itoa_any (n : Int) (w : World) (hE : Env w) (h0 : -9223372036854775808 ≤ n) (h1 : n ≤ 9223372036854775807) :
    Calls Tryz.prog 70 #[.int .i64 n] w fun e w' => e = .returned (.string ⟨(Lib.itoa n).toArray⟩) ∧ Below w.heap.size w w' :=
  (Tryz.strconv_Itoa n h0 h1 w hE.tens).mono fun _ _ ⟨he, k, os, hw⟩ => ⟨he, by rw [hw]; exact Lib.below_grow _ w (Nat.le_refl _) k os⟩
theorem itoa_T (n : Int) (T : ByteArray) (w : World) (hE : Env w) (h0 : -9223372036854775808 ≤ n) (h1 : n ≤ 9223372036854775807) (hT : (⟨(Lib.itoa n).toArray⟩ : ByteArray) = T) :
    Calls Tryz.prog 70 #[.int .i64 n] w fun e w' => e = .returned (.string T) ∧ Below w.heap.size w w' := by
  subst hT
  exact itoa_any n w hE h0 h1
theorem month_T (m : Int) (T : ByteArray) (w : World) (m1 : 1 ≤ m) (m2 : m ≤ 12) (hT : Wd.three Wd.mons (m - 1).toNat = T) : Calls Tryz.prog 72 #[.int .i64 m] w fun e w' => e = .returned (.string T) ∧ Below w.heap.size w w' := by
  subst hT
  have h := monthtext_yes (m - 1).toNat w (by omega)
  rw [show (((m - 1).toNat : Nat) : Int) + 1 = m by omega] at h
  exact h
theorem dtext_T (k n d : Int) (T : ByteArray) (w : World) (h : Dy.right k n d = true) (hT : Dy.txt k n d = T) : Calls Tryz.prog 68 #[.agg #[.int .u8 k, .int .i64 n, .int .i64 d]] w fun e w' => e = .returned (.tuple #[.string T, .int .i64 0]) ∧ Below w.heap.size w w' := by
  subst hT
  exact dtext_yes k n d w h
theorem utext_no (u : Ut) (w : World) (h : Mo.unt u.y u.m u.k u.n u.d u.s u.c = false) : Calls Tryz.prog 85 #[utV u] w fun e w' => e = .returned (.tuple #[.slice none 0 0, .int .i64 2]) ∧ Below w.heap.size w w' := by
  obtain ⟨y, m, k, n, d, s, c⟩ := u
  have H := Lib.hid h
  clear h
  go_enter Tryz.func85, Tryz.ntmps85
  go_wp2_with fail
  refine (isUntil_is y m k n d s c false _ H.out).mono ?_
  rintro e w1 ⟨rfl, b1⟩
  have a1 : Below w.heap.size w w1 := ((Below.refl _ _).alloc (Nat.le_refl _) _).trans (b1.mono (by simp))
  go_wp2_with fail
  go_ret2
  exact ⟨rfl, a1⟩
/-- What TextUntil answers: so many texts of four. -/
def UTxtE (w w' : World) (T0 T1 T2 T3 : ByteArray) (nd : Nat) (e : Ending) : Prop := ∃ g, e = .returned (.tuple #[.slice (some ⟨g, 0, none⟩) nd nd, .int .i64 0]) ∧ w.heap.size ≤ g ∧ Four w' g T0 T1 T2 T3
/-- How many are needed. -/
def NeedE (T0 T1 T2 T3 : ByteArray) (nd : Nat) : Prop := ∀ (g : Nat) (W : World), Four W g T0 T1 T2 T3 → Calls Tryz.prog 138 #[.slice (some ⟨g, 0, none⟩) 4 4] W fun e w' => e = .returned (.int .i64 (nd : Int)) ∧ Below W.heap.size W w'
set_option maxRecDepth 100000 in
set_option maxHeartbeats 4000000 in
theorem utext_in (y m k n d s c : Int) (T0 T1 T2 T3 : ByteArray) (nd : Nat) (w : World) (HE : Hid (Env w)) (H : Hid (Mo.unt y m k n d s c = true)) (y1 : 1 ≤ y) (y2 : y ≤ 9999) (m1 : 1 ≤ m) (m2 : m ≤ 12) (HD : Hid (Dy.right k n d = true)) (HR : Hid (Mo.right s c = true)) (c0 : 0 ≤ c)
    (H0 : Hid ((⟨(Lib.itoa y).toArray⟩ : ByteArray) = T0)) (H1 : Hid (Wd.three Wd.mons (m - 1).toNat = T1)) (H2 : Hid (Dy.txt k n d = T2)) (H3 : Hid (T3.data.toList = Mo.txt s c)) (hN : Hid (NeedE T0 T1 T2 T3 nd)) (nd1 : 1 ≤ nd) (nd4 : nd ≤ 4) :
    Calls Tryz.prog 85 #[.agg #[.int .i64 y, .int .i64 m, .int .u8 k, .int .i64 n, .int .i64 d, .int .i64 s, .int .u8 c]] w fun e w' => UTxtE w w' T0 T1 T2 T3 nd e ∧ Below w.heap.size w w' := by
  go_enter Tryz.func85, Tryz.ntmps85
  go_wp2_with fail
  refine (isUntil_is y m k n d s c true _ H.out).mono ?_
  rintro e w1 ⟨rfl, b1⟩
  obtain ⟨hc1, _⟩ := bcell b1
  have z1 : w.heap.size < w1.heap.size := by have := b1.size; simp at this; omega
  have a1 : Below w.heap.size w w1 := ((Below.refl _ _).alloc (Nat.le_refl _) _).trans (b1.mono (by simp))
  clear b1
  go_wp2_with fail
  refine (dtext_T k n d T2 _ HD.out H2.out).mono ?_
  rintro e w2 ⟨rfl, b2⟩
  obtain ⟨hc2, _⟩ := bcell b2
  have z2 : w.heap.size < w2.heap.size := by have := b2.size; omega
  have a2 := a1.trans (b2.mono a1.size)
  clear b2
  go_wp2_with fail
  refine (mtext_yes s c T3 _ (HE.out.below a2) HR.out c0 H3.out).mono ?_
  rintro e w3 ⟨rfl, b3⟩
  obtain ⟨hc3, _⟩ := bcell b3
  have z3 : w.heap.size < w3.heap.size := by have := b3.size; omega
  have a3 := a2.trans (b3.mono a2.size)
  clear b3
  have e0 : w3.cell? ⟨w.heap.size, 0, none⟩ = some (.int .i64 y) := by rw [hc3 _ _ z2, hc2 _ _ z1, hc1 _ _ (by simp)]; go_simp
  have e1 : w3.cell? ⟨w.heap.size, 1, none⟩ = some (.int .i64 m) := by rw [hc3 _ _ z2, hc2 _ _ z1, hc1 _ _ (by simp)]; go_simp
  have S0 := mkeep_on (w0 := w) (w := w3) (B := w.heap.size) (x := .int .i64 y) (y := .int .i64 m) ⟨e0, e1, z3, HE.out.below a3, a3⟩ (Below.drew (Below.refl _ w3))
  clear hc1 hc2 hc3
  go_wp2_with fail
  go_region_held3 (fun w' => w'.cell? ⟨w.heap.size, 0, none⟩ = some (.int .i64 y) ∧ w'.cell? ⟨w.heap.size, 1, none⟩ = some (.int .i64 m) ∧ MKeep w.heap.size w w')
    (first | assumption | exact mkeep_on (by assumption) (by assumption) | exact mkeep_on (by assumption) ((Below.refl _ _).alloc (Nat.le_refl _) _))
    (first
      | (go_at_call 70; refine (itoa_T y T0 _ (mkeep_env (B := w.heap.size) (w0 := w) (x := .int .i64 y) (y := .int .i64 m) (by assumption)) (by omega) (by omega) H0.out).mono ?_; rintro e w' ⟨rfl, hb⟩)
      | (go_at_call 72; refine (month_T m T1 _ m1 m2 H1.out).mono ?_; rintro e w' ⟨rfl, hb⟩))
  go_wp2_with fail
  have k5 := mkeep_bel (B := w.heap.size) (w0 := w) (w := w'.alloc (.cells #[.string T0, .string T1, .string T2, .string T3] 9)) (x := .int .i64 y) (y := .int .i64 m) (by assumption)
  have k6 : w.heap.size ≤ w'.heap.size := by
    have h : w.heap.size < (w'.alloc (.cells #[.string T0, .string T1, .string T2, .string T3] 9)).heap.size := (show _ ∧ _ ∧ MKeep w.heap.size w (w'.alloc (.cells #[.string T0, .string T1, .string T2, .string T3] 9)) by assumption).2.2.lt
    simp at h
    omega
  have hF : Four (w'.alloc (.cells #[.string T0, .string T1, .string T2, .string T3] 9)) w'.heap.size T0 T1 T2 T3 := ⟨by simp, by go_simp, by go_simp, by go_simp, by go_simp⟩
  refine (hN.out w'.heap.size _ hF).mono ?_
  rintro e w5 ⟨rfl, b5⟩
  have F5 := Lib.hid (hF.below b5)
  have a5 := k5.trans (b5.mono k5.size)
  clear hF b5 k5
  have hnd : nd = 1 ∨ nd = 2 ∨ nd = 3 ∨ nd = 4 := by omega
  rcases hnd with rfl | rfl | rfl | rfl
  all_goals
    go_wp2_with fail
    go_ret2
    exact ⟨⟨_, rfl, k6, F5.out⟩, a5⟩
/-- How many of four texts are needed. -/
def Mo.nd (T1 T2 T3 : List UInt8) : Nat := if T3 = [48, 58, 48, 48] then (if T2 = [49] then (if T1 = [74, 97, 110] then 1 else 2) else 3) else 4
theorem nd_bd (T1 T2 T3 : List UInt8) : 1 ≤ Mo.nd T1 T2 T3 ∧ Mo.nd T1 T2 T3 ≤ 4 := by
  unfold Mo.nd
  split
  · split
    · split
      · exact ⟨by decide, by decide⟩
      · exact ⟨by decide, by decide⟩
    · exact ⟨by decide, by decide⟩
  · exact ⟨by decide, by decide⟩
theorem need_any (T0 T1 T2 T3 : ByteArray) : NeedE T0 T1 T2 T3 (Mo.nd T1.data.toList T2.data.toList T3.data.toList) := by
  intro g W hF
  have nb : ∀ {T : ByteArray} {l : List UInt8}, T.data.toList ≠ l → (T.toList == l) = false := fun {T l} h => by rw [ByteArray.toList_eq, beq_eq_false_iff_ne]; exact h
  have lit : ∀ {T : ByteArray} {l : List UInt8}, T.data.toList = l → T = ⟨l.toArray⟩ := fun {T l} h => ByteArray.ext (Array.toList_inj.1 (by rw [h]))
  unfold Mo.nd
  by_cases h3 : T3.data.toList = [48, 58, 48, 48]
  · rw [if_pos h3]
    obtain rfl := lit h3
    by_cases h2 : T2.data.toList = [49]
    · rw [if_pos h2]
      obtain rfl := lit h2
      by_cases h1 : T1.data.toList = [74, 97, 110]
      · rw [if_pos h1]
        obtain rfl := lit h1
        exact needed_1 g T0 W hF
      · rw [if_neg h1]
        exact needed_2 g T0 T1 W hF (nb h1)
    · rw [if_neg h2]
      exact needed_3 g T0 T1 T2 W hF (nb h2)
  · rw [if_neg h3]
    exact needed_4 g T0 T1 T2 T3 W hF (nb h3)
/-- The texts of a right until. -/
def Mo.t0 (u : Ut) : ByteArray := ⟨(Lib.itoa u.y).toArray⟩
def Mo.t1 (u : Ut) : ByteArray := Wd.three Wd.mons (u.m - 1).toNat
def Mo.t2 (u : Ut) : ByteArray := Dy.txt u.k u.n u.d
def Mo.t3 (u : Ut) : ByteArray := ⟨(Mo.txt u.s u.c).toArray⟩
def Mo.ndU (u : Ut) : Nat := Mo.nd (Mo.t1 u).data.toList (Mo.t2 u).data.toList (Mo.t3 u).data.toList
def Mo.un (u : Ut) : Bool := Mo.unt u.y u.m u.k u.n u.d u.s u.c
theorem utext_yes (u : Ut) (w : World) (hE : Env w) (h : Mo.un u = true) (c0 : 0 ≤ u.c) :
    Calls Tryz.prog 85 #[utV u] w fun e w' => UTxtE w w' (Mo.t0 u) (Mo.t1 u) (Mo.t2 u) (Mo.t3 u) (Mo.ndU u) e ∧ Below w.heap.size w w' := by
  obtain ⟨⟨y1, y2, m1, m2⟩, hd, hr⟩ := unt_parts h
  have hb := nd_bd (Mo.t1 u).data.toList (Mo.t2 u).data.toList (Mo.t3 u).data.toList
  exact utext_in u.y u.m u.k u.n u.d u.s u.c _ _ _ _ _ w (Lib.hid hE) (Lib.hid h) y1 y2 m1 m2 (Lib.hid hd) (Lib.hid hr) c0 (Lib.hid rfl) (Lib.hid rfl) (Lib.hid rfl) (Lib.hid (by simp [Mo.t3])) (Lib.hid (need_any _ _ _ _)) hb.1 hb.2
end Go.Proofs.YtkcbmnboccjnnaaGreatDoor
/- Untils there and back: what is read of their texts, and of the texts without the last one; what is read is right. No walk. -/

namespace Go.Proofs.YtkcbmnboccjnnaaGreatDoor
open Go.RowKit
theorem ten_len (u : Nat) (h : u < 10000) : (Lib.decDigits u).length ≤ 4 := by
  rw [Lib.decDigits]
  split
  · simp
  · rw [Lib.decDigits]
    split
    · simp
    · rw [Lib.decDigits]
      split
      · simp
      · rw [Lib.decDigits, dif_pos (by omega)]
        simp
theorem yr_itoa (y : Int) (h1 : 1 ≤ y) (h2 : y ≤ 9999) : Mo.yr (Lib.itoa y) = y := by
  have e : Lib.itoa y = Lib.decDigits y.toNat := by
    unfold Lib.itoa
    rw [if_neg (by omega)]
  obtain ⟨a, b, _⟩ := dec_all y.toNat y.toNat (Nat.le_refl _)
  have hv : Mo.yv (Lib.itoa y) = y := by
    rw [e]
    show Txt.val (Lib.decDigits y.toNat) = y
    rw [b]
    omega
  unfold Mo.yr
  rw [hv, if_pos ⟨by rw [e]; exact ten_len _ (by omega), by rw [e]; exact a, h1⟩]
theorem yr_ok (l : List UInt8) (h : Mo.yr l ≠ 0) : 1 ≤ Mo.yr l ∧ Mo.yr l ≤ 9999 := by
  unfold Mo.yr at *
  split at h
  · rename_i hc
    rw [if_pos hc]
    have := yv_bd l.length l rfl hc.1 hc.2.1
    have := pow_le4 l.length hc.1
    exact ⟨hc.2.2, by omega⟩
  · exact absurd rfl h
/-- What is right of an until but for its year. -/
def Mo.good (u : Ut) : Prop := 1 ≤ u.m ∧ u.m ≤ 12 ∧ Dy.right u.k u.n u.d = true ∧ Mo.right u.s u.c = true ∧ 0 ≤ u.c
theorem good_first : Mo.good Ut.first := ⟨by decide, by decide, by decide, by decide, by decide⟩
theorem step_ok (i : Nat) (hi : i < 4) (t : ByteArray) (u : Ut) (hg : Mo.good u) (hy : 0 < i → 1 ≤ u.y ∧ u.y ≤ 9999) (h : (Mo.step i t u).2 = 0) : Mo.good (Mo.step i t u).1 ∧ 1 ≤ (Mo.step i t u).1.y ∧ (Mo.step i t u).1.y ≤ 9999 := by
  obtain ⟨g1, g2, g3, g4, g5⟩ := hg
  have hi4 : i = 0 ∨ i = 1 ∨ i = 2 ∨ i = 3 := by omega
  rcases hi4 with rfl | rfl | rfl | rfl
  · have h : (if Mo.yr t.data.toList = 0 then (4 : Int) else 0) = 0 := h
    have hne : Mo.yr t.data.toList ≠ 0 := fun e => by rw [if_pos e] at h; cases h
    have := yr_ok _ hne
    exact ⟨⟨g1, g2, g3, g4, g5⟩, this.1, this.2⟩
  · have h : (if Wd.pick t Wd.mons + 1 = 0 then (7 : Int) else 0) = 0 := h
    have hne : Wd.pick t Wd.mons + 1 ≠ 0 := fun e => by rw [if_pos e] at h; cases h
    have p1 := Wd.pick_ge t Wd.mons
    have p2 : Wd.pick t Wd.mons < 12 := Wd.pick_lt t Wd.mons
    have hy := hy (by omega)
    exact ⟨⟨by show 1 ≤ Wd.pick t Wd.mons + 1; omega, by show Wd.pick t Wd.mons + 1 ≤ 12; omega, g3, g4, g5⟩, hy.1, hy.2⟩
  · have hy := hy (by omega)
    cases hp : Dy.prs t with
    | none =>
      have e : Mo.step 2 t u = ({ u with k := 0, n := 0, d := 0 }, 4) := by unfold Mo.step; rw [hp]; rfl
      rw [e] at h
      cases h
    | some r =>
      obtain ⟨k, n, d⟩ := r
      have e : Mo.step 2 t u = ({ u with k := k, n := n, d := d }, 0) := by unfold Mo.step; rw [hp]; rfl
      rw [e]
      exact ⟨⟨g1, g2, Dy.prs_right hp, g4, g5⟩, hy.1, hy.2⟩
  · have hy := hy (by omega)
    have h : (Mo.prs t.data.toList).2.2 = 0 := h
    exact ⟨⟨g1, g2, g3, prs_right _ h, by show (0 : Int) ≤ (((Mo.prs t.data.toList).2.1 : Nat) : Int); omega⟩, hy.1, hy.2⟩
theorem run_ok : ∀ (l : List ByteArray) (i : Nat) (u : Ut), i + l.length ≤ 4 → Mo.good u → (0 < i → 1 ≤ u.y ∧ u.y ≤ 9999) →
    ((Mo.run i l u).2.2 = 0 → (Mo.run i l u).2.1 = 0 ∧ Mo.good (Mo.run i l u).1 ∧ (0 < i + l.length → 1 ≤ (Mo.run i l u).1.y ∧ (Mo.run i l u).1.y ≤ 9999)) ∧
    ((Mo.run i l u).2.2 ≠ 0 → (Mo.run i l u).1 = Ut.zero ∧ (Mo.run i l u).2.1 < i + l.length)
  | [], i, u, _, hg, hy => by
    unfold Mo.run
    exact ⟨fun _ => ⟨rfl, hg, by simpa using hy⟩, fun h => absurd rfl h⟩
  | t :: l, i, u, hl, hg, hy => by
    have hl' : i + (l.length + 1) ≤ 4 := by simpa using hl
    unfold Mo.run
    by_cases h0 : (Mo.step i t u).2 = 0
    · rw [if_pos h0]
      have hs := step_ok i (by omega) t u hg hy h0
      have ih := run_ok l (i + 1) (Mo.step i t u).1 (by omega) hs.1 (fun _ => hs.2)
      have e : i + (t :: l).length = i + 1 + l.length := by simp; omega
      rw [e]
      exact ih
    · rw [if_neg h0]
      refine ⟨fun h => absurd h h0, fun _ => ⟨rfl, ?_⟩⟩
      show i < i + (t :: l).length
      simp
/-- What is read of any texts. -/
theorem prsU_ok (L : List ByteArray) : ((Mo.prsU L).2.2 = 0 → (Mo.prsU L).2.1 = 0 ∧ Mo.un (Mo.prsU L).1 = true ∧ 0 ≤ (Mo.prsU L).1.c) ∧
    ((Mo.prsU L).2.2 ≠ 0 → (Mo.prsU L).1 = Ut.zero ∧ (Mo.prsU L).2.1 ≤ 4 ∧ (Mo.prsU L).2.1 ≤ L.length) := by
  unfold Mo.prsU
  by_cases h0 : L = []
  · rw [if_pos h0]
    exact ⟨(fun h => by cases h), fun _ => ⟨rfl, by simp, by simp⟩⟩
  · rw [if_neg h0]
    by_cases h4 : 4 < L.length
    · rw [if_pos h4]
      exact ⟨(fun h => by cases h), fun _ => ⟨rfl, Nat.le_refl _, by show 4 ≤ L.length; omega⟩⟩
    · rw [if_neg h4]
      have hr := run_ok L 0 Ut.first (by omega) good_first (fun h => absurd h (by omega))
      have hp : 0 < 0 + L.length := by
        cases L with
        | nil => exact absurd rfl h0
        | cons a b => simp
      refine ⟨fun h => ?_, fun h => ?_⟩
      · obtain ⟨e, g, y⟩ := hr.1 h
        obtain ⟨g1, g2, g3, g4, g5⟩ := g
        have y := y hp
        refine ⟨e, ?_, g5⟩
        unfold Mo.un Mo.unt
        rw [g3, g4, show decide (1 ≤ (Mo.run 0 L Ut.first).1.y ∧ (Mo.run 0 L Ut.first).1.y ≤ 9999 ∧ 1 ≤ (Mo.run 0 L Ut.first).1.m ∧ (Mo.run 0 L Ut.first).1.m ≤ 12) = true from decide_eq_true ⟨y.1, y.2, g1, g2⟩]
        rfl
      · obtain ⟨e, g⟩ := hr.2 h
        exact ⟨e, by omega, by omega⟩
def Mo.texts (u : Ut) : List ByteArray := [Mo.t0 u, Mo.t1 u, Mo.t2 u, Mo.t3 u]
section
variable {u : Ut} (h : Mo.un u = true) (c0 : 0 ≤ u.c)
include h
theorem st0 (v : Ut) : Mo.step 0 (Mo.t0 u) v = ({ v with y := u.y }, 0) := by
  obtain ⟨⟨y1, y2, m1, m2⟩, hd, hr⟩ := unt_parts h
  have e : Mo.yr (Mo.t0 u).data.toList = u.y := by
    show Mo.yr (Lib.itoa u.y).toArray.toList = u.y
    rw [List.toList_toArray]
    exact yr_itoa u.y y1 y2
  show (({ v with y := Mo.yr (Mo.t0 u).data.toList } : Ut), if Mo.yr (Mo.t0 u).data.toList = 0 then (4 : Int) else 0) = _
  rw [e, if_neg (by omega)]
theorem st1 (v : Ut) : Mo.step 1 (Mo.t1 u) v = ({ v with m := u.m }, 0) := by
  obtain ⟨⟨y1, y2, m1, m2⟩, hd, hr⟩ := unt_parts h
  have e : Wd.pick (Mo.t1 u) Wd.mons + 1 = u.m := by
    have := (Wd.mons_back (u.m - 1).toNat (by omega)).1
    show Wd.pick (Wd.three Wd.mons (u.m - 1).toNat) Wd.mons + 1 = u.m
    rw [this]
    omega
  show (({ v with m := Wd.pick (Mo.t1 u) Wd.mons + 1 } : Ut), if Wd.pick (Mo.t1 u) Wd.mons + 1 = 0 then (7 : Int) else 0) = _
  rw [e, if_neg (by omega)]
theorem st2 (v : Ut) : Mo.step 2 (Mo.t2 u) v = ({ v with k := u.k, n := u.n, d := u.d }, 0) := by
  obtain ⟨_, hd, hr⟩ := unt_parts h
  unfold Mo.step
  rw [show Dy.prs (Mo.t2 u) = some (u.k, u.n, u.d) from Dy.back hd]
  rfl
include c0
theorem prs_t3 : Mo.prs (Mo.t3 u).data.toList = (u.s, u.c.toNat, 0) := by
  obtain ⟨_, hd, hr⟩ := unt_parts h
  have e : ((u.c.toNat : Nat) : Int) = u.c := by omega
  show Mo.prs (Mo.txt u.s u.c).toArray.toList = _
  rw [List.toList_toArray, ← e]
  exact prs_txt u.s u.c.toNat (by rw [e]; exact hr)
theorem st3 (v : Ut) : Mo.step 3 (Mo.t3 u) v = ({ v with s := u.s, c := u.c }, 0) := by
  show (({ v with s := (Mo.prs (Mo.t3 u).data.toList).1, c := (((Mo.prs (Mo.t3 u).data.toList).2.1 : Nat) : Int) } : Ut), (Mo.prs (Mo.t3 u).data.toList).2.2) = _
  rw [prs_t3 h c0]
  show (({ v with s := u.s, c := ((u.c.toNat : Nat) : Int) } : Ut), (0 : Int)) = _
  rw [show ((u.c.toNat : Nat) : Int) = u.c by omega]
theorem d3 (e : (Mo.t3 u).data.toList = [48, 58, 48, 48]) : u.s = 0 ∧ u.c = 0 := by
  have h1 := prs_t3 h c0
  rw [e, show Mo.prs [48, 58, 48, 48] = (0, 0, 0) by decide +kernel] at h1
  injection h1 with h2 h3
  injection h3 with h3 _
  exact ⟨h2.symm, by omega⟩
omit c0 in
theorem d2 (e : (Mo.t2 u).data.toList = [49]) : u.k = 0 ∧ u.n = 1 ∧ u.d = 0 := by
  obtain ⟨_, hd, hr⟩ := unt_parts h
  have h1 : Dy.prs (Mo.t2 u) = some (u.k, u.n, u.d) := Dy.back hd
  rw [show Mo.t2 u = ⟨#[49]⟩ from ByteArray.ext (Array.toList_inj.1 (by rw [e])), show Dy.prs ⟨#[49]⟩ = some (0, 1, 0) by decide +kernel] at h1
  injection h1 with h2
  injection h2 with h2 h3
  injection h3 with h3 h4
  exact ⟨h2.symm, h3.symm, h4.symm⟩
omit c0 in
theorem d1 (e : (Mo.t1 u).data.toList = [74, 97, 110]) : u.m = 1 := by
  have h1 := congrArg (fun r => r.1.m) (st1 h Ut.first)
  have h2 : Wd.pick (Mo.t1 u) Wd.mons + 1 = u.m := h1
  rw [show Mo.t1 u = ⟨#[74, 97, 110]⟩ from ByteArray.ext (Array.toList_inj.1 (by rw [e])), show Wd.pick ⟨#[74, 97, 110]⟩ Wd.mons = 0 by decide +kernel] at h2
  omega
theorem run4 : Mo.prsU [Mo.t0 u, Mo.t1 u, Mo.t2 u, Mo.t3 u] = (u, 0, 0) := by
  show Mo.run 0 [Mo.t0 u, Mo.t1 u, Mo.t2 u, Mo.t3 u] Ut.first = _
  rw [Mo.run, st0 h, if_pos rfl, Mo.run, st1 h, if_pos rfl, Mo.run, st2 h, if_pos rfl, Mo.run, st3 h c0, if_pos rfl, Mo.run]
omit c0 in
theorem run3 : Mo.prsU [Mo.t0 u, Mo.t1 u, Mo.t2 u] = (⟨u.y, u.m, u.k, u.n, u.d, 0, 0⟩, 0, 0) := by
  show Mo.run 0 [Mo.t0 u, Mo.t1 u, Mo.t2 u] Ut.first = _
  rw [Mo.run, st0 h, if_pos rfl, Mo.run, st1 h, if_pos rfl, Mo.run, st2 h, if_pos rfl, Mo.run]
  rfl
omit c0 in
theorem run2 : Mo.prsU [Mo.t0 u, Mo.t1 u] = (⟨u.y, u.m, 0, 1, 0, 0, 0⟩, 0, 0) := by
  show Mo.run 0 [Mo.t0 u, Mo.t1 u] Ut.first = _
  rw [Mo.run, st0 h, if_pos rfl, Mo.run, st1 h, if_pos rfl, Mo.run]
  rfl
omit c0 in
theorem run1 : Mo.prsU [Mo.t0 u] = (⟨u.y, 1, 0, 1, 0, 0, 0⟩, 0, 0) := by
  show Mo.run 0 [Mo.t0 u] Ut.first = _
  rw [Mo.run, st0 h, if_pos rfl, Mo.run]
  rfl
/-- What the texts that are needed tell, and what they tell without the last one. -/
theorem back_cases :
    (Mo.ndU u = 4 ∧ Mo.prsU [Mo.t0 u, Mo.t1 u, Mo.t2 u, Mo.t3 u] = (u, 0, 0) ∧ Mo.prsU [Mo.t0 u, Mo.t1 u, Mo.t2 u] = (⟨u.y, u.m, u.k, u.n, u.d, 0, 0⟩, 0, 0) ∧ ¬ (u.s = 0 ∧ u.c = 0)) ∨
    (Mo.ndU u = 3 ∧ Mo.prsU [Mo.t0 u, Mo.t1 u, Mo.t2 u] = (u, 0, 0) ∧ Mo.prsU [Mo.t0 u, Mo.t1 u] = (⟨u.y, u.m, 0, 1, 0, 0, 0⟩, 0, 0) ∧ ¬ (u.k = 0 ∧ u.n = 1 ∧ u.d = 0)) ∨
    (Mo.ndU u = 2 ∧ Mo.prsU [Mo.t0 u, Mo.t1 u] = (u, 0, 0) ∧ Mo.prsU [Mo.t0 u] = (⟨u.y, 1, 0, 1, 0, 0, 0⟩, 0, 0) ∧ u.m ≠ 1) ∨
    (Mo.ndU u = 1 ∧ Mo.prsU [Mo.t0 u] = (u, 0, 0) ∧ Mo.prsU [] = (Ut.zero, 0, 5) ∧ u.y ≠ 0) := by
  obtain ⟨⟨y1, _, _, _⟩, _, _⟩ := unt_parts h
  have r4 := run4 h c0
  have r3 := run3 h
  have r2 := run2 h
  have r1 := run1 h
  by_cases h3 : (Mo.t3 u).data.toList = [48, 58, 48, 48]
  · obtain ⟨es, ec⟩ := d3 h c0 h3
    by_cases h2 : (Mo.t2 u).data.toList = [49]
    · obtain ⟨ek, en, ed⟩ := d2 h h2
      by_cases h1 : (Mo.t1 u).data.toList = [74, 97, 110]
      · have em := d1 h h1
        refine .inr (.inr (.inr ⟨by unfold Mo.ndU Mo.nd; rw [if_pos h3, if_pos h2, if_pos h1], ?_, rfl, by omega⟩))
        rw [r1]
        obtain ⟨y, m, k, n, d, s, c⟩ := u
        simp only at es ec ek en ed em
        subst es ec ek en ed em
        rfl
      · refine .inr (.inr (.inl ⟨by unfold Mo.ndU Mo.nd; rw [if_pos h3, if_pos h2, if_neg h1], ?_, r1, ?_⟩))
        · rw [r2]
          obtain ⟨y, m, k, n, d, s, c⟩ := u
          simp only at es ec ek en ed
          subst es ec ek en ed
          rfl
        · intro em
          apply h1
          unfold Mo.t1
          rw [em]
          decide +kernel
    · refine .inr (.inl ⟨by unfold Mo.ndU Mo.nd; rw [if_pos h3, if_neg h2], ?_, r2, ?_⟩)
      · rw [r3]
        obtain ⟨y, m, k, n, d, s, c⟩ := u
        simp only at es ec
        subst es ec
        rfl
      · rintro ⟨ek, en, ed⟩
        apply h2
        unfold Mo.t2
        rw [ek, en, ed]
        decide +kernel
  · refine .inl ⟨by unfold Mo.ndU Mo.nd; rw [if_neg h3], r4, r3, ?_⟩
    rintro ⟨es, ec⟩
    apply h3
    unfold Mo.t3
    rw [es, ec]
    decide +kernel
end
end Go.Proofs.YtkcbmnboccjnnaaGreatDoor
