/- Contracts of package moment: letter, Text, cutClock, Parse. -/
import Derived.Test.YtgcgmmdfmcapiaaGreatDoorTxt2
import Derived.Test.YtgcgmmdfmcapiaaGreatDoorDayText
import Derived.Test.YtgcgmmdfmcapiaaGreatDoorMo
namespace Go.Proofs.YtgcgmmdfmcapiaaGreatDoor
open Go.RowKit
/-- What stands for a clock behind a time, and the text of a moment. -/
def Mo.ltr (c : Int) : List UInt8 := if c = 1 then [115] else if c = 2 then [117] else []
def Mo.txt (s c : Int) : List UInt8 := Go.Proofs.YtgcgmmdfmcapiaaGreatDoor.txt s ++ Mo.ltr c
theorem letter_c (c : Int) (w : World) (h0 : 0 ≤ c) (h : c ≤ 2) : Calls Tryz.prog 28 #[.int .u8 c] w fun e w' => e = .returned (.string ⟨(Mo.ltr c).toArray⟩) ∧ w = w' := by
  have hc : c = 0 ∨ c = 1 ∨ c = 2 := by omega
  rcases hc with rfl | rfl | rfl
  all_goals
    go_enter Tryz.func28, Tryz.ntmps28
    go_wp2_with fail
    go_ret
    exact ⟨rfl, rfl⟩
theorem ltr_len (c : Int) : (Mo.ltr c).length ≤ 1 := by
  unfold Mo.ltr
  split
  · simp
  · split
    · simp
    · simp
theorem mtext_no (s c : Int) (w : World) (h : Mo.right s c = false) : Calls Tryz.prog 11 #[.agg #[.int .i64 s, .int .u8 c]] w fun e w' => e = .returned (.tuple #[.string ⟨#[]⟩, .int .i64 2]) ∧ Below w.heap.size w w' := by
  have H := Lib.hid h
  clear h
  go_enter Tryz.func11, Tryz.ntmps11
  go_wp2_with fail
  refine (isMoment_no _ _ _ H.out).mono ?_
  rintro e w1 ⟨rfl, b1⟩
  have a1 := ((Below.refl w.heap.size w).alloc (Nat.le_refl _) (.cells #[.int .i64 s, .int .u8 c] 27)).trans (b1.mono (by simp))
  go_wp2_with fail
  go_ret2
  exact ⟨rfl, a1⟩
/-- What is kept while the two texts are made. -/
structure MKeep (B : Nat) (w0 w : World) : Prop where
  lt : B < w.heap.size
  env : Env w
  bel : Below B w0 w
theorem mkeep_on {B : Nat} {w0 w w1 : World} {x y : Value} (h : w.cell? ⟨B, 0, none⟩ = some x ∧ w.cell? ⟨B, 1, none⟩ = some y ∧ MKeep B w0 w) (hb : Below w.heap.size w w1) : w1.cell? ⟨B, 0, none⟩ = some x ∧ w1.cell? ⟨B, 1, none⟩ = some y ∧ MKeep B w0 w1 := by
  obtain ⟨c0, c1, hl, he, hbw⟩ := h
  obtain ⟨hc, _⟩ := bcell hb
  have := hb.size
  exact ⟨(hc _ _ hl).trans c0, (hc _ _ hl).trans c1, by omega, he.below hb, hbw.trans (hb.mono (Nat.le_of_lt hl))⟩
theorem mkeep_env {B : Nat} {w0 w : World} {x y : Value} (h : w.cell? ⟨B, 0, none⟩ = some x ∧ w.cell? ⟨B, 1, none⟩ = some y ∧ MKeep B w0 w) : Env w := h.2.2.env
theorem mkeep_bel {B : Nat} {w0 w : World} {x y : Value} (h : w.cell? ⟨B, 0, none⟩ = some x ∧ w.cell? ⟨B, 1, none⟩ = some y ∧ MKeep B w0 w) : Below B w0 w := h.2.2.bel
theorem clk_text (t : Int) (T : ByteArray) (w : World) (hE : Env w) (h1 : -604800 ≤ t) (h2 : t ≤ 604800) (hT : (⟨(txt t).toArray⟩ : ByteArray) = T) : Calls Tryz.prog 27 #[.int .i64 t] w fun e w' => e = .returned (.string T) ∧ Below w.heap.size w w' := by
  subst hT
  exact text_in t w hE h1 h2
theorem letter_L (c : Int) (L : ByteArray) (w : World) (h0 : 0 ≤ c) (h : c ≤ 2) (hL : (⟨(Mo.ltr c).toArray⟩ : ByteArray) = L) : Calls Tryz.prog 28 #[.int .u8 c] w fun e w' => e = .returned (.string L) ∧ w = w' := by
  subst hL
  exact letter_c c w h0 h
set_option maxRecDepth 100000 in
set_option maxHeartbeats 2000000 in
theorem mtext_in (s c : Int) (T L : ByteArray) (w : World) (HE : Hid (Env w)) (s1 : -604800 ≤ s) (s2 : s ≤ 604800) (c0 : 0 ≤ c) (c2 : c ≤ 2) (HT : Hid ((⟨(txt s).toArray⟩ : ByteArray) = T)) (HL : Hid ((⟨(Mo.ltr c).toArray⟩ : ByteArray) = L)) (q1 : ¬ 9223372036854775807 < T.size + L.size) :
    Calls Tryz.prog 11 #[.agg #[.int .i64 s, .int .u8 c]] w fun e w' => e = .returned (.tuple #[.string (T ++ L), .int .i64 0]) ∧ Below w.heap.size w w' := by
  have H := Lib.hid ((Mo.right_iff s c).2 ⟨s1, s2, c2⟩)
  go_enter Tryz.func11, Tryz.ntmps11
  go_wp2_with fail
  refine (isMoment_yes _ _ _ H.out).mono ?_
  rintro e w1 ⟨rfl, b1⟩
  have k0 := mkeep_on (w0 := w) (w := w.alloc (.cells #[.int .i64 s, .int .u8 c] 27)) (B := w.heap.size) (x := .int .i64 s) (y := .int .u8 c) ⟨by go_simp, by go_simp, by simp, HE.out.alloc _, (Below.refl _ _).alloc (Nat.le_refl _) _⟩ b1
  have S0 := mkeep_on k0 (Below.drew (Below.refl _ w1))
  clear b1
  obtain ⟨hc0, hc1, hk⟩ := k0
  have hlt := hk.lt
  clear hk
  go_wp2_with fail
  go_region_held3 (fun w' => w'.cell? ⟨w.heap.size, 0, none⟩ = some (.int .i64 s) ∧ w'.cell? ⟨w.heap.size, 1, none⟩ = some (.int .u8 c) ∧ MKeep w.heap.size w w')
    (first | assumption | exact mkeep_on (by assumption) (by assumption))
    (first
      | (go_at_call 27; refine (clk_text s T _ (mkeep_env (B := w.heap.size) (w0 := w) (x := .int .i64 s) (y := .int .u8 c) (by assumption)) s1 s2 HT.out).mono ?_; rintro e w' ⟨rfl, hb⟩)
      | (go_at_call 28; refine (letter_L c L _ c0 c2 HL.out).mono ?_; rintro e w' ⟨rfl, rfl⟩))
  all_goals go_wp2_with fail
  all_goals go_ret2
  all_goals exact ⟨rfl, mkeep_bel (x := .int .i64 s) (y := .int .u8 c) (by assumption)⟩
theorem mtext_yes (s c : Int) (S : ByteArray) (w : World) (hE : Env w) (h : Mo.right s c = true) (c0 : 0 ≤ c) (hS : S.data.toList = Mo.txt s c) : Calls Tryz.prog 11 #[.agg #[.int .i64 s, .int .u8 c]] w fun e w' => e = .returned (.tuple #[.string S, .int .i64 0]) ∧ Below w.heap.size w w' := by
  obtain ⟨h1, h2, h3⟩ := (Mo.right_iff s c).1 h
  have hl := txt_len s h1 h2
  have hr := ltr_len c
  have e : S = (⟨(txt s).toArray⟩ : ByteArray) ++ ⟨(Mo.ltr c).toArray⟩ := ByteArray.ext (Array.toList_inj.1 (by rw [hS]; simp [Mo.txt]))
  rw [e]
  exact mtext_in s c _ _ w (Lib.hid hE) h1 h2 c0 h3 (Lib.hid rfl) (Lib.hid rfl) (by rw [size_ba, size_ba]; omega)
end Go.Proofs.YtgcgmmdfmcapiaaGreatDoor
