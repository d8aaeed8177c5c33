/- Contracts of package day: Text. -/
import Derived.Test.YtgcgmmdfmcapiaaGreatDoorDayCut
namespace Go.Proofs.YtgcgmmdfmcapiaaGreatDoor
open Go.RowKit
theorem itoa_dig (n : Int) (w : World) (h1 : 0 ≤ n) (h2 : n ≤ 31) : Calls Tryz.prog 33 #[.int .i64 n] w fun e w' => e = .returned (.string ⟨(Dy.dig n.toNat).toArray⟩) ∧ Below w.heap.size w w' := by
  obtain ⟨i, rfl⟩ : ∃ i : Nat, n = i := ⟨n.toNat, by omega⟩
  refine (Tryz.strconv_Itoa_small i (by omega) w).mono fun e w' ⟨he, hw⟩ => ⟨?_, by rw [hw]; exact Below.refl _ _⟩
  rw [he, Dy.dig_eq i (by omega)]
  rfl
theorem wtext_d (d : Int) (w : World) (h1 : 0 ≤ d) (h2 : d ≤ 6) : Calls Tryz.prog 58 #[.int .i64 d] w fun e w' => e = .returned (.string (Wd.three Wd.week d.toNat)) ∧ Below w.heap.size w w' := by
  obtain ⟨i, rfl⟩ : ∃ i : Nat, d = i := ⟨d.toNat, by omega⟩
  exact weekdaytext_yes i w (by omega)
theorem three_size (d : Int) (h1 : 0 ≤ d) (h2 : d ≤ 6) : (Wd.three Wd.week d.toNat).size = 3 := (Wd.week_back d.toNat (by omega)).2.1
theorem dig_size (n : Nat) : (⟨(Dy.dig n).toArray⟩ : ByteArray).size ≤ 2 := by
  rw [size_ba]
  exact Dy.dig_len n
theorem txt_size (k n d : Int) (h : Dy.right k n d = true) : (Dy.txt k n d).size ≤ 20 := by
  have hd := dig_size n.toNat
  have h2 : (⟨#[62, 61]⟩ : ByteArray).size = 2 := rfl
  have h3 : (⟨#[60, 61]⟩ : ByteArray).size = 2 := rfl
  have h4 : Dy.lastW.size = 4 := rfl
  rw [Dy.right_iff] at h
  rcases h with ⟨rfl, g1, g2, rfl⟩ | ⟨rfl, rfl, g1, g2⟩ | ⟨rfl | rfl, g1, g2, g3, g4⟩
  · show (⟨(Dy.dig n.toNat).toArray⟩ : ByteArray).size ≤ 20
    omega
  · show (Dy.lastW ++ Wd.three Wd.week d.toNat).size ≤ 20
    rw [ByteArray.size_append, three_size d g1 g2]
    omega
  · show (Wd.three Wd.week d.toNat ++ ⟨#[62, 61]⟩ ++ ⟨(Dy.dig n.toNat).toArray⟩ : ByteArray).size ≤ 20
    rw [ByteArray.size_append, ByteArray.size_append, three_size d g3 g4]
    omega
  · show (Wd.three Wd.week d.toNat ++ ⟨#[60, 61]⟩ ++ ⟨(Dy.dig n.toNat).toArray⟩ : ByteArray).size ≤ 20
    rw [ByteArray.size_append, ByteArray.size_append, three_size d g3 g4]
    omega
theorem keep_day {B b1 : Nat} {w0 w w1 : World} {x1 x2 : Value}
    (h : w.cell? ⟨b1, 1, none⟩ = some x1 ∧ w.cell? ⟨b1, 2, none⟩ = some x2 ∧ b1 < w.heap.size ∧ B ≤ w.heap.size ∧ Below B w0 w) (hb : Below w.heap.size w w1) :
    w1.cell? ⟨b1, 1, none⟩ = some x1 ∧ w1.cell? ⟨b1, 2, none⟩ = some x2 ∧ b1 < w1.heap.size ∧ B ≤ w1.heap.size ∧ Below B w0 w1 := by
  obtain ⟨h1, h2, l1, l4, h0⟩ := h
  obtain ⟨hc, _⟩ := bcell hb
  have := hb.size
  refine ⟨?_, ?_, by omega, by omega, h0.trans (hb.mono l4)⟩
  all_goals (rw [hc _ _ (by assumption)]; assumption)
theorem last_day {B b1 : Nat} {w0 w : World} {x1 x2 : Value} (h : w.cell? ⟨b1, 1, none⟩ = some x1 ∧ w.cell? ⟨b1, 2, none⟩ = some x2 ∧ b1 < w.heap.size ∧ B ≤ w.heap.size ∧ Below B w0 w) : Below B w0 w := by
  obtain ⟨_, _, _, _, h0⟩ := h
  exact h0
theorem dtext_no (k n d : Int) (w : World) (h : Dy.right k n d = false) : Calls Tryz.prog 32 #[.agg #[.int .u8 k, .int .i64 n, .int .i64 d]] w fun e w' => e = .returned (.tuple #[.string ⟨#[]⟩, .int .i64 2]) ∧ Below w.heap.size w w' := by
  have H := Lib.hid h
  clear h
  go_enter Tryz.func32, Tryz.ntmps32
  go_wp2_with fail
  refine (isRight_no _ _ _ _ H.out).mono ?_
  rintro e w1 ⟨rfl, b1⟩
  have a1 := ((Below.refl w.heap.size w).alloc (Nat.le_refl _) (.cells #[.int .u8 k, .int .i64 n, .int .i64 d] 24)).trans (b1.mono (by simp))
  go_wp2_with fail
  go_ret2
  exact ⟨rfl, a1⟩
theorem dtext_0 (n : Int) (w : World) (h1 : 1 ≤ n) (h2 : n ≤ 31) : Calls Tryz.prog 32 #[.agg #[.int .u8 0, .int .i64 n, .int .i64 0]] w fun e w' => e = .returned (.tuple #[.string (Dy.txt 0 n 0), .int .i64 0]) ∧ Below w.heap.size w w' := by
  have H := Lib.hid ((Dy.right_iff 0 n 0).2 (.inl ⟨rfl, h1, h2, rfl⟩))
  go_enter Tryz.func32, Tryz.ntmps32
  go_wp2_with fail
  refine (isRight_yes _ _ _ _ H.out).mono ?_
  rintro e w1 ⟨rfl, b1⟩
  obtain ⟨hc, hf⟩ := bcell b1
  have a1 := ((Below.refl w.heap.size w).alloc (Nat.le_refl _) (.cells #[.int .u8 0, .int .i64 n, .int .i64 0] 24)).trans (b1.mono (by simp))
  go_wp2_with fail
  refine (itoa_dig n _ (by omega) h2).mono ?_
  rintro e w2 ⟨rfl, b2⟩
  have a2 := a1.trans (b2.mono a1.size)
  go_wp2_with fail
  go_ret2
  exact ⟨rfl, a2⟩
theorem dtext_1 (d : Int) (w : World) (h1 : 0 ≤ d) (h2 : d ≤ 6) : Calls Tryz.prog 32 #[.agg #[.int .u8 1, .int .i64 0, .int .i64 d]] w fun e w' => e = .returned (.tuple #[.string (Dy.txt 1 0 d), .int .i64 0]) ∧ Below w.heap.size w w' := by
  have H := Lib.hid ((Dy.right_iff 1 0 d).2 (.inr (.inl ⟨rfl, rfl, h1, h2⟩)))
  have hz := three_size d h1 h2
  go_enter Tryz.func32, Tryz.ntmps32
  go_wp2_with fail
  refine (isRight_yes _ _ _ _ H.out).mono ?_
  rintro e w1 ⟨rfl, b1⟩
  obtain ⟨hc, hf⟩ := bcell b1
  have a1 := ((Below.refl w.heap.size w).alloc (Nat.le_refl _) (.cells #[.int .u8 1, .int .i64 0, .int .i64 d] 24)).trans (b1.mono (by simp))
  go_wp2_with fail
  refine (wtext_d d _ h1 h2).mono ?_
  rintro e w2 ⟨rfl, b2⟩
  have a2 := a1.trans (b2.mono a1.size)
  go_wp2_with fail
  go_ret2
  exact ⟨rfl, a2⟩
set_option maxHeartbeats 2000000 in
theorem dtext_2 (n d : Int) (w : World) (h1 : 1 ≤ n) (h2 : n ≤ 31) (h3 : 0 ≤ d) (h4 : d ≤ 6) : Calls Tryz.prog 32 #[.agg #[.int .u8 2, .int .i64 n, .int .i64 d]] w fun e w' => e = .returned (.tuple #[.string (Dy.txt 2 n d), .int .i64 0]) ∧ Below w.heap.size w w' := by
  have H := Lib.hid ((Dy.right_iff 2 n d).2 (.inr (.inr ⟨.inl rfl, h1, h2, h3, h4⟩)))
  have hz := three_size d h3 h4
  have hy := Dy.dig_len n.toNat
  have q1 : ¬ 9223372036854775807 < 5 + (Dy.dig n.toNat).length := by omega
  have q2 : ¬ 9223372036854775807 < 3 + 2 + (Dy.dig n.toNat).length := by omega
  have q3 : ¬ 9223372036854775807 < (Wd.three Wd.week d.toNat).size + 2 + (Dy.dig n.toNat).length := by omega
  go_enter Tryz.func32, Tryz.ntmps32
  go_wp2_with fail
  refine (isRight_yes _ _ _ _ H.out).mono ?_
  rintro e w1 ⟨rfl, b1⟩
  obtain ⟨hc, hf⟩ := bcell b1
  have a1 := ((Below.refl w.heap.size w).alloc (Nat.le_refl _) (.cells #[.int .u8 2, .int .i64 n, .int .i64 d] 24)).trans (b1.mono (by simp))
  have z1 : w.heap.size < w1.heap.size := by have := b1.size; simp at this; omega
  have S0 : w1.drew.cell? ⟨w.heap.size, 1, none⟩ = some (.int .i64 n) ∧ w1.drew.cell? ⟨w.heap.size, 2, none⟩ = some (.int .i64 d) ∧ w.heap.size < w1.drew.heap.size ∧ w.heap.size ≤ w1.drew.heap.size ∧ Below w.heap.size w w1.drew := by
    refine ⟨?_, ?_, z1, Nat.le_of_lt z1, a1.drew⟩
    · show w1.cell? _ = _; rw [hc _ _ (by simp)]; go_simp
    · show w1.cell? _ = _; rw [hc _ _ (by simp)]; go_simp
  go_wp2_with fail
  clear hc hf b1 a1
  go_region_held3 (fun w' => w'.cell? ⟨w.heap.size, 1, none⟩ = some (.int .i64 n) ∧ w'.cell? ⟨w.heap.size, 2, none⟩ = some (.int .i64 d) ∧ w.heap.size < w'.heap.size ∧ w.heap.size ≤ w'.heap.size ∧ Below w.heap.size w w')
    (first | assumption | exact keep_day (by assumption) (by assumption))
    (first
      | (go_at_call 33; refine (itoa_dig n _ (by omega) h2).mono ?_; rintro e w' ⟨rfl, hb⟩)
      | (go_at_call 58; refine (wtext_d d _ h3 h4).mono ?_; rintro e w' ⟨rfl, hb⟩))
  all_goals go_wp2_with fail
  all_goals
    go_ret2
    exact ⟨rfl, last_day (b1 := w.heap.size) (x1 := .int .i64 n) (x2 := .int .i64 d) (by assumption)⟩
set_option maxHeartbeats 2000000 in
theorem dtext_3 (n d : Int) (w : World) (h1 : 1 ≤ n) (h2 : n ≤ 31) (h3 : 0 ≤ d) (h4 : d ≤ 6) : Calls Tryz.prog 32 #[.agg #[.int .u8 3, .int .i64 n, .int .i64 d]] w fun e w' => e = .returned (.tuple #[.string (Dy.txt 3 n d), .int .i64 0]) ∧ Below w.heap.size w w' := by
  have H := Lib.hid ((Dy.right_iff 3 n d).2 (.inr (.inr ⟨.inr rfl, h1, h2, h3, h4⟩)))
  have hz := three_size d h3 h4
  have hy := Dy.dig_len n.toNat
  have q1 : ¬ 9223372036854775807 < 5 + (Dy.dig n.toNat).length := by omega
  have q2 : ¬ 9223372036854775807 < 3 + 2 + (Dy.dig n.toNat).length := by omega
  have q3 : ¬ 9223372036854775807 < (Wd.three Wd.week d.toNat).size + 2 + (Dy.dig n.toNat).length := by omega
  go_enter Tryz.func32, Tryz.ntmps32
  go_wp2_with fail
  refine (isRight_yes _ _ _ _ H.out).mono ?_
  rintro e w1 ⟨rfl, b1⟩
  obtain ⟨hc, hf⟩ := bcell b1
  have a1 := ((Below.refl w.heap.size w).alloc (Nat.le_refl _) (.cells #[.int .u8 3, .int .i64 n, .int .i64 d] 24)).trans (b1.mono (by simp))
  have z1 : w.heap.size < w1.heap.size := by have := b1.size; simp at this; omega
  have S0 : w1.drew.cell? ⟨w.heap.size, 1, none⟩ = some (.int .i64 n) ∧ w1.drew.cell? ⟨w.heap.size, 2, none⟩ = some (.int .i64 d) ∧ w.heap.size < w1.drew.heap.size ∧ w.heap.size ≤ w1.drew.heap.size ∧ Below w.heap.size w w1.drew := by
    refine ⟨?_, ?_, z1, Nat.le_of_lt z1, a1.drew⟩
    · show w1.cell? _ = _; rw [hc _ _ (by simp)]; go_simp
    · show w1.cell? _ = _; rw [hc _ _ (by simp)]; go_simp
  go_wp2_with fail
  clear hc hf b1 a1
  go_region_held3 (fun w' => w'.cell? ⟨w.heap.size, 1, none⟩ = some (.int .i64 n) ∧ w'.cell? ⟨w.heap.size, 2, none⟩ = some (.int .i64 d) ∧ w.heap.size < w'.heap.size ∧ w.heap.size ≤ w'.heap.size ∧ Below w.heap.size w w')
    (first | assumption | exact keep_day (by assumption) (by assumption))
    (first
      | (go_at_call 33; refine (itoa_dig n _ (by omega) h2).mono ?_; rintro e w' ⟨rfl, hb⟩)
      | (go_at_call 58; refine (wtext_d d _ h3 h4).mono ?_; rintro e w' ⟨rfl, hb⟩))
  all_goals go_wp2_with fail
  all_goals
    go_ret2
    exact ⟨rfl, last_day (b1 := w.heap.size) (x1 := .int .i64 n) (x2 := .int .i64 d) (by assumption)⟩
theorem dtext_yes (k n d : Int) (w : World) (h : Dy.right k n d = true) : Calls Tryz.prog 32 #[.agg #[.int .u8 k, .int .i64 n, .int .i64 d]] w fun e w' => e = .returned (.tuple #[.string (Dy.txt k n d), .int .i64 0]) ∧ Below w.heap.size w w' := by
  rw [Dy.right_iff] at h
  rcases h with ⟨rfl, g1, g2, rfl⟩ | ⟨rfl, rfl, g1, g2⟩ | ⟨rfl | rfl, g1, g2, g3, g4⟩
  · exact dtext_0 n w g1 g2
  · exact dtext_1 d w g1 g2
  · exact dtext_2 n d w g1 g2 g3 g4
  · exact dtext_3 n d w g1 g2 g3 g4
end Go.Proofs.YtgcgmmdfmcapiaaGreatDoor
