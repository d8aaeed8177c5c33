/- The first questions of layer 8; what Of answers of right formats, side by side. -/
import Derived.Test.YtgcgmmdfmcapiaaDoorPo2
import Derived.OpenShut
namespace Go.Proofs.YtgcgmmdfmcapiaaDoor
open Go.RowKit
theorem of_pair {f l : List UInt8} {off : Int} {dst : Bool} {m : Nat} {a b : List UInt8} (hf : Fm.fmt f = true) (hl : Fm.ltr l = true) (hc : Fm.cutF f = (m, a, b)) :
    Fm.of f l off dst = match (m, a, b) with
      | (0, a, b) => (a ++ l ++ b, 0)
      | (1, a, b) => if -360000 < off ∧ off < 360000 then (a ++ offT off ++ b, 0) else ([], 1)
      | (2, a, b) => (if dst then b else a, 0)
      | (_, a, _) => (a, 0) := by
  unfold Fm.of
  rw [hf, hl, hc]
  rfl
/-- What Of answers of one format and two letters. -/
theorem of_shape {f l1 l2 : List UInt8} (off o : Int) (hf : Fm.fmt f = true) (h1 : Fm.ltr l1 = true) (h2 : Fm.ltr l2 = true) :
    (Fm.hasP f = true ∧ (Fm.of f l1 off false).2 = (Fm.of f l2 off true).2 ∧ (Fm.of f l2 o false).2 = (Fm.of f l1 o true).2 ∧ ((Fm.of f l1 off false).2 = 1 ∨ ((Fm.of f l1 off false).2 = 0 ∧ f.length ≤ (Fm.of f l1 off false).1.length + 2))) ∨
    (Fm.hasP f = false ∧ Fm.hasS f = true ∧ ∃ a b, f = a ++ [47] ++ b ∧ Fm.of f l1 off false = (a, 0) ∧ Fm.of f l2 o false = (a, 0) ∧ Fm.of f l1 o true = (b, 0) ∧ Fm.of f l2 off true = (b, 0)) ∨
    (Fm.hasP f = false ∧ Fm.hasS f = false ∧ Fm.of f l1 off false = (f, 0) ∧ Fm.of f l2 o false = (f, 0) ∧ Fm.of f l1 o true = (f, 0) ∧ Fm.of f l2 off true = (f, 0)) := by
  obtain ⟨_, _, m, a, b, hc, _, _, hw⟩ := Fm.fmt_cases hf
  rw [of_pair hf h1 hc, of_pair hf h2 hc, of_pair hf h1 hc, of_pair hf h2 hc]
  rcases hw with ⟨rfl, e, hp⟩ | ⟨rfl, e, hp⟩ | ⟨rfl, e, hp, hs⟩ | ⟨rfl, e, e2, hp, hs⟩
  · refine .inl ⟨hp, rfl, rfl, .inr ⟨rfl, ?_⟩⟩
    rw [e]
    simp only [List.length_append, List.length_cons, List.length_nil]
    omega
  · refine .inl ⟨hp, ?_, ?_, ?_⟩
    · simp only
    · simp only
    · by_cases ho : -360000 < off ∧ off < 360000
      · refine .inr ⟨by simp only [if_pos ho], ?_⟩
        simp only [if_pos ho]
        rw [e]
        simp only [List.length_append, List.length_cons, List.length_nil]
        omega
      · exact .inl (by simp only [if_neg ho])
  · exact .inr (.inl ⟨hp, hs, a, b, e, rfl, rfl, rfl, rfl⟩)
  · subst e
    exact .inr (.inr ⟨hp, hs, rfl, rfl, rfl, rfl⟩)
theorem of_lit (F L : ByteArray) (off : Int) (dst : Bool) (S : ByteArray) (z : Int) (w : World) (hK : Marks w) (hM : Mxa w) (hU : Units w) (h : Fm.of F.data.toList L.data.toList off dst = (S.data.toList, z)) :
    Calls Tryd.prog 11 #[.string F, .string L, .int .i64 off, .bool dst] w fun e w' => e = .returned (.tuple #[.string S, .int .i64 z]) ∧ Below w.heap.size w w' :=
  (of_any F L off dst w hK hM hU).mono fun e w' ⟨he, hb⟩ => ⟨by rw [h] at he; exact he, hb⟩
theorem offset_lit (t : Int) (S : ByteArray) (w : World) (hE : Units w) (h1 : -360000 < t) (h2 : t < 360000) (hS : offT t = S.data.toList) :
    Calls Tryd.prog 7 #[.int .i64 t] w fun e w' => e = .returned (.tuple #[.string S, .int .i64 0]) ∧ Below w.heap.size w w' := offset_at t S w hE h1 h2 hS.symm
theorem po_lit (s : ByteArray) (n z : Int) (w : World) (hU : Units w) (hs : s.size ≤ 4294967296) (h : (∃ v, Fm.po s.data.toList = some v ∧ n = v ∧ z = 0) ∨ (Fm.po s.data.toList = none ∧ n = 0 ∧ z = 4)) : Calls Tryd.prog 8 #[.string s] w fun e w' => e = .returned (.tuple #[.int .i64 n, .int .i64 z]) ∧ Below w.heap.size w w' := by
  have hp := po_any s w hU hs
  rcases h with ⟨v, h, rfl, rfl⟩ | ⟨h, rfl, rfl⟩
  · rw [h] at hp
    exact hp
  · rw [h] at hp
    exact hp
set_option maxRecDepth 100000 in
set_option maxHeartbeats 2000000 in
theorem lives08 (w : World) (HK : Hid (Marks w)) (HM : Hid (Mxa w)) (HU : Hid (Units w)) : Calls Tryd.prog 6 #[] w fun e w' => e = .returned (.bool true) ∧ Below w.heap.size w w' := by
  go_enter Tryd.func6, Tryd.ntmps6
  go_wp2_with fail
  refine (of_lit ⟨#[69, 37, 115, 84]⟩ ⟨#[68]⟩ 0 true ⟨#[69, 68, 84]⟩ 0 _ HK.out HM.out HU.out (by decide +kernel)).mono ?_
  rintro e w1 ⟨rfl, a1⟩
  go_wp2_with fail
  refine (of_lit ⟨#[71, 77, 84, 47, 66, 83, 84]⟩ ⟨#[]⟩ 3600 true ⟨#[66, 83, 84]⟩ 0 _ (HK.out.below a1) (HM.out.below a1) (HU.out.below a1) (by decide +kernel)).mono ?_
  rintro e w2 ⟨rfl, b2⟩
  have a2 := a1.trans (b2.mono a1.size)
  go_wp2_with fail
  refine (of_lit ⟨#[37, 122]⟩ ⟨#[]⟩ (-12600) false ⟨#[45, 48, 51, 51, 48]⟩ 0 _ (HK.out.below a2) (HM.out.below a2) (HU.out.below a2) (by decide +kernel)).mono ?_
  rintro e w3 ⟨rfl, b3⟩
  have a3 := a2.trans (b3.mono a2.size)
  go_wp2_with fail
  refine (of_lit ⟨#[97, 47]⟩ ⟨#[]⟩ 0 false ⟨#[]⟩ 2 _ (HK.out.below a3) (HM.out.below a3) (HU.out.below a3) (by decide +kernel)).mono ?_
  rintro e w4 ⟨rfl, b4⟩
  have a4 := a3.trans (b4.mono a3.size)
  go_wp2_with fail
  refine (of_lit ⟨#[37, 122]⟩ ⟨#[]⟩ 360000 false ⟨#[]⟩ 1 _ (HK.out.below a4) (HM.out.below a4) (HU.out.below a4) (by decide +kernel)).mono ?_
  rintro e w5 ⟨rfl, b5⟩
  have a5 := a4.trans (b5.mono a4.size)
  go_wp2_with fail
  refine (offset_lit 3605 ⟨#[43, 48, 49, 48, 48, 48, 53]⟩ _ (HU.out.below a5) (by omega) (by omega) (by decide +kernel)).mono ?_
  rintro e w6 ⟨rfl, b6⟩
  have a6 := a5.trans (b6.mono a5.size)
  go_wp2_with fail
  refine (po_lit ⟨#[45, 48, 51, 51, 48]⟩ (-12600) 0 _ (HU.out.below a6) (by decide) (.inl ⟨_, show Fm.po [45, 48, 51, 51, 48] = some (-12600) by decide +kernel, rfl, rfl⟩)).mono ?_
  rintro e w7 ⟨rfl, b7⟩
  have a7 := a6.trans (b7.mono a6.size)
  go_wp2_with fail
  refine (po_lit ⟨#[43, 48, 48, 48, 48]⟩ 0 4 _ (HU.out.below a7) (by decide) (.inr ⟨show Fm.po [43, 48, 48, 48, 48] = none by decide +kernel, rfl, rfl⟩)).mono ?_
  rintro e w8 ⟨rfl, b8⟩
  have a8 := a7.trans (b8.mono a7.size)
  go_wp2_with fail
  refine (fcheck_no ⟨#[37, 115, 37, 115]⟩ _ (HK.out.below a8) (HM.out.below a8) (by decide +kernel)).mono ?_
  rintro e w9 ⟨rfl, b9⟩
  have a9 := a8.trans (b9.mono a8.size)
  go_wp2_with fail
  refine (fcheck_no ⟨#[97, 37]⟩ _ (HK.out.below a9) (HM.out.below a9) (by decide +kernel)).mono ?_
  rintro e w10 ⟨rfl, b10⟩
  have a10 := a9.trans (b10.mono a9.size)
  go_wp2_with fail
  refine (fcheck_yes ⟨#[45, 48, 51]⟩ _ (HK.out.below a10) (HM.out.below a10) (by decide +kernel)).mono ?_
  rintro e w11 ⟨rfl, b11⟩
  have a11 := a10.trans (b11.mono a10.size)
  go_wp2_with fail
  refine (cletter_no ⟨#[45]⟩ _ (by decide +kernel)).mono ?_
  rintro e w12 ⟨rfl, b12⟩
  have a12 := a11.trans (b12.mono a11.size)
  go_wp2_with fail
  refine (cletter_yes ⟨#[]⟩ _ (by decide +kernel)).mono ?_
  rintro e w13 ⟨rfl, b13⟩
  have a13 := a12.trans (b13.mono a12.size)
  go_wp2_with fail
  go_ret
  exact ⟨rfl, a13⟩
end Go.Proofs.YtgcgmmdfmcapiaaDoor
