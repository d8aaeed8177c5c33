/- Contract of package abbr: Of. -/
import Derived.Test.YtgcgmmdfmcapiaaDoorFmE
namespace Go.Proofs.YtgcgmmdfmcapiaaDoor
open Go.RowKit
/-- The short name that is answered, and why there is none. -/
def Fm.of (f l : List UInt8) (off : Int) (dst : Bool) : List UInt8 × Int :=
  if Fm.fmt f && Fm.ltr l then
    match Fm.cutF f with
    | (0, a, b) => (a ++ l ++ b, 0)
    | (1, a, b) => if -360000 < off ∧ off < 360000 then (a ++ offT off ++ b, 0) else ([], 1)
    | (2, a, b) => (if dst then b else a, 0)
    | (_, a, _) => (a, 0)
  else ([], 2)
/-- What Of answers. -/
def OfR (r : List UInt8 × Int) (e : Ending) : Prop := e = .returned (.tuple #[.string ⟨r.1.toArray⟩, .int .i64 r.2])
theorem ofR_of {r : List UInt8 × Int} {S : ByteArray} {z : Int} (h : r = (S.data.toList, z)) : OfR r (.returned (.tuple #[.string S, .int .i64 z])) := by
  subst h
  rfl
theorem dd_small (n : Int) : (dd n).length ≤ 2 := Nat.le_refl _
theorem off0_len (t : Int) : 2 ≤ (off0 t).length ∧ (off0 t).length ≤ 6 := by
  unfold off0
  simp only [List.length_append, dd_len]
  split
  · simp
  · simp only [List.length_append, dd_len]
    split
    · simp
    · simp [dd_len]
theorem offT_len (t : Int) : 3 ≤ (offT t).length ∧ (offT t).length ≤ 7 := by
  have h1 := off0_len t
  have h2 := off0_len (-t)
  unfold offT
  split
  · simp only [List.length_cons]
    omega
  · simp only [List.length_cons]
    omega
theorem offset_at (t : Int) (X : ByteArray) (w : World) (hE : Units w) (h1 : -360000 < t) (h2 : t < 360000) (hX : X.data.toList = offT t) :
    Calls Tryd.prog 7 #[.int .i64 t] w fun e w' => e = .returned (.tuple #[.string X, .int .i64 0]) ∧ Below w.heap.size w w' := by
  obtain rfl : X = ⟨(offT t).toArray⟩ := ByteArray.ext (Array.toList_inj.1 (by rw [hX]))
  exact offset_yes t w hE h1 h2
section
variable (F L a b : ByteArray) (off : Int) (dst : Bool) (w : World)
theorem of_f (hF : Hid (∀ W, Below w.heap.size w W → Calls Tryd.prog 20 #[.string F] W fun e w' => e = .returned (.bool false) ∧ Below W.heap.size W w')) :
    Calls Tryd.prog 11 #[.string F, .string L, .int .i64 off, .bool dst] w fun e w' => e = .returned (.tuple #[.string ⟨#[]⟩, .int .i64 2]) ∧ Below w.heap.size w w' := by
  go_enter Tryd.func11, Tryd.ntmps11
  go_wp2_with fail
  refine (hF.out _ (Below.refl _ _)).mono ?_
  rintro e w1 ⟨rfl, b1⟩
  go_wp2_with fail
  go_ret2
  exact ⟨rfl, b1⟩
theorem of_l (hF : Hid (∀ W, Below w.heap.size w W → Calls Tryd.prog 20 #[.string F] W fun e w' => e = .returned (.bool true) ∧ Below W.heap.size W w')) (hL : Hid (Fm.ltr L.data.toList = false)) :
    Calls Tryd.prog 11 #[.string F, .string L, .int .i64 off, .bool dst] w fun e w' => e = .returned (.tuple #[.string ⟨#[]⟩, .int .i64 2]) ∧ Below w.heap.size w w' := by
  go_enter Tryd.func11, Tryd.ntmps11
  go_wp2_with fail
  refine (hF.out _ (Below.refl _ _)).mono ?_
  rintro e w1 ⟨rfl, b1⟩
  go_wp2_with fail
  refine (letter_is L false _ hL.out).mono ?_
  rintro e w2 ⟨rfl, b2⟩
  go_wp2_with fail
  go_ret2
  exact ⟨rfl, b1.trans (b2.mono b1.size)⟩
theorem of_0 (hF : Hid (∀ W, Below w.heap.size w W → Calls Tryd.prog 20 #[.string F] W fun e w' => e = .returned (.bool true) ∧ Below W.heap.size W w')) (hL : Hid (Fm.ltr L.data.toList = true)) (hC : Hid (∀ W, Below w.heap.size w W → Calls Tryd.prog 22 #[.string F] W fun e w' => e = .returned (.tuple #[.int .i64 0, .string a, .string b]) ∧ Below W.heap.size W w'))
    (q1 : ¬ 9223372036854775807 < a.size + L.size) (q2 : ¬ 9223372036854775807 < a.size + L.size + b.size) :
    Calls Tryd.prog 11 #[.string F, .string L, .int .i64 off, .bool dst] w fun e w' => e = .returned (.tuple #[.string (a ++ L ++ b), .int .i64 0]) ∧ Below w.heap.size w w' := by
  go_enter Tryd.func11, Tryd.ntmps11
  go_wp2_with fail
  refine (hF.out _ (Below.refl _ _)).mono ?_
  rintro e w1 ⟨rfl, b1⟩
  go_wp2_with fail
  refine (letter_is L true _ hL.out).mono ?_
  rintro e w2 ⟨rfl, b2⟩
  have a2 := b1.trans (b2.mono b1.size)
  go_wp2_with fail
  refine (hC.out _ a2).mono ?_
  rintro e w3 ⟨rfl, b3⟩
  have a3 := a2.trans (b3.mono a2.size)
  go_wp2_with fail
  go_ret2
  exact ⟨rfl, a3⟩
theorem of_1in (X : ByteArray) (hF : Hid (∀ W, Below w.heap.size w W → Calls Tryd.prog 20 #[.string F] W fun e w' => e = .returned (.bool true) ∧ Below W.heap.size W w')) (hL : Hid (Fm.ltr L.data.toList = true)) (hC : Hid (∀ W, Below w.heap.size w W → Calls Tryd.prog 22 #[.string F] W fun e w' => e = .returned (.tuple #[.int .i64 1, .string a, .string b]) ∧ Below W.heap.size W w'))
    (hX : Hid (∀ W, Below w.heap.size w W → Calls Tryd.prog 7 #[.int .i64 off] W fun e w' => e = .returned (.tuple #[.string X, .int .i64 0]) ∧ Below W.heap.size W w'))
    (q1 : ¬ 9223372036854775807 < a.size + X.size) (q2 : ¬ 9223372036854775807 < a.size + X.size + b.size) :
    Calls Tryd.prog 11 #[.string F, .string L, .int .i64 off, .bool dst] w fun e w' => e = .returned (.tuple #[.string (a ++ X ++ b), .int .i64 0]) ∧ Below w.heap.size w w' := by
  go_enter Tryd.func11, Tryd.ntmps11
  go_wp2_with fail
  refine (hF.out _ (Below.refl _ _)).mono ?_
  rintro e w1 ⟨rfl, b1⟩
  go_wp2_with fail
  refine (letter_is L true _ hL.out).mono ?_
  rintro e w2 ⟨rfl, b2⟩
  have a2 := b1.trans (b2.mono b1.size)
  go_wp2_with fail
  refine (hC.out _ a2).mono ?_
  rintro e w3 ⟨rfl, b3⟩
  have a3 := a2.trans (b3.mono a2.size)
  go_wp2_with fail
  refine (hX.out _ a3).mono ?_
  rintro e w4 ⟨rfl, b4⟩
  have a4 := a3.trans (b4.mono a3.size)
  go_wp2_with fail
  go_ret2
  exact ⟨rfl, a4⟩
theorem of_1out (hF : Hid (∀ W, Below w.heap.size w W → Calls Tryd.prog 20 #[.string F] W fun e w' => e = .returned (.bool true) ∧ Below W.heap.size W w')) (hL : Hid (Fm.ltr L.data.toList = true)) (hC : Hid (∀ W, Below w.heap.size w W → Calls Tryd.prog 22 #[.string F] W fun e w' => e = .returned (.tuple #[.int .i64 1, .string a, .string b]) ∧ Below W.heap.size W w'))
    (hX : Hid (off ≤ -360000 ∨ 360000 ≤ off)) :
    Calls Tryd.prog 11 #[.string F, .string L, .int .i64 off, .bool dst] w fun e w' => e = .returned (.tuple #[.string ⟨#[]⟩, .int .i64 1]) ∧ Below w.heap.size w w' := by
  go_enter Tryd.func11, Tryd.ntmps11
  go_wp2_with fail
  refine (hF.out _ (Below.refl _ _)).mono ?_
  rintro e w1 ⟨rfl, b1⟩
  go_wp2_with fail
  refine (letter_is L true _ hL.out).mono ?_
  rintro e w2 ⟨rfl, b2⟩
  have a2 := b1.trans (b2.mono b1.size)
  go_wp2_with fail
  refine (hC.out _ a2).mono ?_
  rintro e w3 ⟨rfl, b3⟩
  have a3 := a2.trans (b3.mono a2.size)
  go_wp2_with fail
  refine (offset_no off _ hX.out).mono ?_
  rintro e w' ⟨rfl, rfl⟩
  go_wp2_with fail
  go_ret2
  exact ⟨rfl, a3⟩
theorem of_2 (hF : Hid (∀ W, Below w.heap.size w W → Calls Tryd.prog 20 #[.string F] W fun e w' => e = .returned (.bool true) ∧ Below W.heap.size W w')) (hL : Hid (Fm.ltr L.data.toList = true)) (hC : Hid (∀ W, Below w.heap.size w W → Calls Tryd.prog 22 #[.string F] W fun e w' => e = .returned (.tuple #[.int .i64 2, .string a, .string b]) ∧ Below W.heap.size W w')) :
    Calls Tryd.prog 11 #[.string F, .string L, .int .i64 off, .bool dst] w fun e w' => e = .returned (.tuple #[.string (bif dst then b else a), .int .i64 0]) ∧ Below w.heap.size w w' := by
  cases dst
  all_goals
    go_enter Tryd.func11, Tryd.ntmps11
    go_wp2_with fail
    refine (hF.out _ (Below.refl _ _)).mono ?_
    rintro e w1 ⟨rfl, b1⟩
    go_wp2_with fail
    refine (letter_is L true _ hL.out).mono ?_
    rintro e w2 ⟨rfl, b2⟩
    have a2 := b1.trans (b2.mono b1.size)
    go_wp2_with fail
    refine (hC.out _ a2).mono ?_
    rintro e w3 ⟨rfl, b3⟩
    have a3 := a2.trans (b3.mono a2.size)
    go_wp2_with fail
    go_ret2
    exact ⟨rfl, a3⟩
theorem of_3 (hF : Hid (∀ W, Below w.heap.size w W → Calls Tryd.prog 20 #[.string F] W fun e w' => e = .returned (.bool true) ∧ Below W.heap.size W w')) (hL : Hid (Fm.ltr L.data.toList = true)) (hC : Hid (∀ W, Below w.heap.size w W → Calls Tryd.prog 22 #[.string F] W fun e w' => e = .returned (.tuple #[.int .i64 3, .string a, .string b]) ∧ Below W.heap.size W w')) :
    Calls Tryd.prog 11 #[.string F, .string L, .int .i64 off, .bool dst] w fun e w' => e = .returned (.tuple #[.string a, .int .i64 0]) ∧ Below w.heap.size w w' := by
  go_enter Tryd.func11, Tryd.ntmps11
  go_wp2_with fail
  refine (hF.out _ (Below.refl _ _)).mono ?_
  rintro e w1 ⟨rfl, b1⟩
  go_wp2_with fail
  refine (letter_is L true _ hL.out).mono ?_
  rintro e w2 ⟨rfl, b2⟩
  have a2 := b1.trans (b2.mono b1.size)
  go_wp2_with fail
  refine (hC.out _ a2).mono ?_
  rintro e w3 ⟨rfl, b3⟩
  have a3 := a2.trans (b3.mono a2.size)
  go_wp2_with fail
  go_ret2
  exact ⟨rfl, a3⟩
theorem ltr_small {l : List UInt8} (h : Fm.ltr l = true) : l.length ≤ 32 := by
  unfold Fm.ltr at h
  rw [Bool.and_eq_true, decide_eq_true_eq] at h
  exact h.1
theorem of_any (hK : Marks w) (hM : Mxa w) (hU : Units w) :
    Calls Tryd.prog 11 #[.string F, .string L, .int .i64 off, .bool dst] w fun e w' => OfR (Fm.of F.data.toList L.data.toList off dst) e ∧ Below w.heap.size w w' := by
  cases hf : Fm.fmt F.data.toList with
  | false =>
    refine (of_f F L off dst w (Lib.hid fun W hW => format_is F false W (hK.below hW) (hM.below hW) hf)).mono ?_
    rintro e w' ⟨rfl, hb⟩
    exact ⟨ofR_of (by unfold Fm.of; rw [hf]; rfl), hb⟩
  | true =>
    have hF := Lib.hid (p := ∀ W, Below w.heap.size w W → Calls Tryd.prog 20 #[.string F] W fun e w' => e = .returned (.bool true) ∧ Below W.heap.size W w') fun W hW => format_is F true W (hK.below hW) (hM.below hW) hf
    cases hl : Fm.ltr L.data.toList with
    | false =>
      refine (of_l F L off dst w hF (Lib.hid hl)).mono ?_
      rintro e w' ⟨rfl, hb⟩
      exact ⟨ofR_of (by unfold Fm.of; rw [hl, Bool.and_false]; rfl), hb⟩
    | true =>
      have hL := Lib.hid hl
      have hls := ltr_small hl
      have hlz : L.data.toList.length = L.size := by simp
      have hfz : F.data.toList.length = F.size := by simp
      obtain ⟨_, hf32, m, a0, b0, hc, _, _, hw⟩ := Fm.fmt_cases hf
      obtain ⟨a, rfl⟩ : ∃ a : ByteArray, a.data.toList = a0 := ⟨⟨a0.toArray⟩, by simp⟩
      obtain ⟨b, rfl⟩ : ∃ b : ByteArray, b.data.toList = b0 := ⟨⟨b0.toArray⟩, by simp⟩
      obtain ⟨ha, hb⟩ := cut_small hc
      have hO : Fm.of F.data.toList L.data.toList off dst = match Fm.cutF F.data.toList with
          | (0, a, b) => (a ++ L.data.toList ++ b, 0)
          | (1, a, b) => if -360000 < off ∧ off < 360000 then (a ++ offT off ++ b, 0) else ([], 1)
          | (2, a, b) => (if dst then b else a, 0)
          | (_, a, _) => (a, 0) := by
        unfold Fm.of
        rw [hf, hl]
        rfl
      rw [hc] at hO
      have hC : ∀ W, Below w.heap.size w W → Calls Tryd.prog 22 #[.string F] W fun e w' => e = .returned (.tuple #[.int .i64 (m : Int), .string a, .string b]) ∧ Below W.heap.size W w' :=
        fun W hW => fcut_is F m a b W (hK.below hW) (hM.below hW) (by omega) hc
      rcases hw with ⟨rfl, _⟩ | ⟨rfl, _⟩ | ⟨rfl, _⟩ | ⟨rfl, _⟩
      · refine (of_0 F L a b off dst w hF hL (Lib.hid hC) (by omega) (by omega)).mono ?_
        rintro e w' ⟨rfl, hb'⟩
        exact ⟨ofR_of (by rw [hO]; simp), hb'⟩
      · by_cases ho : -360000 < off ∧ off < 360000
        · obtain ⟨X, hX⟩ : ∃ X : ByteArray, X.data.toList = offT off := ⟨⟨(offT off).toArray⟩, by simp⟩
          have hxz : X.data.toList.length = X.size := by simp
          have hxl := offT_len off
          refine (of_1in F L a b off dst w X hF hL (Lib.hid hC) (Lib.hid fun W hW => offset_at off X W (hU.below hW) ho.1 ho.2 hX) (by rw [hX] at hxz; omega) (by rw [hX] at hxz; omega)).mono ?_
          rintro e w' ⟨rfl, hb'⟩
          exact ⟨ofR_of (by rw [hO]; simp only [if_pos ho]; simp [hX]), hb'⟩
        · refine (of_1out F L a b off dst w hF hL (Lib.hid hC) (Lib.hid (by omega))).mono ?_
          rintro e w' ⟨rfl, hb'⟩
          exact ⟨ofR_of (by rw [hO]; simp only [if_neg ho]), hb'⟩
      · refine (of_2 F L a b off dst w hF hL (Lib.hid hC)).mono ?_
        rintro e w' ⟨rfl, hb'⟩
        exact ⟨ofR_of (by rw [hO]; cases dst <;> rfl), hb'⟩
      · refine (of_3 F L a b off dst w hF hL (Lib.hid hC)).mono ?_
        rintro e w' ⟨rfl, hb'⟩
        exact ⟨ofR_of hO, hb'⟩
end
end Go.Proofs.YtgcgmmdfmcapiaaDoor
