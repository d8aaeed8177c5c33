/- Contract of package moment: TextUntil. -/
import Derived.Test.YtgcgmmdfmcapiaaGreatDoorMoX
import Derived.Deep.RegionHeld3
namespace Go.Proofs.YtgcgmmdfmcapiaaGreatDoor
open Go.RowKit
theorem itoa_any (n : Int) (w : World) (hE : Env w) (h0 : -9223372036854775808 ≤ n) (h1 : n ≤ 9223372036854775807) :
    Calls Tryz.prog 33 #[.int .i64 n] w fun e w' => e = .returned (.string ⟨(Lib.itoa n).toArray⟩) ∧ Below w.heap.size w w' :=
  (Tryz.strconv_Itoa n h0 h1 w hE.tens).mono fun _ _ ⟨he, k, os, hw⟩ => ⟨he, by rw [hw]; exact Lib.below_grow _ w (Nat.le_refl _) k os⟩
theorem itoa_T (n : Int) (T : ByteArray) (w : World) (hE : Env w) (h0 : -9223372036854775808 ≤ n) (h1 : n ≤ 9223372036854775807) (hT : (⟨(Lib.itoa n).toArray⟩ : ByteArray) = T) :
    Calls Tryz.prog 33 #[.int .i64 n] w fun e w' => e = .returned (.string T) ∧ Below w.heap.size w w' := by
  subst hT
  exact itoa_any n w hE h0 h1
theorem month_T (m : Int) (T : ByteArray) (w : World) (m1 : 1 ≤ m) (m2 : m ≤ 12) (hT : Wd.three Wd.mons (m - 1).toNat = T) : Calls Tryz.prog 34 #[.int .i64 m] w fun e w' => e = .returned (.string T) ∧ Below w.heap.size w w' := by
  subst hT
  have h := monthtext_yes (m - 1).toNat w (by omega)
  rw [show (((m - 1).toNat : Nat) : Int) + 1 = m by omega] at h
  exact h
theorem dtext_T (k n d : Int) (T : ByteArray) (w : World) (h : Dy.right k n d = true) (hT : Dy.txt k n d = T) : Calls Tryz.prog 32 #[.agg #[.int .u8 k, .int .i64 n, .int .i64 d]] w fun e w' => e = .returned (.tuple #[.string T, .int .i64 0]) ∧ Below w.heap.size w w' := by
  subst hT
  exact dtext_yes k n d w h
theorem utext_no (u : Ut) (w : World) (h : Mo.unt u.y u.m u.k u.n u.d u.s u.c = false) : Calls Tryz.prog 13 #[utV u] w fun e w' => e = .returned (.tuple #[.slice none 0 0, .int .i64 2]) ∧ Below w.heap.size w w' := by
  obtain ⟨y, m, k, n, d, s, c⟩ := u
  have H := Lib.hid h
  clear h
  go_enter Tryz.func13, Tryz.ntmps13
  go_wp2_with fail
  refine (isUntil_is y m k n d s c false _ H.out).mono ?_
  rintro e w1 ⟨rfl, b1⟩
  have a1 : Below w.heap.size w w1 := ((Below.refl _ _).alloc (Nat.le_refl _) _).trans (b1.mono (by simp))
  go_wp2_with fail
  go_ret2
  exact ⟨rfl, a1⟩
/-- What TextUntil answers: so many texts of four. -/
def UTxtE (w w' : World) (T0 T1 T2 T3 : ByteArray) (nd : Nat) (e : Ending) : Prop := ∃ g, e = .returned (.tuple #[.slice (some ⟨g, 0, none⟩) nd nd, .int .i64 0]) ∧ w.heap.size ≤ g ∧ Four w' g T0 T1 T2 T3
/-- How many are needed. -/
def NeedE (T0 T1 T2 T3 : ByteArray) (nd : Nat) : Prop := ∀ (g : Nat) (W : World), Four W g T0 T1 T2 T3 → Calls Tryz.prog 35 #[.slice (some ⟨g, 0, none⟩) 4 4] W fun e w' => e = .returned (.int .i64 (nd : Int)) ∧ Below W.heap.size W w'
set_option maxRecDepth 100000 in
set_option maxHeartbeats 4000000 in
theorem utext_in (y m k n d s c : Int) (T0 T1 T2 T3 : ByteArray) (nd : Nat) (w : World) (HE : Hid (Env w)) (H : Hid (Mo.unt y m k n d s c = true)) (y1 : 1 ≤ y) (y2 : y ≤ 9999) (m1 : 1 ≤ m) (m2 : m ≤ 12) (HD : Hid (Dy.right k n d = true)) (HR : Hid (Mo.right s c = true)) (c0 : 0 ≤ c)
    (H0 : Hid ((⟨(Lib.itoa y).toArray⟩ : ByteArray) = T0)) (H1 : Hid (Wd.three Wd.mons (m - 1).toNat = T1)) (H2 : Hid (Dy.txt k n d = T2)) (H3 : Hid (T3.data.toList = Mo.txt s c)) (hN : Hid (NeedE T0 T1 T2 T3 nd)) (nd1 : 1 ≤ nd) (nd4 : nd ≤ 4) :
    Calls Tryz.prog 13 #[.agg #[.int .i64 y, .int .i64 m, .int .u8 k, .int .i64 n, .int .i64 d, .int .i64 s, .int .u8 c]] w fun e w' => UTxtE w w' T0 T1 T2 T3 nd e ∧ Below w.heap.size w w' := by
  go_enter Tryz.func13, Tryz.ntmps13
  go_wp2_with fail
  refine (isUntil_is y m k n d s c true _ H.out).mono ?_
  rintro e w1 ⟨rfl, b1⟩
  obtain ⟨hc1, _⟩ := bcell b1
  have z1 : w.heap.size < w1.heap.size := by have := b1.size; simp at this; omega
  have a1 : Below w.heap.size w w1 := ((Below.refl _ _).alloc (Nat.le_refl _) _).trans (b1.mono (by simp))
  clear b1
  go_wp2_with fail
  refine (dtext_T k n d T2 _ HD.out H2.out).mono ?_
  rintro e w2 ⟨rfl, b2⟩
  obtain ⟨hc2, _⟩ := bcell b2
  have z2 : w.heap.size < w2.heap.size := by have := b2.size; omega
  have a2 := a1.trans (b2.mono a1.size)
  clear b2
  go_wp2_with fail
  refine (mtext_yes s c T3 _ (HE.out.below a2) HR.out c0 H3.out).mono ?_
  rintro e w3 ⟨rfl, b3⟩
  obtain ⟨hc3, _⟩ := bcell b3
  have z3 : w.heap.size < w3.heap.size := by have := b3.size; omega
  have a3 := a2.trans (b3.mono a2.size)
  clear b3
  have e0 : w3.cell? ⟨w.heap.size, 0, none⟩ = some (.int .i64 y) := by rw [hc3 _ _ z2, hc2 _ _ z1, hc1 _ _ (by simp)]; go_simp
  have e1 : w3.cell? ⟨w.heap.size, 1, none⟩ = some (.int .i64 m) := by rw [hc3 _ _ z2, hc2 _ _ z1, hc1 _ _ (by simp)]; go_simp
  have S0 := mkeep_on (w0 := w) (w := w3) (B := w.heap.size) (x := .int .i64 y) (y := .int .i64 m) ⟨e0, e1, z3, HE.out.below a3, a3⟩ (Below.drew (Below.refl _ w3))
  clear hc1 hc2 hc3
  go_wp2_with fail
  go_region_held3 (fun w' => w'.cell? ⟨w.heap.size, 0, none⟩ = some (.int .i64 y) ∧ w'.cell? ⟨w.heap.size, 1, none⟩ = some (.int .i64 m) ∧ MKeep w.heap.size w w')
    (first | assumption | exact mkeep_on (by assumption) (by assumption) | exact mkeep_on (by assumption) ((Below.refl _ _).alloc (Nat.le_refl _) _))
    (first
      | (go_at_call 33; refine (itoa_T y T0 _ (mkeep_env (B := w.heap.size) (w0 := w) (x := .int .i64 y) (y := .int .i64 m) (by assumption)) (by omega) (by omega) H0.out).mono ?_; rintro e w' ⟨rfl, hb⟩)
      | (go_at_call 34; refine (month_T m T1 _ m1 m2 H1.out).mono ?_; rintro e w' ⟨rfl, hb⟩))
  go_wp2_with fail
  have k5 := mkeep_bel (B := w.heap.size) (w0 := w) (w := w'.alloc (.cells #[.string T0, .string T1, .string T2, .string T3] 9)) (x := .int .i64 y) (y := .int .i64 m) (by assumption)
  have k6 : w.heap.size ≤ w'.heap.size := by
    have h : w.heap.size < (w'.alloc (.cells #[.string T0, .string T1, .string T2, .string T3] 9)).heap.size := (show _ ∧ _ ∧ MKeep w.heap.size w (w'.alloc (.cells #[.string T0, .string T1, .string T2, .string T3] 9)) by assumption).2.2.lt
    simp at h
    omega
  have hF : Four (w'.alloc (.cells #[.string T0, .string T1, .string T2, .string T3] 9)) w'.heap.size T0 T1 T2 T3 := ⟨by simp, by go_simp, by go_simp, by go_simp, by go_simp⟩
  refine (hN.out w'.heap.size _ hF).mono ?_
  rintro e w5 ⟨rfl, b5⟩
  have F5 := Lib.hid (hF.below b5)
  have a5 := k5.trans (b5.mono k5.size)
  clear hF b5 k5
  have hnd : nd = 1 ∨ nd = 2 ∨ nd = 3 ∨ nd = 4 := by omega
  rcases hnd with rfl | rfl | rfl | rfl
  all_goals
    go_wp2_with fail
    go_ret2
    exact ⟨⟨_, rfl, k6, F5.out⟩, a5⟩
/-- How many of four texts are needed. -/
def Mo.nd (T1 T2 T3 : List UInt8) : Nat := if T3 = [48, 58, 48, 48] then (if T2 = [49] then (if T1 = [74, 97, 110] then 1 else 2) else 3) else 4
theorem nd_bd (T1 T2 T3 : List UInt8) : 1 ≤ Mo.nd T1 T2 T3 ∧ Mo.nd T1 T2 T3 ≤ 4 := by
  unfold Mo.nd
  split
  · split
    · split
      · exact ⟨by decide, by decide⟩
      · exact ⟨by decide, by decide⟩
    · exact ⟨by decide, by decide⟩
  · exact ⟨by decide, by decide⟩
theorem need_any (T0 T1 T2 T3 : ByteArray) : NeedE T0 T1 T2 T3 (Mo.nd T1.data.toList T2.data.toList T3.data.toList) := by
  intro g W hF
  have nb : ∀ {T : ByteArray} {l : List UInt8}, T.data.toList ≠ l → (T.toList == l) = false := fun {T l} h => by rw [ByteArray.toList_eq, beq_eq_false_iff_ne]; exact h
  have lit : ∀ {T : ByteArray} {l : List UInt8}, T.data.toList = l → T = ⟨l.toArray⟩ := fun {T l} h => ByteArray.ext (Array.toList_inj.1 (by rw [h]))
  unfold Mo.nd
  by_cases h3 : T3.data.toList = [48, 58, 48, 48]
  · rw [if_pos h3]
    obtain rfl := lit h3
    by_cases h2 : T2.data.toList = [49]
    · rw [if_pos h2]
      obtain rfl := lit h2
      by_cases h1 : T1.data.toList = [74, 97, 110]
      · rw [if_pos h1]
        obtain rfl := lit h1
        exact needed_1 g T0 W hF
      · rw [if_neg h1]
        exact needed_2 g T0 T1 W hF (nb h1)
    · rw [if_neg h2]
      exact needed_3 g T0 T1 T2 W hF (nb h2)
  · rw [if_neg h3]
    exact needed_4 g T0 T1 T2 T3 W hF (nb h3)
/-- The texts of a right until. -/
def Mo.t0 (u : Ut) : ByteArray := ⟨(Lib.itoa u.y).toArray⟩
def Mo.t1 (u : Ut) : ByteArray := Wd.three Wd.mons (u.m - 1).toNat
def Mo.t2 (u : Ut) : ByteArray := Dy.txt u.k u.n u.d
def Mo.t3 (u : Ut) : ByteArray := ⟨(Mo.txt u.s u.c).toArray⟩
def Mo.ndU (u : Ut) : Nat := Mo.nd (Mo.t1 u).data.toList (Mo.t2 u).data.toList (Mo.t3 u).data.toList
def Mo.un (u : Ut) : Bool := Mo.unt u.y u.m u.k u.n u.d u.s u.c
theorem utext_yes (u : Ut) (w : World) (hE : Env w) (h : Mo.un u = true) (c0 : 0 ≤ u.c) :
    Calls Tryz.prog 13 #[utV u] w fun e w' => UTxtE w w' (Mo.t0 u) (Mo.t1 u) (Mo.t2 u) (Mo.t3 u) (Mo.ndU u) e ∧ Below w.heap.size w w' := by
  obtain ⟨⟨y1, y2, m1, m2⟩, hd, hr⟩ := unt_parts h
  have hb := nd_bd (Mo.t1 u).data.toList (Mo.t2 u).data.toList (Mo.t3 u).data.toList
  exact utext_in u.y u.m u.k u.n u.d u.s u.c _ _ _ _ _ w (Lib.hid hE) (Lib.hid h) y1 y2 m1 m2 (Lib.hid hd) (Lib.hid hr) c0 (Lib.hid rfl) (Lib.hid rfl) (Lib.hid rfl) (Lib.hid (by simp [Mo.t3])) (Lib.hid (need_any _ _ _ _)) hb.1 hb.2
end Go.Proofs.YtgcgmmdfmcapiaaGreatDoor
