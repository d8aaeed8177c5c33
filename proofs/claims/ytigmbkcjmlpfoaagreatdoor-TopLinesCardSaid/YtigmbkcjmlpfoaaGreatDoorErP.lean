/- Contracts of package era: beginsTime, the readers of its texts, readPart. -/
import Derived.Test.YtigmbkcjmlpfoaaGreatDoorErR
namespace Go.Proofs.YtigmbkcjmlpfoaaGreatDoor
open Go.RowKit
/-- An era at block g. -/
structure En (w : World) (B g : Nat) (e : Er) : Prop where
  base : B ≤ g
  lt : g < w.heap.size
  c0 : w.cell? ⟨g, 0, none⟩ = some (.int .i64 e.sd)
  c1 : w.cell? ⟨g, 1, none⟩ = some (.int .u8 e.k)
  c2 : w.cell? ⟨g, 2, none⟩ = some (.int .i64 e.sv)
  c3 : w.cell? ⟨g, 3, none⟩ = some (.string e.ru)
  c4 : w.cell? ⟨g, 4, none⟩ = some (.string e.fm)
  c5 : w.cell? ⟨g, 5, none⟩ = some (.bool e.en)
  c6 : w.cell? ⟨g, 6, none⟩ = some (.int .i64 e.u.y)
  c7 : w.cell? ⟨g, 7, none⟩ = some (.int .i64 e.u.m)
  c8 : w.cell? ⟨g, 8, none⟩ = some (.int .u8 e.u.k)
  c9 : w.cell? ⟨g, 9, none⟩ = some (.int .i64 e.u.n)
  c10 : w.cell? ⟨g, 10, none⟩ = some (.int .i64 e.u.d)
  c11 : w.cell? ⟨g, 11, none⟩ = some (.int .i64 e.u.s)
  c12 : w.cell? ⟨g, 12, none⟩ = some (.int .u8 e.u.c)
  f0 : w.frozen? ⟨g, 0, none⟩ = false
  f1 : w.frozen? ⟨g, 1, none⟩ = false
  f2 : w.frozen? ⟨g, 2, none⟩ = false
  f3 : w.frozen? ⟨g, 3, none⟩ = false
  f4 : w.frozen? ⟨g, 4, none⟩ = false
  f5 : w.frozen? ⟨g, 5, none⟩ = false
  f6 : w.frozen? ⟨g, 6, none⟩ = false
  f7 : w.frozen? ⟨g, 7, none⟩ = false
  f8 : w.frozen? ⟨g, 8, none⟩ = false
  f9 : w.frozen? ⟨g, 9, none⟩ = false
  f10 : w.frozen? ⟨g, 10, none⟩ = false
  f11 : w.frozen? ⟨g, 11, none⟩ = false
  f12 : w.frozen? ⟨g, 12, none⟩ = false
theorem En.below {w w' : World} {B g : Nat} {e : Er} (h : En w B g e) (hb : Below w.heap.size w w') : En w' B g e := by
  obtain ⟨hc, hf⟩ := bcell hb
  have hl := h.lt
  exact ⟨h.base, Nat.lt_of_lt_of_le hl hb.size, (hc _ _ hl).trans h.c0, (hc _ _ hl).trans h.c1, (hc _ _ hl).trans h.c2, (hc _ _ hl).trans h.c3, (hc _ _ hl).trans h.c4, (hc _ _ hl).trans h.c5, (hc _ _ hl).trans h.c6, (hc _ _ hl).trans h.c7, (hc _ _ hl).trans h.c8, (hc _ _ hl).trans h.c9, (hc _ _ hl).trans h.c10, (hc _ _ hl).trans h.c11, (hc _ _ hl).trans h.c12,
    (hf _ _ hl).trans h.f0, (hf _ _ hl).trans h.f1, (hf _ _ hl).trans h.f2, (hf _ _ hl).trans h.f3, (hf _ _ hl).trans h.f4, (hf _ _ hl).trans h.f5, (hf _ _ hl).trans h.f6, (hf _ _ hl).trans h.f7, (hf _ _ hl).trans h.f8, (hf _ _ hl).trans h.f9, (hf _ _ hl).trans h.f10, (hf _ _ hl).trans h.f11, (hf _ _ hl).trans h.f12⟩
theorem En.stay {w w' : World} {B B' g : Nat} {e : Er} (h : En w B g e) (hb : Below B' w w') (hg : g < B') : En w' B g e := by
  have hc : ∀ o, w'.cell? ⟨g, o, none⟩ = w.cell? ⟨g, o, none⟩ := fun o => hb.cell (p := ⟨g, o, none⟩) hg
  have hf : ∀ o, w'.frozen? ⟨g, o, none⟩ = w.frozen? ⟨g, o, none⟩ := fun o => hb.frozen (p := ⟨g, o, none⟩) hg
  exact ⟨h.base, Nat.lt_of_lt_of_le h.lt hb.size, (hc _).trans h.c0, (hc _).trans h.c1, (hc _).trans h.c2, (hc _).trans h.c3, (hc _).trans h.c4, (hc _).trans h.c5, (hc _).trans h.c6, (hc _).trans h.c7, (hc _).trans h.c8, (hc _).trans h.c9, (hc _).trans h.c10, (hc _).trans h.c11, (hc _).trans h.c12,
    (hf _).trans h.f0, (hf _).trans h.f1, (hf _).trans h.f2, (hf _).trans h.f3, (hf _).trans h.f4, (hf _).trans h.f5, (hf _).trans h.f6, (hf _).trans h.f7, (hf _).trans h.f8, (hf _).trans h.f9, (hf _).trans h.f10, (hf _).trans h.f11, (hf _).trans h.f12⟩
theorem isD_num (c : UInt8) : Txt.isD c = decide (48 ≤ (c.toNat : Int) ∧ (c.toNat : Int) ≤ 57) := by
  rw [Bool.eq_iff_iff, decide_eq_true_eq]
  exact isD_iff c
theorem first_at {s : ByteArray} {c : UInt8} {r : List UInt8} (h : s.data.toList = c :: r) : 0 < s.size ∧ ∀ W, (Instr.index 9 (.string s) (.int .i64 0)).run Tryz.prog W = .ok (.int .u8 (c.toNat : Int)) W := by
  have hz : s.data.toList.length = s.size := by simp
  have h0 : 0 < s.size := by rw [← hz, h]; simp
  refine ⟨h0, fun W => ?_⟩
  have hi := idx_any s .i64 0 h0 W
  have e : s[0] = c := by
    have h1 : s.data.toList[0]? = some s[0] := Lib.data_getElem? s 0 h0
    rw [h] at h1
    have h2 : some c = some s[0] := h1
    exact (Option.some.inj h2).symm
  rw [e] at hi
  simpa using hi
theorem tail_of {s : ByteArray} {c : UInt8} {r : List UInt8} (h : s.data.toList = c :: r) : (s.extract 1 s.size).data.toList = r := by
  have hz : s.data.toList.length = s.size := by simp
  rw [ByteArray.data_extract, Array.toList_extract, h]
  rw [h, List.length_cons] at hz
  rw [List.extract_eq_take_drop, List.drop_one, List.tail_cons]
  exact List.take_of_length_le (by omega)
theorem ebeg_digit (s : ByteArray) (c : UInt8) (r : List UInt8) (w : World) (_hs : s.size ≤ 9223372036854775807) (h : s.data.toList = c :: r) (hc : c ≠ 45) : Calls Tryz.prog 91 #[.string s] w fun e w' => e = .returned (.bool (Txt.isD c)) ∧ w = w' := by
  obtain ⟨h0, hi⟩ := first_at h
  obtain ⟨t1, t2⟩ := nemp (s := s) (by rw [h]; simp)
  have t3 : ((c.toNat : Int) == 45) = false := by
    rw [beq_eq_false_iff_ne]
    intro e
    exact hc (UInt8.toNat_inj.1 (by show c.toNat = 45; omega))
  have HE := Lib.hid (isD_num c)
  have hb := c.toNat_lt
  clear h hc
  generalize (c.toNat : Int) = x at *
  by_cases h1 : 48 ≤ x
  · by_cases h2 : x ≤ 57
    · go_enter Tryz.func91, Tryz.ntmps91
      go_wp2_with fail
      go_ret
      exact ⟨ret_bool (by rw [HE.out]; symm; rw [decide_eq_true_eq]; exact ⟨h1, h2⟩), rfl⟩
    · have t4 : decide (x ≤ 57) = false := decide_eq_false h2
      clear h2
      go_enter Tryz.func91, Tryz.ntmps91
      go_wp2_with fail
      go_ret
      exact ⟨ret_bool (by rw [HE.out]; symm; rw [decide_eq_false_iff_not]; have := of_decide_eq_false t4; omega), rfl⟩
  · have t4 : decide (48 ≤ x) = false := decide_eq_false h1
    clear h1
    go_enter Tryz.func91, Tryz.ntmps91
    go_wp2_with fail
    go_ret
    exact ⟨ret_bool (by rw [HE.out]; symm; rw [decide_eq_false_iff_not]; have := of_decide_eq_false t4; omega), rfl⟩
theorem ebeg_minus (s S1 : ByteArray) (c : UInt8) (r : List UInt8) (w : World) (hs : s.size ≤ 9223372036854775807) (h : s.data.toList = 45 :: c :: r) (hS : s.extract 1 s.size = S1) : Calls Tryz.prog 91 #[.string s] w fun e w' => e = .returned (.bool (Txt.isD c)) ∧ w = w' := by
  obtain ⟨h0, hi⟩ := first_at h
  have hl := tail_of h
  rw [hS] at hl
  obtain ⟨h01, hi1⟩ := first_at hl
  obtain ⟨t1, t2⟩ := nemp (s := s) (by rw [h]; simp)
  obtain ⟨t11, t21⟩ := nemp (s := S1) (by rw [hl]; simp)
  have HE := Lib.hid (isD_num c)
  have hb := c.toNat_lt
  clear h hl
  generalize (c.toNat : Int) = x at *
  by_cases h1 : 48 ≤ x
  · by_cases h2 : x ≤ 57
    · go_enter Tryz.func91, Tryz.ntmps91
      go_wp2_with fail
      go_ret
      exact ⟨ret_bool (by rw [HE.out]; symm; rw [decide_eq_true_eq]; exact ⟨h1, h2⟩), rfl⟩
    · have t4 : decide (x ≤ 57) = false := decide_eq_false h2
      clear h2
      go_enter Tryz.func91, Tryz.ntmps91
      go_wp2_with fail
      go_ret
      exact ⟨ret_bool (by rw [HE.out]; symm; rw [decide_eq_false_iff_not]; have := of_decide_eq_false t4; omega), rfl⟩
  · have t4 : decide (48 ≤ x) = false := decide_eq_false h1
    clear h1
    go_enter Tryz.func91, Tryz.ntmps91
    go_wp2_with fail
    go_ret
    exact ⟨ret_bool (by rw [HE.out]; symm; rw [decide_eq_false_iff_not]; have := of_decide_eq_false t4; omega), rfl⟩
theorem ebeg_dash (w : World) : Calls Tryz.prog 91 #[.string ⟨#[45]⟩] w fun e w' => e = .returned (.bool false) ∧ w = w' := by
  have hi : ∀ W, (Instr.index 9 (.string ⟨#[45]⟩) (.int .i64 0)).run Tryz.prog W = .ok (.int .u8 45) W := fun W => (first_at (s := ⟨#[45]⟩) (c := 45) (r := []) rfl).2 W
  have hS : (⟨#[45]⟩ : ByteArray).extract 1 1 = ⟨#[]⟩ := by decide +kernel
  go_enter Tryz.func91, Tryz.ntmps91
  go_wp2_with fail
  go_ret
  exact ⟨rfl, rfl⟩
theorem ebeg_none (w : World) : Calls Tryz.prog 91 #[.string ⟨#[]⟩] w fun e w' => e = .returned (.bool false) ∧ w = w' := by
  go_enter Tryz.func91, Tryz.ntmps91
  go_wp2_with fail
  go_ret
  exact ⟨rfl, rfl⟩
theorem ebeg_any (s : ByteArray) (w : World) (hs : s.size ≤ 9223372036854775807) : Calls Tryz.prog 91 #[.string s] w fun e w' => e = .returned (.bool (El.beg s.data.toList)) ∧ w = w' := by
  cases hl : s.data.toList with
  | nil =>
    obtain rfl := emp hl
    exact ebeg_none w
  | cons c r =>
    by_cases hc : c = 45
    · subst hc
      cases r with
      | nil =>
        obtain rfl := dash_eq hl
        exact ebeg_dash w
      | cons x y => exact ebeg_minus s _ x y w hs hl rfl
    · have e : El.beg (c :: r) = Txt.isD c := by
        cases r with
        | nil => rfl
        | cons x y =>
          show (if c = 45 then Txt.isD x else Txt.isD c) = _
          rw [if_neg hc]
      rw [e]
      exact ebeg_digit s c r w hs hl hc
theorem ebeg_is (s : ByteArray) (v : Bool) (w : World) (hs : s.size ≤ 9223372036854775807) (h : El.beg s.data.toList = v) : Calls Tryz.prog 91 #[.string s] w fun e w' => e = .returned (.bool v) ∧ w = w' := by
  subst h
  exact ebeg_any s w hs
section
variable (B g : Nat) (t : ByteArray) (e : Er) (w : World)
theorem estd_dash (h : t = ⟨#[45]⟩) (hu : En w B g e) : Calls Tryz.prog 69 #[.pointer (some ⟨g, 0, none⟩), .string t] w fun x w' => x = .returned (.int .i64 0) ∧ En w' B g e ∧ Below B w w' := by
  subst h
  have HU := Lib.hid hu
  clear hu
  go_enter Tryz.func69, Tryz.ntmps69
  go_wp2_with fail
  go_ret
  exact ⟨rfl, HU.out, Below.refl _ _⟩
theorem estd_num (v z : Int) (h1 : (t.toList == [45]) = false) (_h2 : ¬ t.toList = [45]) (HP : Hid (∀ W, Below w.heap.size w W → Calls Tryz.prog 87 #[.string t] W fun x w' => x = .returned (.tuple #[.int .i64 v, .int .i64 z]) ∧ Below W.heap.size W w')) (hu : En w B g e) : Calls Tryz.prog 69 #[.pointer (some ⟨g, 0, none⟩), .string t] w fun x w' => x = .returned (.int .i64 z) ∧ En w' B g { e with sd := v } ∧ Below B w w' := by
  have HU := Lib.hid hu
  have hB := hu.base
  have hl0 := hu.lt
  clear hu
  go_enter Tryz.func69, Tryz.ntmps69
  go_wp2_with fail
  refine (HP.out _ (Below.refl _ _)).mono ?_
  rintro x w1 ⟨rfl, b1⟩
  obtain ⟨_, hl, c0, c1, c2, c3, c4, c5, c6, c7, c8, c9, c10, c11, c12, f0, f1, f2, f3, f4, f5, f6, f7, f8, f9, f10, f11, f12⟩ := HU.out.below b1
  have a1 := b1.mono (show B ≤ w.heap.size by omega)
  clear b1 HU
  go_wp2_with fail
  go_ret
  refine ⟨rfl, ⟨hB, by simpa using hl, by go_simp, by go_simp, by go_simp, by go_simp, by go_simp, by go_simp, by go_simp, by go_simp, by go_simp, by go_simp, by go_simp, by go_simp, by go_simp, by go_simp, by go_simp, by go_simp, by go_simp, by go_simp, by go_simp, by go_simp, by go_simp, by go_simp, by go_simp, by go_simp, by go_simp, by go_simp⟩, ?_⟩
  repeat (first | exact Below.refl _ _ | assumption | refine below_drewN ?_ _ | refine Below.drew ?_ | refine Below.setCell ?_ (by first | omega | (simp; done) | (simp; omega)) _ | refine Below.alloc ?_ (by first | omega | (simp; done) | (simp; omega)) _)
theorem esav_dash (h : t = ⟨#[45]⟩) (hu : En w B g e) : Calls Tryz.prog 70 #[.pointer (some ⟨g, 0, none⟩), .string t] w fun x w' => x = .returned (.int .i64 0) ∧ En w' B g { e with k := 0 } ∧ Below B w w' := by
  subst h
  obtain ⟨hB, hl, c0, c1, c2, c3, c4, c5, c6, c7, c8, c9, c10, c11, c12, f0, f1, f2, f3, f4, f5, f6, f7, f8, f9, f10, f11, f12⟩ := hu
  go_enter Tryz.func70, Tryz.ntmps70
  go_wp2_with fail
  go_ret
  refine ⟨rfl, ⟨hB, by simpa using hl, by go_simp, by go_simp, by go_simp, by go_simp, by go_simp, by go_simp, by go_simp, by go_simp, by go_simp, by go_simp, by go_simp, by go_simp, by go_simp, by go_simp, by go_simp, by go_simp, by go_simp, by go_simp, by go_simp, by go_simp, by go_simp, by go_simp, by go_simp, by go_simp, by go_simp, by go_simp⟩, ?_⟩
  repeat (first | exact Below.refl _ _ | assumption | refine below_drewN ?_ _ | refine Below.drew ?_ | refine Below.setCell ?_ (by first | omega | (simp; done) | (simp; omega)) _ | refine Below.alloc ?_ (by first | omega | (simp; done) | (simp; omega)) _)
theorem esav_num (v z : Int) (hs : t.size ≤ 4096) (h1 : (t.toList == [45]) = false) (_h2 : ¬ t.toList = [45]) (HB : Hid (El.beg t.data.toList = true)) (HP : Hid (∀ W, Below w.heap.size w W → Calls Tryz.prog 87 #[.string t] W fun x w' => x = .returned (.tuple #[.int .i64 v, .int .i64 z]) ∧ Below W.heap.size W w')) (hu : En w B g e) : Calls Tryz.prog 70 #[.pointer (some ⟨g, 0, none⟩), .string t] w fun x w' => x = .returned (.int .i64 z) ∧ En w' B g { e with k := 1, sv := v } ∧ Below B w w' := by
  have HU := Lib.hid hu
  have hB := hu.base
  have hl0 := hu.lt
  clear hu
  go_enter Tryz.func70, Tryz.ntmps70
  go_wp2_with fail
  refine (ebeg_is t true _ (by omega) HB.out).mono ?_
  rintro x w' ⟨rfl, rfl⟩
  go_wp2_with fail
  refine (HP.out _ (Below.refl _ _)).mono ?_
  rintro x w1 ⟨rfl, b1⟩
  obtain ⟨_, hl, c0, c1, c2, c3, c4, c5, c6, c7, c8, c9, c10, c11, c12, f0, f1, f2, f3, f4, f5, f6, f7, f8, f9, f10, f11, f12⟩ := HU.out.below b1
  have a1 := b1.mono (show B ≤ w.heap.size by omega)
  clear b1 HU
  go_wp2_with fail
  go_ret
  refine ⟨rfl, ⟨hB, by simpa using hl, by go_simp, by go_simp, by go_simp, by go_simp, by go_simp, by go_simp, by go_simp, by go_simp, by go_simp, by go_simp, by go_simp, by go_simp, by go_simp, by go_simp, by go_simp, by go_simp, by go_simp, by go_simp, by go_simp, by go_simp, by go_simp, by go_simp, by go_simp, by go_simp, by go_simp, by go_simp⟩, ?_⟩
  repeat (first | exact Below.refl _ _ | assumption | refine below_drewN ?_ _ | refine Below.drew ?_ | refine Below.setCell ?_ (by first | omega | (simp; done) | (simp; omega)) _ | refine Below.alloc ?_ (by first | omega | (simp; done) | (simp; omega)) _)
theorem esav_name (hs : t.size ≤ 4096) (h1 : (t.toList == [45]) = false) (_h2 : ¬ t.toList = [45]) (HB : Hid (El.beg t.data.toList = false)) (HN : Hid (Rl.name t.data.toList = true)) (hu : En w B g e) : Calls Tryz.prog 70 #[.pointer (some ⟨g, 0, none⟩), .string t] w fun x w' => x = .returned (.int .i64 0) ∧ En w' B g { e with k := 2, ru := t } ∧ Below B w w' := by
  obtain ⟨hB, hl, c0, c1, c2, c3, c4, c5, c6, c7, c8, c9, c10, c11, c12, f0, f1, f2, f3, f4, f5, f6, f7, f8, f9, f10, f11, f12⟩ := hu
  go_enter Tryz.func70, Tryz.ntmps70
  go_wp2_with fail
  refine (ebeg_is t false _ (by omega) HB.out).mono ?_
  rintro x w' ⟨rfl, rfl⟩
  go_wp2_with fail
  refine (rname_is t true _ (by omega) HN.out).mono ?_
  rintro x w' ⟨rfl, rfl⟩
  go_wp2_with fail
  go_ret
  refine ⟨rfl, ⟨hB, by simpa using hl, by go_simp, by go_simp, by go_simp, by go_simp, by go_simp, by go_simp, by go_simp, by go_simp, by go_simp, by go_simp, by go_simp, by go_simp, by go_simp, by go_simp, by go_simp, by go_simp, by go_simp, by go_simp, by go_simp, by go_simp, by go_simp, by go_simp, by go_simp, by go_simp, by go_simp, by go_simp⟩, ?_⟩
  repeat (first | exact Below.refl _ _ | assumption | refine below_drewN ?_ _ | refine Below.drew ?_ | refine Below.setCell ?_ (by first | omega | (simp; done) | (simp; omega)) _ | refine Below.alloc ?_ (by first | omega | (simp; done) | (simp; omega)) _)
theorem esav_none (hs : t.size ≤ 4096) (h1 : (t.toList == [45]) = false) (_h2 : ¬ t.toList = [45]) (HB : Hid (El.beg t.data.toList = false)) (HN : Hid (Rl.name t.data.toList = false)) (hu : En w B g e) : Calls Tryz.prog 70 #[.pointer (some ⟨g, 0, none⟩), .string t] w fun x w' => x = .returned (.int .i64 7) ∧ En w' B g e ∧ Below B w w' := by
  have HU := Lib.hid hu
  clear hu
  go_enter Tryz.func70, Tryz.ntmps70
  go_wp2_with fail
  refine (ebeg_is t false _ (by omega) HB.out).mono ?_
  rintro x w' ⟨rfl, rfl⟩
  go_wp2_with fail
  refine (rname_is t false _ (by omega) HN.out).mono ?_
  rintro x w' ⟨rfl, rfl⟩
  go_wp2_with fail
  go_ret
  exact ⟨rfl, HU.out, Below.refl _ _⟩
theorem eform_yes (hE : Ev w) (H : Hid (Fm.fmt t.data.toList = true)) (hu : En w B g e) : Calls Tryz.prog 71 #[.pointer (some ⟨g, 0, none⟩), .string t] w fun x w' => x = .returned (.int .i64 0) ∧ En w' B g { e with fm := t } ∧ Below B w w' := by
  have HE := Lib.hid hE
  clear hE
  have HU := Lib.hid hu
  have hB := hu.base
  have hl0 := hu.lt
  clear hu
  go_enter Tryz.func71, Tryz.ntmps71
  go_wp2_with fail
  refine (fcheck_yes t _ HE.out.marks HE.out.mxa H.out).mono ?_
  rintro x w1 ⟨rfl, b1⟩
  obtain ⟨_, hl, c0, c1, c2, c3, c4, c5, c6, c7, c8, c9, c10, c11, c12, f0, f1, f2, f3, f4, f5, f6, f7, f8, f9, f10, f11, f12⟩ := HU.out.below b1
  have a1 := b1.mono (show B ≤ w.heap.size by omega)
  clear b1 HU
  go_wp2_with fail
  go_ret
  refine ⟨rfl, ⟨hB, by simpa using hl, by go_simp, by go_simp, by go_simp, by go_simp, by go_simp, by go_simp, by go_simp, by go_simp, by go_simp, by go_simp, by go_simp, by go_simp, by go_simp, by go_simp, by go_simp, by go_simp, by go_simp, by go_simp, by go_simp, by go_simp, by go_simp, by go_simp, by go_simp, by go_simp, by go_simp, by go_simp⟩, ?_⟩
  repeat (first | exact Below.refl _ _ | assumption | refine below_drewN ?_ _ | refine Below.drew ?_ | refine Below.setCell ?_ (by first | omega | (simp; done) | (simp; omega)) _ | refine Below.alloc ?_ (by first | omega | (simp; done) | (simp; omega)) _)
theorem eform_no (hE : Ev w) (H : Hid (Fm.fmt t.data.toList = false)) (hu : En w B g e) : Calls Tryz.prog 71 #[.pointer (some ⟨g, 0, none⟩), .string t] w fun x w' => x = .returned (.int .i64 4) ∧ En w' B g e ∧ Below B w w' := by
  have HE := Lib.hid hE
  have hl0 := hu.lt
  have hB := hu.base
  clear hE
  have HU := Lib.hid hu
  have hB := hu.base
  have hl0 := hu.lt
  clear hu
  go_enter Tryz.func71, Tryz.ntmps71
  go_wp2_with fail
  refine (fcheck_no t _ HE.out.marks HE.out.mxa H.out).mono ?_
  rintro x w1 ⟨rfl, b1⟩
  go_wp2_with fail
  go_ret
  exact ⟨rfl, HU.out.below b1, b1.mono (by omega)⟩
theorem estd_any (hE : Ev w) (hs : t.size ≤ 4096) (hu : En w B g e) : Calls Tryz.prog 69 #[.pointer (some ⟨g, 0, none⟩), .string t] w fun x w' => x = .returned (.int .i64 (El.step 0 t e).2) ∧ En w' B g (El.step 0 t e).1 ∧ Below B w w' := by
  by_cases h : t.data.toList = [45]
  · have e0 : El.step 0 t e = (e, 0) := by unfold El.step; simp only; rw [if_pos h]
    rw [e0]
    exact estd_dash B g t e w (dash_eq h) hu
  · have e0 : El.step 0 t e = ({ e with sd := (parseL t.data.toList).1 }, (parseL t.data.toList).2) := by unfold El.step; simp only; rw [if_neg h]
    rw [e0]
    have hd := dash_no h
    exact estd_num B g t e w _ _ hd.1 hd.2 (Lib.hid fun W hW => parse_any t W (hE.env.below hW) hs) hu
theorem esav_any (hE : Ev w) (hs : t.size ≤ 4096) (hu : En w B g e) : Calls Tryz.prog 70 #[.pointer (some ⟨g, 0, none⟩), .string t] w fun x w' => x = .returned (.int .i64 (El.step 1 t e).2) ∧ En w' B g (El.step 1 t e).1 ∧ Below B w w' := by
  show Calls Tryz.prog 70 #[.pointer (some ⟨g, 0, none⟩), .string t] w fun x w' => x = .returned (.int .i64 (El.saved t e).2) ∧ En w' B g (El.saved t e).1 ∧ Below B w w'
  unfold El.saved
  by_cases h : t.data.toList = [45]
  · rw [if_pos h]
    exact esav_dash B g t e w (dash_eq h) hu
  · rw [if_neg h]
    have hd := dash_no h
    cases h1 : El.beg t.data.toList with
    | true =>
      rw [if_pos rfl]
      exact esav_num B g t e w _ _ hs hd.1 hd.2 (Lib.hid h1) (Lib.hid fun W hW => parse_any t W (hE.env.below hW) hs) hu
    | false =>
      rw [if_neg (by decide)]
      cases h2 : Rl.name t.data.toList with
      | true =>
        rw [if_pos rfl]
        exact esav_name B g t e w hs hd.1 hd.2 (Lib.hid h1) (Lib.hid h2) hu
      | false =>
        rw [if_neg (by decide)]
        exact esav_none B g t e w hs hd.1 hd.2 (Lib.hid h1) (Lib.hid h2) hu
theorem eform_any (hE : Ev w) (hu : En w B g e) : Calls Tryz.prog 71 #[.pointer (some ⟨g, 0, none⟩), .string t] w fun x w' => x = .returned (.int .i64 (El.step 2 t e).2) ∧ En w' B g (El.step 2 t e).1 ∧ Below B w w' := by
  show Calls Tryz.prog 71 #[.pointer (some ⟨g, 0, none⟩), .string t] w fun x w' => x = .returned (.int .i64 (El.form t e).2) ∧ En w' B g (El.form t e).1 ∧ Below B w w'
  unfold El.form
  cases h : Fm.fmt t.data.toList with
  | true =>
    rw [if_pos rfl]
    exact eform_yes B g t e w hE (Lib.hid h) hu
  | false =>
    rw [if_neg (by decide)]
    exact eform_no B g t e w hE (Lib.hid h) hu
theorem epart0 (e1 : Er) (z : Int) (H : Hid (Calls Tryz.prog 69 #[.pointer (some ⟨g, 0, none⟩), .string t] w fun x w' => x = .returned (.int .i64 z) ∧ En w' B g e1 ∧ Below B w w')) : Calls Tryz.prog 33 #[.pointer (some ⟨g, 0, none⟩), .int .i64 0, .string t] w fun x w' => x = .returned (.int .i64 z) ∧ En w' B g e1 ∧ Below B w w' := by
  go_enter Tryz.func33, Tryz.ntmps33
  go_wp2_with fail
  refine H.out.mono ?_
  rintro x w1 ⟨rfl, u1, b1⟩
  have U1 := Lib.hid u1
  clear u1
  go_wp2_with fail
  go_ret
  exact ⟨rfl, U1.out, b1⟩
theorem epart1 (e1 : Er) (z : Int) (H : Hid (Calls Tryz.prog 70 #[.pointer (some ⟨g, 0, none⟩), .string t] w fun x w' => x = .returned (.int .i64 z) ∧ En w' B g e1 ∧ Below B w w')) : Calls Tryz.prog 33 #[.pointer (some ⟨g, 0, none⟩), .int .i64 1, .string t] w fun x w' => x = .returned (.int .i64 z) ∧ En w' B g e1 ∧ Below B w w' := by
  go_enter Tryz.func33, Tryz.ntmps33
  go_wp2_with fail
  refine H.out.mono ?_
  rintro x w1 ⟨rfl, u1, b1⟩
  have U1 := Lib.hid u1
  clear u1
  go_wp2_with fail
  go_ret
  exact ⟨rfl, U1.out, b1⟩
theorem epart2 (e1 : Er) (z : Int) (H : Hid (Calls Tryz.prog 71 #[.pointer (some ⟨g, 0, none⟩), .string t] w fun x w' => x = .returned (.int .i64 z) ∧ En w' B g e1 ∧ Below B w w')) : Calls Tryz.prog 33 #[.pointer (some ⟨g, 0, none⟩), .int .i64 2, .string t] w fun x w' => x = .returned (.int .i64 z) ∧ En w' B g e1 ∧ Below B w w' := by
  go_enter Tryz.func33, Tryz.ntmps33
  go_wp2_with fail
  refine H.out.mono ?_
  rintro x w1 ⟨rfl, u1, b1⟩
  have U1 := Lib.hid u1
  clear u1
  go_wp2_with fail
  go_ret
  exact ⟨rfl, U1.out, b1⟩
theorem epart_any (i : Nat) (hi : i < 3) (hE : Ev w) (ht : t.size ≤ 4096) (hu : En w B g e) :
    Calls Tryz.prog 33 #[.pointer (some ⟨g, 0, none⟩), .int .i64 (i : Int), .string t] w fun x w' => x = .returned (.int .i64 (El.step i t e).2) ∧ En w' B g (El.step i t e).1 ∧ Below B w w' := by
  have hi3 : i = 0 ∨ i = 1 ∨ i = 2 := by omega
  rcases hi3 with rfl | rfl | rfl
  · exact epart0 B g t w _ _ (Lib.hid (estd_any B g t e w hE ht hu))
  · exact epart1 B g t w _ _ (Lib.hid (esav_any B g t e w hE ht hu))
  · exact epart2 B g t w _ _ (Lib.hid (eform_any B g t e w hE hu))
end
end Go.Proofs.YtigmbkcjmlpfoaaGreatDoor
