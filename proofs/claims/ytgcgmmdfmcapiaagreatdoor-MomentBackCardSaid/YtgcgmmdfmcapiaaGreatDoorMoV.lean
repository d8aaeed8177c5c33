/- Contracts of package moment: readMonth, readPart. -/
import Derived.Test.YtgcgmmdfmcapiaaGreatDoorMoU
namespace Go.Proofs.YtgcgmmdfmcapiaaGreatDoor
open Go.RowKit
/-- An until's seven numbers. -/
structure Ut where
  y : Int
  m : Int
  k : Int
  n : Int
  d : Int
  s : Int
  c : Int
@[reducible] def utV (u : Ut) : Value := .agg #[.int .i64 u.y, .int .i64 u.m, .int .u8 u.k, .int .i64 u.n, .int .i64 u.d, .int .i64 u.s, .int .u8 u.c]
/-- What a text at a place makes of an until, and why it makes none. -/
def Mo.step (i : Nat) (t : ByteArray) (u : Ut) : Ut × Int :=
  match i with
  | 0 => ({ u with y := Mo.yr t.data.toList }, if Mo.yr t.data.toList = 0 then 4 else 0)
  | 1 => ({ u with m := Wd.pick t Wd.mons + 1 }, if Wd.pick t Wd.mons + 1 = 0 then 7 else 0)
  | 2 => match Dy.prs t with
    | some (k, n, d) => ({ u with k := k, n := n, d := d }, 0)
    | none => ({ u with k := 0, n := 0, d := 0 }, 4)
  | _ => ({ u with s := (Mo.prs t.data.toList).1, c := (Mo.prs t.data.toList).2.1 }, (Mo.prs t.data.toList).2.2)
/-- An until at block g. -/
structure Un (w : World) (B g : Nat) (u : Ut) : Prop where
  base : B ≤ g
  lt : g < w.heap.size
  c0 : w.cell? ⟨g, 0, none⟩ = some (.int .i64 u.y)
  c1 : w.cell? ⟨g, 1, none⟩ = some (.int .i64 u.m)
  c2 : w.cell? ⟨g, 2, none⟩ = some (.int .u8 u.k)
  c3 : w.cell? ⟨g, 3, none⟩ = some (.int .i64 u.n)
  c4 : w.cell? ⟨g, 4, none⟩ = some (.int .i64 u.d)
  c5 : w.cell? ⟨g, 5, none⟩ = some (.int .i64 u.s)
  c6 : w.cell? ⟨g, 6, none⟩ = some (.int .u8 u.c)
  f0 : w.frozen? ⟨g, 0, none⟩ = false
  f1 : w.frozen? ⟨g, 1, none⟩ = false
  f2 : w.frozen? ⟨g, 2, none⟩ = false
  f3 : w.frozen? ⟨g, 3, none⟩ = false
  f4 : w.frozen? ⟨g, 4, none⟩ = false
  f5 : w.frozen? ⟨g, 5, none⟩ = false
  f6 : w.frozen? ⟨g, 6, none⟩ = false
theorem Un.below {w w' : World} {B g : Nat} {u : Ut} (h : Un w B g u) (hb : Below w.heap.size w w') : Un w' B g u := by
  obtain ⟨hc, hf⟩ := bcell hb
  have hl := h.lt
  exact ⟨h.base, Nat.lt_of_lt_of_le hl hb.size, (hc _ _ hl).trans h.c0, (hc _ _ hl).trans h.c1, (hc _ _ hl).trans h.c2, (hc _ _ hl).trans h.c3, (hc _ _ hl).trans h.c4, (hc _ _ hl).trans h.c5, (hc _ _ hl).trans h.c6,
    (hf _ _ hl).trans h.f0, (hf _ _ hl).trans h.f1, (hf _ _ hl).trans h.f2, (hf _ _ hl).trans h.f3, (hf _ _ hl).trans h.f4, (hf _ _ hl).trans h.f5, (hf _ _ hl).trans h.f6⟩
theorem readMonth_any (t : ByteArray) (w : World) (hs : t.size ≤ 4294967296) : Calls Tryz.prog 63 #[.string t] w fun e w' => e = .returned (.tuple #[.int .i64 (Wd.pick t Wd.mons + 1), .int .i64 (if Wd.pick t Wd.mons + 1 = 0 then 7 else 0)]) ∧ Below w.heap.size w w' := by
  have hb1 := Wd.pick_ge t Wd.mons
  have hm := monthWord_any t
  by_cases h : Wd.pick t Wd.mons + 1 = 0
  · rw [if_pos h, h]
    rw [h] at hm
    have HM := Lib.hid hm
    clear h hm hb1
    go_enter Tryz.func63, Tryz.ntmps63
    go_wp2_with fail
    refine (HM.out _ hs).mono ?_
    rintro e w1 ⟨rfl, b1⟩
    go_wp2_with fail
    go_ret2
    exact ⟨rfl, b1⟩
  · rw [if_neg h]
    have t1 : (Wd.pick t Wd.mons + 1 == 0) = false := by rw [beq_eq_false_iff_ne]; exact h
    generalize Wd.pick t Wd.mons + 1 = p at *
    have HM := Lib.hid hm
    clear h hm
    go_enter Tryz.func63, Tryz.ntmps63
    go_wp2_with fail
    refine (HM.out _ hs).mono ?_
    rintro e w1 ⟨rfl, b1⟩
    go_wp2_with fail
    go_ret2
    exact ⟨rfl, b1⟩
section
variable (B g : Nat) (t : ByteArray) (u : Ut) (w : World)
theorem part0 (z v : Int) (hu : Un w B g u) (hR : Hid (∀ W, Calls Tryz.prog 62 #[.string t] W fun e w' => e = .returned (.tuple #[.int .i64 v, .int .i64 z]) ∧ W = w')) :
    Calls Tryz.prog 36 #[.pointer (some ⟨g, 0, none⟩), .int .i64 0, .string t] w fun e w' => e = .returned (.int .i64 z) ∧ Un w' B g { u with y := v } ∧ Below B w w' := by
  obtain ⟨hB, hl, c0, c1, c2, c3, c4, c5, c6, f0, f1, f2, f3, f4, f5, f6⟩ := hu
  go_enter Tryz.func36, Tryz.ntmps36
  go_wp2_with fail
  refine (hR.out _).mono ?_
  rintro e w' ⟨rfl, rfl⟩
  go_wp2_with fail
  go_ret
  refine ⟨rfl, ⟨hB, by simpa using hl, by go_simp, by go_simp, by go_simp, by go_simp, by go_simp, by go_simp, by go_simp, by go_simp, by go_simp, by go_simp, by go_simp, by go_simp, by go_simp, by go_simp⟩, ?_⟩
  repeat (first | exact Below.refl _ _ | assumption | refine below_drewN ?_ _ | refine Below.drew ?_ | refine Below.setCell ?_ (by first | omega | (simp; done) | (simp; omega)) _ | refine Below.alloc ?_ (by first | omega | (simp; done) | (simp; omega)) _)
theorem part1 (z v : Int) (hu : Un w B g u) (hR : Hid (∀ W, Calls Tryz.prog 63 #[.string t] W fun e w' => e = .returned (.tuple #[.int .i64 v, .int .i64 z]) ∧ Below W.heap.size W w')) :
    Calls Tryz.prog 36 #[.pointer (some ⟨g, 0, none⟩), .int .i64 1, .string t] w fun e w' => e = .returned (.int .i64 z) ∧ Un w' B g { u with m := v } ∧ Below B w w' := by
  have HU := Lib.hid hu
  have hB := hu.base
  have hl0 := hu.lt
  clear hu
  go_enter Tryz.func36, Tryz.ntmps36
  go_wp2_with fail
  refine (hR.out _).mono ?_
  rintro e w1 ⟨rfl, b1⟩
  obtain ⟨_, hl, c0, c1, c2, c3, c4, c5, c6, f0, f1, f2, f3, f4, f5, f6⟩ := HU.out.below b1
  have a1 := b1.mono (show B ≤ w.heap.size by omega)
  clear b1 HU
  go_wp2_with fail
  go_ret
  refine ⟨rfl, ⟨hB, by simpa using hl, by go_simp, by go_simp, by go_simp, by go_simp, by go_simp, by go_simp, by go_simp, by go_simp, by go_simp, by go_simp, by go_simp, by go_simp, by go_simp, by go_simp⟩, ?_⟩
  repeat (first | exact Below.refl _ _ | assumption | refine below_drewN ?_ _ | refine Below.drew ?_ | refine Below.setCell ?_ (by first | omega | (simp; done) | (simp; omega)) _ | refine Below.alloc ?_ (by first | omega | (simp; done) | (simp; omega)) _)
theorem part2 (z k n d : Int) (hu : Un w B g u) (hR : Hid (∀ W, Below w.heap.size w W → Calls Tryz.prog 64 #[.string t] W fun e w' => e = .returned (.tuple #[.agg #[.int .u8 k, .int .i64 n, .int .i64 d], .int .i64 z]) ∧ Below W.heap.size W w')) :
    Calls Tryz.prog 36 #[.pointer (some ⟨g, 0, none⟩), .int .i64 2, .string t] w fun e w' => e = .returned (.int .i64 z) ∧ Un w' B g { u with k := k, n := n, d := d } ∧ Below B w w' := by
  have HU := Lib.hid hu
  have hB := hu.base
  have hl0 := hu.lt
  clear hu
  go_enter Tryz.func36, Tryz.ntmps36
  go_wp2_with fail
  refine (hR.out _ (Below.refl _ _)).mono ?_
  rintro e w1 ⟨rfl, b1⟩
  obtain ⟨_, hl, c0, c1, c2, c3, c4, c5, c6, f0, f1, f2, f3, f4, f5, f6⟩ := HU.out.below b1
  have a1 := b1.mono (show B ≤ w.heap.size by omega)
  clear b1 HU
  go_wp2_with fail
  go_ret
  refine ⟨rfl, ⟨hB, by simpa using hl, by go_simp, by go_simp, by go_simp, by go_simp, by go_simp, by go_simp, by go_simp, by go_simp, by go_simp, by go_simp, by go_simp, by go_simp, by go_simp, by go_simp⟩, ?_⟩
  repeat (first | exact Below.refl _ _ | assumption | refine below_drewN ?_ _ | refine Below.drew ?_ | refine Below.setCell ?_ (by first | omega | (simp; done) | (simp; omega)) _ | refine Below.alloc ?_ (by first | omega | (simp; done) | (simp; omega)) _)
theorem part3 (z s c : Int) (hu : Un w B g u) (hR : Hid (∀ W, Below w.heap.size w W → Calls Tryz.prog 12 #[.string t] W fun e w' => e = .returned (.tuple #[.agg #[.int .i64 s, .int .u8 c], .int .i64 z]) ∧ Below W.heap.size W w')) :
    Calls Tryz.prog 36 #[.pointer (some ⟨g, 0, none⟩), .int .i64 3, .string t] w fun e w' => e = .returned (.int .i64 z) ∧ Un w' B g { u with s := s, c := c } ∧ Below B w w' := by
  have HU := Lib.hid hu
  have hB := hu.base
  have hl0 := hu.lt
  clear hu
  go_enter Tryz.func36, Tryz.ntmps36
  go_wp2_with fail
  refine (hR.out _ (Below.refl _ _)).mono ?_
  rintro e w1 ⟨rfl, b1⟩
  obtain ⟨_, hl, c0, c1, c2, c3, c4, c5, c6, f0, f1, f2, f3, f4, f5, f6⟩ := HU.out.below b1
  have a1 := b1.mono (show B ≤ w.heap.size by omega)
  clear b1 HU
  go_wp2_with fail
  go_ret
  refine ⟨rfl, ⟨hB, by simpa using hl, by go_simp, by go_simp, by go_simp, by go_simp, by go_simp, by go_simp, by go_simp, by go_simp, by go_simp, by go_simp, by go_simp, by go_simp, by go_simp, by go_simp⟩, ?_⟩
  repeat (first | exact Below.refl _ _ | assumption | refine below_drewN ?_ _ | refine Below.drew ?_ | refine Below.setCell ?_ (by first | omega | (simp; done) | (simp; omega)) _ | refine Below.alloc ?_ (by first | omega | (simp; done) | (simp; omega)) _)
theorem part_any (i : Nat) (hi : i < 4) (hE : Env w) (ht : t.size ≤ 4096) (hu : Un w B g u) :
    Calls Tryz.prog 36 #[.pointer (some ⟨g, 0, none⟩), .int .i64 (i : Int), .string t] w fun e w' => e = .returned (.int .i64 (Mo.step i t u).2) ∧ Un w' B g (Mo.step i t u).1 ∧ Below B w w' := by
  have hi4 : i = 0 ∨ i = 1 ∨ i = 2 ∨ i = 3 := by omega
  rcases hi4 with rfl | rfl | rfl | rfl
  · have h : ∀ W, Calls Tryz.prog 62 #[.string t] W fun e w' => e = .returned (.tuple #[.int .i64 (Mo.yr t.data.toList), .int .i64 (if Mo.yr t.data.toList = 0 then 4 else 0)]) ∧ W = w' := fun W =>
      (readYear_any t W (by omega)).mono fun e w' ⟨he, hw⟩ => ⟨by
        unfold YrE at he
        split at he
        · rename_i h0
          rw [he, h0, if_pos rfl]
        · rename_i h0
          rw [he, if_neg h0], hw⟩
    exact part0 B g t u w _ _ hu (Lib.hid h)
  · exact part1 B g t u w _ _ hu (Lib.hid fun W => readMonth_any t W (by omega))
  · show Calls Tryz.prog 36 #[.pointer (some ⟨g, 0, none⟩), .int .i64 2, .string t] w fun e w' => e = .returned (.int .i64 (Mo.step 2 t u).2) ∧ Un w' B g (Mo.step 2 t u).1 ∧ Below B w w'
    have hM : Mx w := hE.longest
    cases hp : Dy.prs t with
    | none =>
      have e : Mo.step 2 t u = ({ u with k := 0, n := 0, d := 0 }, 4) := by unfold Mo.step; rw [hp]; rfl
      rw [e]
      exact part2 B g t u w _ _ _ _ hu (Lib.hid fun W hW => dparse_no t W (hM.below hW) (by omega) hp)
    | some r =>
      obtain ⟨k, n, d⟩ := r
      have e : Mo.step 2 t u = ({ u with k := k, n := n, d := d }, 0) := by unfold Mo.step; rw [hp]; rfl
      rw [e]
      exact part2 B g t u w _ _ _ _ hu (Lib.hid fun W hW => dparse_yes t k n d W (hM.below hW) (by omega) hp)
  · exact part3 B g t u w _ _ _ hu (Lib.hid fun W hW => mparse_any t W (hE.below hW) ht)
end
end Go.Proofs.YtgcgmmdfmcapiaaGreatDoor
