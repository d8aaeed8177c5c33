/- Untils there and back: what is read of their texts, and of the texts without the last one; what is read is right. No walk. -/
import Derived.Test.YtgcgmmdfmcapiaaGreatDoorMoY
namespace Go.Proofs.YtgcgmmdfmcapiaaGreatDoor
open Go.RowKit
theorem ten_len (u : Nat) (h : u < 10000) : (Lib.decDigits u).length ≤ 4 := by
  rw [Lib.decDigits]
  split
  · simp
  · rw [Lib.decDigits]
    split
    · simp
    · rw [Lib.decDigits]
      split
      · simp
      · rw [Lib.decDigits, dif_pos (by omega)]
        simp
theorem yr_itoa (y : Int) (h1 : 1 ≤ y) (h2 : y ≤ 9999) : Mo.yr (Lib.itoa y) = y := by
  have e : Lib.itoa y = Lib.decDigits y.toNat := by
    unfold Lib.itoa
    rw [if_neg (by omega)]
  obtain ⟨a, b, _⟩ := dec_all y.toNat y.toNat (Nat.le_refl _)
  have hv : Mo.yv (Lib.itoa y) = y := by
    rw [e]
    show Txt.val (Lib.decDigits y.toNat) = y
    rw [b]
    omega
  unfold Mo.yr
  rw [hv, if_pos ⟨by rw [e]; exact ten_len _ (by omega), by rw [e]; exact a, h1⟩]
theorem yr_ok (l : List UInt8) (h : Mo.yr l ≠ 0) : 1 ≤ Mo.yr l ∧ Mo.yr l ≤ 9999 := by
  unfold Mo.yr at *
  split at h
  · rename_i hc
    rw [if_pos hc]
    have := yv_bd l.length l rfl hc.1 hc.2.1
    have := pow_le4 l.length hc.1
    exact ⟨hc.2.2, by omega⟩
  · exact absurd rfl h
/-- What is right of an until but for its year. -/
def Mo.good (u : Ut) : Prop := 1 ≤ u.m ∧ u.m ≤ 12 ∧ Dy.right u.k u.n u.d = true ∧ Mo.right u.s u.c = true ∧ 0 ≤ u.c
theorem good_first : Mo.good Ut.first := ⟨by decide, by decide, by decide, by decide, by decide⟩
theorem step_ok (i : Nat) (hi : i < 4) (t : ByteArray) (u : Ut) (hg : Mo.good u) (hy : 0 < i → 1 ≤ u.y ∧ u.y ≤ 9999) (h : (Mo.step i t u).2 = 0) : Mo.good (Mo.step i t u).1 ∧ 1 ≤ (Mo.step i t u).1.y ∧ (Mo.step i t u).1.y ≤ 9999 := by
  obtain ⟨g1, g2, g3, g4, g5⟩ := hg
  have hi4 : i = 0 ∨ i = 1 ∨ i = 2 ∨ i = 3 := by omega
  rcases hi4 with rfl | rfl | rfl | rfl
  · have h : (if Mo.yr t.data.toList = 0 then (4 : Int) else 0) = 0 := h
    have hne : Mo.yr t.data.toList ≠ 0 := fun e => by rw [if_pos e] at h; cases h
    have := yr_ok _ hne
    exact ⟨⟨g1, g2, g3, g4, g5⟩, this.1, this.2⟩
  · have h : (if Wd.pick t Wd.mons + 1 = 0 then (7 : Int) else 0) = 0 := h
    have hne : Wd.pick t Wd.mons + 1 ≠ 0 := fun e => by rw [if_pos e] at h; cases h
    have p1 := Wd.pick_ge t Wd.mons
    have p2 : Wd.pick t Wd.mons < 12 := Wd.pick_lt t Wd.mons
    have hy := hy (by omega)
    exact ⟨⟨by show 1 ≤ Wd.pick t Wd.mons + 1; omega, by show Wd.pick t Wd.mons + 1 ≤ 12; omega, g3, g4, g5⟩, hy.1, hy.2⟩
  · have hy := hy (by omega)
    cases hp : Dy.prs t with
    | none =>
      have e : Mo.step 2 t u = ({ u with k := 0, n := 0, d := 0 }, 4) := by unfold Mo.step; rw [hp]; rfl
      rw [e] at h
      cases h
    | some r =>
      obtain ⟨k, n, d⟩ := r
      have e : Mo.step 2 t u = ({ u with k := k, n := n, d := d }, 0) := by unfold Mo.step; rw [hp]; rfl
      rw [e]
      exact ⟨⟨g1, g2, Dy.prs_right hp, g4, g5⟩, hy.1, hy.2⟩
  · have hy := hy (by omega)
    have h : (Mo.prs t.data.toList).2.2 = 0 := h
    exact ⟨⟨g1, g2, g3, prs_right _ h, by show (0 : Int) ≤ (((Mo.prs t.data.toList).2.1 : Nat) : Int); omega⟩, hy.1, hy.2⟩
theorem run_ok : ∀ (l : List ByteArray) (i : Nat) (u : Ut), i + l.length ≤ 4 → Mo.good u → (0 < i → 1 ≤ u.y ∧ u.y ≤ 9999) →
    ((Mo.run i l u).2.2 = 0 → (Mo.run i l u).2.1 = 0 ∧ Mo.good (Mo.run i l u).1 ∧ (0 < i + l.length → 1 ≤ (Mo.run i l u).1.y ∧ (Mo.run i l u).1.y ≤ 9999)) ∧
    ((Mo.run i l u).2.2 ≠ 0 → (Mo.run i l u).1 = Ut.zero ∧ (Mo.run i l u).2.1 < i + l.length)
  | [], i, u, _, hg, hy => by
    unfold Mo.run
    exact ⟨fun _ => ⟨rfl, hg, by simpa using hy⟩, fun h => absurd rfl h⟩
  | t :: l, i, u, hl, hg, hy => by
    have hl' : i + (l.length + 1) ≤ 4 := by simpa using hl
    unfold Mo.run
    by_cases h0 : (Mo.step i t u).2 = 0
    · rw [if_pos h0]
      have hs := step_ok i (by omega) t u hg hy h0
      have ih := run_ok l (i + 1) (Mo.step i t u).1 (by omega) hs.1 (fun _ => hs.2)
      have e : i + (t :: l).length = i + 1 + l.length := by simp; omega
      rw [e]
      exact ih
    · rw [if_neg h0]
      refine ⟨fun h => absurd h h0, fun _ => ⟨rfl, ?_⟩⟩
      show i < i + (t :: l).length
      simp
/-- What is read of any texts. -/
theorem prsU_ok (L : List ByteArray) : ((Mo.prsU L).2.2 = 0 → (Mo.prsU L).2.1 = 0 ∧ Mo.un (Mo.prsU L).1 = true ∧ 0 ≤ (Mo.prsU L).1.c) ∧
    ((Mo.prsU L).2.2 ≠ 0 → (Mo.prsU L).1 = Ut.zero ∧ (Mo.prsU L).2.1 ≤ 4 ∧ (Mo.prsU L).2.1 ≤ L.length) := by
  unfold Mo.prsU
  by_cases h0 : L = []
  · rw [if_pos h0]
    exact ⟨(fun h => by cases h), fun _ => ⟨rfl, by simp, by simp⟩⟩
  · rw [if_neg h0]
    by_cases h4 : 4 < L.length
    · rw [if_pos h4]
      exact ⟨(fun h => by cases h), fun _ => ⟨rfl, Nat.le_refl _, by show 4 ≤ L.length; omega⟩⟩
    · rw [if_neg h4]
      have hr := run_ok L 0 Ut.first (by omega) good_first (fun h => absurd h (by omega))
      have hp : 0 < 0 + L.length := by
        cases L with
        | nil => exact absurd rfl h0
        | cons a b => simp
      refine ⟨fun h => ?_, fun h => ?_⟩
      · obtain ⟨e, g, y⟩ := hr.1 h
        obtain ⟨g1, g2, g3, g4, g5⟩ := g
        have y := y hp
        refine ⟨e, ?_, g5⟩
        unfold Mo.un Mo.unt
        rw [g3, g4, show decide (1 ≤ (Mo.run 0 L Ut.first).1.y ∧ (Mo.run 0 L Ut.first).1.y ≤ 9999 ∧ 1 ≤ (Mo.run 0 L Ut.first).1.m ∧ (Mo.run 0 L Ut.first).1.m ≤ 12) = true from decide_eq_true ⟨y.1, y.2, g1, g2⟩]
        rfl
      · obtain ⟨e, g⟩ := hr.2 h
        exact ⟨e, by omega, by omega⟩
def Mo.texts (u : Ut) : List ByteArray := [Mo.t0 u, Mo.t1 u, Mo.t2 u, Mo.t3 u]
section
variable {u : Ut} (h : Mo.un u = true) (c0 : 0 ≤ u.c)
include h
theorem st0 (v : Ut) : Mo.step 0 (Mo.t0 u) v = ({ v with y := u.y }, 0) := by
  obtain ⟨⟨y1, y2, m1, m2⟩, hd, hr⟩ := unt_parts h
  have e : Mo.yr (Mo.t0 u).data.toList = u.y := by
    show Mo.yr (Lib.itoa u.y).toArray.toList = u.y
    rw [List.toList_toArray]
    exact yr_itoa u.y y1 y2
  show (({ v with y := Mo.yr (Mo.t0 u).data.toList } : Ut), if Mo.yr (Mo.t0 u).data.toList = 0 then (4 : Int) else 0) = _
  rw [e, if_neg (by omega)]
theorem st1 (v : Ut) : Mo.step 1 (Mo.t1 u) v = ({ v with m := u.m }, 0) := by
  obtain ⟨⟨y1, y2, m1, m2⟩, hd, hr⟩ := unt_parts h
  have e : Wd.pick (Mo.t1 u) Wd.mons + 1 = u.m := by
    have := (Wd.mons_back (u.m - 1).toNat (by omega)).1
    show Wd.pick (Wd.three Wd.mons (u.m - 1).toNat) Wd.mons + 1 = u.m
    rw [this]
    omega
  show (({ v with m := Wd.pick (Mo.t1 u) Wd.mons + 1 } : Ut), if Wd.pick (Mo.t1 u) Wd.mons + 1 = 0 then (7 : Int) else 0) = _
  rw [e, if_neg (by omega)]
theorem st2 (v : Ut) : Mo.step 2 (Mo.t2 u) v = ({ v with k := u.k, n := u.n, d := u.d }, 0) := by
  obtain ⟨_, hd, hr⟩ := unt_parts h
  unfold Mo.step
  rw [show Dy.prs (Mo.t2 u) = some (u.k, u.n, u.d) from Dy.back hd]
  rfl
include c0
theorem prs_t3 : Mo.prs (Mo.t3 u).data.toList = (u.s, u.c.toNat, 0) := by
  obtain ⟨_, hd, hr⟩ := unt_parts h
  have e : ((u.c.toNat : Nat) : Int) = u.c := by omega
  show Mo.prs (Mo.txt u.s u.c).toArray.toList = _
  rw [List.toList_toArray, ← e]
  exact prs_txt u.s u.c.toNat (by rw [e]; exact hr)
theorem st3 (v : Ut) : Mo.step 3 (Mo.t3 u) v = ({ v with s := u.s, c := u.c }, 0) := by
  show (({ v with s := (Mo.prs (Mo.t3 u).data.toList).1, c := (((Mo.prs (Mo.t3 u).data.toList).2.1 : Nat) : Int) } : Ut), (Mo.prs (Mo.t3 u).data.toList).2.2) = _
  rw [prs_t3 h c0]
  show (({ v with s := u.s, c := ((u.c.toNat : Nat) : Int) } : Ut), (0 : Int)) = _
  rw [show ((u.c.toNat : Nat) : Int) = u.c by omega]
theorem d3 (e : (Mo.t3 u).data.toList = [48, 58, 48, 48]) : u.s = 0 ∧ u.c = 0 := by
  have h1 := prs_t3 h c0
  rw [e, show Mo.prs [48, 58, 48, 48] = (0, 0, 0) by decide +kernel] at h1
  injection h1 with h2 h3
  injection h3 with h3 _
  exact ⟨h2.symm, by omega⟩
omit c0 in
theorem d2 (e : (Mo.t2 u).data.toList = [49]) : u.k = 0 ∧ u.n = 1 ∧ u.d = 0 := by
  obtain ⟨_, hd, hr⟩ := unt_parts h
  have h1 : Dy.prs (Mo.t2 u) = some (u.k, u.n, u.d) := Dy.back hd
  rw [show Mo.t2 u = ⟨#[49]⟩ from ByteArray.ext (Array.toList_inj.1 (by rw [e])), show Dy.prs ⟨#[49]⟩ = some (0, 1, 0) by decide +kernel] at h1
  injection h1 with h2
  injection h2 with h2 h3
  injection h3 with h3 h4
  exact ⟨h2.symm, h3.symm, h4.symm⟩
omit c0 in
theorem d1 (e : (Mo.t1 u).data.toList = [74, 97, 110]) : u.m = 1 := by
  have h1 := congrArg (fun r => r.1.m) (st1 h Ut.first)
  have h2 : Wd.pick (Mo.t1 u) Wd.mons + 1 = u.m := h1
  rw [show Mo.t1 u = ⟨#[74, 97, 110]⟩ from ByteArray.ext (Array.toList_inj.1 (by rw [e])), show Wd.pick ⟨#[74, 97, 110]⟩ Wd.mons = 0 by decide +kernel] at h2
  omega
theorem run4 : Mo.prsU [Mo.t0 u, Mo.t1 u, Mo.t2 u, Mo.t3 u] = (u, 0, 0) := by
  show Mo.run 0 [Mo.t0 u, Mo.t1 u, Mo.t2 u, Mo.t3 u] Ut.first = _
  rw [Mo.run, st0 h, if_pos rfl, Mo.run, st1 h, if_pos rfl, Mo.run, st2 h, if_pos rfl, Mo.run, st3 h c0, if_pos rfl, Mo.run]
omit c0 in
theorem run3 : Mo.prsU [Mo.t0 u, Mo.t1 u, Mo.t2 u] = (⟨u.y, u.m, u.k, u.n, u.d, 0, 0⟩, 0, 0) := by
  show Mo.run 0 [Mo.t0 u, Mo.t1 u, Mo.t2 u] Ut.first = _
  rw [Mo.run, st0 h, if_pos rfl, Mo.run, st1 h, if_pos rfl, Mo.run, st2 h, if_pos rfl, Mo.run]
  rfl
omit c0 in
theorem run2 : Mo.prsU [Mo.t0 u, Mo.t1 u] = (⟨u.y, u.m, 0, 1, 0, 0, 0⟩, 0, 0) := by
  show Mo.run 0 [Mo.t0 u, Mo.t1 u] Ut.first = _
  rw [Mo.run, st0 h, if_pos rfl, Mo.run, st1 h, if_pos rfl, Mo.run]
  rfl
omit c0 in
theorem run1 : Mo.prsU [Mo.t0 u] = (⟨u.y, 1, 0, 1, 0, 0, 0⟩, 0, 0) := by
  show Mo.run 0 [Mo.t0 u] Ut.first = _
  rw [Mo.run, st0 h, if_pos rfl, Mo.run]
  rfl
/-- What the texts that are needed tell, and what they tell without the last one. -/
theorem back_cases :
    (Mo.ndU u = 4 ∧ Mo.prsU [Mo.t0 u, Mo.t1 u, Mo.t2 u, Mo.t3 u] = (u, 0, 0) ∧ Mo.prsU [Mo.t0 u, Mo.t1 u, Mo.t2 u] = (⟨u.y, u.m, u.k, u.n, u.d, 0, 0⟩, 0, 0) ∧ ¬ (u.s = 0 ∧ u.c = 0)) ∨
    (Mo.ndU u = 3 ∧ Mo.prsU [Mo.t0 u, Mo.t1 u, Mo.t2 u] = (u, 0, 0) ∧ Mo.prsU [Mo.t0 u, Mo.t1 u] = (⟨u.y, u.m, 0, 1, 0, 0, 0⟩, 0, 0) ∧ ¬ (u.k = 0 ∧ u.n = 1 ∧ u.d = 0)) ∨
    (Mo.ndU u = 2 ∧ Mo.prsU [Mo.t0 u, Mo.t1 u] = (u, 0, 0) ∧ Mo.prsU [Mo.t0 u] = (⟨u.y, 1, 0, 1, 0, 0, 0⟩, 0, 0) ∧ u.m ≠ 1) ∨
    (Mo.ndU u = 1 ∧ Mo.prsU [Mo.t0 u] = (u, 0, 0) ∧ Mo.prsU [] = (Ut.zero, 0, 5) ∧ u.y ≠ 0) := by
  obtain ⟨⟨y1, _, _, _⟩, _, _⟩ := unt_parts h
  have r4 := run4 h c0
  have r3 := run3 h
  have r2 := run2 h
  have r1 := run1 h
  by_cases h3 : (Mo.t3 u).data.toList = [48, 58, 48, 48]
  · obtain ⟨es, ec⟩ := d3 h c0 h3
    by_cases h2 : (Mo.t2 u).data.toList = [49]
    · obtain ⟨ek, en, ed⟩ := d2 h h2
      by_cases h1 : (Mo.t1 u).data.toList = [74, 97, 110]
      · have em := d1 h h1
        refine .inr (.inr (.inr ⟨by unfold Mo.ndU Mo.nd; rw [if_pos h3, if_pos h2, if_pos h1], ?_, rfl, by omega⟩))
        rw [r1]
        obtain ⟨y, m, k, n, d, s, c⟩ := u
        simp only at es ec ek en ed em
        subst es ec ek en ed em
        rfl
      · refine .inr (.inr (.inl ⟨by unfold Mo.ndU Mo.nd; rw [if_pos h3, if_pos h2, if_neg h1], ?_, r1, ?_⟩))
        · rw [r2]
          obtain ⟨y, m, k, n, d, s, c⟩ := u
          simp only at es ec ek en ed
          subst es ec ek en ed
          rfl
        · intro em
          apply h1
          unfold Mo.t1
          rw [em]
          decide +kernel
    · refine .inr (.inl ⟨by unfold Mo.ndU Mo.nd; rw [if_pos h3, if_neg h2], ?_, r2, ?_⟩)
      · rw [r3]
        obtain ⟨y, m, k, n, d, s, c⟩ := u
        simp only at es ec
        subst es ec
        rfl
      · rintro ⟨ek, en, ed⟩
        apply h2
        unfold Mo.t2
        rw [ek, en, ed]
        decide +kernel
  · refine .inl ⟨by unfold Mo.ndU Mo.nd; rw [if_neg h3], r4, r3, ?_⟩
    rintro ⟨es, ec⟩
    apply h3
    unfold Mo.t3
    rw [es, ec]
    decide +kernel
end
end Go.Proofs.YtgcgmmdfmcapiaaGreatDoor
