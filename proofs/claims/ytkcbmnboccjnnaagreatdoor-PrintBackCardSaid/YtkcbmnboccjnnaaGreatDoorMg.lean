/- El, ErR, ErP, ErQ, ErT, Ex, EraSize, F5, Okt, one behind the other. -/
import Derived.Test.YtkcbmnboccjnnaaGreatDoorMf
import Derived.OwnWalk
import Derived.Test.YtkcbmnboccjnnaaGreatDoorMe
import Derived.Laws.OwnMore
import Derived.Deep.RegionHeld3
/- Eras as numbers and texts: which are right, what texts tell, and that a right era is read from its texts. No walk. -/

namespace Go.Proofs.YtkcbmnboccjnnaaGreatDoor
open Go.RowKit
/-- An era: its standard offset, its kind, what is saved; the rules' name and the format; whether it ends, and when. -/
structure Er where
  sd : Int
  k : Int
  sv : Int
  ru : ByteArray
  fm : ByteArray
  en : Bool
  u : Ut
@[reducible] def erV (e : Er) : Value := .agg #[.int .i64 e.sd, .int .u8 e.k, .int .i64 e.sv, .string e.ru, .string e.fm, .bool e.en, .int .i64 e.u.y, .int .i64 e.u.m, .int .u8 e.u.k, .int .i64 e.u.n, .int .i64 e.u.d, .int .i64 e.u.s, .int .u8 e.u.c]
def Er.zero : Er := ⟨0, 0, 0, ⟨#[]⟩, ⟨#[]⟩, false, ⟨0, 0, 0, 0, 0, 0, 0⟩⟩
/-- What an era's kind asks for. -/
def El.kind (k sv : Int) (ru : List UInt8) : Bool :=
  if k = 0 then decide (sv = 0) && decide (ru = []) else if k = 1 then Rl.time sv && decide (ru = []) else if k = 2 then decide (sv = 0) && Rl.name ru else false
/-- There is no until. -/
def Ut.nil (u : Ut) : Bool := decide (u.y = 0 ∧ u.m = 0 ∧ u.k = 0 ∧ u.n = 0 ∧ u.d = 0 ∧ u.s = 0 ∧ u.c = 0)
theorem nil_eq {u : Ut} (h : u.nil = true) : u = Ut.zero := by
  obtain ⟨y, m, k, n, d, s, c⟩ := u
  obtain ⟨h1, h2, h3, h4, h5, h6, h7⟩ := of_decide_eq_true h
  simp only at h1 h2 h3 h4 h5 h6 h7
  subst h1 h2 h3 h4 h5 h6 h7
  rfl
def El.ends (en : Bool) (u : Ut) : Bool := if en = true then Mo.un u else u.nil
/-- An era is right. -/
def El.right (e : Er) : Bool := Rl.time e.sd && (El.kind e.k e.sv e.ru.data.toList && (Fm.fmt e.fm.data.toList && El.ends e.en e.u))
theorem el_parts {e : Er} (h : El.right e = true) : (-604800 ≤ e.sd ∧ e.sd ≤ 604800) ∧ El.kind e.k e.sv e.ru.data.toList = true ∧ Fm.fmt e.fm.data.toList = true ∧ El.ends e.en e.u = true := by
  unfold El.right at h
  simp only [Bool.and_eq_true] at h
  obtain ⟨h1, h2, h3, h4⟩ := h
  exact ⟨of_decide_eq_true h1, h2, h3, h4⟩
theorem el_of {e : Er} (h1 : -604800 ≤ e.sd ∧ e.sd ≤ 604800) (h2 : El.kind e.k e.sv e.ru.data.toList = true) (h3 : Fm.fmt e.fm.data.toList = true) (h4 : El.ends e.en e.u = true) : El.right e = true := by
  unfold El.right
  rw [h2, h3, h4, show Rl.time e.sd = true from decide_eq_true h1]
  rfl
theorem kind_cases {k sv : Int} {ru : List UInt8} (h : El.kind k sv ru = true) : (k = 0 ∧ sv = 0 ∧ ru = []) ∨ (k = 1 ∧ (-604800 ≤ sv ∧ sv ≤ 604800) ∧ ru = []) ∨ (k = 2 ∧ sv = 0 ∧ Rl.name ru = true) := by
  unfold El.kind at h
  by_cases h0 : k = 0
  · rw [if_pos h0, Bool.and_eq_true] at h
    exact .inl ⟨h0, of_decide_eq_true h.1, of_decide_eq_true h.2⟩
  · rw [if_neg h0] at h
    by_cases h1 : k = 1
    · rw [if_pos h1, Bool.and_eq_true] at h
      exact .inr (.inl ⟨h1, of_decide_eq_true h.1, of_decide_eq_true h.2⟩)
    · rw [if_neg h1] at h
      by_cases h2 : k = 2
      · rw [if_pos h2, Bool.and_eq_true] at h
        exact .inr (.inr ⟨h2, of_decide_eq_true h.1, h.2⟩)
      · rw [if_neg h2] at h
        cases h
/-- A text begins as that of a time does. -/
def El.beg : List UInt8 → Bool
  | [] => false
  | [c] => Txt.isD c
  | c :: x :: _ => if c = 45 then Txt.isD x else Txt.isD c
def El.std (l : List UInt8) : Int × Int := if l = [45] then (0, 0) else parseL l
def El.saved (t : ByteArray) (e : Er) : Er × Int :=
  if t.data.toList = [45] then ({ e with k := 0 }, 0) else if El.beg t.data.toList = true then ({ e with k := 1, sv := (parseL t.data.toList).1 }, (parseL t.data.toList).2)
  else if Rl.name t.data.toList = true then ({ e with k := 2, ru := t }, 0) else (e, 7)
def El.form (t : ByteArray) (e : Er) : Er × Int := if Fm.fmt t.data.toList = true then ({ e with fm := t }, 0) else (e, 4)
/-- What a text at a place makes of an era, and why it makes none. -/
def El.step (i : Nat) (t : ByteArray) (e : Er) : Er × Int :=
  match i with
  | 0 => if t.data.toList = [45] then (e, 0) else ({ e with sd := (parseL t.data.toList).1 }, (parseL t.data.toList).2)
  | 1 => El.saved t e
  | _ => El.form t e
def El.run : Nat → List ByteArray → Er → Er × Nat × Int
  | _, [], e => (e, 0, 0)
  | i, t :: l, e => if (El.step i t e).2 = 0 then El.run (i + 1) l (El.step i t e).1 else (Er.zero, i, (El.step i t e).2)
/-- The era that texts tell, or the place of what tells none, and why. -/
def El.prs (L : List ByteArray) : Er × Nat × Int :=
  if (El.run 0 (L.take 3) Er.zero).2.2 ≠ 0 then El.run 0 (L.take 3) Er.zero
  else if L.length < 3 then (Er.zero, L.length, 5) else if L.length = 3 then El.run 0 (L.take 3) Er.zero
  else if (Mo.prsU (L.drop 3)).2.2 ≠ 0 then (Er.zero, 3 + (Mo.prsU (L.drop 3)).2.1, (Mo.prsU (L.drop 3)).2.2)
  else ({ (El.run 0 (L.take 3) Er.zero).1 with en := true, u := (Mo.prsU (L.drop 3)).1 }, 0, 0)
theorem eprs_stop {L : List ByteArray} {k : Nat} {z : Int} (h : El.run 0 (L.take 3) Er.zero = (Er.zero, k, z)) (hz : z ≠ 0) : El.prs L = (Er.zero, k, z) := by
  unfold El.prs
  rw [h, if_pos hz]
theorem eprs_short {L : List ByteArray} {e : Er} (h : El.run 0 (L.take 3) Er.zero = (e, 0, 0)) (hl : L.length < 3) : El.prs L = (Er.zero, L.length, 5) := by
  unfold El.prs
  rw [h, if_neg (fun h => h rfl), if_pos hl]
theorem eprs_three {L : List ByteArray} {e : Er} (h : El.run 0 (L.take 3) Er.zero = (e, 0, 0)) (hl : L.length = 3) : El.prs L = (e, 0, 0) := by
  unfold El.prs
  rw [h, if_neg (fun h => h rfl), if_neg (by omega), if_pos hl]
theorem eprs_wrong {L : List ByteArray} {e : Er} {u : Ut} {i : Nat} {z : Int} (h : El.run 0 (L.take 3) Er.zero = (e, 0, 0)) (hl : 3 < L.length) (hu : Mo.prsU (L.drop 3) = (u, i, z)) (hz : z ≠ 0) : El.prs L = (Er.zero, 3 + i, z) := by
  unfold El.prs
  rw [h, if_neg (fun h => h rfl), if_neg (by omega), if_neg (by omega), hu, if_pos hz]
theorem eprs_ends {L : List ByteArray} {e : Er} {u : Ut} {i : Nat} (h : El.run 0 (L.take 3) Er.zero = (e, 0, 0)) (hl : 3 < L.length) (hu : Mo.prsU (L.drop 3) = (u, i, 0)) : El.prs L = ({ e with en := true, u := u }, 0, 0) := by
  unfold El.prs
  rw [h, if_neg (fun h => h rfl), if_neg (by omega), if_neg (by omega), hu, if_neg (fun h => h rfl)]
/-- What is right of an era when so many texts are read. -/
structure El.good (i : Nat) (e : Er) : Prop where
  no : e.en = false
  nu : e.u = ⟨0, 0, 0, 0, 0, 0, 0⟩
  g0 : -604800 ≤ e.sd ∧ e.sd ≤ 604800
  z1 : i ≤ 1 → e.sv = 0 ∧ e.ru = ⟨#[]⟩
  g1 : 1 < i → El.kind e.k e.sv e.ru.data.toList = true
  k0 : 0 ≤ e.k
  g2 : 2 < i → Fm.fmt e.fm.data.toList = true
theorem egood_zero : El.good 0 Er.zero := ⟨rfl, rfl, ⟨by decide, by decide⟩, fun _ => ⟨rfl, rfl⟩, fun h => absurd h (by omega), by decide, fun h => absurd h (by omega)⟩
theorem estep_ok (i : Nat) (hi : i < 3) (t : ByteArray) (e : Er) (h : El.good i e) (hz : (El.step i t e).2 = 0) : El.good (i + 1) (El.step i t e).1 := by
  obtain ⟨no, nu, g0, z1, g1, k0, g2⟩ := h
  have hi3 : i = 0 ∨ i = 1 ∨ i = 2 := by omega
  rcases hi3 with rfl | rfl | rfl
  · have z := z1 (by omega)
    unfold El.step at *
    simp only at hz ⊢
    by_cases h0 : t.data.toList = [45]
    · rw [if_pos h0]
      exact ⟨no, nu, g0, fun _ => z, fun h => absurd h (by omega), k0, fun h => absurd h (by omega)⟩
    · rw [if_neg h0] at hz ⊢
      exact ⟨no, nu, parse_ok _ hz, fun _ => z, fun h => absurd h (by omega), k0, fun h => absurd h (by omega)⟩
  · obtain ⟨zs, zr⟩ := z1 (by omega)
    have hz : (El.saved t e).2 = 0 := hz
    show El.good 2 (El.saved t e).1
    unfold El.saved at *
    by_cases h0 : t.data.toList = [45]
    · rw [if_pos h0]
      refine ⟨no, nu, g0, fun h => absurd h (by omega), fun _ => ?_, by show (0 : Int) ≤ 0; omega, fun h => absurd h (by omega)⟩
      show El.kind 0 e.sv e.ru.data.toList = true
      rw [zs, zr]
      decide +kernel
    · rw [if_neg h0] at hz ⊢
      by_cases h1 : El.beg t.data.toList = true
      · rw [if_pos h1] at hz ⊢
        have hp := parse_ok _ hz
        refine ⟨no, nu, g0, fun h => absurd h (by omega), fun _ => ?_, by show (0 : Int) ≤ 1; omega, fun h => absurd h (by omega)⟩
        show El.kind 1 (parseL t.data.toList).1 e.ru.data.toList = true
        unfold El.kind
        rw [if_neg (by decide), if_pos rfl, show Rl.time (parseL t.data.toList).1 = true from decide_eq_true hp, zr]
        rfl
      · rw [if_neg h1] at hz ⊢
        by_cases h2 : Rl.name t.data.toList = true
        · rw [if_pos h2]
          refine ⟨no, nu, g0, fun h => absurd h (by omega), fun _ => ?_, by show (0 : Int) ≤ 2; omega, fun h => absurd h (by omega)⟩
          show El.kind 2 e.sv t.data.toList = true
          unfold El.kind
          rw [if_neg (by decide), if_neg (by decide), if_pos rfl, h2, zs]
          rfl
        · rw [if_neg h2] at hz
          cases hz
  · have hz : (El.form t e).2 = 0 := hz
    show El.good 3 (El.form t e).1
    have g1 := g1 (by omega)
    unfold El.form at *
    by_cases h0 : Fm.fmt t.data.toList = true
    · rw [if_pos h0]
      exact ⟨no, nu, g0, fun h => absurd h (by omega), fun _ => g1, k0, fun _ => h0⟩
    · rw [if_neg h0] at hz
      cases hz
theorem erun_ok : ∀ (l : List ByteArray) (i : Nat) (e : Er), i + l.length ≤ 3 → El.good i e →
    ((El.run i l e).2.2 = 0 → (El.run i l e).2.1 = 0 ∧ El.good (i + l.length) (El.run i l e).1) ∧ ((El.run i l e).2.2 ≠ 0 → (El.run i l e).1 = Er.zero ∧ (El.run i l e).2.1 < i + l.length)
  | [], i, e, _, hg => by
    unfold El.run
    exact ⟨fun _ => ⟨rfl, hg⟩, fun h => absurd rfl h⟩
  | t :: l, i, e, hl, hg => by
    have hl' : i + (l.length + 1) ≤ 3 := by simpa using hl
    unfold El.run
    by_cases h0 : (El.step i t e).2 = 0
    · rw [if_pos h0]
      have ih := erun_ok l (i + 1) (El.step i t e).1 (by omega) (estep_ok i (by omega) t e hg h0)
      rw [show i + (t :: l).length = i + 1 + l.length by simp; omega]
      exact ih
    · rw [if_neg h0]
      refine ⟨fun h => absurd h h0, fun _ => ⟨rfl, ?_⟩⟩
      show i < i + (t :: l).length
      simp
/-- How many texts an era has. -/
def El.num (e : Er) : Nat := if e.en = true then 3 + Mo.ndU e.u else 3
/-- Of an until that is read from so many texts what is behind these is as it is untold. -/
theorem run_rest : ∀ (l : List ByteArray) (i : Nat) (v : Ut), i + l.length ≤ 4 → (Mo.run i l v).2.2 = 0 → (i + l.length ≤ 1 → (Mo.run i l v).1.m = v.m) ∧ (i + l.length ≤ 2 → (Mo.run i l v).1.k = v.k ∧ (Mo.run i l v).1.n = v.n ∧ (Mo.run i l v).1.d = v.d) ∧ (i + l.length ≤ 3 → (Mo.run i l v).1.s = v.s ∧ (Mo.run i l v).1.c = v.c)
  | [], i, v, _, _ => ⟨fun _ => rfl, fun _ => ⟨rfl, rfl, rfl⟩, fun _ => ⟨rfl, rfl⟩⟩
  | t :: l, i, v, hl, hz => by
    have hl' : i + (l.length + 1) ≤ 4 := by simpa using hl
    unfold Mo.run at *
    by_cases h0 : (Mo.step i t v).2 = 0
    · rw [if_pos h0] at hz ⊢
      have ih := run_rest l (i + 1) (Mo.step i t v).1 (by omega) hz
      rw [show i + (t :: l).length = i + 1 + l.length by simp; omega]
      obtain ⟨a, b, c⟩ := ih
      have hi4 : i = 0 ∨ i = 1 ∨ i = 2 ∨ i = 3 := by omega
      have h2 : i = 2 → (Mo.step i t v).1.s = v.s ∧ (Mo.step i t v).1.c = v.c := by
        rintro rfl
        unfold Mo.step
        cases Dy.prs t with
        | none => exact ⟨rfl, rfl⟩
        | some r => exact ⟨rfl, rfl⟩
      rcases hi4 with rfl | rfl | rfl | rfl
      · exact ⟨a, b, c⟩
      · exact ⟨fun h => absurd h (by omega), b, c⟩
      · refine ⟨fun h => absurd h (by omega), fun h => absurd h (by omega), fun h => ?_⟩
        have := c h
        have e := h2 rfl
        exact ⟨this.1.trans e.1, this.2.trans e.2⟩
      · exact ⟨fun h => absurd h (by omega), fun h => absurd h (by omega), fun h => absurd h (by omega)⟩
    · rw [if_neg h0] at hz
      exact absurd hz h0
/-- An until's texts are no more than any from which it is read. -/
theorem nd_least {L : List ByteArray} {u : Ut} {i : Nat} (h : Mo.prsU L = (u, i, 0)) : Mo.ndU u ≤ L.length := by
  unfold Mo.prsU at h
  by_cases h0 : L = []
  · rw [if_pos h0] at h
    injection h with _ h
    injection h with _ h
    cases h
  · rw [if_neg h0] at h
    by_cases h4 : 4 < L.length
    · rw [if_pos h4] at h
      injection h with _ h
      injection h with _ h
      cases h
    · rw [if_neg h4] at h
      have hp : 1 ≤ L.length := by
        cases L with
        | nil => exact absurd rfl h0
        | cons a b => simp
      obtain ⟨a, b, c⟩ := run_rest L 0 Ut.first (by omega) (by rw [h])
      rw [h, Nat.zero_add] at a b c
      have hb := nd_bd (Mo.t1 u).data.toList (Mo.t2 u).data.toList (Mo.t3 u).data.toList
      have t3 : L.length ≤ 3 → (Mo.t3 u).data.toList = [48, 58, 48, 48] := fun h => by
        obtain ⟨e1, e2⟩ := c h
        have e1 : u.s = 0 := e1
        have e2 : u.c = 0 := e2
        unfold Mo.t3
        rw [e1, e2]
        decide +kernel
      have t2 : L.length ≤ 2 → (Mo.t2 u).data.toList = [49] := fun h => by
        obtain ⟨e1, e2, e3⟩ := b h
        have e1 : u.k = 0 := e1
        have e2 : u.n = 1 := e2
        have e3 : u.d = 0 := e3
        unfold Mo.t2
        rw [e1, e2, e3]
        decide +kernel
      have t1 : L.length ≤ 1 → (Mo.t1 u).data.toList = [74, 97, 110] := fun h => by
        have e1 : u.m = 1 := a h
        unfold Mo.t1
        rw [e1]
        decide +kernel
      unfold Mo.ndU
      have hL : L.length = 1 ∨ L.length = 2 ∨ L.length = 3 ∨ L.length = 4 := by omega
      rcases hL with h | h | h | h
      · unfold Mo.nd
        rw [if_pos (t3 (by omega)), if_pos (t2 (by omega)), if_pos (t1 (by omega))]
        exact hp
      · unfold Mo.nd
        rw [if_pos (t3 (by omega)), if_pos (t2 (by omega))]
        split <;> omega
      · unfold Mo.nd
        rw [if_pos (t3 (by omega))]
        split
        · split <;> omega
        · omega
      · omega
/-- What is read of any texts. -/
theorem eprs_ok (L : List ByteArray) : ((El.prs L).2.2 = 0 → (El.prs L).2.1 = 0 ∧ El.right (El.prs L).1 = true ∧ 0 ≤ (El.prs L).1.k ∧ 0 ≤ (El.prs L).1.u.c ∧ 3 ≤ L.length ∧ (El.prs L).1.en = decide (3 < L.length) ∧ El.num (El.prs L).1 ≤ L.length) ∧
    ((El.prs L).2.2 ≠ 0 → (El.prs L).1 = Er.zero ∧ (El.prs L).2.1 ≤ 7 ∧ (El.prs L).2.1 ≤ L.length) := by
  have hlen : (L.take 3).length = min 3 L.length := List.length_take
  have hr := erun_ok (L.take 3) 0 Er.zero (by omega) egood_zero
  obtain ⟨e, i, z, he⟩ : ∃ e i z, El.run 0 (L.take 3) Er.zero = (e, i, z) := ⟨_, _, _, rfl⟩
  rw [he] at hr
  by_cases h0 : z = 0
  · subst h0
    obtain ⟨e0, g⟩ := hr.1 rfl
    obtain rfl : i = 0 := e0
    by_cases h1 : L.length < 3
    · rw [eprs_short he h1]
      exact ⟨(fun h => by cases h), fun _ => ⟨rfl, by show L.length ≤ 7; omega, Nat.le_refl _⟩⟩
    · rw [show 0 + (L.take 3).length = 3 by omega] at g
      obtain ⟨no, nu, g0, z1, g1, k0, g2⟩ := g
      have g1 := g1 (by omega)
      have g2 := g2 (by omega)
      simp only at no nu g0 g1 k0 g2
      by_cases h2 : L.length = 3
      · rw [eprs_three he h2]
        refine ⟨fun _ => ⟨rfl, el_of g0 g1 g2 ?_, k0, ?_, by omega, ?_, ?_⟩, fun h => absurd rfl h⟩
        · show El.ends e.en e.u = true
          rw [no, nu]
          decide +kernel
        · show 0 ≤ e.u.c
          rw [nu]
          decide
        · show e.en = decide (3 < L.length)
          rw [no, h2]
          rfl
        · show El.num e ≤ L.length
          unfold El.num
          rw [no, if_neg (by decide)]
          omega
      · obtain ⟨u, j, y, hu⟩ : ∃ u j y, Mo.prsU (L.drop 3) = (u, j, y) := ⟨_, _, _, rfl⟩
        have ho := prsU_ok (L.drop 3)
        rw [hu] at ho
        have hd : (L.drop 3).length = L.length - 3 := List.length_drop
        by_cases h3 : y = 0
        · subst h3
          obtain ⟨_, hun, hc0⟩ := ho.1 rfl
          have hnd := nd_least hu
          rw [eprs_ends he (by omega) hu]
          refine ⟨fun _ => ⟨rfl, el_of g0 g1 g2 ?_, k0, hc0, by omega, ?_, ?_⟩, fun h => absurd rfl h⟩
          · show El.ends true u = true
            unfold El.ends
            rw [if_pos rfl]
            exact hun
          · show true = decide (3 < L.length)
            symm
            rw [decide_eq_true_eq]
            omega
          · show El.num { e with en := true, u := u } ≤ L.length
            unfold El.num
            rw [if_pos rfl]
            show 3 + Mo.ndU u ≤ L.length
            omega
        · obtain ⟨_, hj4, hjl⟩ := ho.2 h3
          have hj4 : j ≤ 4 := hj4
          have hjl : j ≤ (L.drop 3).length := hjl
          rw [eprs_wrong he (by omega) hu h3]
          exact ⟨fun h => absurd h h3, fun _ => ⟨rfl, by show 3 + j ≤ 7; omega, by show 3 + j ≤ L.length; omega⟩⟩
  · obtain ⟨e1, g⟩ := hr.2 h0
    have e1 : e = Er.zero := e1
    have g : i < 0 + (L.take 3).length := g
    subst e1
    rw [eprs_stop he h0]
    exact ⟨fun h => absurd h h0, fun _ => ⟨rfl, by show i ≤ 7; omega, by show i ≤ L.length; omega⟩⟩
/-- The texts of a right era. -/
def El.t0 (e : Er) : ByteArray := ⟨(txt e.sd).toArray⟩
def El.t1 (e : Er) : ByteArray := if e.k = 1 then ⟨(txt e.sv).toArray⟩ else if e.k = 2 then e.ru else ⟨#[45]⟩
def El.rest (e : Er) : List ByteArray := if e.en = true then (Mo.texts e.u).take (Mo.ndU e.u) else []
def El.texts (e : Er) : List ByteArray := [El.t0 e, El.t1 e, e.fm] ++ El.rest e
theorem txt_dash {t : Int} (h1 : -604800 ≤ t) (h2 : t ≤ 604800) : txt t ≠ [45] := fun e => by
  have hp := parse_txt t h1 h2
  rw [e] at hp
  have h3 : (parseL [45]).2 = 0 := congrArg Prod.snd hp
  revert h3
  decide +kernel
theorem beg_txt {t : Int} (h1 : -604800 ≤ t) (h2 : t ≤ 604800) : El.beg (txt t) = true := by
  unfold txt
  split
  · obtain ⟨c, r, e, hd⟩ := txt0_head (-t) (by omega)
    rw [e]
    show (if (45 : UInt8) = 45 then Txt.isD c else Txt.isD 45) = true
    rw [if_pos rfl]
    exact hd
  · obtain ⟨c, r, e, hd⟩ := txt0_head t (by omega)
    rw [e]
    have hc : c ≠ 45 := by
      rintro rfl
      revert hd
      decide
    cases r with
    | nil => exact hd
    | cons x y =>
      show (if c = 45 then Txt.isD x else Txt.isD c) = true
      rw [if_neg hc]
      exact hd
theorem beg_name {l : List UInt8} (h : Rl.name l = true) : El.beg l = false ∧ l ≠ [45] := by
  unfold Rl.name at h
  simp only [Bool.and_eq_true] at h
  obtain ⟨_, h1, _⟩ := h
  cases l with
  | nil => exact ⟨rfl, by simp⟩
  | cons c r =>
    have hc : Rl.first c = true := by simpa using h1
    have hd : Txt.isD c = false := by
      have := of_decide_eq_true hc
      have hi := isD_iff c
      cases hb : Txt.isD c with
      | false => rfl
      | true =>
        have := hi.1 hb
        omega
    have hn : c ≠ 45 := by
      rintro rfl
      revert hc
      decide
    refine ⟨?_, by
      intro e
      injection e with e _
      exact hn e⟩
    cases r with
    | nil => exact hd
    | cons x y =>
      show (if c = 45 then Txt.isD x else Txt.isD c) = false
      rw [if_neg hn]
      exact hd
theorem erun_step {i : Nat} {t : ByteArray} {l : List ByteArray} {v v' : Er} (h : El.step i t v = (v', 0)) : El.run i (t :: l) v = El.run (i + 1) l v' := by
  rw [El.run, h, if_pos rfl]
section
variable {e : Er} (h : El.right e = true)
include h
theorem es0 (v : Er) : El.step 0 (El.t0 e) v = ({ v with sd := e.sd }, 0) := by
  obtain ⟨⟨s1, s2⟩, _⟩ := el_parts h
  have hp : parseL (El.t0 e).data.toList = (e.sd, 0) := by
    show parseL (txt e.sd).toArray.toList = _
    rw [List.toList_toArray]
    exact parse_txt e.sd s1 s2
  have hn : (El.t0 e).data.toList ≠ [45] := by
    show (txt e.sd).toArray.toList ≠ _
    rw [List.toList_toArray]
    exact txt_dash s1 s2
  show (if (El.t0 e).data.toList = [45] then (v, (0 : Int)) else ({ v with sd := (parseL (El.t0 e).data.toList).1 }, (parseL (El.t0 e).data.toList).2)) = _
  rw [if_neg hn, hp]
theorem es1 : El.step 1 (El.t1 e) ⟨e.sd, 0, 0, ⟨#[]⟩, ⟨#[]⟩, false, ⟨0, 0, 0, 0, 0, 0, 0⟩⟩ = (⟨e.sd, e.k, e.sv, e.ru, ⟨#[]⟩, false, ⟨0, 0, 0, 0, 0, 0, 0⟩⟩, 0) := by
  obtain ⟨_, hk, _⟩ := el_parts h
  show El.saved (El.t1 e) _ = _
  unfold El.t1
  rcases kind_cases hk with ⟨k, s, r⟩ | ⟨k, ⟨s1, s2⟩, r⟩ | ⟨k, s, r⟩
  · rw [k, s, show e.ru = ⟨#[]⟩ from ByteArray.ext (Array.toList_inj.1 r)]
    rfl
  · rw [k, if_pos rfl, show e.ru = ⟨#[]⟩ from ByteArray.ext (Array.toList_inj.1 r)]
    unfold El.saved
    have hl : (⟨(txt e.sv).toArray⟩ : ByteArray).data.toList = txt e.sv := by simp
    rw [hl, if_neg (txt_dash s1 s2), if_pos (beg_txt s1 s2), parse_txt e.sv s1 s2]
  · obtain ⟨hb, hn⟩ := beg_name r
    rw [k, if_neg (by decide), if_pos rfl, s]
    unfold El.saved
    rw [if_neg hn, if_neg (by rw [hb]; decide), if_pos r]
theorem es2 (v : Er) : El.step 2 e.fm v = ({ v with fm := e.fm }, 0) := by
  obtain ⟨_, _, hf, _⟩ := el_parts h
  show El.form e.fm v = _
  unfold El.form
  rw [if_pos hf]
theorem erun3 : El.run 0 [El.t0 e, El.t1 e, e.fm] Er.zero = (⟨e.sd, e.k, e.sv, e.ru, e.fm, false, ⟨0, 0, 0, 0, 0, 0, 0⟩⟩, 0, 0) := by
  have e0 : El.step 0 (El.t0 e) ⟨0, 0, 0, ⟨#[]⟩, ⟨#[]⟩, false, ⟨0, 0, 0, 0, 0, 0, 0⟩⟩ = (⟨e.sd, 0, 0, ⟨#[]⟩, ⟨#[]⟩, false, ⟨0, 0, 0, 0, 0, 0, 0⟩⟩, 0) := es0 h _
  have e2 : El.step 2 e.fm ⟨e.sd, e.k, e.sv, e.ru, ⟨#[]⟩, false, ⟨0, 0, 0, 0, 0, 0, 0⟩⟩ = (⟨e.sd, e.k, e.sv, e.ru, e.fm, false, ⟨0, 0, 0, 0, 0, 0, 0⟩⟩, 0) := es2 h _
  rw [show Er.zero = ⟨0, 0, 0, ⟨#[]⟩, ⟨#[]⟩, false, ⟨0, 0, 0, 0, 0, 0, 0⟩⟩ from rfl, erun_step e0, erun_step (es1 h), erun_step e2]
  rfl
theorem etake3 (l : List ByteArray) : El.run 0 (([El.t0 e, El.t1 e, e.fm] ++ l).take 3) Er.zero = (⟨e.sd, e.k, e.sv, e.ru, e.fm, false, ⟨0, 0, 0, 0, 0, 0, 0⟩⟩, 0, 0) := erun3 h
theorem eback (c0 : 0 ≤ e.u.c) : El.prs (El.texts e) = (e, 0, 0) := by
  obtain ⟨_, _, _, he⟩ := el_parts h
  have h3 := etake3 h (El.rest e)
  unfold El.texts
  by_cases hn : e.en = true
  · unfold El.ends at he
    rw [if_pos hn] at he
    have hb := nd_bd (Mo.t1 e.u).data.toList (Mo.t2 e.u).data.toList (Mo.t3 e.u).data.toList
    have hrest : El.rest e = (Mo.texts e.u).take (Mo.ndU e.u) := by unfold El.rest; rw [if_pos hn]
    have hu : Mo.prsU ((Mo.texts e.u).take (Mo.ndU e.u)) = (e.u, 0, 0) := by
      rcases back_cases he c0 with ⟨q, r1, _⟩ | ⟨q, r1, _⟩ | ⟨q, r1, _⟩ | ⟨q, r1, _⟩ <;> rw [q] <;> exact r1
    have hl : (El.rest e).length = Mo.ndU e.u := by
      rw [hrest, List.length_take]
      show min (Mo.ndU e.u) 4 = Mo.ndU e.u
      unfold Mo.ndU
      omega
    rw [eprs_ends (i := 0) (u := e.u) h3 (by rw [List.length_append, hl]; show 3 < 3 + Mo.ndU e.u; unfold Mo.ndU; omega) (by
      show Mo.prsU (El.rest e) = _
      rw [hrest]
      exact hu)]
    obtain ⟨sd, k, sv, ru, fm, en, u⟩ := e
    simp only at hn ⊢
    subst hn
    rfl
  · have hn : e.en = false := by simpa using hn
    unfold El.ends at he
    rw [hn, if_neg (by decide)] at he
    have hz := nil_eq he
    have hr : El.rest e = [] := by unfold El.rest; rw [hn, if_neg (by decide)]
    rw [hr] at h3 ⊢
    rw [eprs_three h3 rfl]
    obtain ⟨sd, k, sv, ru, fm, en, u⟩ := e
    simp only at hn hz ⊢
    subst hn hz
    rfl
omit h in
theorem enum_len (e : Er) : (El.texts e).length = El.num e := by
  unfold El.texts El.rest El.num
  by_cases hn : e.en = true
  · rw [if_pos hn, if_pos hn, List.length_append, List.length_take]
    have hb := nd_bd (Mo.t1 e.u).data.toList (Mo.t2 e.u).data.toList (Mo.t3 e.u).data.toList
    show 3 + min (Mo.ndU e.u) 4 = 3 + Mo.ndU e.u
    unfold Mo.ndU
    omega
  · rw [if_neg hn, if_neg hn]
    rfl
omit h in
theorem enum_bd (e : Er) : (e.en = false → El.num e = 3) ∧ (e.en = true → 4 ≤ El.num e ∧ El.num e ≤ 7) := by
  unfold El.num
  have hb := nd_bd (Mo.t1 e.u).data.toList (Mo.t2 e.u).data.toList (Mo.t3 e.u).data.toList
  refine ⟨fun h => by rw [h, if_neg (by decide)], fun h => ?_⟩
  rw [if_pos h]
  unfold Mo.ndU
  omega
end
end Go.Proofs.YtkcbmnboccjnnaaGreatDoor
/- Contracts of package era: isTime, isKind, isEnd, isRight, Check. -/


namespace Go.Proofs.YtkcbmnboccjnnaaGreatDoor
open Go.RowKit
/-- The tables that eras need: times' and formats'. -/
structure Ev (w : World) : Prop where
  env : Env w
  marks : Marks w
theorem Ev.below {w w' : World} (h : Ev w) (hb : Below w.heap.size w w') : Ev w' := ⟨h.env.below hb, h.marks.below hb⟩
theorem Ev.alloc {w : World} (h : Ev w) (o : Obj) : Ev (w.alloc o) := h.below ((Below.refl _ _).alloc (Nat.le_refl _) o)
theorem Ev.mxa {w : World} (h : Ev w) : Mxa w := h.env.longest
theorem isTime_any (t : Int) (w : World) : Calls Tryz.prog 133 #[.int .i64 t] w fun e w' => e = .returned (.bool (Rl.time t)) ∧ w = w' := by
  by_cases h1 : t < -604800
  · have HE := Lib.hid (show false = Rl.time t by symm; unfold Rl.time; rw [decide_eq_false_iff_not]; omega)
    have t1 : decide (-604800 ≤ t) = false := by simp; omega
    go_enter Tryz.func133, Tryz.ntmps133
    go_wp2_with fail
    go_ret
    exact ⟨ret_bool HE.out, rfl⟩
  · have t1 : -604800 ≤ t := by omega
    by_cases h2 : t ≤ 604800
    · have HE := Lib.hid (show true = Rl.time t by symm; unfold Rl.time; rw [decide_eq_true_eq]; omega)
      clear h1
      go_enter Tryz.func133, Tryz.ntmps133
      go_wp2_with fail
      go_ret
      exact ⟨ret_bool HE.out, rfl⟩
    · have HE := Lib.hid (show false = Rl.time t by symm; unfold Rl.time; rw [decide_eq_false_iff_not]; omega)
      have t2 : decide (t ≤ 604800) = false := by simp; omega
      clear h1 h2
      go_enter Tryz.func133, Tryz.ntmps133
      go_wp2_with fail
      go_ret
      exact ⟨ret_bool HE.out, rfl⟩
theorem isTime_is (t : Int) (v : Bool) (w : World) (h : Rl.time t = v) : Calls Tryz.prog 133 #[.int .i64 t] w fun e w' => e = .returned (.bool v) ∧ w = w' := by
  subst h
  exact isTime_any t w
theorem ucheck_no (y m k n d s c : Int) (w : World) (h : Mo.unt y m k n d s c = false) : Calls Tryz.prog 163 #[untV y m k n d s c] w fun e w' => e = .returned (.int .i64 2) ∧ Below w.heap.size w w' := by
  have H := Lib.hid h
  clear h
  go_enter Tryz.func163, Tryz.ntmps163
  go_wp2_with fail
  refine (isUntil_is y m k n d s c false _ H.out).mono ?_
  rintro e w1 ⟨rfl, b1⟩
  have a1 : Below w.heap.size w w1 := ((Below.refl _ _).alloc (Nat.le_refl _) _).trans (b1.mono (by simp))
  go_wp2_with fail
  go_ret
  exact ⟨rfl, a1⟩
theorem emp {s : ByteArray} (h : s.data.toList = []) : s = ⟨#[]⟩ := ByteArray.ext (Array.toList_inj.1 h)
theorem nemp {s : ByteArray} (h : s.data.toList ≠ []) : s.toList.isEmpty = false ∧ ¬ s.toList = [] := ⟨by rw [ByteArray.toList_eq]; simpa using h, by rw [ByteArray.toList_eq]; exact h⟩
section
variable (sd k sv : Int) (ru fm : ByteArray) (en : Bool) (y m q n d s c : Int) (w : World)
theorem ekind_0ok  : Calls Tryz.prog 134 #[.agg #[.int .i64 sd, .int .u8 0, .int .i64 0, .string ⟨#[]⟩, .string fm, .bool en, .int .i64 y, .int .i64 m, .int .u8 q, .int .i64 n, .int .i64 d, .int .i64 s, .int .u8 c]] w fun e w' => e = .returned (.bool true) ∧ Below w.heap.size w w' := by
  go_enter Tryz.func134, Tryz.ntmps134
  go_wp2_with fail
  go_ret
  exact ⟨rfl, (Below.refl _ _).alloc (Nat.le_refl _) _⟩
theorem ekind_0sv (h : (sv == 0) = false) : Calls Tryz.prog 134 #[.agg #[.int .i64 sd, .int .u8 0, .int .i64 sv, .string ru, .string fm, .bool en, .int .i64 y, .int .i64 m, .int .u8 q, .int .i64 n, .int .i64 d, .int .i64 s, .int .u8 c]] w fun e w' => e = .returned (.bool false) ∧ Below w.heap.size w w' := by
  go_enter Tryz.func134, Tryz.ntmps134
  go_wp2_with fail
  go_ret
  exact ⟨rfl, (Below.refl _ _).alloc (Nat.le_refl _) _⟩
theorem ekind_0ru (h2 : ru.toList.isEmpty = false) (_h3 : ¬ ru.toList = []) : Calls Tryz.prog 134 #[.agg #[.int .i64 sd, .int .u8 0, .int .i64 0, .string ru, .string fm, .bool en, .int .i64 y, .int .i64 m, .int .u8 q, .int .i64 n, .int .i64 d, .int .i64 s, .int .u8 c]] w fun e w' => e = .returned (.bool false) ∧ Below w.heap.size w w' := by
  go_enter Tryz.func134, Tryz.ntmps134
  go_wp2_with fail
  go_ret
  exact ⟨rfl, (Below.refl _ _).alloc (Nat.le_refl _) _⟩
theorem ekind_1no (H : Hid (Rl.time sv = false)) : Calls Tryz.prog 134 #[.agg #[.int .i64 sd, .int .u8 1, .int .i64 sv, .string ru, .string fm, .bool en, .int .i64 y, .int .i64 m, .int .u8 q, .int .i64 n, .int .i64 d, .int .i64 s, .int .u8 c]] w fun e w' => e = .returned (.bool false) ∧ Below w.heap.size w w' := by
  go_enter Tryz.func134, Tryz.ntmps134
  go_wp2_with fail
  refine (isTime_is sv false _ H.out).mono ?_
  rintro e w' ⟨rfl, rfl⟩
  go_wp2_with fail
  go_ret
  exact ⟨rfl, (Below.refl _ _).alloc (Nat.le_refl _) _⟩
theorem ekind_1ru (H : Hid (Rl.time sv = true)) (h2 : ru.toList.isEmpty = false) (_h3 : ¬ ru.toList = []) : Calls Tryz.prog 134 #[.agg #[.int .i64 sd, .int .u8 1, .int .i64 sv, .string ru, .string fm, .bool en, .int .i64 y, .int .i64 m, .int .u8 q, .int .i64 n, .int .i64 d, .int .i64 s, .int .u8 c]] w fun e w' => e = .returned (.bool false) ∧ Below w.heap.size w w' := by
  go_enter Tryz.func134, Tryz.ntmps134
  go_wp2_with fail
  refine (isTime_is sv true _ H.out).mono ?_
  rintro e w' ⟨rfl, rfl⟩
  go_wp2_with fail
  go_ret
  exact ⟨rfl, (Below.refl _ _).alloc (Nat.le_refl _) _⟩
theorem ekind_1ok (H : Hid (Rl.time sv = true)) : Calls Tryz.prog 134 #[.agg #[.int .i64 sd, .int .u8 1, .int .i64 sv, .string ⟨#[]⟩, .string fm, .bool en, .int .i64 y, .int .i64 m, .int .u8 q, .int .i64 n, .int .i64 d, .int .i64 s, .int .u8 c]] w fun e w' => e = .returned (.bool true) ∧ Below w.heap.size w w' := by
  go_enter Tryz.func134, Tryz.ntmps134
  go_wp2_with fail
  refine (isTime_is sv true _ H.out).mono ?_
  rintro e w' ⟨rfl, rfl⟩
  go_wp2_with fail
  go_ret
  exact ⟨rfl, (Below.refl _ _).alloc (Nat.le_refl _) _⟩
theorem ekind_2sv (h : (sv == 0) = false) : Calls Tryz.prog 134 #[.agg #[.int .i64 sd, .int .u8 2, .int .i64 sv, .string ru, .string fm, .bool en, .int .i64 y, .int .i64 m, .int .u8 q, .int .i64 n, .int .i64 d, .int .i64 s, .int .u8 c]] w fun e w' => e = .returned (.bool false) ∧ Below w.heap.size w w' := by
  go_enter Tryz.func134, Tryz.ntmps134
  go_wp2_with fail
  go_ret
  exact ⟨rfl, (Below.refl _ _).alloc (Nat.le_refl _) _⟩
theorem ekind_2 (v : Bool) (hs : ru.size ≤ 9223372036854775807) (H : Hid (Rl.name ru.data.toList = v)) : Calls Tryz.prog 134 #[.agg #[.int .i64 sd, .int .u8 2, .int .i64 0, .string ru, .string fm, .bool en, .int .i64 y, .int .i64 m, .int .u8 q, .int .i64 n, .int .i64 d, .int .i64 s, .int .u8 c]] w fun e w' => e = .returned (.bool v) ∧ Below w.heap.size w w' := by
  go_enter Tryz.func134, Tryz.ntmps134
  go_wp2_with fail
  refine (rname_is ru v _ hs H.out).mono ?_
  rintro e w' ⟨rfl, rfl⟩
  go_wp2_with fail
  go_ret
  exact ⟨rfl, (Below.refl _ _).alloc (Nat.le_refl _) _⟩
theorem ekind_3 (h0 : (k == 0) = false) (h1 : (k == 1) = false) (h2 : (k == 2) = false) : Calls Tryz.prog 134 #[.agg #[.int .i64 sd, .int .u8 k, .int .i64 sv, .string ru, .string fm, .bool en, .int .i64 y, .int .i64 m, .int .u8 q, .int .i64 n, .int .i64 d, .int .i64 s, .int .u8 c]] w fun e w' => e = .returned (.bool false) ∧ Below w.heap.size w w' := by
  go_enter Tryz.func134, Tryz.ntmps134
  go_wp2_with fail
  go_ret
  exact ⟨rfl, (Below.refl _ _).alloc (Nat.le_refl _) _⟩
theorem ekind_any (hs : ru.size ≤ 9223372036854775807) : Calls Tryz.prog 134 #[.agg #[.int .i64 sd, .int .u8 k, .int .i64 sv, .string ru, .string fm, .bool en, .int .i64 y, .int .i64 m, .int .u8 q, .int .i64 n, .int .i64 d, .int .i64 s, .int .u8 c]] w fun e w' => e = .returned (.bool (El.kind k sv ru.data.toList)) ∧ Below w.heap.size w w' := by
  unfold El.kind
  by_cases h0 : k = 0
  · rw [if_pos h0]
    subst h0
    by_cases h1 : sv = 0
    · subst h1
      by_cases h2 : ru.data.toList = []
      · obtain rfl := emp h2
        exact ekind_0ok sd fm en y m q n d s c w
      · have := nemp h2
        rw [show (decide ((0 : Int) = 0) && decide (ru.data.toList = [])) = false by first | (simp; done) | (simp; exact fun h => h2 (by rw [h]))]
        exact ekind_0ru sd ru fm en y m q n d s c w this.1 this.2
    · rw [show (decide (sv = 0) && decide (ru.data.toList = [])) = false by simp [h1]]
      exact ekind_0sv sd sv ru fm en y m q n d s c w (by rw [beq_eq_false_iff_ne]; exact h1)
  · rw [if_neg h0]
    by_cases h1 : k = 1
    · rw [if_pos h1]
      subst h1
      cases h2 : Rl.time sv with
      | false =>
        exact ekind_1no sd sv ru fm en y m q n d s c w (Lib.hid h2)
      | true =>
        by_cases h3 : ru.data.toList = []
        · obtain rfl := emp h3
          exact ekind_1ok sd sv fm en y m q n d s c w (Lib.hid h2)
        · have := nemp h3
          rw [show (true && decide (ru.data.toList = [])) = false by first | (simp; done) | (simp; exact fun h => h3 (by rw [h]))]
          exact ekind_1ru sd sv ru fm en y m q n d s c w (Lib.hid h2) this.1 this.2
    · rw [if_neg h1]
      by_cases h2 : k = 2
      · rw [if_pos h2]
        subst h2
        by_cases h3 : sv = 0
        · subst h3
          rw [show (decide ((0 : Int) = 0) && Rl.name ru.data.toList) = Rl.name ru.data.toList by simp]
          exact ekind_2 sd ru fm en y m q n d s c w _ hs (Lib.hid rfl)
        · rw [show (decide (sv = 0) && Rl.name ru.data.toList) = false by simp [h3]]
          exact ekind_2sv sd sv ru fm en y m q n d s c w (by rw [beq_eq_false_iff_ne]; exact h3)
      · rw [if_neg h2]
        exact ekind_3 sd k sv ru fm en y m q n d s c w (by rw [beq_eq_false_iff_ne]; exact h0) (by rw [beq_eq_false_iff_ne]; exact h1) (by rw [beq_eq_false_iff_ne]; exact h2)
theorem eend_yes (H : Hid (Mo.unt y m q n d s c = true)) : Calls Tryz.prog 136 #[.agg #[.int .i64 sd, .int .u8 k, .int .i64 sv, .string ru, .string fm, .bool true, .int .i64 y, .int .i64 m, .int .u8 q, .int .i64 n, .int .i64 d, .int .i64 s, .int .u8 c]] w fun e w' => e = .returned (.bool true) ∧ Below w.heap.size w w' := by
  go_enter Tryz.func136, Tryz.ntmps136
  go_wp2_with fail
  refine (ucheck_yes y m q n d s c _ H.out).mono ?_
  rintro e w1 ⟨rfl, b1⟩
  have a1 := ((Below.refl w.heap.size w).alloc (Nat.le_refl _) (.cells #[.int .i64 sd, .int .u8 k, .int .i64 sv, .string ru, .string fm, .bool true, .int .i64 y, .int .i64 m, .int .u8 q, .int .i64 n, .int .i64 d, .int .i64 s, .int .u8 c] 65)).trans (b1.mono (by simp))
  go_wp2_with fail
  go_ret
  exact ⟨rfl, a1⟩
theorem eend_no (H : Hid (Mo.unt y m q n d s c = false)) : Calls Tryz.prog 136 #[.agg #[.int .i64 sd, .int .u8 k, .int .i64 sv, .string ru, .string fm, .bool true, .int .i64 y, .int .i64 m, .int .u8 q, .int .i64 n, .int .i64 d, .int .i64 s, .int .u8 c]] w fun e w' => e = .returned (.bool false) ∧ Below w.heap.size w w' := by
  go_enter Tryz.func136, Tryz.ntmps136
  go_wp2_with fail
  refine (ucheck_no y m q n d s c _ H.out).mono ?_
  rintro e w1 ⟨rfl, b1⟩
  have a1 := ((Below.refl w.heap.size w).alloc (Nat.le_refl _) (.cells #[.int .i64 sd, .int .u8 k, .int .i64 sv, .string ru, .string fm, .bool true, .int .i64 y, .int .i64 m, .int .u8 q, .int .i64 n, .int .i64 d, .int .i64 s, .int .u8 c] 65)).trans (b1.mono (by simp))
  go_wp2_with fail
  go_ret
  exact ⟨rfl, a1⟩
theorem eend_nil : Calls Tryz.prog 136 #[.agg #[.int .i64 sd, .int .u8 k, .int .i64 sv, .string ru, .string fm, .bool false, .int .i64 y, .int .i64 m, .int .u8 q, .int .i64 n, .int .i64 d, .int .i64 s, .int .u8 c]] w fun e w' => e = .returned (.bool (Ut.nil ⟨y, m, q, n, d, s, c⟩)) ∧ Below w.heap.size w w' := by
  have HN := Lib.hid (show ∀ b : Bool, (b = true ↔ (y = 0 ∧ m = 0 ∧ q = 0 ∧ n = 0 ∧ d = 0 ∧ s = 0 ∧ c = 0)) → b = Ut.nil ⟨y, m, q, n, d, s, c⟩ from fun b h => by
    unfold Ut.nil
    rw [Bool.eq_iff_iff, decide_eq_true_eq]
    exact h)
  go_enter Tryz.func136, Tryz.ntmps136
  go_wp2_with fail
  all_goals
    go_ret
    exact ⟨ret_bool (HN.out _ ⟨fun h => by first | (cases h; done) | omega, fun h => by first | rfl | (exfalso; omega)⟩), (Below.refl _ _).alloc (Nat.le_refl _) _⟩
theorem eend_any : Calls Tryz.prog 136 #[.agg #[.int .i64 sd, .int .u8 k, .int .i64 sv, .string ru, .string fm, .bool en, .int .i64 y, .int .i64 m, .int .u8 q, .int .i64 n, .int .i64 d, .int .i64 s, .int .u8 c]] w fun e w' => e = .returned (.bool (El.ends en ⟨y, m, q, n, d, s, c⟩)) ∧ Below w.heap.size w w' := by
  unfold El.ends
  cases en with
  | false =>
    rw [if_neg (by decide)]
    exact eend_nil sd k sv ru fm y m q n d s c w
  | true =>
    rw [if_pos rfl]
    cases h : Mo.un ⟨y, m, q, n, d, s, c⟩ with
    | false => exact eend_no sd k sv ru fm y m q n d s c w (Lib.hid h)
    | true => exact eend_yes sd k sv ru fm y m q n d s c w (Lib.hid h)
end
set_option maxHeartbeats 1000000 in
theorem eright_0 (sd k sv : Int) (ru fm : ByteArray) (en : Bool) (y m q n d s c : Int) (w : World) (_HE : Hid (Ev w)) (_hs : ru.size ≤ 9223372036854775807) (H0 : Hid (Rl.time sd = false)) : Calls Tryz.prog 83 #[.agg #[.int .i64 sd, .int .u8 k, .int .i64 sv, .string ru, .string fm, .bool en, .int .i64 y, .int .i64 m, .int .u8 q, .int .i64 n, .int .i64 d, .int .i64 s, .int .u8 c]] w fun e w' => e = .returned (.bool false) ∧ Below w.heap.size w w' := by
  go_enter Tryz.func83, Tryz.ntmps83
  go_wp2_with fail
  refine (isTime_is sd false _ H0.out).mono ?_
  rintro e w' ⟨rfl, rfl⟩
  have a0 : Below w.heap.size w (w.alloc (.cells #[.int .i64 sd, .int .u8 k, .int .i64 sv, .string ru, .string fm, .bool en, .int .i64 y, .int .i64 m, .int .u8 q, .int .i64 n, .int .i64 d, .int .i64 s, .int .u8 c] 65)) := (Below.refl _ _).alloc (Nat.le_refl _) _
  have k0 : Below (w.heap.size + 1) (w.alloc (.cells #[.int .i64 sd, .int .u8 k, .int .i64 sv, .string ru, .string fm, .bool en, .int .i64 y, .int .i64 m, .int .u8 q, .int .i64 n, .int .i64 d, .int .i64 s, .int .u8 c] 65)) (w.alloc (.cells #[.int .i64 sd, .int .u8 k, .int .i64 sv, .string ru, .string fm, .bool en, .int .i64 y, .int .i64 m, .int .u8 q, .int .i64 n, .int .i64 d, .int .i64 s, .int .u8 c] 65)) := Below.refl _ _
  have z0 : w.heap.size + 1 ≤ (w.alloc (.cells #[.int .i64 sd, .int .u8 k, .int .i64 sv, .string ru, .string fm, .bool en, .int .i64 y, .int .i64 m, .int .u8 q, .int .i64 n, .int .i64 d, .int .i64 s, .int .u8 c] 65)).heap.size := by simp
  go_wp2_with fail
  go_ret
  exact ⟨rfl, a0.trans (k0.mono (Nat.le_succ _))⟩
set_option maxHeartbeats 1000000 in
theorem eright_1 (sd k sv : Int) (ru fm : ByteArray) (en : Bool) (y m q n d s c : Int) (w : World) (_HE : Hid (Ev w)) (hs : ru.size ≤ 9223372036854775807) (H0 : Hid (Rl.time sd = true)) (H1 : Hid (El.kind k sv ru.data.toList = false)) : Calls Tryz.prog 83 #[.agg #[.int .i64 sd, .int .u8 k, .int .i64 sv, .string ru, .string fm, .bool en, .int .i64 y, .int .i64 m, .int .u8 q, .int .i64 n, .int .i64 d, .int .i64 s, .int .u8 c]] w fun e w' => e = .returned (.bool false) ∧ Below w.heap.size w w' := by
  have HK := Lib.hid (fun W => ekind_any sd k sv ru fm en y m q n d s c W hs)
  rw [H1.out] at HK
  go_enter Tryz.func83, Tryz.ntmps83
  go_wp2_with fail
  refine (isTime_is sd true _ H0.out).mono ?_
  rintro e w' ⟨rfl, rfl⟩
  have a0 : Below w.heap.size w (w.alloc (.cells #[.int .i64 sd, .int .u8 k, .int .i64 sv, .string ru, .string fm, .bool en, .int .i64 y, .int .i64 m, .int .u8 q, .int .i64 n, .int .i64 d, .int .i64 s, .int .u8 c] 65)) := (Below.refl _ _).alloc (Nat.le_refl _) _
  have k0 : Below (w.heap.size + 1) (w.alloc (.cells #[.int .i64 sd, .int .u8 k, .int .i64 sv, .string ru, .string fm, .bool en, .int .i64 y, .int .i64 m, .int .u8 q, .int .i64 n, .int .i64 d, .int .i64 s, .int .u8 c] 65)) (w.alloc (.cells #[.int .i64 sd, .int .u8 k, .int .i64 sv, .string ru, .string fm, .bool en, .int .i64 y, .int .i64 m, .int .u8 q, .int .i64 n, .int .i64 d, .int .i64 s, .int .u8 c] 65)) := Below.refl _ _
  have z0 : w.heap.size + 1 ≤ (w.alloc (.cells #[.int .i64 sd, .int .u8 k, .int .i64 sv, .string ru, .string fm, .bool en, .int .i64 y, .int .i64 m, .int .u8 q, .int .i64 n, .int .i64 d, .int .i64 s, .int .u8 c] 65)).heap.size := by simp
  go_wp2_with fail
  refine (HK.out _).mono ?_
  rintro e w1 ⟨rfl, b1⟩
  have k1 := k0.trans (b1.mono z0)
  have z1 : w.heap.size + 1 ≤ w1.heap.size := Nat.le_trans z0 k1.size
  have hc1 : ∀ o, w1.cell? ⟨w.heap.size, o, none⟩ = (w.alloc (.cells #[.int .i64 sd, .int .u8 k, .int .i64 sv, .string ru, .string fm, .bool en, .int .i64 y, .int .i64 m, .int .u8 q, .int .i64 n, .int .i64 d, .int .i64 s, .int .u8 c] 65)).cell? ⟨w.heap.size, o, none⟩ := fun o => k1.cell (p := ⟨w.heap.size, o, none⟩) (Nat.lt_succ_self _)
  go_wp2_with fail
  go_ret
  exact ⟨rfl, a0.trans (k1.mono (Nat.le_succ _))⟩
set_option maxHeartbeats 1000000 in
theorem eright_2 (sd k sv : Int) (ru fm : ByteArray) (en : Bool) (y m q n d s c : Int) (w : World) (HE : Hid (Ev w)) (hs : ru.size ≤ 9223372036854775807) (H0 : Hid (Rl.time sd = true)) (H1 : Hid (El.kind k sv ru.data.toList = true)) (H2 : Hid (Fm.fmt fm.data.toList = false)) : Calls Tryz.prog 83 #[.agg #[.int .i64 sd, .int .u8 k, .int .i64 sv, .string ru, .string fm, .bool en, .int .i64 y, .int .i64 m, .int .u8 q, .int .i64 n, .int .i64 d, .int .i64 s, .int .u8 c]] w fun e w' => e = .returned (.bool false) ∧ Below w.heap.size w w' := by
  have HK := Lib.hid (fun W => ekind_any sd k sv ru fm en y m q n d s c W hs)
  rw [H1.out] at HK
  go_enter Tryz.func83, Tryz.ntmps83
  go_wp2_with fail
  refine (isTime_is sd true _ H0.out).mono ?_
  rintro e w' ⟨rfl, rfl⟩
  have a0 : Below w.heap.size w (w.alloc (.cells #[.int .i64 sd, .int .u8 k, .int .i64 sv, .string ru, .string fm, .bool en, .int .i64 y, .int .i64 m, .int .u8 q, .int .i64 n, .int .i64 d, .int .i64 s, .int .u8 c] 65)) := (Below.refl _ _).alloc (Nat.le_refl _) _
  have k0 : Below (w.heap.size + 1) (w.alloc (.cells #[.int .i64 sd, .int .u8 k, .int .i64 sv, .string ru, .string fm, .bool en, .int .i64 y, .int .i64 m, .int .u8 q, .int .i64 n, .int .i64 d, .int .i64 s, .int .u8 c] 65)) (w.alloc (.cells #[.int .i64 sd, .int .u8 k, .int .i64 sv, .string ru, .string fm, .bool en, .int .i64 y, .int .i64 m, .int .u8 q, .int .i64 n, .int .i64 d, .int .i64 s, .int .u8 c] 65)) := Below.refl _ _
  have z0 : w.heap.size + 1 ≤ (w.alloc (.cells #[.int .i64 sd, .int .u8 k, .int .i64 sv, .string ru, .string fm, .bool en, .int .i64 y, .int .i64 m, .int .u8 q, .int .i64 n, .int .i64 d, .int .i64 s, .int .u8 c] 65)).heap.size := by simp
  go_wp2_with fail
  refine (HK.out _).mono ?_
  rintro e w1 ⟨rfl, b1⟩
  have k1 := k0.trans (b1.mono z0)
  have z1 : w.heap.size + 1 ≤ w1.heap.size := Nat.le_trans z0 k1.size
  have hc1 : ∀ o, w1.cell? ⟨w.heap.size, o, none⟩ = (w.alloc (.cells #[.int .i64 sd, .int .u8 k, .int .i64 sv, .string ru, .string fm, .bool en, .int .i64 y, .int .i64 m, .int .u8 q, .int .i64 n, .int .i64 d, .int .i64 s, .int .u8 c] 65)).cell? ⟨w.heap.size, o, none⟩ := fun o => k1.cell (p := ⟨w.heap.size, o, none⟩) (Nat.lt_succ_self _)
  go_wp2_with fail
  refine (fcheck_no fm _ ((HE.out.alloc _).below b1).marks ((HE.out.alloc _).below b1).mxa H2.out).mono ?_
  rintro e w2 ⟨rfl, b2⟩
  have k2 := k1.trans (b2.mono z1)
  have z2 : w.heap.size + 1 ≤ w2.heap.size := Nat.le_trans z0 k2.size
  have hc2 : ∀ o, w2.cell? ⟨w.heap.size, o, none⟩ = (w.alloc (.cells #[.int .i64 sd, .int .u8 k, .int .i64 sv, .string ru, .string fm, .bool en, .int .i64 y, .int .i64 m, .int .u8 q, .int .i64 n, .int .i64 d, .int .i64 s, .int .u8 c] 65)).cell? ⟨w.heap.size, o, none⟩ := fun o => k2.cell (p := ⟨w.heap.size, o, none⟩) (Nat.lt_succ_self _)
  clear hc1
  go_wp2_with fail
  go_ret
  exact ⟨rfl, a0.trans (k2.mono (Nat.le_succ _))⟩
set_option maxHeartbeats 1000000 in
theorem eright_3 (sd k sv : Int) (ru fm : ByteArray) (en : Bool) (y m q n d s c : Int) (w : World) (HE : Hid (Ev w)) (hs : ru.size ≤ 9223372036854775807) (H0 : Hid (Rl.time sd = true)) (H1 : Hid (El.kind k sv ru.data.toList = true)) (H2 : Hid (Fm.fmt fm.data.toList = true)) (H3 : Hid (El.ends en ⟨y, m, q, n, d, s, c⟩ = false)) : Calls Tryz.prog 83 #[.agg #[.int .i64 sd, .int .u8 k, .int .i64 sv, .string ru, .string fm, .bool en, .int .i64 y, .int .i64 m, .int .u8 q, .int .i64 n, .int .i64 d, .int .i64 s, .int .u8 c]] w fun e w' => e = .returned (.bool false) ∧ Below w.heap.size w w' := by
  have HK := Lib.hid (fun W => ekind_any sd k sv ru fm en y m q n d s c W hs)
  rw [H1.out] at HK
  have HF := Lib.hid (fun W => eend_any sd k sv ru fm en y m q n d s c W)
  rw [H3.out] at HF
  go_enter Tryz.func83, Tryz.ntmps83
  go_wp2_with fail
  refine (isTime_is sd true _ H0.out).mono ?_
  rintro e w' ⟨rfl, rfl⟩
  have a0 : Below w.heap.size w (w.alloc (.cells #[.int .i64 sd, .int .u8 k, .int .i64 sv, .string ru, .string fm, .bool en, .int .i64 y, .int .i64 m, .int .u8 q, .int .i64 n, .int .i64 d, .int .i64 s, .int .u8 c] 65)) := (Below.refl _ _).alloc (Nat.le_refl _) _
  have k0 : Below (w.heap.size + 1) (w.alloc (.cells #[.int .i64 sd, .int .u8 k, .int .i64 sv, .string ru, .string fm, .bool en, .int .i64 y, .int .i64 m, .int .u8 q, .int .i64 n, .int .i64 d, .int .i64 s, .int .u8 c] 65)) (w.alloc (.cells #[.int .i64 sd, .int .u8 k, .int .i64 sv, .string ru, .string fm, .bool en, .int .i64 y, .int .i64 m, .int .u8 q, .int .i64 n, .int .i64 d, .int .i64 s, .int .u8 c] 65)) := Below.refl _ _
  have z0 : w.heap.size + 1 ≤ (w.alloc (.cells #[.int .i64 sd, .int .u8 k, .int .i64 sv, .string ru, .string fm, .bool en, .int .i64 y, .int .i64 m, .int .u8 q, .int .i64 n, .int .i64 d, .int .i64 s, .int .u8 c] 65)).heap.size := by simp
  go_wp2_with fail
  refine (HK.out _).mono ?_
  rintro e w1 ⟨rfl, b1⟩
  have k1 := k0.trans (b1.mono z0)
  have z1 : w.heap.size + 1 ≤ w1.heap.size := Nat.le_trans z0 k1.size
  have hc1 : ∀ o, w1.cell? ⟨w.heap.size, o, none⟩ = (w.alloc (.cells #[.int .i64 sd, .int .u8 k, .int .i64 sv, .string ru, .string fm, .bool en, .int .i64 y, .int .i64 m, .int .u8 q, .int .i64 n, .int .i64 d, .int .i64 s, .int .u8 c] 65)).cell? ⟨w.heap.size, o, none⟩ := fun o => k1.cell (p := ⟨w.heap.size, o, none⟩) (Nat.lt_succ_self _)
  go_wp2_with fail
  refine (fcheck_yes fm _ ((HE.out.alloc _).below b1).marks ((HE.out.alloc _).below b1).mxa H2.out).mono ?_
  rintro e w2 ⟨rfl, b2⟩
  have k2 := k1.trans (b2.mono z1)
  have z2 : w.heap.size + 1 ≤ w2.heap.size := Nat.le_trans z0 k2.size
  have hc2 : ∀ o, w2.cell? ⟨w.heap.size, o, none⟩ = (w.alloc (.cells #[.int .i64 sd, .int .u8 k, .int .i64 sv, .string ru, .string fm, .bool en, .int .i64 y, .int .i64 m, .int .u8 q, .int .i64 n, .int .i64 d, .int .i64 s, .int .u8 c] 65)).cell? ⟨w.heap.size, o, none⟩ := fun o => k2.cell (p := ⟨w.heap.size, o, none⟩) (Nat.lt_succ_self _)
  clear hc1
  go_wp2_with fail
  refine (HF.out _).mono ?_
  rintro e w3 ⟨rfl, b3⟩
  have k3 := k2.trans (b3.mono z2)
  have z3 : w.heap.size + 1 ≤ w3.heap.size := Nat.le_trans z0 k3.size
  have hc3 : ∀ o, w3.cell? ⟨w.heap.size, o, none⟩ = (w.alloc (.cells #[.int .i64 sd, .int .u8 k, .int .i64 sv, .string ru, .string fm, .bool en, .int .i64 y, .int .i64 m, .int .u8 q, .int .i64 n, .int .i64 d, .int .i64 s, .int .u8 c] 65)).cell? ⟨w.heap.size, o, none⟩ := fun o => k3.cell (p := ⟨w.heap.size, o, none⟩) (Nat.lt_succ_self _)
  clear hc2
  go_wp2_with fail
  go_ret
  exact ⟨rfl, a0.trans (k3.mono (Nat.le_succ _))⟩
set_option maxHeartbeats 1000000 in
theorem eright_4 (sd k sv : Int) (ru fm : ByteArray) (en : Bool) (y m q n d s c : Int) (w : World) (HE : Hid (Ev w)) (hs : ru.size ≤ 9223372036854775807) (H0 : Hid (Rl.time sd = true)) (H1 : Hid (El.kind k sv ru.data.toList = true)) (H2 : Hid (Fm.fmt fm.data.toList = true)) (H3 : Hid (El.ends en ⟨y, m, q, n, d, s, c⟩ = true)) : Calls Tryz.prog 83 #[.agg #[.int .i64 sd, .int .u8 k, .int .i64 sv, .string ru, .string fm, .bool en, .int .i64 y, .int .i64 m, .int .u8 q, .int .i64 n, .int .i64 d, .int .i64 s, .int .u8 c]] w fun e w' => e = .returned (.bool true) ∧ Below w.heap.size w w' := by
  have HK := Lib.hid (fun W => ekind_any sd k sv ru fm en y m q n d s c W hs)
  rw [H1.out] at HK
  have HF := Lib.hid (fun W => eend_any sd k sv ru fm en y m q n d s c W)
  rw [H3.out] at HF
  go_enter Tryz.func83, Tryz.ntmps83
  go_wp2_with fail
  refine (isTime_is sd true _ H0.out).mono ?_
  rintro e w' ⟨rfl, rfl⟩
  have a0 : Below w.heap.size w (w.alloc (.cells #[.int .i64 sd, .int .u8 k, .int .i64 sv, .string ru, .string fm, .bool en, .int .i64 y, .int .i64 m, .int .u8 q, .int .i64 n, .int .i64 d, .int .i64 s, .int .u8 c] 65)) := (Below.refl _ _).alloc (Nat.le_refl _) _
  have k0 : Below (w.heap.size + 1) (w.alloc (.cells #[.int .i64 sd, .int .u8 k, .int .i64 sv, .string ru, .string fm, .bool en, .int .i64 y, .int .i64 m, .int .u8 q, .int .i64 n, .int .i64 d, .int .i64 s, .int .u8 c] 65)) (w.alloc (.cells #[.int .i64 sd, .int .u8 k, .int .i64 sv, .string ru, .string fm, .bool en, .int .i64 y, .int .i64 m, .int .u8 q, .int .i64 n, .int .i64 d, .int .i64 s, .int .u8 c] 65)) := Below.refl _ _
  have z0 : w.heap.size + 1 ≤ (w.alloc (.cells #[.int .i64 sd, .int .u8 k, .int .i64 sv, .string ru, .string fm, .bool en, .int .i64 y, .int .i64 m, .int .u8 q, .int .i64 n, .int .i64 d, .int .i64 s, .int .u8 c] 65)).heap.size := by simp
  go_wp2_with fail
  refine (HK.out _).mono ?_
  rintro e w1 ⟨rfl, b1⟩
  have k1 := k0.trans (b1.mono z0)
  have z1 : w.heap.size + 1 ≤ w1.heap.size := Nat.le_trans z0 k1.size
  have hc1 : ∀ o, w1.cell? ⟨w.heap.size, o, none⟩ = (w.alloc (.cells #[.int .i64 sd, .int .u8 k, .int .i64 sv, .string ru, .string fm, .bool en, .int .i64 y, .int .i64 m, .int .u8 q, .int .i64 n, .int .i64 d, .int .i64 s, .int .u8 c] 65)).cell? ⟨w.heap.size, o, none⟩ := fun o => k1.cell (p := ⟨w.heap.size, o, none⟩) (Nat.lt_succ_self _)
  go_wp2_with fail
  refine (fcheck_yes fm _ ((HE.out.alloc _).below b1).marks ((HE.out.alloc _).below b1).mxa H2.out).mono ?_
  rintro e w2 ⟨rfl, b2⟩
  have k2 := k1.trans (b2.mono z1)
  have z2 : w.heap.size + 1 ≤ w2.heap.size := Nat.le_trans z0 k2.size
  have hc2 : ∀ o, w2.cell? ⟨w.heap.size, o, none⟩ = (w.alloc (.cells #[.int .i64 sd, .int .u8 k, .int .i64 sv, .string ru, .string fm, .bool en, .int .i64 y, .int .i64 m, .int .u8 q, .int .i64 n, .int .i64 d, .int .i64 s, .int .u8 c] 65)).cell? ⟨w.heap.size, o, none⟩ := fun o => k2.cell (p := ⟨w.heap.size, o, none⟩) (Nat.lt_succ_self _)
  clear hc1
  go_wp2_with fail
  refine (HF.out _).mono ?_
  rintro e w3 ⟨rfl, b3⟩
  have k3 := k2.trans (b3.mono z2)
  have z3 : w.heap.size + 1 ≤ w3.heap.size := Nat.le_trans z0 k3.size
  have hc3 : ∀ o, w3.cell? ⟨w.heap.size, o, none⟩ = (w.alloc (.cells #[.int .i64 sd, .int .u8 k, .int .i64 sv, .string ru, .string fm, .bool en, .int .i64 y, .int .i64 m, .int .u8 q, .int .i64 n, .int .i64 d, .int .i64 s, .int .u8 c] 65)).cell? ⟨w.heap.size, o, none⟩ := fun o => k3.cell (p := ⟨w.heap.size, o, none⟩) (Nat.lt_succ_self _)
  clear hc2
  go_wp2_with fail
  go_ret
  exact ⟨rfl, a0.trans (k3.mono (Nat.le_succ _))⟩
theorem eisRight_any (e : Er) (w : World) (hE : Ev w) (hs : e.ru.size ≤ 9223372036854775807) : Calls Tryz.prog 83 #[erV e] w fun x w' => x = .returned (.bool (El.right e)) ∧ Below w.heap.size w w' := by
  unfold El.right
  obtain ⟨sd, k, sv, ru, fm, en, ⟨y, m, q, n, d, s, c⟩⟩ := e
  simp only at hs ⊢
  cases h0 : Rl.time sd with
  | false => exact eright_0 sd k sv ru fm en y m q n d s c w (Lib.hid hE) hs (Lib.hid h0)
  | true =>
    cases h1 : El.kind k sv ru.data.toList with
    | false => exact eright_1 sd k sv ru fm en y m q n d s c w (Lib.hid hE) hs (Lib.hid h0) (Lib.hid h1)
    | true =>
      cases h2 : Fm.fmt fm.data.toList with
      | false => exact eright_2 sd k sv ru fm en y m q n d s c w (Lib.hid hE) hs (Lib.hid h0) (Lib.hid h1) (Lib.hid h2)
      | true =>
        cases h3 : El.ends en ⟨y, m, q, n, d, s, c⟩ with
        | false => exact eright_3 sd k sv ru fm en y m q n d s c w (Lib.hid hE) hs (Lib.hid h0) (Lib.hid h1) (Lib.hid h2) (Lib.hid h3)
        | true =>
          exact eright_4 sd k sv ru fm en y m q n d s c w (Lib.hid hE) hs (Lib.hid h0) (Lib.hid h1) (Lib.hid h2) (Lib.hid h3)
theorem eisRight_is (e : Er) (v : Bool) (w : World) (hE : Ev w) (hs : e.ru.size ≤ 9223372036854775807) (h : El.right e = v) : Calls Tryz.prog 83 #[erV e] w fun x w' => x = .returned (.bool v) ∧ Below w.heap.size w w' := by
  subst h
  exact eisRight_any e w hE hs
theorem echeck_is (e : Er) (v : Bool) (w : World) (hE : Ev w) (hs : e.ru.size ≤ 9223372036854775807) (h : El.right e = v) : Calls Tryz.prog 98 #[erV e] w fun x w' => x = .returned (.int .i64 (if v = true then 0 else 2)) ∧ Below w.heap.size w w' := by
  have HH := Lib.hid (fun W (hE : Ev W) => eisRight_is e v W hE hs h)
  have HE := Lib.hid hE
  obtain ⟨sd, k, sv, ru, fm, en, ⟨y, m, q, n, d, s, c⟩⟩ := e
  clear h hE
  cases v with
  | false =>
    go_enter Tryz.func98, Tryz.ntmps98
    go_wp2_with fail
    refine (HH.out _ (HE.out.alloc _)).mono ?_
    rintro e w1 ⟨rfl, b1⟩
    have a1 := ((Below.refl w.heap.size w).alloc (Nat.le_refl _) (.cells #[.int .i64 sd, .int .u8 k, .int .i64 sv, .string ru, .string fm, .bool en, .int .i64 y, .int .i64 m, .int .u8 q, .int .i64 n, .int .i64 d, .int .i64 s, .int .u8 c] 65)).trans (b1.mono (by simp))
    go_wp2_with fail
    go_ret
    exact ⟨rfl, a1⟩
  | true =>
    go_enter Tryz.func98, Tryz.ntmps98
    go_wp2_with fail
    refine (HH.out _ (HE.out.alloc _)).mono ?_
    rintro e w1 ⟨rfl, b1⟩
    have a1 := ((Below.refl w.heap.size w).alloc (Nat.le_refl _) (.cells #[.int .i64 sd, .int .u8 k, .int .i64 sv, .string ru, .string fm, .bool en, .int .i64 y, .int .i64 m, .int .u8 q, .int .i64 n, .int .i64 d, .int .i64 s, .int .u8 c] 65)).trans (b1.mono (by simp))
    go_wp2_with fail
    go_ret
    exact ⟨rfl, a1⟩
end Go.Proofs.YtkcbmnboccjnnaaGreatDoor
/- Contracts of package era: beginsTime, the readers of its texts, readPart. -/

namespace Go.Proofs.YtkcbmnboccjnnaaGreatDoor
open Go.RowKit
/-- An era at block g. -/
structure En (w : World) (B g : Nat) (e : Er) : Prop where
  base : B ≤ g
  lt : g < w.heap.size
  c0 : w.cell? ⟨g, 0, none⟩ = some (.int .i64 e.sd)
  c1 : w.cell? ⟨g, 1, none⟩ = some (.int .u8 e.k)
  c2 : w.cell? ⟨g, 2, none⟩ = some (.int .i64 e.sv)
  c3 : w.cell? ⟨g, 3, none⟩ = some (.string e.ru)
  c4 : w.cell? ⟨g, 4, none⟩ = some (.string e.fm)
  c5 : w.cell? ⟨g, 5, none⟩ = some (.bool e.en)
  c6 : w.cell? ⟨g, 6, none⟩ = some (.int .i64 e.u.y)
  c7 : w.cell? ⟨g, 7, none⟩ = some (.int .i64 e.u.m)
  c8 : w.cell? ⟨g, 8, none⟩ = some (.int .u8 e.u.k)
  c9 : w.cell? ⟨g, 9, none⟩ = some (.int .i64 e.u.n)
  c10 : w.cell? ⟨g, 10, none⟩ = some (.int .i64 e.u.d)
  c11 : w.cell? ⟨g, 11, none⟩ = some (.int .i64 e.u.s)
  c12 : w.cell? ⟨g, 12, none⟩ = some (.int .u8 e.u.c)
  f0 : w.frozen? ⟨g, 0, none⟩ = false
  f1 : w.frozen? ⟨g, 1, none⟩ = false
  f2 : w.frozen? ⟨g, 2, none⟩ = false
  f3 : w.frozen? ⟨g, 3, none⟩ = false
  f4 : w.frozen? ⟨g, 4, none⟩ = false
  f5 : w.frozen? ⟨g, 5, none⟩ = false
  f6 : w.frozen? ⟨g, 6, none⟩ = false
  f7 : w.frozen? ⟨g, 7, none⟩ = false
  f8 : w.frozen? ⟨g, 8, none⟩ = false
  f9 : w.frozen? ⟨g, 9, none⟩ = false
  f10 : w.frozen? ⟨g, 10, none⟩ = false
  f11 : w.frozen? ⟨g, 11, none⟩ = false
  f12 : w.frozen? ⟨g, 12, none⟩ = false
theorem En.below {w w' : World} {B g : Nat} {e : Er} (h : En w B g e) (hb : Below w.heap.size w w') : En w' B g e := by
  obtain ⟨hc, hf⟩ := bcell hb
  have hl := h.lt
  exact ⟨h.base, Nat.lt_of_lt_of_le hl hb.size, (hc _ _ hl).trans h.c0, (hc _ _ hl).trans h.c1, (hc _ _ hl).trans h.c2, (hc _ _ hl).trans h.c3, (hc _ _ hl).trans h.c4, (hc _ _ hl).trans h.c5, (hc _ _ hl).trans h.c6, (hc _ _ hl).trans h.c7, (hc _ _ hl).trans h.c8, (hc _ _ hl).trans h.c9, (hc _ _ hl).trans h.c10, (hc _ _ hl).trans h.c11, (hc _ _ hl).trans h.c12,
    (hf _ _ hl).trans h.f0, (hf _ _ hl).trans h.f1, (hf _ _ hl).trans h.f2, (hf _ _ hl).trans h.f3, (hf _ _ hl).trans h.f4, (hf _ _ hl).trans h.f5, (hf _ _ hl).trans h.f6, (hf _ _ hl).trans h.f7, (hf _ _ hl).trans h.f8, (hf _ _ hl).trans h.f9, (hf _ _ hl).trans h.f10, (hf _ _ hl).trans h.f11, (hf _ _ hl).trans h.f12⟩
theorem En.stay {w w' : World} {B B' g : Nat} {e : Er} (h : En w B g e) (hb : Below B' w w') (hg : g < B') : En w' B g e := by
  have hc : ∀ o, w'.cell? ⟨g, o, none⟩ = w.cell? ⟨g, o, none⟩ := fun o => hb.cell (p := ⟨g, o, none⟩) hg
  have hf : ∀ o, w'.frozen? ⟨g, o, none⟩ = w.frozen? ⟨g, o, none⟩ := fun o => hb.frozen (p := ⟨g, o, none⟩) hg
  exact ⟨h.base, Nat.lt_of_lt_of_le h.lt hb.size, (hc _).trans h.c0, (hc _).trans h.c1, (hc _).trans h.c2, (hc _).trans h.c3, (hc _).trans h.c4, (hc _).trans h.c5, (hc _).trans h.c6, (hc _).trans h.c7, (hc _).trans h.c8, (hc _).trans h.c9, (hc _).trans h.c10, (hc _).trans h.c11, (hc _).trans h.c12,
    (hf _).trans h.f0, (hf _).trans h.f1, (hf _).trans h.f2, (hf _).trans h.f3, (hf _).trans h.f4, (hf _).trans h.f5, (hf _).trans h.f6, (hf _).trans h.f7, (hf _).trans h.f8, (hf _).trans h.f9, (hf _).trans h.f10, (hf _).trans h.f11, (hf _).trans h.f12⟩
theorem isD_num (c : UInt8) : Txt.isD c = decide (48 ≤ (c.toNat : Int) ∧ (c.toNat : Int) ≤ 57) := by
  rw [Bool.eq_iff_iff, decide_eq_true_eq]
  exact isD_iff c
theorem first_at {s : ByteArray} {c : UInt8} {r : List UInt8} (h : s.data.toList = c :: r) : 0 < s.size ∧ ∀ W, (Instr.index 9 (.string s) (.int .i64 0)).run Tryz.prog W = .ok (.int .u8 (c.toNat : Int)) W := by
  have hz : s.data.toList.length = s.size := by simp
  have h0 : 0 < s.size := by rw [← hz, h]; simp
  refine ⟨h0, fun W => ?_⟩
  have hi := idx_any s .i64 0 h0 W
  have e : s[0] = c := by
    have h1 : s.data.toList[0]? = some s[0] := Lib.data_getElem? s 0 h0
    rw [h] at h1
    have h2 : some c = some s[0] := h1
    exact (Option.some.inj h2).symm
  rw [e] at hi
  simpa using hi
theorem tail_of {s : ByteArray} {c : UInt8} {r : List UInt8} (h : s.data.toList = c :: r) : (s.extract 1 s.size).data.toList = r := by
  have hz : s.data.toList.length = s.size := by simp
  rw [ByteArray.data_extract, Array.toList_extract, h]
  rw [h, List.length_cons] at hz
  rw [List.extract_eq_take_drop, List.drop_one, List.tail_cons]
  exact List.take_of_length_le (by omega)
theorem ebeg_digit (s : ByteArray) (c : UInt8) (r : List UInt8) (w : World) (_hs : s.size ≤ 9223372036854775807) (h : s.data.toList = c :: r) (hc : c ≠ 45) : Calls Tryz.prog 200 #[.string s] w fun e w' => e = .returned (.bool (Txt.isD c)) ∧ w = w' := by
  obtain ⟨h0, hi⟩ := first_at h
  obtain ⟨t1, t2⟩ := nemp (s := s) (by rw [h]; simp)
  have t3 : ((c.toNat : Int) == 45) = false := by
    rw [beq_eq_false_iff_ne]
    intro e
    exact hc (UInt8.toNat_inj.1 (by show c.toNat = 45; omega))
  have HE := Lib.hid (isD_num c)
  have hb := c.toNat_lt
  clear h hc
  generalize (c.toNat : Int) = x at *
  by_cases h1 : 48 ≤ x
  · by_cases h2 : x ≤ 57
    · go_enter Tryz.func200, Tryz.ntmps200
      go_wp2_with fail
      go_ret
      exact ⟨ret_bool (by rw [HE.out]; symm; rw [decide_eq_true_eq]; exact ⟨h1, h2⟩), rfl⟩
    · have t4 : decide (x ≤ 57) = false := decide_eq_false h2
      clear h2
      go_enter Tryz.func200, Tryz.ntmps200
      go_wp2_with fail
      go_ret
      exact ⟨ret_bool (by rw [HE.out]; symm; rw [decide_eq_false_iff_not]; have := of_decide_eq_false t4; omega), rfl⟩
  · have t4 : decide (48 ≤ x) = false := decide_eq_false h1
    clear h1
    go_enter Tryz.func200, Tryz.ntmps200
    go_wp2_with fail
    go_ret
    exact ⟨ret_bool (by rw [HE.out]; symm; rw [decide_eq_false_iff_not]; have := of_decide_eq_false t4; omega), rfl⟩
theorem ebeg_minus (s S1 : ByteArray) (c : UInt8) (r : List UInt8) (w : World) (hs : s.size ≤ 9223372036854775807) (h : s.data.toList = 45 :: c :: r) (hS : s.extract 1 s.size = S1) : Calls Tryz.prog 200 #[.string s] w fun e w' => e = .returned (.bool (Txt.isD c)) ∧ w = w' := by
  obtain ⟨h0, hi⟩ := first_at h
  have hl := tail_of h
  rw [hS] at hl
  obtain ⟨h01, hi1⟩ := first_at hl
  obtain ⟨t1, t2⟩ := nemp (s := s) (by rw [h]; simp)
  obtain ⟨t11, t21⟩ := nemp (s := S1) (by rw [hl]; simp)
  have HE := Lib.hid (isD_num c)
  have hb := c.toNat_lt
  clear h hl
  generalize (c.toNat : Int) = x at *
  by_cases h1 : 48 ≤ x
  · by_cases h2 : x ≤ 57
    · go_enter Tryz.func200, Tryz.ntmps200
      go_wp2_with fail
      go_ret
      exact ⟨ret_bool (by rw [HE.out]; symm; rw [decide_eq_true_eq]; exact ⟨h1, h2⟩), rfl⟩
    · have t4 : decide (x ≤ 57) = false := decide_eq_false h2
      clear h2
      go_enter Tryz.func200, Tryz.ntmps200
      go_wp2_with fail
      go_ret
      exact ⟨ret_bool (by rw [HE.out]; symm; rw [decide_eq_false_iff_not]; have := of_decide_eq_false t4; omega), rfl⟩
  · have t4 : decide (48 ≤ x) = false := decide_eq_false h1
    clear h1
    go_enter Tryz.func200, Tryz.ntmps200
    go_wp2_with fail
    go_ret
    exact ⟨ret_bool (by rw [HE.out]; symm; rw [decide_eq_false_iff_not]; have := of_decide_eq_false t4; omega), rfl⟩
theorem ebeg_dash (w : World) : Calls Tryz.prog 200 #[.string ⟨#[45]⟩] w fun e w' => e = .returned (.bool false) ∧ w = w' := by
  have hi : ∀ W, (Instr.index 9 (.string ⟨#[45]⟩) (.int .i64 0)).run Tryz.prog W = .ok (.int .u8 45) W := fun W => (first_at (s := ⟨#[45]⟩) (c := 45) (r := []) rfl).2 W
  have hS : (⟨#[45]⟩ : ByteArray).extract 1 1 = ⟨#[]⟩ := by decide +kernel
  go_enter Tryz.func200, Tryz.ntmps200
  go_wp2_with fail
  go_ret
  exact ⟨rfl, rfl⟩
theorem ebeg_none (w : World) : Calls Tryz.prog 200 #[.string ⟨#[]⟩] w fun e w' => e = .returned (.bool false) ∧ w = w' := by
  go_enter Tryz.func200, Tryz.ntmps200
  go_wp2_with fail
  go_ret
  exact ⟨rfl, rfl⟩
theorem ebeg_any (s : ByteArray) (w : World) (hs : s.size ≤ 9223372036854775807) : Calls Tryz.prog 200 #[.string s] w fun e w' => e = .returned (.bool (El.beg s.data.toList)) ∧ w = w' := by
  cases hl : s.data.toList with
  | nil =>
    obtain rfl := emp hl
    exact ebeg_none w
  | cons c r =>
    by_cases hc : c = 45
    · subst hc
      cases r with
      | nil =>
        obtain rfl := dash_eq hl
        exact ebeg_dash w
      | cons x y => exact ebeg_minus s _ x y w hs hl rfl
    · have e : El.beg (c :: r) = Txt.isD c := by
        cases r with
        | nil => rfl
        | cons x y =>
          show (if c = 45 then Txt.isD x else Txt.isD c) = _
          rw [if_neg hc]
      rw [e]
      exact ebeg_digit s c r w hs hl hc
theorem ebeg_is (s : ByteArray) (v : Bool) (w : World) (hs : s.size ≤ 9223372036854775807) (h : El.beg s.data.toList = v) : Calls Tryz.prog 200 #[.string s] w fun e w' => e = .returned (.bool v) ∧ w = w' := by
  subst h
  exact ebeg_any s w hs
section
variable (B g : Nat) (t : ByteArray) (e : Er) (w : World)
theorem estd_dash (h : t = ⟨#[45]⟩) (hu : En w B g e) : Calls Tryz.prog 171 #[.pointer (some ⟨g, 0, none⟩), .string t] w fun x w' => x = .returned (.int .i64 0) ∧ En w' B g e ∧ Below B w w' := by
  subst h
  have HU := Lib.hid hu
  clear hu
  go_enter Tryz.func171, Tryz.ntmps171
  go_wp2_with fail
  go_ret
  exact ⟨rfl, HU.out, Below.refl _ _⟩
theorem estd_num (v z : Int) (h1 : (t.toList == [45]) = false) (_h2 : ¬ t.toList = [45]) (HP : Hid (∀ W, Below w.heap.size w W → Calls Tryz.prog 199 #[.string t] W fun x w' => x = .returned (.tuple #[.int .i64 v, .int .i64 z]) ∧ Below W.heap.size W w')) (hu : En w B g e) : Calls Tryz.prog 171 #[.pointer (some ⟨g, 0, none⟩), .string t] w fun x w' => x = .returned (.int .i64 z) ∧ En w' B g { e with sd := v } ∧ Below B w w' := by
  have HU := Lib.hid hu
  have hB := hu.base
  have hl0 := hu.lt
  clear hu
  go_enter Tryz.func171, Tryz.ntmps171
  go_wp2_with fail
  refine (HP.out _ (Below.refl _ _)).mono ?_
  rintro x w1 ⟨rfl, b1⟩
  obtain ⟨_, hl, c0, c1, c2, c3, c4, c5, c6, c7, c8, c9, c10, c11, c12, f0, f1, f2, f3, f4, f5, f6, f7, f8, f9, f10, f11, f12⟩ := HU.out.below b1
  have a1 := b1.mono (show B ≤ w.heap.size by omega)
  clear b1 HU
  go_wp2_with fail
  go_ret
  refine ⟨rfl, ⟨hB, by simpa using hl, by go_simp, by go_simp, by go_simp, by go_simp, by go_simp, by go_simp, by go_simp, by go_simp, by go_simp, by go_simp, by go_simp, by go_simp, by go_simp, by go_simp, by go_simp, by go_simp, by go_simp, by go_simp, by go_simp, by go_simp, by go_simp, by go_simp, by go_simp, by go_simp, by go_simp, by go_simp⟩, ?_⟩
  repeat (first | exact Below.refl _ _ | assumption | refine below_drewN ?_ _ | refine Below.drew ?_ | refine Below.setCell ?_ (by first | omega | (simp; done) | (simp; omega)) _ | refine Below.alloc ?_ (by first | omega | (simp; done) | (simp; omega)) _)
theorem esav_dash (h : t = ⟨#[45]⟩) (hu : En w B g e) : Calls Tryz.prog 172 #[.pointer (some ⟨g, 0, none⟩), .string t] w fun x w' => x = .returned (.int .i64 0) ∧ En w' B g { e with k := 0 } ∧ Below B w w' := by
  subst h
  obtain ⟨hB, hl, c0, c1, c2, c3, c4, c5, c6, c7, c8, c9, c10, c11, c12, f0, f1, f2, f3, f4, f5, f6, f7, f8, f9, f10, f11, f12⟩ := hu
  go_enter Tryz.func172, Tryz.ntmps172
  go_wp2_with fail
  go_ret
  refine ⟨rfl, ⟨hB, by simpa using hl, by go_simp, by go_simp, by go_simp, by go_simp, by go_simp, by go_simp, by go_simp, by go_simp, by go_simp, by go_simp, by go_simp, by go_simp, by go_simp, by go_simp, by go_simp, by go_simp, by go_simp, by go_simp, by go_simp, by go_simp, by go_simp, by go_simp, by go_simp, by go_simp, by go_simp, by go_simp⟩, ?_⟩
  repeat (first | exact Below.refl _ _ | assumption | refine below_drewN ?_ _ | refine Below.drew ?_ | refine Below.setCell ?_ (by first | omega | (simp; done) | (simp; omega)) _ | refine Below.alloc ?_ (by first | omega | (simp; done) | (simp; omega)) _)
theorem esav_num (v z : Int) (hs : t.size ≤ 4096) (h1 : (t.toList == [45]) = false) (_h2 : ¬ t.toList = [45]) (HB : Hid (El.beg t.data.toList = true)) (HP : Hid (∀ W, Below w.heap.size w W → Calls Tryz.prog 199 #[.string t] W fun x w' => x = .returned (.tuple #[.int .i64 v, .int .i64 z]) ∧ Below W.heap.size W w')) (hu : En w B g e) : Calls Tryz.prog 172 #[.pointer (some ⟨g, 0, none⟩), .string t] w fun x w' => x = .returned (.int .i64 z) ∧ En w' B g { e with k := 1, sv := v } ∧ Below B w w' := by
  have HU := Lib.hid hu
  have hB := hu.base
  have hl0 := hu.lt
  clear hu
  go_enter Tryz.func172, Tryz.ntmps172
  go_wp2_with fail
  refine (ebeg_is t true _ (by omega) HB.out).mono ?_
  rintro x w' ⟨rfl, rfl⟩
  go_wp2_with fail
  refine (HP.out _ (Below.refl _ _)).mono ?_
  rintro x w1 ⟨rfl, b1⟩
  obtain ⟨_, hl, c0, c1, c2, c3, c4, c5, c6, c7, c8, c9, c10, c11, c12, f0, f1, f2, f3, f4, f5, f6, f7, f8, f9, f10, f11, f12⟩ := HU.out.below b1
  have a1 := b1.mono (show B ≤ w.heap.size by omega)
  clear b1 HU
  go_wp2_with fail
  go_ret
  refine ⟨rfl, ⟨hB, by simpa using hl, by go_simp, by go_simp, by go_simp, by go_simp, by go_simp, by go_simp, by go_simp, by go_simp, by go_simp, by go_simp, by go_simp, by go_simp, by go_simp, by go_simp, by go_simp, by go_simp, by go_simp, by go_simp, by go_simp, by go_simp, by go_simp, by go_simp, by go_simp, by go_simp, by go_simp, by go_simp⟩, ?_⟩
  repeat (first | exact Below.refl _ _ | assumption | refine below_drewN ?_ _ | refine Below.drew ?_ | refine Below.setCell ?_ (by first | omega | (simp; done) | (simp; omega)) _ | refine Below.alloc ?_ (by first | omega | (simp; done) | (simp; omega)) _)
theorem esav_name (hs : t.size ≤ 4096) (h1 : (t.toList == [45]) = false) (_h2 : ¬ t.toList = [45]) (HB : Hid (El.beg t.data.toList = false)) (HN : Hid (Rl.name t.data.toList = true)) (hu : En w B g e) : Calls Tryz.prog 172 #[.pointer (some ⟨g, 0, none⟩), .string t] w fun x w' => x = .returned (.int .i64 0) ∧ En w' B g { e with k := 2, ru := t } ∧ Below B w w' := by
  obtain ⟨hB, hl, c0, c1, c2, c3, c4, c5, c6, c7, c8, c9, c10, c11, c12, f0, f1, f2, f3, f4, f5, f6, f7, f8, f9, f10, f11, f12⟩ := hu
  go_enter Tryz.func172, Tryz.ntmps172
  go_wp2_with fail
  refine (ebeg_is t false _ (by omega) HB.out).mono ?_
  rintro x w' ⟨rfl, rfl⟩
  go_wp2_with fail
  refine (rname_is t true _ (by omega) HN.out).mono ?_
  rintro x w' ⟨rfl, rfl⟩
  go_wp2_with fail
  go_ret
  refine ⟨rfl, ⟨hB, by simpa using hl, by go_simp, by go_simp, by go_simp, by go_simp, by go_simp, by go_simp, by go_simp, by go_simp, by go_simp, by go_simp, by go_simp, by go_simp, by go_simp, by go_simp, by go_simp, by go_simp, by go_simp, by go_simp, by go_simp, by go_simp, by go_simp, by go_simp, by go_simp, by go_simp, by go_simp, by go_simp⟩, ?_⟩
  repeat (first | exact Below.refl _ _ | assumption | refine below_drewN ?_ _ | refine Below.drew ?_ | refine Below.setCell ?_ (by first | omega | (simp; done) | (simp; omega)) _ | refine Below.alloc ?_ (by first | omega | (simp; done) | (simp; omega)) _)
theorem esav_none (hs : t.size ≤ 4096) (h1 : (t.toList == [45]) = false) (_h2 : ¬ t.toList = [45]) (HB : Hid (El.beg t.data.toList = false)) (HN : Hid (Rl.name t.data.toList = false)) (hu : En w B g e) : Calls Tryz.prog 172 #[.pointer (some ⟨g, 0, none⟩), .string t] w fun x w' => x = .returned (.int .i64 7) ∧ En w' B g e ∧ Below B w w' := by
  have HU := Lib.hid hu
  clear hu
  go_enter Tryz.func172, Tryz.ntmps172
  go_wp2_with fail
  refine (ebeg_is t false _ (by omega) HB.out).mono ?_
  rintro x w' ⟨rfl, rfl⟩
  go_wp2_with fail
  refine (rname_is t false _ (by omega) HN.out).mono ?_
  rintro x w' ⟨rfl, rfl⟩
  go_wp2_with fail
  go_ret
  exact ⟨rfl, HU.out, Below.refl _ _⟩
theorem eform_yes (hE : Ev w) (H : Hid (Fm.fmt t.data.toList = true)) (hu : En w B g e) : Calls Tryz.prog 173 #[.pointer (some ⟨g, 0, none⟩), .string t] w fun x w' => x = .returned (.int .i64 0) ∧ En w' B g { e with fm := t } ∧ Below B w w' := by
  have HE := Lib.hid hE
  clear hE
  have HU := Lib.hid hu
  have hB := hu.base
  have hl0 := hu.lt
  clear hu
  go_enter Tryz.func173, Tryz.ntmps173
  go_wp2_with fail
  refine (fcheck_yes t _ HE.out.marks HE.out.mxa H.out).mono ?_
  rintro x w1 ⟨rfl, b1⟩
  obtain ⟨_, hl, c0, c1, c2, c3, c4, c5, c6, c7, c8, c9, c10, c11, c12, f0, f1, f2, f3, f4, f5, f6, f7, f8, f9, f10, f11, f12⟩ := HU.out.below b1
  have a1 := b1.mono (show B ≤ w.heap.size by omega)
  clear b1 HU
  go_wp2_with fail
  go_ret
  refine ⟨rfl, ⟨hB, by simpa using hl, by go_simp, by go_simp, by go_simp, by go_simp, by go_simp, by go_simp, by go_simp, by go_simp, by go_simp, by go_simp, by go_simp, by go_simp, by go_simp, by go_simp, by go_simp, by go_simp, by go_simp, by go_simp, by go_simp, by go_simp, by go_simp, by go_simp, by go_simp, by go_simp, by go_simp, by go_simp⟩, ?_⟩
  repeat (first | exact Below.refl _ _ | assumption | refine below_drewN ?_ _ | refine Below.drew ?_ | refine Below.setCell ?_ (by first | omega | (simp; done) | (simp; omega)) _ | refine Below.alloc ?_ (by first | omega | (simp; done) | (simp; omega)) _)
theorem eform_no (hE : Ev w) (H : Hid (Fm.fmt t.data.toList = false)) (hu : En w B g e) : Calls Tryz.prog 173 #[.pointer (some ⟨g, 0, none⟩), .string t] w fun x w' => x = .returned (.int .i64 4) ∧ En w' B g e ∧ Below B w w' := by
  have HE := Lib.hid hE
  have hl0 := hu.lt
  have hB := hu.base
  clear hE
  have HU := Lib.hid hu
  have hB := hu.base
  have hl0 := hu.lt
  clear hu
  go_enter Tryz.func173, Tryz.ntmps173
  go_wp2_with fail
  refine (fcheck_no t _ HE.out.marks HE.out.mxa H.out).mono ?_
  rintro x w1 ⟨rfl, b1⟩
  go_wp2_with fail
  go_ret
  exact ⟨rfl, HU.out.below b1, b1.mono (by omega)⟩
theorem estd_any (hE : Ev w) (hs : t.size ≤ 4096) (hu : En w B g e) : Calls Tryz.prog 171 #[.pointer (some ⟨g, 0, none⟩), .string t] w fun x w' => x = .returned (.int .i64 (El.step 0 t e).2) ∧ En w' B g (El.step 0 t e).1 ∧ Below B w w' := by
  by_cases h : t.data.toList = [45]
  · have e0 : El.step 0 t e = (e, 0) := by unfold El.step; simp only; rw [if_pos h]
    rw [e0]
    exact estd_dash B g t e w (dash_eq h) hu
  · have e0 : El.step 0 t e = ({ e with sd := (parseL t.data.toList).1 }, (parseL t.data.toList).2) := by unfold El.step; simp only; rw [if_neg h]
    rw [e0]
    have hd := dash_no h
    exact estd_num B g t e w _ _ hd.1 hd.2 (Lib.hid fun W hW => parse_any t W (hE.env.below hW) hs) hu
theorem esav_any (hE : Ev w) (hs : t.size ≤ 4096) (hu : En w B g e) : Calls Tryz.prog 172 #[.pointer (some ⟨g, 0, none⟩), .string t] w fun x w' => x = .returned (.int .i64 (El.step 1 t e).2) ∧ En w' B g (El.step 1 t e).1 ∧ Below B w w' := by
  show Calls Tryz.prog 172 #[.pointer (some ⟨g, 0, none⟩), .string t] w fun x w' => x = .returned (.int .i64 (El.saved t e).2) ∧ En w' B g (El.saved t e).1 ∧ Below B w w'
  unfold El.saved
  by_cases h : t.data.toList = [45]
  · rw [if_pos h]
    exact esav_dash B g t e w (dash_eq h) hu
  · rw [if_neg h]
    have hd := dash_no h
    cases h1 : El.beg t.data.toList with
    | true =>
      rw [if_pos rfl]
      exact esav_num B g t e w _ _ hs hd.1 hd.2 (Lib.hid h1) (Lib.hid fun W hW => parse_any t W (hE.env.below hW) hs) hu
    | false =>
      rw [if_neg (by decide)]
      cases h2 : Rl.name t.data.toList with
      | true =>
        rw [if_pos rfl]
        exact esav_name B g t e w hs hd.1 hd.2 (Lib.hid h1) (Lib.hid h2) hu
      | false =>
        rw [if_neg (by decide)]
        exact esav_none B g t e w hs hd.1 hd.2 (Lib.hid h1) (Lib.hid h2) hu
theorem eform_any (hE : Ev w) (hu : En w B g e) : Calls Tryz.prog 173 #[.pointer (some ⟨g, 0, none⟩), .string t] w fun x w' => x = .returned (.int .i64 (El.step 2 t e).2) ∧ En w' B g (El.step 2 t e).1 ∧ Below B w w' := by
  show Calls Tryz.prog 173 #[.pointer (some ⟨g, 0, none⟩), .string t] w fun x w' => x = .returned (.int .i64 (El.form t e).2) ∧ En w' B g (El.form t e).1 ∧ Below B w w'
  unfold El.form
  cases h : Fm.fmt t.data.toList with
  | true =>
    rw [if_pos rfl]
    exact eform_yes B g t e w hE (Lib.hid h) hu
  | false =>
    rw [if_neg (by decide)]
    exact eform_no B g t e w hE (Lib.hid h) hu
theorem epart0 (e1 : Er) (z : Int) (H : Hid (Calls Tryz.prog 171 #[.pointer (some ⟨g, 0, none⟩), .string t] w fun x w' => x = .returned (.int .i64 z) ∧ En w' B g e1 ∧ Below B w w')) : Calls Tryz.prog 145 #[.pointer (some ⟨g, 0, none⟩), .int .i64 0, .string t] w fun x w' => x = .returned (.int .i64 z) ∧ En w' B g e1 ∧ Below B w w' := by
  go_enter Tryz.func145, Tryz.ntmps145
  go_wp2_with fail
  refine H.out.mono ?_
  rintro x w1 ⟨rfl, u1, b1⟩
  have U1 := Lib.hid u1
  clear u1
  go_wp2_with fail
  go_ret
  exact ⟨rfl, U1.out, b1⟩
theorem epart1 (e1 : Er) (z : Int) (H : Hid (Calls Tryz.prog 172 #[.pointer (some ⟨g, 0, none⟩), .string t] w fun x w' => x = .returned (.int .i64 z) ∧ En w' B g e1 ∧ Below B w w')) : Calls Tryz.prog 145 #[.pointer (some ⟨g, 0, none⟩), .int .i64 1, .string t] w fun x w' => x = .returned (.int .i64 z) ∧ En w' B g e1 ∧ Below B w w' := by
  go_enter Tryz.func145, Tryz.ntmps145
  go_wp2_with fail
  refine H.out.mono ?_
  rintro x w1 ⟨rfl, u1, b1⟩
  have U1 := Lib.hid u1
  clear u1
  go_wp2_with fail
  go_ret
  exact ⟨rfl, U1.out, b1⟩
theorem epart2 (e1 : Er) (z : Int) (H : Hid (Calls Tryz.prog 173 #[.pointer (some ⟨g, 0, none⟩), .string t] w fun x w' => x = .returned (.int .i64 z) ∧ En w' B g e1 ∧ Below B w w')) : Calls Tryz.prog 145 #[.pointer (some ⟨g, 0, none⟩), .int .i64 2, .string t] w fun x w' => x = .returned (.int .i64 z) ∧ En w' B g e1 ∧ Below B w w' := by
  go_enter Tryz.func145, Tryz.ntmps145
  go_wp2_with fail
  refine H.out.mono ?_
  rintro x w1 ⟨rfl, u1, b1⟩
  have U1 := Lib.hid u1
  clear u1
  go_wp2_with fail
  go_ret
  exact ⟨rfl, U1.out, b1⟩
theorem epart_any (i : Nat) (hi : i < 3) (hE : Ev w) (ht : t.size ≤ 4096) (hu : En w B g e) :
    Calls Tryz.prog 145 #[.pointer (some ⟨g, 0, none⟩), .int .i64 (i : Int), .string t] w fun x w' => x = .returned (.int .i64 (El.step i t e).2) ∧ En w' B g (El.step i t e).1 ∧ Below B w w' := by
  have hi3 : i = 0 ∨ i = 1 ∨ i = 2 := by omega
  rcases hi3 with rfl | rfl | rfl
  · exact epart0 B g t w _ _ (Lib.hid (estd_any B g t e w hE ht hu))
  · exact epart1 B g t w _ _ (Lib.hid (esav_any B g t e w hE ht hu))
  · exact epart2 B g t w _ _ (Lib.hid (eform_any B g t e w hE hu))
end
end Go.Proofs.YtkcbmnboccjnnaaGreatDoor
/- Contract of package era: Parse. -/


namespace Go.Proofs.YtkcbmnboccjnnaaGreatDoor
open Go.RowKit
def EPrsE (r : Er × Nat × Int) (x : Ending) : Prop := x = .returned (.tuple #[erV r.1, .int .i64 (r.2.1 : Nat), .int .i64 r.2.2])
theorem eprsE_of {r : Er × Nat × Int} {e : Er} {i : Nat} {z : Int} (h : r = (e, i, z)) : EPrsE r (.returned (.tuple #[.agg #[.int .i64 e.sd, .int .u8 e.k, .int .i64 e.sv, .string e.ru, .string e.fm, .bool e.en, .int .i64 e.u.y, .int .i64 e.u.m, .int .u8 e.u.k, .int .i64 e.u.n, .int .i64 e.u.d, .int .i64 e.u.s, .int .u8 e.u.c], .int .i64 (i : Int), .int .i64 z])) := by
  subst h
  rfl
theorem eprsE_at {r : Er × Nat × Int} {e : Er} {i : Nat} {z : Int} (h : r = (e, 3 + i, z)) : EPrsE r (.returned (.tuple #[.agg #[.int .i64 e.sd, .int .u8 e.k, .int .i64 e.sv, .string e.ru, .string e.fm, .bool e.en, .int .i64 e.u.y, .int .i64 e.u.m, .int .u8 e.u.k, .int .i64 e.u.n, .int .i64 e.u.d, .int .i64 e.u.s, .int .u8 e.u.c], .int .i64 (3 + (i : Int)), .int .i64 z])) := by
  have h1 := eprsE_of h
  rw [Int.natCast_add] at h1
  exact h1
theorem sl_drop {w : World} {B : Nat} {ad : Addr} {n k : Nat} {L : List ByteArray} (h : Sl w B (some ad) n (fun i => .string (L.getD i ByteArray.empty))) (hk : k < n) : Sl w B (some (ad.add k)) (n - k) (fun i => .string ((L.drop k).getD i ByteArray.empty)) := by
  intro _
  obtain ⟨a, e, hb, hc⟩ := h (by omega)
  injection e with e
  subst e
  refine ⟨_, rfl, by rw [block_of_add]; exact hb, fun i hi => ?_⟩
  have := hc (k + i) (by omega)
  rw [Addr.add_add, this]
  show some (Value.string _) = some (Value.string _)
  rw [List.getD_eq_getElem?_getD, List.getD_eq_getElem?_getD, List.getElem?_drop]
theorem sl_raise {w : World} {B B' : Nat} {A : Option Addr} {n : Nat} {v : Nat → Value} (h : Sl w B A n v) (hB : B ≤ B') : Sl w B' A n v := by
  intro hn
  obtain ⟨ad, e, hl, hc⟩ := h hn
  exact ⟨ad, e, Nat.lt_of_lt_of_le hl hB, hc⟩
theorem En.drew {w : World} {B g : Nat} {e : Er} (h : En w B g e) : En w.drew B g e := ⟨h.base, h.lt, h.c0, h.c1, h.c2, h.c3, h.c4, h.c5, h.c6, h.c7, h.c8, h.c9, h.c10, h.c11, h.c12, h.f0, h.f1, h.f2, h.f3, h.f4, h.f5, h.f6, h.f7, h.f8, h.f9, h.f10, h.f11, h.f12⟩
theorem cell_beside {w : World} {g g2 o i : Nat} {v : Value} (h : g2 ≠ g) : (w.setCell ⟨g2, i, none⟩ v).cell? ⟨g, o, none⟩ = w.cell? ⟨g, o, none⟩ := World.cell?_setCell_other _ _ _ _ (by intro e; injection e with e; exact h e)
theorem En.other {w : World} {B g g2 : Nat} {e : Er} (h : En w B g e) (hg : g2 ≠ g) (i : Nat) (v : Value) : En (w.setCell ⟨g2, i, none⟩ v) B g e := ⟨h.base, by simpa using h.lt, (cell_beside hg).trans h.c0, (cell_beside hg).trans h.c1, (cell_beside hg).trans h.c2, (cell_beside hg).trans h.c3, (cell_beside hg).trans h.c4, (cell_beside hg).trans h.c5, (cell_beside hg).trans h.c6, (cell_beside hg).trans h.c7, (cell_beside hg).trans h.c8, (cell_beside hg).trans h.c9, (cell_beside hg).trans h.c10, (cell_beside hg).trans h.c11, (cell_beside hg).trans h.c12, (World.frozen?_setCell _ _ _ _).trans h.f0, (World.frozen?_setCell _ _ _ _).trans h.f1, (World.frozen?_setCell _ _ _ _).trans h.f2, (World.frozen?_setCell _ _ _ _).trans h.f3, (World.frozen?_setCell _ _ _ _).trans h.f4, (World.frozen?_setCell _ _ _ _).trans h.f5, (World.frozen?_setCell _ _ _ _).trans h.f6, (World.frozen?_setCell _ _ _ _).trans h.f7, (World.frozen?_setCell _ _ _ _).trans h.f8, (World.frozen?_setCell _ _ _ _).trans h.f9, (World.frozen?_setCell _ _ _ _).trans h.f10, (World.frozen?_setCell _ _ _ _).trans h.f11, (World.frozen?_setCell _ _ _ _).trans h.f12⟩
theorem En.set5 {w : World} {B g : Nat} {e : Er} (h : En w B g e) (v : Bool) : En (w.setCell ⟨g, 5, none⟩ (.bool v)) B g { e with en := v } := by
  obtain ⟨hB, hl, c0, c1, c2, c3, c4, c5, c6, c7, c8, c9, c10, c11, c12, f0, f1, f2, f3, f4, f5, f6, f7, f8, f9, f10, f11, f12⟩ := h
  exact ⟨hB, by simpa using hl, by go_simp, by go_simp, by go_simp, by go_simp, by go_simp, by go_simp, by go_simp, by go_simp, by go_simp, by go_simp, by go_simp, by go_simp, by go_simp, by go_simp, by go_simp, by go_simp, by go_simp, by go_simp, by go_simp, by go_simp, by go_simp, by go_simp, by go_simp, by go_simp, by go_simp, by go_simp⟩
theorem En.set6 {w : World} {B g : Nat} {e : Er} (h : En w B g e) (v : Int) : En (w.setCell ⟨g, 6, none⟩ (.int .i64 v)) B g { e with u := { e.u with y := v } } := by
  obtain ⟨hB, hl, c0, c1, c2, c3, c4, c5, c6, c7, c8, c9, c10, c11, c12, f0, f1, f2, f3, f4, f5, f6, f7, f8, f9, f10, f11, f12⟩ := h
  exact ⟨hB, by simpa using hl, by go_simp, by go_simp, by go_simp, by go_simp, by go_simp, by go_simp, by go_simp, by go_simp, by go_simp, by go_simp, by go_simp, by go_simp, by go_simp, by go_simp, by go_simp, by go_simp, by go_simp, by go_simp, by go_simp, by go_simp, by go_simp, by go_simp, by go_simp, by go_simp, by go_simp, by go_simp⟩
theorem En.set7 {w : World} {B g : Nat} {e : Er} (h : En w B g e) (v : Int) : En (w.setCell ⟨g, 7, none⟩ (.int .i64 v)) B g { e with u := { e.u with m := v } } := by
  obtain ⟨hB, hl, c0, c1, c2, c3, c4, c5, c6, c7, c8, c9, c10, c11, c12, f0, f1, f2, f3, f4, f5, f6, f7, f8, f9, f10, f11, f12⟩ := h
  exact ⟨hB, by simpa using hl, by go_simp, by go_simp, by go_simp, by go_simp, by go_simp, by go_simp, by go_simp, by go_simp, by go_simp, by go_simp, by go_simp, by go_simp, by go_simp, by go_simp, by go_simp, by go_simp, by go_simp, by go_simp, by go_simp, by go_simp, by go_simp, by go_simp, by go_simp, by go_simp, by go_simp, by go_simp⟩
theorem En.set8 {w : World} {B g : Nat} {e : Er} (h : En w B g e) (v : Int) : En (w.setCell ⟨g, 8, none⟩ (.int .u8 v)) B g { e with u := { e.u with k := v } } := by
  obtain ⟨hB, hl, c0, c1, c2, c3, c4, c5, c6, c7, c8, c9, c10, c11, c12, f0, f1, f2, f3, f4, f5, f6, f7, f8, f9, f10, f11, f12⟩ := h
  exact ⟨hB, by simpa using hl, by go_simp, by go_simp, by go_simp, by go_simp, by go_simp, by go_simp, by go_simp, by go_simp, by go_simp, by go_simp, by go_simp, by go_simp, by go_simp, by go_simp, by go_simp, by go_simp, by go_simp, by go_simp, by go_simp, by go_simp, by go_simp, by go_simp, by go_simp, by go_simp, by go_simp, by go_simp⟩
theorem En.set9 {w : World} {B g : Nat} {e : Er} (h : En w B g e) (v : Int) : En (w.setCell ⟨g, 9, none⟩ (.int .i64 v)) B g { e with u := { e.u with n := v } } := by
  obtain ⟨hB, hl, c0, c1, c2, c3, c4, c5, c6, c7, c8, c9, c10, c11, c12, f0, f1, f2, f3, f4, f5, f6, f7, f8, f9, f10, f11, f12⟩ := h
  exact ⟨hB, by simpa using hl, by go_simp, by go_simp, by go_simp, by go_simp, by go_simp, by go_simp, by go_simp, by go_simp, by go_simp, by go_simp, by go_simp, by go_simp, by go_simp, by go_simp, by go_simp, by go_simp, by go_simp, by go_simp, by go_simp, by go_simp, by go_simp, by go_simp, by go_simp, by go_simp, by go_simp, by go_simp⟩
theorem En.set10 {w : World} {B g : Nat} {e : Er} (h : En w B g e) (v : Int) : En (w.setCell ⟨g, 10, none⟩ (.int .i64 v)) B g { e with u := { e.u with d := v } } := by
  obtain ⟨hB, hl, c0, c1, c2, c3, c4, c5, c6, c7, c8, c9, c10, c11, c12, f0, f1, f2, f3, f4, f5, f6, f7, f8, f9, f10, f11, f12⟩ := h
  exact ⟨hB, by simpa using hl, by go_simp, by go_simp, by go_simp, by go_simp, by go_simp, by go_simp, by go_simp, by go_simp, by go_simp, by go_simp, by go_simp, by go_simp, by go_simp, by go_simp, by go_simp, by go_simp, by go_simp, by go_simp, by go_simp, by go_simp, by go_simp, by go_simp, by go_simp, by go_simp, by go_simp, by go_simp⟩
theorem En.set11 {w : World} {B g : Nat} {e : Er} (h : En w B g e) (v : Int) : En (w.setCell ⟨g, 11, none⟩ (.int .i64 v)) B g { e with u := { e.u with s := v } } := by
  obtain ⟨hB, hl, c0, c1, c2, c3, c4, c5, c6, c7, c8, c9, c10, c11, c12, f0, f1, f2, f3, f4, f5, f6, f7, f8, f9, f10, f11, f12⟩ := h
  exact ⟨hB, by simpa using hl, by go_simp, by go_simp, by go_simp, by go_simp, by go_simp, by go_simp, by go_simp, by go_simp, by go_simp, by go_simp, by go_simp, by go_simp, by go_simp, by go_simp, by go_simp, by go_simp, by go_simp, by go_simp, by go_simp, by go_simp, by go_simp, by go_simp, by go_simp, by go_simp, by go_simp, by go_simp⟩
theorem En.set12 {w : World} {B g : Nat} {e : Er} (h : En w B g e) (v : Int) : En (w.setCell ⟨g, 12, none⟩ (.int .u8 v)) B g { e with u := { e.u with c := v } } := by
  obtain ⟨hB, hl, c0, c1, c2, c3, c4, c5, c6, c7, c8, c9, c10, c11, c12, f0, f1, f2, f3, f4, f5, f6, f7, f8, f9, f10, f11, f12⟩ := h
  exact ⟨hB, by simpa using hl, by go_simp, by go_simp, by go_simp, by go_simp, by go_simp, by go_simp, by go_simp, by go_simp, by go_simp, by go_simp, by go_simp, by go_simp, by go_simp, by go_simp, by go_simp, by go_simp, by go_simp, by go_simp, by go_simp, by go_simp, by go_simp, by go_simp, by go_simp, by go_simp, by go_simp, by go_simp⟩
set_option maxRecDepth 100000 in
set_option maxHeartbeats 4000000 in
theorem eprs_any (A : Option Addr) (n c M : Nat) (L : List ByteArray) (hl : L.length = n) (hn : n ≤ 4294967296) (hnc : n ≤ c) (hc2 : c ≤ 9223372036854775807) (hM : M = min n 3) (hL : ∀ i, i < n → i < 7 → (L.getD i ByteArray.empty).size ≤ 4096) (w : World) (hE : Ev w) (B : Nat) (hB : B ≤ w.heap.size) (hS : Sl w B A n (fun i => .string (L.getD i ByteArray.empty))) :
    Calls Tryz.prog 90 #[.slice A n c] w fun e w' => EPrsE (El.prs L) e ∧ Below w.heap.size w w' := by
  have tm : min (n : Int) 3 = (M : Int) := by omega
  have hM3 : M ≤ 3 := by omega
  have hMn : M ≤ n := by omega
  have hS' : Sl w w.heap.size A n (fun i => .string (L.getD i ByteArray.empty)) := by
    intro hp
    obtain ⟨ad, e, hb, hc⟩ := hS hp
    exact ⟨ad, e, Nat.lt_of_lt_of_le hb hB, hc⟩
  have HS := Lib.hid hS'
  have HE := Lib.hid hE
  have HL := Lib.hid hL
  have HN := Lib.hid hl
  have HM := Lib.hid hM
  have HT := Lib.hid (show (L.take 3).length = M by rw [List.length_take, hl, hM, Nat.min_comm])
  clear hS hS' hE hL hl hM
  go_enter Tryz.func90, Tryz.ntmps90
  go_wp2_with fail
  clear tm
  go_loopw [14] (fun i wr => ∃ (k : Nat) (u : Er), k ≤ M ∧ i = .int .i64 k ∧ Hid (El.run 0 (L.take 3) Er.zero = El.run k ((L.take 3).drop k) u) ∧ En wr w.heap.size w.heap.size Er.zero ∧ En wr (w.heap.size + 1) (w.heap.size + 1) u ∧ Below w.heap.size w wr) (fun i _ => M - (intOf i).toNat)
  case atStart =>
    refine ⟨0, Er.zero, Nat.zero_le _, rfl, Lib.hid rfl, ⟨Nat.le_refl _, by simp; omega, by go_simp; rfl, by go_simp; rfl, by go_simp; rfl, by go_simp; rfl, by go_simp; rfl, by go_simp; rfl, by go_simp; rfl, by go_simp; rfl, by go_simp; rfl, by go_simp; rfl, by go_simp; rfl, by go_simp; rfl, by go_simp; rfl, by go_simp, by go_simp, by go_simp, by go_simp, by go_simp, by go_simp, by go_simp, by go_simp, by go_simp, by go_simp, by go_simp, by go_simp, by go_simp⟩, ⟨Nat.le_refl _, by simp, by go_simp; rfl, by go_simp; rfl, by go_simp; rfl, by go_simp; rfl, by go_simp; rfl, by go_simp; rfl, by go_simp; rfl, by go_simp; rfl, by go_simp; rfl, by go_simp; rfl, by go_simp; rfl, by go_simp; rfl, by go_simp; rfl, by go_simp, by go_simp, by go_simp, by go_simp, by go_simp, by go_simp, by go_simp, by go_simp, by go_simp, by go_simp, by go_simp, by go_simp, by go_simp⟩, ?_⟩
    repeat (first | exact Below.refl _ _ | assumption | refine below_drewN ?_ _ | refine Below.drew ?_ | refine Below.setCell ?_ (by first | omega | (simp; done) | (simp; omega)) _ | refine Below.alloc ?_ (by first | omega | (simp; done) | (simp; omega)) _)
  case round =>
    obtain ⟨k, u, hk, rfl, hG, hR, hU, hbw⟩ := hrel
    have hEw := HE.out.below hbw
    by_cases hlt : k < M
    · obtain ⟨ad, rfl, hal, hc⟩ := (HS.out.below hbw).at_ (show k < n by omega)
      change wr.cell? (ad.add k) = some (.string (L.getD k ByteArray.empty)) at hc
      have hz := HL.out k (by omega) (by omega)
      have hkn : k < n := by omega
      have hd : (L.take 3).drop k = L.getD k ByteArray.empty :: (L.take 3).drop (k + 1) := by
        have hkl : k < (L.take 3).length := by rw [HT.out]; exact hlt
        rw [List.drop_eq_getElem_cons hkl, List.getD_eq_getElem?_getD, ← List.getElem?_take_of_lt (show k < 3 by omega), List.getElem?_eq_getElem hkl]
        rfl
      have hG2 := hG.out
      rw [hd] at hG2
      generalize L.getD k ByteArray.empty = X at *
      have HP := Lib.hid (fun W (hE : Ev W) (h : En W (w.heap.size + 1) (w.heap.size + 1) u) => epart_any (w.heap.size + 1) (w.heap.size + 1) X u W k (by omega) hE hz h)
      by_cases h0 : (El.step k X u).2 = 0
      · have HG := Lib.hid (show El.run 0 (L.take 3) Er.zero = El.run (k + 1) ((L.take 3).drop (k + 1)) (El.step k X u).1 by rw [hG2, El.run, if_pos h0])
        rw [h0] at HP
        have HEw := Lib.hid hEw
        have HR := Lib.hid hR
        have HU := Lib.hid hU
        clear hd hG hG2 h0 hEw hR hU
        go_wp2_with fail
        refine (HP.out _ HEw.out HU.out).mono ?_
        rintro e w1 ⟨rfl, u1, b1⟩
        have r1 := HR.out.stay b1 (Nat.lt_succ_self _)
        have a1 := hbw.trans (b1.mono (Nat.le_succ _))
        go_wp2_with fail
        go_roundw
        case rel => exact ⟨k + 1, _, by omega, by go_num, HG, r1, u1, a1⟩
        case measure => simp [intOf]; omega
      · have HRE := Lib.hid (eprsE_of (eprs_stop (show El.run 0 (L.take 3) Er.zero = (Er.zero, k, (El.step k X u).2) by rw [hG2, El.run, if_neg h0]) h0))
        have t5 : ((El.step k X u).2 != 0) = true := by rw [bne_iff_ne]; exact h0
        generalize (El.step k X u).2 = z at *
        have HEw := Lib.hid hEw
        have HR := Lib.hid hR
        have HU := Lib.hid hU
        clear hd hG hG2 h0 hEw hR hU
        go_wp2_with fail
        refine (HP.out _ HEw.out HU.out).mono ?_
        rintro e w1 ⟨rfl, u1, b1⟩
        have r1 := HR.out.stay b1 (Nat.lt_succ_self _)
        have a1 := hbw.trans (b1.mono (Nat.le_succ _))
        obtain ⟨_, hl1, c0, c1, c2, c3, c4, c5, c6, c7, c8, c9, c10, c11, c12, f0, f1, f2, f3, f4, f5, f6, f7, f8, f9, f10, f11, f12⟩ := r1
        clear u1 b1
        go_wp2_with fail
        refine bodyPost_ret (v := .tuple #[.agg #[.int .i64 0, .int .u8 0, .int .i64 0, .string ⟨#[]⟩, .string ⟨#[]⟩, .bool false, .int .i64 0, .int .i64 0, .int .u8 0, .int .i64 0, .int .i64 0, .int .i64 0, .int .u8 0], .int .i64 (k : Int), .int .i64 z]) (by simp [results, Tryz.results90, go_sem, c0, c1, c2, c3, c4, c5, c6, c7, c8, c9, c10, c11, c12]) rfl ⟨HRE.out, ?_⟩
        exact (((((((((((((a1).setCell (Nat.le_refl _) _).setCell (Nat.le_refl _) _).setCell (Nat.le_refl _) _).setCell (Nat.le_refl _) _).setCell (Nat.le_refl _) _).setCell (Nat.le_refl _) _).setCell (Nat.le_refl _) _).setCell (Nat.le_refl _) _).setCell (Nat.le_refl _) _).setCell (Nat.le_refl _) _).setCell (Nat.le_refl _) _).setCell (Nat.le_refl _) _).setCell (Nat.le_refl _) _
    · obtain rfl : k = M := by omega
      have hG2 := hG.out
      rw [List.drop_of_length_le (by rw [HT.out]; exact Nat.le_refl _), El.run] at hG2
      by_cases h9 : n < 3
      · have HRE := Lib.hid (eprsE_of (eprs_short hG2 (by rw [HN.out]; exact h9)))
        rw [HN.out] at HRE
        obtain ⟨_, hl1, c0, c1, c2, c3, c4, c5, c6, c7, c8, c9, c10, c11, c12, f0, f1, f2, f3, f4, f5, f6, f7, f8, f9, f10, f11, f12⟩ := hR
        clear hG hG2 hEw hlt hU
        go_wp2_with fail
        refine bodyPost_ret (v := .tuple #[.agg #[.int .i64 0, .int .u8 0, .int .i64 0, .string ⟨#[]⟩, .string ⟨#[]⟩, .bool false, .int .i64 0, .int .i64 0, .int .u8 0, .int .i64 0, .int .i64 0, .int .i64 0, .int .u8 0], .int .i64 (n : Int), .int .i64 5]) (by simp [results, Tryz.results90, go_sem, c0, c1, c2, c3, c4, c5, c6, c7, c8, c9, c10, c11, c12]) rfl ⟨HRE.out, ?_⟩
        exact (((((((((((((hbw).setCell (Nat.le_refl _) _).setCell (Nat.le_refl _) _).setCell (Nat.le_refl _) _).setCell (Nat.le_refl _) _).setCell (Nat.le_refl _) _).setCell (Nat.le_refl _) _).setCell (Nat.le_refl _) _).setCell (Nat.le_refl _) _).setCell (Nat.le_refl _) _).setCell (Nat.le_refl _) _).setCell (Nat.le_refl _) _).setCell (Nat.le_refl _) _).setCell (Nat.le_refl _) _
      · have h3 : k = 3 := by rw [HM.out]; omega
        by_cases h10 : n = 3
        · have HRE := Lib.hid (eprsE_of (eprs_three hG2 (by rw [HN.out]; exact h10)))
          obtain ⟨xd, xk, xv, xr, xf, xe, ⟨xy, xm, xq, xn, xw, xs, xc⟩⟩ := u
          obtain ⟨_, hl1, c0, c1, c2, c3, c4, c5, c6, c7, c8, c9, c10, c11, c12, f0, f1, f2, f3, f4, f5, f6, f7, f8, f9, f10, f11, f12⟩ := hR
          obtain ⟨_, hl2, d0, d1, d2, d3, d4, d5, d6, d7, d8, d9, d10, d11, d12, g0, g1, g2, g3, g4, g5, g6, g7, g8, g9, g10, g11, g12⟩ := hU
          have t3 : ((n : Int) == 3) = true := by rw [beq_iff_eq]; omega
          clear hG hG2 hEw hlt h10 h3
          go_wp2_with fail
          refine bodyPost_ret (v := .tuple #[.agg #[.int .i64 xd, .int .u8 xk, .int .i64 xv, .string xr, .string xf, .bool xe, .int .i64 xy, .int .i64 xm, .int .u8 xq, .int .i64 xn, .int .i64 xw, .int .i64 xs, .int .u8 xc], .int .i64 0, .int .i64 0]) (by simp [results, Tryz.results90, go_sem, c0, c1, c2, c3, c4, c5, c6, c7, c8, c9, c10, c11, c12]) rfl ⟨HRE.out, ?_⟩
          exact (((((((((((((hbw).setCell (Nat.le_refl _) _).setCell (Nat.le_refl _) _).setCell (Nat.le_refl _) _).setCell (Nat.le_refl _) _).setCell (Nat.le_refl _) _).setCell (Nat.le_refl _) _).setCell (Nat.le_refl _) _).setCell (Nat.le_refl _) _).setCell (Nat.le_refl _) _).setCell (Nat.le_refl _) _).setCell (Nat.le_refl _) _).setCell (Nat.le_refl _) _).setCell (Nat.le_refl _) _
        · have t3 : ((n : Int) == 3) = false := by rw [beq_eq_false_iff_ne]; omega
          obtain ⟨ad, rfl, hal, -⟩ := (HS.out.below hbw).at_ (show 0 < n by omega)
          obtain ⟨v, i, z, hp⟩ : ∃ v i z, Mo.prsU (L.drop 3) = (v, i, z) := ⟨_, _, _, rfl⟩
          have hU2 := fun (W : World) (hb : Below wr.heap.size wr W) => uprs_any (some (ad.add 3)) (n - 3) (c - 3) (L.drop 3) (by rw [List.length_drop, HN.out]) (by omega) (fun h4 j hj => by
            have := HL.out (3 + j) (by omega) (by omega)
            rwa [List.getD_eq_getElem?_getD, List.getElem?_drop, ← List.getD_eq_getElem?_getD]) W (hEw.env.below hb) wr.heap.size hb.size (sl_drop (sl_raise (HS.out.below (hbw.trans (hb.mono hbw.size))) hbw.size) (show 3 < n by omega))
          rw [hp] at hU2
          have HU2 := Lib.hid hU2
          obtain ⟨vy, vm, vk, vn, vd, vs, vc⟩ := v
          by_cases hz : z = 0
          · subst hz
            have HRE := Lib.hid (eprsE_of (eprs_ends hG2 (by rw [HN.out]; omega) hp))
            obtain ⟨xd, xk, xv, xr, xf, xe, ⟨xy, xm, xq, xn, xw, xs, xc⟩⟩ := u
            have HR := Lib.hid hR
            have HU := Lib.hid hU
            have h33 : 3 < n := by omega
            have hc3 : 3 < c := by omega
            clear hG hG2 hEw hlt h10 h3 h9 hU2 hp hR hU
            go_wp2_with fail
            refine (HU2.out _ (Below.refl _ _)).mono ?_
            rintro e w2 ⟨rfl, b2⟩
            have r2 := (HR.out.below b2).below ((Below.refl _ _).alloc (Nat.le_refl _) (.cells (#[.int .i64 vy, .int .i64 vm, .int .u8 vk, .int .i64 vn, .int .i64 vd, .int .i64 vs, .int .u8 vc] : Array Value) 63))
            have u2 := (HU.out.below b2).below ((Below.refl _ _).alloc (Nat.le_refl _) (.cells (#[.int .i64 vy, .int .i64 vm, .int .u8 vk, .int .i64 vn, .int .i64 vd, .int .i64 vs, .int .u8 vc] : Array Value) 63))
            have a2 := (hbw.trans (b2.mono hbw.size)).alloc (hbw.trans (b2.mono hbw.size)).size (.cells (#[.int .i64 vy, .int .i64 vm, .int .u8 vk, .int .i64 vn, .int .i64 vd, .int .i64 vs, .int .u8 vc] : Array Value) 63)
            have hx : ∀ i, (w2.alloc (.cells (#[.int .i64 vy, .int .i64 vm, .int .u8 vk, .int .i64 vn, .int .i64 vd, .int .i64 vs, .int .u8 vc] : Array Value) 63)).cell? ⟨w2.heap.size, i, none⟩ = (#[.int .i64 vy, .int .i64 vm, .int .u8 vk, .int .i64 vn, .int .i64 vd, .int .i64 vs, .int .u8 vc] : Array Value)[i]? := fun i => cell_blk (heap_alloc_new _ _) i
            have x0 := hx 0
            have x1 := hx 1
            have x2 := hx 2
            have x3 := hx 3
            have x4 := hx 4
            have x5 := hx 5
            have x6 := hx 6
            have lx : w2.heap.size < (w2.alloc (.cells (#[.int .i64 vy, .int .i64 vm, .int .u8 vk, .int .i64 vn, .int .i64 vd, .int .i64 vs, .int .u8 vc] : Array Value) 63)).heap.size := by simp
            have hg0 := (HU.out.below b2).lt
            have hg1 : ¬ w2.heap.size = w.heap.size + 1 := by omega
            have hg2 : ¬ w.heap.size + 1 = w2.heap.size := by omega
            clear hx HR HU b2
            go_upto_if 47 with fail
            generalize w2.alloc (.cells (#[.int .i64 vy, .int .i64 vm, .int .u8 vk, .int .i64 vn, .int .i64 vd, .int .i64 vs, .int .u8 vc] : Array Value) 63) = w3 at *
            generalize w2.heap.size = gx at *
            have R3 := Lib.hid r2
            have A3 := Lib.hid a2
            have U3 := Lib.hid u2
            obtain ⟨_, hl2, d0, d1, d2, d3, d4, d5, d6, d7, d8, d9, d10, d11, d12, g0, g1, g2, g3, g4, g5, g6, g7, g8, g9, g10, g11, g12⟩ := u2
            clear r2 a2
            go_upto_region 16 with fail
            go_cut [] from 52 to 55 (fun W => En W w.heap.size w.heap.size Er.zero ∧ En W (w.heap.size + 1) (w.heap.size + 1) ⟨xd, xk, xv, xr, xf, true, ⟨vy, vm, vk, vn, vd, vs, vc⟩⟩ ∧ Below w.heap.size w W)
            case first =>
              go_region
              all_goals
                go_wp2_with fail
                go_meet
                case rel =>
                  have a3 := A3.out
                  first
                    | exact ⟨(((((((((((((((((R3.out).other (Nat.succ_ne_self _) 5 _)).other (Nat.succ_ne_self _) 6 _)).other (Nat.succ_ne_self _) 7 _)).other (Nat.succ_ne_self _) 8 _)).other (Nat.succ_ne_self _) 9 _)).other (Nat.succ_ne_self _) 10 _)).other (Nat.succ_ne_self _) 11 _)).other (Nat.succ_ne_self _) 12 _)).drew, (((((((((((((((((U3.out).set5 _)).set6 _)).set7 _)).set8 _)).set9 _)).set10 _)).set11 _)).set12 _)).drew, (((((((((((((((((a3).setCell (Nat.le_succ _) _)).setCell (Nat.le_succ _) _)).setCell (Nat.le_succ _) _)).setCell (Nat.le_succ _) _)).setCell (Nat.le_succ _) _)).setCell (Nat.le_succ _) _)).setCell (Nat.le_succ _) _)).setCell (Nat.le_succ _) _)).drew⟩
                    | exact ⟨(((((((((((((((((R3.out).other (Nat.succ_ne_self _) 6 _)).other (Nat.succ_ne_self _) 7 _)).other (Nat.succ_ne_self _) 8 _)).other (Nat.succ_ne_self _) 9 _)).other (Nat.succ_ne_self _) 10 _)).other (Nat.succ_ne_self _) 11 _)).other (Nat.succ_ne_self _) 12 _)).other (Nat.succ_ne_self _) 5 _)).drew, (((((((((((((((((U3.out).set6 _)).set7 _)).set8 _)).set9 _)).set10 _)).set11 _)).set12 _)).set5 _)).drew, (((((((((((((((((a3).setCell (Nat.le_succ _) _)).setCell (Nat.le_succ _) _)).setCell (Nat.le_succ _) _)).setCell (Nat.le_succ _) _)).setCell (Nat.le_succ _) _)).setCell (Nat.le_succ _) _)).setCell (Nat.le_succ _) _)).setCell (Nat.le_succ _) _)).drew⟩
            case rest =>
            obtain ⟨r4, u4, a4⟩ := hcut
            clear R3 A3 U3 hl2 d0 g0 d1 g1 d2 g2 d3 g3 d4 g4 d5 g5 d6 g6 d7 g7 d8 g8 d9 g9 d10 g10 d11 g11 d12 g12 lx x0 x1 x2 x3 x4 x5 x6
            obtain ⟨_, hl1, c0, c1, c2, c3, c4, c5, c6, c7, c8, c9, c10, c11, c12, f0, f1, f2, f3, f4, f5, f6, f7, f8, f9, f10, f11, f12⟩ := r4
            obtain ⟨_, hl2, d0, d1, d2, d3, d4, d5, d6, d7, d8, d9, d10, d11, d12, g0, g1, g2, g3, g4, g5, g6, g7, g8, g9, g10, g11, g12⟩ := u4
            go_step
            go_step
            go_wp2_with fail
            refine bodyPost_ret (v := .tuple #[.agg #[.int .i64 xd, .int .u8 xk, .int .i64 xv, .string xr, .string xf, .bool true, .int .i64 vy, .int .i64 vm, .int .u8 vk, .int .i64 vn, .int .i64 vd, .int .i64 vs, .int .u8 vc], .int .i64 0, .int .i64 0]) (by simp [results, Tryz.results90, go_sem, c0, c1, c2, c3, c4, c5, c6, c7, c8, c9, c10, c11, c12]) rfl ⟨HRE.out, ?_⟩
            exact (((((((((((((a4).setCell (Nat.le_refl _) _).setCell (Nat.le_refl _) _).setCell (Nat.le_refl _) _).setCell (Nat.le_refl _) _).setCell (Nat.le_refl _) _).setCell (Nat.le_refl _) _).setCell (Nat.le_refl _) _).setCell (Nat.le_refl _) _).setCell (Nat.le_refl _) _).setCell (Nat.le_refl _) _).setCell (Nat.le_refl _) _).setCell (Nat.le_refl _) _).setCell (Nat.le_refl _) _
          · have HRE := Lib.hid (eprsE_at (eprs_wrong hG2 (by rw [HN.out]; omega) hp hz))
            have t5 : (z != 0) = true := by rw [bne_iff_ne]; exact hz
            have hi4 : i ≤ 4 := by
              have ho := prsU_ok (L.drop 3)
              rw [hp] at ho
              exact (ho.2 hz).2.1
            have hi5 : (i : Int) ≤ 4 := by omega
            have HR := Lib.hid hR
            have h33 : 3 < n := by omega
            have hc3 : 3 < c := by omega
            clear hG hG2 hEw hlt h10 h3 h9 hU2 hp hR hU hz
            go_wp2_with fail
            refine (HU2.out _ (Below.refl _ _)).mono ?_
            rintro e w2 ⟨rfl, b2⟩
            have r2 := (HR.out.below b2).below ((Below.refl _ _).alloc (Nat.le_refl _) (.cells (#[.int .i64 vy, .int .i64 vm, .int .u8 vk, .int .i64 vn, .int .i64 vd, .int .i64 vs, .int .u8 vc] : Array Value) 63))
            have a2 := (hbw.trans (b2.mono hbw.size)).alloc (hbw.trans (b2.mono hbw.size)).size (.cells (#[.int .i64 vy, .int .i64 vm, .int .u8 vk, .int .i64 vn, .int .i64 vd, .int .i64 vs, .int .u8 vc] : Array Value) 63)
            clear HR b2
            go_upto_if 47 with fail
            generalize w2.alloc (.cells (#[.int .i64 vy, .int .i64 vm, .int .u8 vk, .int .i64 vn, .int .i64 vd, .int .i64 vs, .int .u8 vc] : Array Value) 63) = w3 at *
            obtain ⟨_, hl1, c0, c1, c2, c3, c4, c5, c6, c7, c8, c9, c10, c11, c12, f0, f1, f2, f3, f4, f5, f6, f7, f8, f9, f10, f11, f12⟩ := r2
            go_wp2_with fail
            refine bodyPost_ret (v := .tuple #[.agg #[.int .i64 0, .int .u8 0, .int .i64 0, .string ⟨#[]⟩, .string ⟨#[]⟩, .bool false, .int .i64 0, .int .i64 0, .int .u8 0, .int .i64 0, .int .i64 0, .int .i64 0, .int .u8 0], .int .i64 (3 + (i : Int)), .int .i64 z]) (by simp [results, Tryz.results90, go_sem, c0, c1, c2, c3, c4, c5, c6, c7, c8, c9, c10, c11, c12]) rfl ⟨HRE.out, ?_⟩
            exact (((((((((((((a2).setCell (Nat.le_refl _) _).setCell (Nat.le_refl _) _).setCell (Nat.le_refl _) _).setCell (Nat.le_refl _) _).setCell (Nat.le_refl _) _).setCell (Nat.le_refl _) _).setCell (Nat.le_refl _) _).setCell (Nat.le_refl _) _).setCell (Nat.le_refl _) _).setCell (Nat.le_refl _) _).setCell (Nat.le_refl _) _).setCell (Nat.le_refl _) _).setCell (Nat.le_refl _) _
end Go.Proofs.YtkcbmnboccjnnaaGreatDoor
/- Contracts of package era: savedText, Text. -/





namespace Go.Proofs.YtkcbmnboccjnnaaGreatDoor
open Go.RowKit
theorem grown_of_below {a w : World} (h : Below a.heap.size a w) (row : Option Nat) : a.grownBy w row := ⟨h.os, h.tape, h.output, h.size, fun i hi _ => h.block i hi⟩
/-- Texts of a row of the call's own, and others behind them. -/
theorem wpList_joins {w : World} {ops : Array Oper} {rest : List Oper} {o : Oper} {a : Act} {Q : Exit → Act → World → Prop} (hgd : o.guard = none) (s x : Operand)
    (ho : o.op = .call { callee := .builtin .append, args := #[s, x], argTypes := #[35, 35] }) (base : Nat) (v : Value) (L : List ByteArray) (hown : w.ownsRow base 9 1 v L.length (L.map Value.string)) (hs : a.eval s = v) (g n c : Nat) (M : List ByteArray)
    (hx : a.eval x = .slice (some ⟨g, 0, none⟩) n c) (hM : Txs w g M) (hn : M.length = n) (N : Nat) (hN : L.length + n = N) (hlen : N ≤ 4096) (hbase : base ≤ w.heap.size)
    (h : ∀ v' w', w'.ownsRow base 9 1 v' N ((L ++ M).map Value.string) → w.grownBy w' v.ownBlock → wpList Tryz.prog ops Q rest (a.put o.dst v') w') : wpList Tryz.prog ops Q (o :: rest) a w := by
  obtain ⟨i0, hi, hz0, hz1, hz2⟩ := info_parts str_info
  subst hn hN
  refine wpList_append_own w hgd s x 35 ho base 9 i0 (.string ⟨#[]⟩) 1 16 Tryz.underlying35 hi hz0 hz1 hz2 rfl (by omega) v L.length (L.map Value.string) hs hown ⟨g, 0, none⟩ M.length c (M.map Value.string) hx (by simp) (fun j u hu => ?_) (fun u hu => ?_) (by unfold maxLen; omega) (by omega) hbase (fun v' w' h1 h2 _ => ?_)
  · rw [addr_add]
    rw [List.getElem?_map] at hu; obtain ⟨t, ht, rfl⟩ := Option.map_eq_some_iff.1 hu; obtain ⟨hj, e⟩ := List.getElem?_eq_some_iff.1 ht; rw [hM.at_ j hj, List.getD_eq_getElem?_getD, ht]; rfl
  · obtain ⟨t, _, rfl⟩ := List.mem_map.1 hu
    rfl
  · refine h v' w' ?_ h2
    rw [List.map_append]
    exact h1
theorem own_texts {w : World} {base N : Nat} {v : Value} {L : List ByteArray} (h : w.ownsRow base 9 1 v N (L.map Value.string)) (hN : 0 < N) (hL : L.length = N) : ∃ g c, v = .slice (some ⟨g, 0, none⟩) N c ∧ N ≤ c ∧ c ≤ maxLen ∧ base ≤ g ∧ Txs w g L := by
  rcases h.2 with ⟨_, h0⟩ | ⟨g, cap, cur, he, hb, hg, hn, hc, _⟩
  · omega
  · subst he
    refine ⟨g, cap, rfl, hn, hc, hb, ?_, fun i hi => ?_⟩
    · have := (h.lt g rfl).2
      exact this
    · have hi' : i < N * 1 := by omega
      rw [h.cellAt i hi', List.getElem?_map, List.getElem?_eq_getElem hi, List.getD_eq_getElem?_getD, List.getElem?_eq_getElem hi]
      rfl
section
variable (sd k sv : Int) (ru fm : ByteArray) (en : Bool) (y m q n d s c : Int) (w : World)
theorem esvt_1 (T : ByteArray) (HE : Hid (Env w)) (s1 : -604800 ≤ sv) (s2 : sv ≤ 604800) (HT : Hid ((⟨(txt sv).toArray⟩ : ByteArray) = T)) : Calls Tryz.prog 84 #[.agg #[.int .i64 sd, .int .u8 1, .int .i64 sv, .string ru, .string fm, .bool en, .int .i64 y, .int .i64 m, .int .u8 q, .int .i64 n, .int .i64 d, .int .i64 s, .int .u8 c]] w fun e w' => e = .returned (.string T) ∧ Below w.heap.size w w' := by
  go_enter Tryz.func84, Tryz.ntmps84
  go_wp2_with fail
  refine (clk_text sv T _ (HE.out.alloc _) s1 s2 HT.out).mono ?_
  rintro e w1 ⟨rfl, b1⟩
  have a1 := ((Below.refl w.heap.size w).alloc (Nat.le_refl _) (.cells #[.int .i64 sd, .int .u8 1, .int .i64 sv, .string ru, .string fm, .bool en, .int .i64 y, .int .i64 m, .int .u8 q, .int .i64 n, .int .i64 d, .int .i64 s, .int .u8 c] 65)).trans (b1.mono (by simp))
  go_wp2_with fail
  go_ret
  exact ⟨rfl, a1⟩
theorem esvt_2 : Calls Tryz.prog 84 #[.agg #[.int .i64 sd, .int .u8 2, .int .i64 sv, .string ru, .string fm, .bool en, .int .i64 y, .int .i64 m, .int .u8 q, .int .i64 n, .int .i64 d, .int .i64 s, .int .u8 c]] w fun e w' => e = .returned (.string ru) ∧ Below w.heap.size w w' := by
  go_enter Tryz.func84, Tryz.ntmps84
  go_wp2_with fail
  go_ret
  exact ⟨rfl, (Below.refl _ _).alloc (Nat.le_refl _) _⟩
theorem esvt_0 : Calls Tryz.prog 84 #[.agg #[.int .i64 sd, .int .u8 0, .int .i64 sv, .string ru, .string fm, .bool en, .int .i64 y, .int .i64 m, .int .u8 q, .int .i64 n, .int .i64 d, .int .i64 s, .int .u8 c]] w fun e w' => e = .returned (.string ⟨#[45]⟩) ∧ Below w.heap.size w w' := by
  go_enter Tryz.func84, Tryz.ntmps84
  go_wp2_with fail
  go_ret
  exact ⟨rfl, (Below.refl _ _).alloc (Nat.le_refl _) _⟩
end
theorem esvt_T (e : Er) (T : ByteArray) (w : World) (hE : Env w) (h : El.right e = true) (hT : El.t1 e = T) : Calls Tryz.prog 84 #[erV e] w fun x w' => x = .returned (.string T) ∧ Below w.heap.size w w' := by
  subst hT
  obtain ⟨_, hk, _⟩ := el_parts h
  unfold El.t1
  obtain ⟨sd, k, sv, ru, fm, en, ⟨y, m, q, n, d, s, c⟩⟩ := e
  simp only at hk ⊢
  rcases kind_cases hk with ⟨rfl, _⟩ | ⟨rfl, ⟨s1, s2⟩, _⟩ | ⟨rfl, _⟩
  · rw [if_neg (by decide), if_neg (by decide)]
    exact esvt_0 sd sv ru fm en y m q n d s c w
  · rw [if_pos rfl]
    exact esvt_1 sd sv ru fm en y m q n d s c w _ (Lib.hid hE) s1 s2 (Lib.hid rfl)
  · rw [if_neg (by decide), if_pos rfl]
    exact esvt_2 sd sv ru fm en y m q n d s c w
/-- What Text answers: texts. -/
def ETxtE (w' : World) (L : List ByteArray) (n : Nat) (e : Ending) : Prop := ∃ g c, e = .returned (.tuple #[.slice (some ⟨g, 0, none⟩) n c, .int .i64 0]) ∧ n ≤ c ∧ c ≤ maxLen ∧ Txs w' g L
theorem etext_no (e : Er) (w : World) (hE : Ev w) (hs : e.ru.size ≤ 9223372036854775807) (h : El.right e = false) : Calls Tryz.prog 43 #[erV e] w fun x w' => x = .returned (.tuple #[.slice none 0 0, .int .i64 2]) ∧ Below w.heap.size w w' := by
  have H := Lib.hid (fun W (hE : Ev W) => eisRight_is e false W hE hs h)
  have HE := Lib.hid hE
  obtain ⟨sd, k, sv, ru, fm, en, ⟨y, m, q, n, d, s, c⟩⟩ := e
  clear h hE
  go_enter Tryz.func43, Tryz.ntmps43
  go_wp2_with fail
  refine (H.out _ (HE.out.alloc _)).mono ?_
  rintro e w1 ⟨rfl, b1⟩
  have a1 : Below w.heap.size w w1 := ((Below.refl _ _).alloc (Nat.le_refl _) _).trans (b1.mono (by simp))
  go_wp2_with fail
  go_ret2
  exact ⟨rfl, a1⟩
/-- What is kept while an era's first texts are made. -/
structure EKeep (B : Nat) (w0 w : World) : Prop where
  lt : B < w.heap.size
  ev : Ev w
  bel : Below B w0 w
section
variable {B : Nat} {w0 w w1 : World} {x0 x1 x2 x3 x4 x5 x6 x7 x8 x9 x10 x11 x12 : Value}
theorem ekeep_on (h : w.cell? ⟨B, 0, none⟩ = some x0 ∧ w.cell? ⟨B, 1, none⟩ = some x1 ∧ w.cell? ⟨B, 2, none⟩ = some x2 ∧ w.cell? ⟨B, 3, none⟩ = some x3 ∧ w.cell? ⟨B, 4, none⟩ = some x4 ∧ w.cell? ⟨B, 5, none⟩ = some x5 ∧ w.cell? ⟨B, 6, none⟩ = some x6 ∧ w.cell? ⟨B, 7, none⟩ = some x7 ∧ w.cell? ⟨B, 8, none⟩ = some x8 ∧ w.cell? ⟨B, 9, none⟩ = some x9 ∧ w.cell? ⟨B, 10, none⟩ = some x10 ∧ w.cell? ⟨B, 11, none⟩ = some x11 ∧ w.cell? ⟨B, 12, none⟩ = some x12 ∧ EKeep B w0 w) (hb : Below w.heap.size w w1) : w1.cell? ⟨B, 0, none⟩ = some x0 ∧ w1.cell? ⟨B, 1, none⟩ = some x1 ∧ w1.cell? ⟨B, 2, none⟩ = some x2 ∧ w1.cell? ⟨B, 3, none⟩ = some x3 ∧ w1.cell? ⟨B, 4, none⟩ = some x4 ∧ w1.cell? ⟨B, 5, none⟩ = some x5 ∧ w1.cell? ⟨B, 6, none⟩ = some x6 ∧ w1.cell? ⟨B, 7, none⟩ = some x7 ∧ w1.cell? ⟨B, 8, none⟩ = some x8 ∧ w1.cell? ⟨B, 9, none⟩ = some x9 ∧ w1.cell? ⟨B, 10, none⟩ = some x10 ∧ w1.cell? ⟨B, 11, none⟩ = some x11 ∧ w1.cell? ⟨B, 12, none⟩ = some x12 ∧ EKeep B w0 w1 := by
  obtain ⟨c0, c1, c2, c3, c4, c5, c6, c7, c8, c9, c10, c11, c12, hl, he, hbw⟩ := h
  obtain ⟨hc, _⟩ := bcell hb
  have := hb.size
  exact ⟨(hc _ _ hl).trans c0, (hc _ _ hl).trans c1, (hc _ _ hl).trans c2, (hc _ _ hl).trans c3, (hc _ _ hl).trans c4, (hc _ _ hl).trans c5, (hc _ _ hl).trans c6, (hc _ _ hl).trans c7, (hc _ _ hl).trans c8, (hc _ _ hl).trans c9, (hc _ _ hl).trans c10, (hc _ _ hl).trans c11, (hc _ _ hl).trans c12, by omega, he.below hb, hbw.trans (hb.mono (Nat.le_of_lt hl))⟩
theorem ekeep_keep (h : w.cell? ⟨B, 0, none⟩ = some x0 ∧ w.cell? ⟨B, 1, none⟩ = some x1 ∧ w.cell? ⟨B, 2, none⟩ = some x2 ∧ w.cell? ⟨B, 3, none⟩ = some x3 ∧ w.cell? ⟨B, 4, none⟩ = some x4 ∧ w.cell? ⟨B, 5, none⟩ = some x5 ∧ w.cell? ⟨B, 6, none⟩ = some x6 ∧ w.cell? ⟨B, 7, none⟩ = some x7 ∧ w.cell? ⟨B, 8, none⟩ = some x8 ∧ w.cell? ⟨B, 9, none⟩ = some x9 ∧ w.cell? ⟨B, 10, none⟩ = some x10 ∧ w.cell? ⟨B, 11, none⟩ = some x11 ∧ w.cell? ⟨B, 12, none⟩ = some x12 ∧ EKeep B w0 w) : EKeep B w0 w := h.2.2.2.2.2.2.2.2.2.2.2.2.2
end
set_option maxRecDepth 100000 in
set_option maxHeartbeats 4000000 in
theorem etext_in_no (sd k sv : Int) (ru fm : ByteArray) (y m q n d s c : Int) (T0 T1 : ByteArray) (w : World) (HE : Hid (Ev w)) (hs : ru.size ≤ 9223372036854775807) (H : Hid (El.right ⟨sd, k, sv, ru, fm, false, ⟨y, m, q, n, d, s, c⟩⟩ = true)) (v1 : -604800 ≤ sd) (v2 : sd ≤ 604800) (H0 : Hid ((⟨(txt sd).toArray⟩ : ByteArray) = T0)) (H1 : Hid (El.t1 ⟨sd, k, sv, ru, fm, false, ⟨y, m, q, n, d, s, c⟩⟩ = T1)) :
    Calls Tryz.prog 43 #[.agg #[.int .i64 sd, .int .u8 k, .int .i64 sv, .string ru, .string fm, .bool false, .int .i64 y, .int .i64 m, .int .u8 q, .int .i64 n, .int .i64 d, .int .i64 s, .int .u8 c]] w fun e w' => ETxtE w' [T0, T1, fm] 3 e ∧ Below w.heap.size w w' := by
  have HI := Lib.hid (fun W (hE : Ev W) => eisRight_is ⟨sd, k, sv, ru, fm, false, ⟨y, m, q, n, d, s, c⟩⟩ true W hE hs H.out)
  have HT1 := Lib.hid (fun W (hE : Env W) => esvt_T ⟨sd, k, sv, ru, fm, false, ⟨y, m, q, n, d, s, c⟩⟩ T1 W hE H.out H1.out)
  go_enter Tryz.func43, Tryz.ntmps43
  go_wp2_with fail
  refine (HI.out _ (HE.out.alloc _)).mono ?_
  rintro e w1 ⟨rfl, b1⟩
  have k1 := ekeep_on (w := w.alloc (.cells #[.int .i64 sd, .int .u8 k, .int .i64 sv, .string ru, .string fm, .bool false, .int .i64 y, .int .i64 m, .int .u8 q, .int .i64 n, .int .i64 d, .int .i64 s, .int .u8 c] 65)) (B := w.heap.size) (w0 := w) (x0 := .int .i64 sd) (x1 := .int .u8 k) (x2 := .int .i64 sv) (x3 := .string ru) (x4 := .string fm) (x5 := .bool false) (x6 := .int .i64 y) (x7 := .int .i64 m) (x8 := .int .u8 q) (x9 := .int .i64 n) (x10 := .int .i64 d) (x11 := .int .i64 s) (x12 := .int .u8 c) ⟨by go_simp, by go_simp, by go_simp, by go_simp, by go_simp, by go_simp, by go_simp, by go_simp, by go_simp, by go_simp, by go_simp, by go_simp, by go_simp, by simp, HE.out.alloc _, (Below.refl _ _).alloc (Nat.le_refl _) _⟩ b1
  clear b1
  have S0 := ekeep_on (B := w.heap.size) (w0 := w) (x0 := .int .i64 sd) (x1 := .int .u8 k) (x2 := .int .i64 sv) (x3 := .string ru) (x4 := .string fm) (x5 := .bool false) (x6 := .int .i64 y) (x7 := .int .i64 m) (x8 := .int .u8 q) (x9 := .int .i64 n) (x10 := .int .i64 d) (x11 := .int .i64 s) (x12 := .int .u8 c) k1 (Below.drew (Below.refl _ w1))
  have hlt := (ekeep_keep (B := w.heap.size) (w0 := w) (x0 := .int .i64 sd) (x1 := .int .u8 k) (x2 := .int .i64 sv) (x3 := .string ru) (x4 := .string fm) (x5 := .bool false) (x6 := .int .i64 y) (x7 := .int .i64 m) (x8 := .int .u8 q) (x9 := .int .i64 n) (x10 := .int .i64 d) (x11 := .int .i64 s) (x12 := .int .u8 c) k1).lt
  clear k1
  go_wp2_with fail
  go_region_held3 (fun w' => w'.cell? ⟨w.heap.size, 0, none⟩ = some (.int .i64 sd) ∧ w'.cell? ⟨w.heap.size, 1, none⟩ = some (.int .u8 k) ∧ w'.cell? ⟨w.heap.size, 2, none⟩ = some (.int .i64 sv) ∧ w'.cell? ⟨w.heap.size, 3, none⟩ = some (.string ru) ∧ w'.cell? ⟨w.heap.size, 4, none⟩ = some (.string fm) ∧ w'.cell? ⟨w.heap.size, 5, none⟩ = some (.bool false) ∧ w'.cell? ⟨w.heap.size, 6, none⟩ = some (.int .i64 y) ∧ w'.cell? ⟨w.heap.size, 7, none⟩ = some (.int .i64 m) ∧ w'.cell? ⟨w.heap.size, 8, none⟩ = some (.int .u8 q) ∧ w'.cell? ⟨w.heap.size, 9, none⟩ = some (.int .i64 n) ∧ w'.cell? ⟨w.heap.size, 10, none⟩ = some (.int .i64 d) ∧ w'.cell? ⟨w.heap.size, 11, none⟩ = some (.int .i64 s) ∧ w'.cell? ⟨w.heap.size, 12, none⟩ = some (.int .u8 c) ∧ EKeep w.heap.size w w')
    (first | assumption | exact ekeep_on (by assumption) (by assumption) | exact ekeep_on (by assumption) ((Below.refl _ _).alloc (Nat.le_refl _) _))
    (first
      | (go_at_call 73; refine (clk_text sd T0 _ (ekeep_keep (B := w.heap.size) (w0 := w) (x0 := .int .i64 sd) (x1 := .int .u8 k) (x2 := .int .i64 sv) (x3 := .string ru) (x4 := .string fm) (x5 := .bool false) (x6 := .int .i64 y) (x7 := .int .i64 m) (x8 := .int .u8 q) (x9 := .int .i64 n) (x10 := .int .i64 d) (x11 := .int .i64 s) (x12 := .int .u8 c) (by assumption)).ev.env v1 v2 H0.out).mono ?_; rintro e w' ⟨rfl, hb⟩)
      | (go_at_call 84; refine (HT1.out _ (ekeep_keep (B := w.heap.size) (w0 := w) (x0 := .int .i64 sd) (x1 := .int .u8 k) (x2 := .int .i64 sv) (x3 := .string ru) (x4 := .string fm) (x5 := .bool false) (x6 := .int .i64 y) (x7 := .int .i64 m) (x8 := .int .u8 q) (x9 := .int .i64 n) (x10 := .int .i64 d) (x11 := .int .i64 s) (x12 := .int .u8 c) (by assumption)).ev.env).mono ?_; rintro e w' ⟨rfl, hb⟩))
  have q5 : (w'.alloc (.cells #[.string T0, .string T1, .string fm] 9)).cell? ⟨w.heap.size, 0, none⟩ = some (.int .i64 sd) ∧ (w'.alloc (.cells #[.string T0, .string T1, .string fm] 9)).cell? ⟨w.heap.size, 1, none⟩ = some (.int .u8 k) ∧ (w'.alloc (.cells #[.string T0, .string T1, .string fm] 9)).cell? ⟨w.heap.size, 2, none⟩ = some (.int .i64 sv) ∧ (w'.alloc (.cells #[.string T0, .string T1, .string fm] 9)).cell? ⟨w.heap.size, 3, none⟩ = some (.string ru) ∧ (w'.alloc (.cells #[.string T0, .string T1, .string fm] 9)).cell? ⟨w.heap.size, 4, none⟩ = some (.string fm) ∧ (w'.alloc (.cells #[.string T0, .string T1, .string fm] 9)).cell? ⟨w.heap.size, 5, none⟩ = some (.bool false) ∧ (w'.alloc (.cells #[.string T0, .string T1, .string fm] 9)).cell? ⟨w.heap.size, 6, none⟩ = some (.int .i64 y) ∧ (w'.alloc (.cells #[.string T0, .string T1, .string fm] 9)).cell? ⟨w.heap.size, 7, none⟩ = some (.int .i64 m) ∧ (w'.alloc (.cells #[.string T0, .string T1, .string fm] 9)).cell? ⟨w.heap.size, 8, none⟩ = some (.int .u8 q) ∧ (w'.alloc (.cells #[.string T0, .string T1, .string fm] 9)).cell? ⟨w.heap.size, 9, none⟩ = some (.int .i64 n) ∧ (w'.alloc (.cells #[.string T0, .string T1, .string fm] 9)).cell? ⟨w.heap.size, 10, none⟩ = some (.int .i64 d) ∧ (w'.alloc (.cells #[.string T0, .string T1, .string fm] 9)).cell? ⟨w.heap.size, 11, none⟩ = some (.int .i64 s) ∧ (w'.alloc (.cells #[.string T0, .string T1, .string fm] 9)).cell? ⟨w.heap.size, 12, none⟩ = some (.int .u8 c) ∧ EKeep w.heap.size w (w'.alloc (.cells #[.string T0, .string T1, .string fm] 9)) := (by assumption)
  have k5 := ekeep_keep (B := w.heap.size) (w0 := w) (x0 := .int .i64 sd) (x1 := .int .u8 k) (x2 := .int .i64 sv) (x3 := .string ru) (x4 := .string fm) (x5 := .bool false) (x6 := .int .i64 y) (x7 := .int .i64 m) (x8 := .int .u8 q) (x9 := .int .i64 n) (x10 := .int .i64 d) (x11 := .int .i64 s) (x12 := .int .u8 c) q5
  have k6 : w.heap.size ≤ w'.heap.size := by
    have h := k5.lt
    simp at h
    omega
  have hO := World.ownsRow_lit (e := 9) (size := 1) (base := w.heap.size) w' #[.string T0, .string T1, .string fm] 3 k6 (by decide) rfl
  have hF : Txs (w'.alloc (.cells #[.string T0, .string T1, .string fm] 9)) w'.heap.size [T0, T1, fm] := ⟨by simp, fun i hi => by
    rw [cell_blk (heap_alloc_new _ _)]
    have hi3 : i = 0 ∨ i = 1 ∨ i = 2 := by simp at hi; omega
    rcases hi3 with rfl | rfl | rfl <;> rfl⟩
  generalize w'.alloc (.cells #[.string T0, .string T1, .string fm] 9) = w4 at *
  generalize w'.heap.size = g4 at *
  have Q5 := Lib.hid q5
  have HK := Lib.hid k5
  have HF := Lib.hid hF
  have HO := Lib.hid hO
  obtain ⟨c0', c1', c2', c3', c4', c5', c6', c7', c8', c9', c10', c11', c12', hk⟩ := q5
  have hlt5 := hk.lt
  clear hF hO k5 hk k6 S0
  go_wp2_with fail
  go_ret2
  exact ⟨⟨_, _, rfl, Nat.le_refl _, by decide, HF.out⟩, HK.out.bel⟩
set_option maxRecDepth 100000 in
set_option maxHeartbeats 4000000 in
theorem etext_in_yes (sd k sv : Int) (ru fm : ByteArray) (y m q n d s c : Int) (T0 T1 : ByteArray) (w : World) (HE : Hid (Ev w)) (hs : ru.size ≤ 9223372036854775807) (H : Hid (El.right ⟨sd, k, sv, ru, fm, true, ⟨y, m, q, n, d, s, c⟩⟩ = true)) (v1 : -604800 ≤ sd) (v2 : sd ≤ 604800) (H0 : Hid ((⟨(txt sd).toArray⟩ : ByteArray) = T0)) (H1 : Hid (El.t1 ⟨sd, k, sv, ru, fm, true, ⟨y, m, q, n, d, s, c⟩⟩ = T1)) (M : List ByteArray) (nd N : Nat) (hN : 3 + nd = N) (nd4 : nd ≤ 4) (HM : Hid (M.length = nd)) (HU : Hid (∀ W, Ev W → Calls Tryz.prog 85 #[.agg #[.int .i64 y, .int .i64 m, .int .u8 q, .int .i64 n, .int .i64 d, .int .i64 s, .int .u8 c]] W fun e w' => (∃ g, e = .returned (.tuple #[.slice (some ⟨g, 0, none⟩) nd nd, .int .i64 0]) ∧ W.heap.size ≤ g ∧ Txs w' g M) ∧ Below W.heap.size W w')) :
    Calls Tryz.prog 43 #[.agg #[.int .i64 sd, .int .u8 k, .int .i64 sv, .string ru, .string fm, .bool true, .int .i64 y, .int .i64 m, .int .u8 q, .int .i64 n, .int .i64 d, .int .i64 s, .int .u8 c]] w fun e w' => ETxtE w' ([T0, T1, fm] ++ M) N e ∧ Below w.heap.size w w' := by
  have HI := Lib.hid (fun W (hE : Ev W) => eisRight_is ⟨sd, k, sv, ru, fm, true, ⟨y, m, q, n, d, s, c⟩⟩ true W hE hs H.out)
  have HT1 := Lib.hid (fun W (hE : Env W) => esvt_T ⟨sd, k, sv, ru, fm, true, ⟨y, m, q, n, d, s, c⟩⟩ T1 W hE H.out H1.out)
  go_enter Tryz.func43, Tryz.ntmps43
  go_wp2_with fail
  refine (HI.out _ (HE.out.alloc _)).mono ?_
  rintro e w1 ⟨rfl, b1⟩
  have k1 := ekeep_on (w := w.alloc (.cells #[.int .i64 sd, .int .u8 k, .int .i64 sv, .string ru, .string fm, .bool true, .int .i64 y, .int .i64 m, .int .u8 q, .int .i64 n, .int .i64 d, .int .i64 s, .int .u8 c] 65)) (B := w.heap.size) (w0 := w) (x0 := .int .i64 sd) (x1 := .int .u8 k) (x2 := .int .i64 sv) (x3 := .string ru) (x4 := .string fm) (x5 := .bool true) (x6 := .int .i64 y) (x7 := .int .i64 m) (x8 := .int .u8 q) (x9 := .int .i64 n) (x10 := .int .i64 d) (x11 := .int .i64 s) (x12 := .int .u8 c) ⟨by go_simp, by go_simp, by go_simp, by go_simp, by go_simp, by go_simp, by go_simp, by go_simp, by go_simp, by go_simp, by go_simp, by go_simp, by go_simp, by simp, HE.out.alloc _, (Below.refl _ _).alloc (Nat.le_refl _) _⟩ b1
  clear b1
  have S0 := ekeep_on (B := w.heap.size) (w0 := w) (x0 := .int .i64 sd) (x1 := .int .u8 k) (x2 := .int .i64 sv) (x3 := .string ru) (x4 := .string fm) (x5 := .bool true) (x6 := .int .i64 y) (x7 := .int .i64 m) (x8 := .int .u8 q) (x9 := .int .i64 n) (x10 := .int .i64 d) (x11 := .int .i64 s) (x12 := .int .u8 c) k1 (Below.drew (Below.refl _ w1))
  have hlt := (ekeep_keep (B := w.heap.size) (w0 := w) (x0 := .int .i64 sd) (x1 := .int .u8 k) (x2 := .int .i64 sv) (x3 := .string ru) (x4 := .string fm) (x5 := .bool true) (x6 := .int .i64 y) (x7 := .int .i64 m) (x8 := .int .u8 q) (x9 := .int .i64 n) (x10 := .int .i64 d) (x11 := .int .i64 s) (x12 := .int .u8 c) k1).lt
  clear k1
  go_wp2_with fail
  go_region_held3 (fun w' => w'.cell? ⟨w.heap.size, 0, none⟩ = some (.int .i64 sd) ∧ w'.cell? ⟨w.heap.size, 1, none⟩ = some (.int .u8 k) ∧ w'.cell? ⟨w.heap.size, 2, none⟩ = some (.int .i64 sv) ∧ w'.cell? ⟨w.heap.size, 3, none⟩ = some (.string ru) ∧ w'.cell? ⟨w.heap.size, 4, none⟩ = some (.string fm) ∧ w'.cell? ⟨w.heap.size, 5, none⟩ = some (.bool true) ∧ w'.cell? ⟨w.heap.size, 6, none⟩ = some (.int .i64 y) ∧ w'.cell? ⟨w.heap.size, 7, none⟩ = some (.int .i64 m) ∧ w'.cell? ⟨w.heap.size, 8, none⟩ = some (.int .u8 q) ∧ w'.cell? ⟨w.heap.size, 9, none⟩ = some (.int .i64 n) ∧ w'.cell? ⟨w.heap.size, 10, none⟩ = some (.int .i64 d) ∧ w'.cell? ⟨w.heap.size, 11, none⟩ = some (.int .i64 s) ∧ w'.cell? ⟨w.heap.size, 12, none⟩ = some (.int .u8 c) ∧ EKeep w.heap.size w w')
    (first | assumption | exact ekeep_on (by assumption) (by assumption) | exact ekeep_on (by assumption) ((Below.refl _ _).alloc (Nat.le_refl _) _))
    (first
      | (go_at_call 73; refine (clk_text sd T0 _ (ekeep_keep (B := w.heap.size) (w0 := w) (x0 := .int .i64 sd) (x1 := .int .u8 k) (x2 := .int .i64 sv) (x3 := .string ru) (x4 := .string fm) (x5 := .bool true) (x6 := .int .i64 y) (x7 := .int .i64 m) (x8 := .int .u8 q) (x9 := .int .i64 n) (x10 := .int .i64 d) (x11 := .int .i64 s) (x12 := .int .u8 c) (by assumption)).ev.env v1 v2 H0.out).mono ?_; rintro e w' ⟨rfl, hb⟩)
      | (go_at_call 84; refine (HT1.out _ (ekeep_keep (B := w.heap.size) (w0 := w) (x0 := .int .i64 sd) (x1 := .int .u8 k) (x2 := .int .i64 sv) (x3 := .string ru) (x4 := .string fm) (x5 := .bool true) (x6 := .int .i64 y) (x7 := .int .i64 m) (x8 := .int .u8 q) (x9 := .int .i64 n) (x10 := .int .i64 d) (x11 := .int .i64 s) (x12 := .int .u8 c) (by assumption)).ev.env).mono ?_; rintro e w' ⟨rfl, hb⟩))
  have q5 : (w'.alloc (.cells #[.string T0, .string T1, .string fm] 9)).cell? ⟨w.heap.size, 0, none⟩ = some (.int .i64 sd) ∧ (w'.alloc (.cells #[.string T0, .string T1, .string fm] 9)).cell? ⟨w.heap.size, 1, none⟩ = some (.int .u8 k) ∧ (w'.alloc (.cells #[.string T0, .string T1, .string fm] 9)).cell? ⟨w.heap.size, 2, none⟩ = some (.int .i64 sv) ∧ (w'.alloc (.cells #[.string T0, .string T1, .string fm] 9)).cell? ⟨w.heap.size, 3, none⟩ = some (.string ru) ∧ (w'.alloc (.cells #[.string T0, .string T1, .string fm] 9)).cell? ⟨w.heap.size, 4, none⟩ = some (.string fm) ∧ (w'.alloc (.cells #[.string T0, .string T1, .string fm] 9)).cell? ⟨w.heap.size, 5, none⟩ = some (.bool true) ∧ (w'.alloc (.cells #[.string T0, .string T1, .string fm] 9)).cell? ⟨w.heap.size, 6, none⟩ = some (.int .i64 y) ∧ (w'.alloc (.cells #[.string T0, .string T1, .string fm] 9)).cell? ⟨w.heap.size, 7, none⟩ = some (.int .i64 m) ∧ (w'.alloc (.cells #[.string T0, .string T1, .string fm] 9)).cell? ⟨w.heap.size, 8, none⟩ = some (.int .u8 q) ∧ (w'.alloc (.cells #[.string T0, .string T1, .string fm] 9)).cell? ⟨w.heap.size, 9, none⟩ = some (.int .i64 n) ∧ (w'.alloc (.cells #[.string T0, .string T1, .string fm] 9)).cell? ⟨w.heap.size, 10, none⟩ = some (.int .i64 d) ∧ (w'.alloc (.cells #[.string T0, .string T1, .string fm] 9)).cell? ⟨w.heap.size, 11, none⟩ = some (.int .i64 s) ∧ (w'.alloc (.cells #[.string T0, .string T1, .string fm] 9)).cell? ⟨w.heap.size, 12, none⟩ = some (.int .u8 c) ∧ EKeep w.heap.size w (w'.alloc (.cells #[.string T0, .string T1, .string fm] 9)) := (by assumption)
  have k5 := ekeep_keep (B := w.heap.size) (w0 := w) (x0 := .int .i64 sd) (x1 := .int .u8 k) (x2 := .int .i64 sv) (x3 := .string ru) (x4 := .string fm) (x5 := .bool true) (x6 := .int .i64 y) (x7 := .int .i64 m) (x8 := .int .u8 q) (x9 := .int .i64 n) (x10 := .int .i64 d) (x11 := .int .i64 s) (x12 := .int .u8 c) q5
  have k6 : w.heap.size ≤ w'.heap.size := by
    have h := k5.lt
    simp at h
    omega
  have hO := World.ownsRow_lit (e := 9) (size := 1) (base := w.heap.size) w' #[.string T0, .string T1, .string fm] 3 k6 (by decide) rfl
  have hF : Txs (w'.alloc (.cells #[.string T0, .string T1, .string fm] 9)) w'.heap.size [T0, T1, fm] := ⟨by simp, fun i hi => by
    rw [cell_blk (heap_alloc_new _ _)]
    have hi3 : i = 0 ∨ i = 1 ∨ i = 2 := by simp at hi; omega
    rcases hi3 with rfl | rfl | rfl <;> rfl⟩
  generalize w'.alloc (.cells #[.string T0, .string T1, .string fm] 9) = w4 at *
  generalize w'.heap.size = g4 at *
  have Q5 := Lib.hid q5
  have HK := Lib.hid k5
  have HF := Lib.hid hF
  have HO := Lib.hid hO
  obtain ⟨c0', c1', c2', c3', c4', c5', c6', c7', c8', c9', c10', c11', c12', hk⟩ := q5
  have hlt5 := hk.lt
  clear hF hO k5 hk k6 S0
  go_wp2_with fail
  refine (HU.out _ HK.out.ev).mono ?_
  rintro e w5 ⟨⟨g5, rfl, hg5, hF5⟩, b5⟩
  have hO5 := Lib.hid (HO.out.kept (grown_of_below b5 none) (Classical.em _))
  have HF5 := Lib.hid hF5
  have a5 := HK.out.bel.trans (b5.mono HK.out.bel.size)
  obtain ⟨hc5, _⟩ := bcell b5
  clear HF HO hF5 Q5 b5
  go_wp2_with (at_builtin; refine wpList_joins rfl (.tmp 31) (.tmp 32) rfl w.heap.size _ [T0, T1, fm] hO5.out rfl g5 nd nd M rfl HF5.out HM.out N hN (by omega) a5.size ?_; intro v1' w6 hown1 hg1)
  have a6 := a5.grown hg1 a5.size (own_base hO5.out)
  obtain ⟨g6, c6, rfl, h1, h2, _, hT6⟩ := own_texts hown1 (by omega) (by rw [List.length_append, HM.out]; exact hN)
  have HT6 := Lib.hid hT6
  clear hown1 hg1 hT6
  go_wp2_with fail
  go_ret2
  exact ⟨⟨_, _, rfl, h1, h2, HT6.out⟩, a6⟩
theorem four_txs {w : World} {g nd : Nat} {T0 T1 T2 T3 : ByteArray} (h : Four w g T0 T1 T2 T3) : Txs w g (([T0, T1, T2, T3] : List ByteArray).take nd) :=
  ⟨h.lt, fun i hi => by
    rw [List.length_take] at hi
    have hi' : i < nd := by omega
    have hi4 : i = 0 ∨ i = 1 ∨ i = 2 ∨ i = 3 := by simp at hi; omega
    rw [List.getD_eq_getElem?_getD, List.getElem?_take_of_lt hi']
    rcases hi4 with rfl | rfl | rfl | rfl
    · exact h.c0
    · exact h.c1
    · exact h.c2
    · exact h.c3⟩
theorem etext_yes (e : Er) (w : World) (hE : Ev w) (h : El.right e = true) (c0 : 0 ≤ e.u.c) (hs : e.ru.size ≤ 9223372036854775807) :
    Calls Tryz.prog 43 #[erV e] w fun x w' => ETxtE w' (El.texts e) (El.num e) x ∧ Below w.heap.size w w' := by
  obtain ⟨⟨v1, v2⟩, _, _, he⟩ := el_parts h
  obtain ⟨sd, k, sv, ru, fm, en, u⟩ := e
  cases en with
  | false =>
    obtain ⟨y, m, q, n, d, s, c⟩ := u
    exact etext_in_no sd k sv ru fm y m q n d s c _ _ w (Lib.hid hE) hs (Lib.hid h) v1 v2 (Lib.hid rfl) (Lib.hid rfl)
  | true =>
    have hb := nd_bd (Mo.t1 u).data.toList (Mo.t2 u).data.toList (Mo.t3 u).data.toList
    have he : Mo.un u = true := he
    have hl : ((Mo.texts u).take (Mo.ndU u)).length = Mo.ndU u := by
      rw [List.length_take]
      show min (Mo.ndU u) 4 = Mo.ndU u
      unfold Mo.ndU
      omega
    have hU := fun W (hE : Ev W) => (utext_yes u W hE.env he c0).mono fun x w' (h : UTxtE W w' (Mo.t0 u) (Mo.t1 u) (Mo.t2 u) (Mo.t3 u) (Mo.ndU u) x ∧ Below W.heap.size W w') => (show (∃ g, x = .returned (.tuple #[.slice (some ⟨g, 0, none⟩) (Mo.ndU u) (Mo.ndU u), .int .i64 0]) ∧ W.heap.size ≤ g ∧ Txs w' g ((Mo.texts u).take (Mo.ndU u))) ∧ Below W.heap.size W w' from by
      obtain ⟨⟨g, hx, hg, hf⟩, hb⟩ := h
      exact ⟨⟨g, hx, hg, four_txs hf⟩, hb⟩)
    have e1 : El.texts ⟨sd, k, sv, ru, fm, true, u⟩ = [El.t0 ⟨sd, k, sv, ru, fm, true, u⟩, El.t1 ⟨sd, k, sv, ru, fm, true, u⟩, fm] ++ (Mo.texts u).take (Mo.ndU u) := rfl
    have e2 : El.num ⟨sd, k, sv, ru, fm, true, u⟩ = 3 + Mo.ndU u := rfl
    rw [e1, e2]
    obtain ⟨y, m, q, n, d, s, c⟩ := u
    exact etext_in_yes sd k sv ru fm y m q n d s c _ _ w (Lib.hid hE) hs (Lib.hid h) v1 v2 (Lib.hid rfl) (Lib.hid rfl) _ _ _ rfl hb.2 (Lib.hid hl) (Lib.hid hU)
end Go.Proofs.YtkcbmnboccjnnaaGreatDoor
/- Package era's Parse, Text and Check at given texts and eras; what is kept through many calls. -/


namespace Go.Proofs.YtkcbmnboccjnnaaGreatDoor
open Go.RowKit
/-- What is kept through all calls: the tables, and what was there. -/
structure Cy (w W : World) : Prop where
  env : Ev W
  bel : Below w.heap.size w W
theorem Cy.on {w W W' : World} (h : Cy w W) (hb : Below W.heap.size W W') : Cy w W' := ⟨h.env.below hb, h.bel.trans (hb.mono h.bel.size)⟩
theorem Cy.al {w W : World} (h : Cy w W) (o : Obj) : Cy w (W.alloc o) := h.on ((Below.refl _ _).alloc (Nat.le_refl _) o)
theorem eprs_bx (g n c : Nat) (L L' : List ByteArray) (v : Er) (i : Nat) (z : Int) (w : World) (hE : Ev w) (h : Bx w g (L.map Value.string)) (hn : n ≤ L.length) (hn2 : n ≤ 4096) (hnc : n ≤ c) (hc : c ≤ 9223372036854775807) (hL : L.take n = L') (hs : ∀ t ∈ L', t.size ≤ 4096) (hp : El.prs L' = (v, i, z)) :
    Calls Tryz.prog 90 #[.slice (some ⟨g, 0, none⟩) n c] w fun e w' => e = .returned (.tuple #[.agg #[.int .i64 v.sd, .int .u8 v.k, .int .i64 v.sv, .string v.ru, .string v.fm, .bool v.en, .int .i64 v.u.y, .int .i64 v.u.m, .int .u8 v.u.k, .int .i64 v.u.n, .int .i64 v.u.d, .int .i64 v.u.s, .int .u8 v.u.c], .int .i64 (i : Int), .int .i64 z]) ∧ Below w.heap.size w w' := by
  have hl : L'.length = n := by rw [← hL, List.length_take]; omega
  have hr := eprs_any (some ⟨g, 0, none⟩) n c (min n 3) L' hl (by omega) hnc hc rfl (fun j hj _ => by
    have hj' : j < L'.length := by omega
    rw [List.getD_eq_getElem?_getD, List.getElem?_eq_getElem hj']
    exact hs _ (List.getElem_mem hj')) w hE w.heap.size (Nat.le_refl _) (sl_take h.txs hn hL)
  rw [hp] at hr
  exact hr
theorem etext_bx (e : Er) (L : List ByteArray) (n : Nat) (w : World) (hE : Ev w) (h : El.right e = true) (c0 : 0 ≤ e.u.c) (hs : e.ru.size ≤ 4096) (hL : El.texts e = L) (hn : El.num e = n) :
    Calls Tryz.prog 43 #[.agg #[.int .i64 e.sd, .int .u8 e.k, .int .i64 e.sv, .string e.ru, .string e.fm, .bool e.en, .int .i64 e.u.y, .int .i64 e.u.m, .int .u8 e.u.k, .int .i64 e.u.n, .int .i64 e.u.d, .int .i64 e.u.s, .int .u8 e.u.c]] w fun x w' => (∃ g c, x = .returned (.tuple #[.slice (some ⟨g, 0, none⟩) n c, .int .i64 0]) ∧ n ≤ c ∧ c ≤ 9223372036854775807 ∧ Bx w' g (L.map Value.string)) ∧ Below w.heap.size w w' := by
  subst hL hn
  exact (etext_yes e w hE h c0 (by omega)).mono fun _ _ ⟨⟨g, c, he, h1, h2, ht⟩, hb⟩ => ⟨⟨g, c, he, h1, by unfold maxLen at h2; omega, ht.bx⟩, hb⟩
theorem echeck_yes (e : Er) (w : World) (hE : Ev w) (hs : e.ru.size ≤ 4096) (h : El.right e = true) : Calls Tryz.prog 98 #[.agg #[.int .i64 e.sd, .int .u8 e.k, .int .i64 e.sv, .string e.ru, .string e.fm, .bool e.en, .int .i64 e.u.y, .int .i64 e.u.m, .int .u8 e.u.k, .int .i64 e.u.n, .int .i64 e.u.d, .int .i64 e.u.s, .int .u8 e.u.c]] w fun x w' => x = .returned (.int .i64 0) ∧ Below w.heap.size w w' := echeck_is e true w hE (by omega) h
theorem echeck_no (e : Er) (w : World) (hE : Ev w) (hs : e.ru.size ≤ 4096) (h : El.right e = false) : Calls Tryz.prog 98 #[.agg #[.int .i64 e.sd, .int .u8 e.k, .int .i64 e.sv, .string e.ru, .string e.fm, .bool e.en, .int .i64 e.u.y, .int .i64 e.u.m, .int .u8 e.u.k, .int .i64 e.u.n, .int .i64 e.u.d, .int .i64 e.u.s, .int .u8 e.u.c]] w fun x w' => x = .returned (.int .i64 2) ∧ Below w.heap.size w w' := echeck_is e false w hE (by omega) h
theorem own_lit {e : TypeId} {base : Nat} (w : World) (g : Nat) (hg : g = w.heap.size) (cs : Array Value) (n : Nat) (hb : base ≤ w.heap.size) (hm : n ≤ maxLen) (hs : cs.size = n * 1) : (w.alloc (.cells cs e)).ownsRow base e 1 (.slice (some ⟨g, 0, none⟩) n n) n cs.toList := by
  subst hg
  exact World.ownsRow_lit w cs n hb hm hs
end Go.Proofs.YtkcbmnboccjnnaaGreatDoor
/- Sizes of an era's texts, and what is read of them. No walk. -/


namespace Go.Proofs.YtkcbmnboccjnnaaGreatDoor
open Go.RowKit
theorem fmt_le {s : ByteArray} (h : Fm.fmt s.data.toList = true) : s.size ≤ 32 := by
  have hz : s.data.toList.length = s.size := by simp
  unfold Fm.fmt at h
  rw [Bool.and_eq_true] at h
  have := of_decide_eq_true h.1
  omega
theorem clk_le {t : Int} (h1 : -604800 ≤ t) (h2 : t ≤ 604800) : (⟨(txt t).toArray⟩ : ByteArray).size ≤ 201 := by
  rw [size_ba]
  have := txt_len t h1 h2
  omega
theorem utexts_small {u : Ut} (h : Mo.un u = true) : ∀ t ∈ Mo.texts u, t.size ≤ 201 := by
  obtain ⟨⟨y1, y2, m1, m2⟩, hd, hr⟩ := unt_parts h
  obtain ⟨h1, h2, _⟩ := (Mo.right_iff _ _).1 hr
  intro t ht
  simp only [Mo.texts, List.mem_cons, List.not_mem_nil, or_false] at ht
  rcases ht with rfl | rfl | rfl | rfl
  · exact itoa_le _ y1 y2
  · have := (Wd.mons_back (u.m - 1).toNat (by omega)).2.1
    show (Wd.three Wd.mons (u.m - 1).toNat).size ≤ 201
    omega
  · have := txt_size u.k u.n u.d hd
    show (Dy.txt u.k u.n u.d).size ≤ 201
    omega
  · unfold Mo.t3
    rw [size_ba]
    have := txt_len u.s h1 h2
    have := ltr_len u.c
    unfold Mo.txt
    rw [List.length_append]
    omega
theorem etexts_small {e : Er} (h : El.right e = true) : ∀ t ∈ El.texts e, t.size ≤ 201 := by
  obtain ⟨⟨s1, s2⟩, hk, hf, he⟩ := el_parts h
  have n2 := fmt_le hf
  intro t ht
  unfold El.texts at ht
  rcases List.mem_append.1 ht with ht | ht
  · simp only [List.mem_cons, List.not_mem_nil, or_false] at ht
    rcases ht with rfl | rfl | rfl
    · exact clk_le s1 s2
    · unfold El.t1
      rcases kind_cases hk with ⟨k, s, r⟩ | ⟨k, ⟨t1, t2⟩, r⟩ | ⟨k, s, r⟩
      · rw [k, if_neg (by decide), if_neg (by decide)]
        decide
      · rw [k, if_pos rfl]
        exact clk_le t1 t2
      · rw [k, if_neg (by decide), if_pos rfl]
        have := name_le r
        omega
    · omega
  · unfold El.rest at ht
    split at ht
    · rename_i hn
      unfold El.ends at he
      rw [if_pos hn] at he
      exact utexts_small he t (List.mem_of_mem_take ht)
    · cases ht
theorem eru_le {e : Er} (h : El.right e = true) : e.ru.size ≤ 64 := by
  obtain ⟨_, hk, _⟩ := el_parts h
  rcases kind_cases hk with ⟨_, _, r⟩ | ⟨_, _, r⟩ | ⟨_, _, r⟩
  · rw [emp r]; decide
  · rw [emp r]; decide
  · exact name_le r
/-- What is needed of a right era's texts. -/
structure ETx (e : Er) (LT : List ByteArray) (N : Nat) : Prop where
  texts : El.texts e = LT
  num : El.num e = N
  len : LT.length = N
  small : ∀ t ∈ LT, t.size ≤ 4096
  back : El.prs LT = (e, 0, 0)
  most : N ≤ 7
  ends : decide (3 < (N : Int)) = e.en
theorem etx_of {e : Er} (h : El.right e = true) (c0 : 0 ≤ e.u.c) : ∃ LT N, ETx e LT N := by
  obtain ⟨b1, b2⟩ := enum_bd e
  refine ⟨_, _, rfl, rfl, enum_len e, fun t ht => Nat.le_trans (etexts_small h t ht) (by decide), eback h c0, ?_, ?_⟩
  · cases hn : e.en with
    | false => rw [b1 hn]; omega
    | true => exact (b2 hn).2
  · cases hn : e.en with
    | false =>
      rw [decide_eq_false_iff_not, b1 hn]
      omega
    | true =>
      rw [decide_eq_true_eq]
      have := (b2 hn).1
      omega
theorem ends_nat {N : Nat} {b : Bool} (h : decide (3 < (N : Int)) = b) : decide (3 < N) = b := by
  rw [← h, Bool.eq_iff_iff, decide_eq_true_eq, decide_eq_true_eq]
  omega
end Go.Proofs.YtkcbmnboccjnnaaGreatDoor
/- Stage 5: texts that are written as a line, with a tab ahead of it and a comment behind, are read from it (fields5); which texts may be in a line. -/



namespace Go.Proofs.YtkcbmnboccjnnaaGreatDoor
open Go.RowKit
theorem cut_tail (r : List UInt8) (s : List UInt8) (b i : Nat) (fs : List (List UInt8 × Nat)) : cutL (32 :: 35 :: r) (some (s, b, none)) fs i = .inl (fs ++ [(s, b + 1)]) := by
  unfold cutL
  rw [if_neg (by decide), if_neg (by decide), if_pos (by decide)]
  unfold cutL
  rw [if_neg (by decide), if_neg (by decide), if_pos (by decide)]
theorem cut_joined_t (r : List UInt8) : ∀ (l : List (List UInt8)) (s : List UInt8) (b i : Nat) (fs : List (List UInt8 × Nat)), (∀ x ∈ l, ∀ c ∈ x, okc c = true) → fs.length + 1 + l.length ≤ 24 →
    texts (cutL (Lib.joinTail [32] (l.map qt) ++ 32 :: 35 :: r) (some (s, b, none)) fs i) = some (fs.map (·.1) ++ s :: l) := by
  intro l
  induction l with
  | nil =>
    intro s b i fs _ _
    show texts (cutL (32 :: 35 :: r) (some (s, b, none)) fs i) = _
    rw [cut_tail]
    simp [texts]
  | cons x l ih =>
    intro s b i fs h hn
    have e : Lib.joinTail [32] ((x :: l).map qt) ++ 32 :: 35 :: r = 32 :: (qt x ++ (Lib.joinTail [32] (l.map qt) ++ 32 :: 35 :: r)) := by
      show (32 :: (qt x ++ Lib.joinTail [32] (l.map qt))) ++ 32 :: 35 :: r = _
      simp
    rw [e]
    conv => lhs; unfold cutL
    rw [if_neg (by decide), if_neg (by decide), if_pos (by decide)]
    simp only [List.length_cons] at hn
    obtain ⟨i', he⟩ := cut_qt x (Lib.joinTail [32] (l.map qt) ++ 32 :: 35 :: r) (i + 1) (fs ++ [(s, b + 1)]) (h x (by simp)) (by simp; omega)
    rw [he, ih x _ _ _ (fun y hy => h y (by simp [hy])) (by simp; omega)]
    simp
/-- The fields of a line with a tab ahead, and a comment behind. -/
theorem cut_noted (r : List UInt8) (l : List (List UInt8)) (h : ∀ x ∈ l, x.all okc = true) (hn : l.length ≤ 24) (h1 : 1 ≤ l.length) : texts (cutL (9 :: (lineOf l ++ 32 :: 35 :: r)) none [] 0) = some l := by
  have h' : ∀ x ∈ l, ∀ c ∈ x, okc c = true := fun x hx c hc => List.all_eq_true.1 (h x hx) c hc
  cases l with
  | nil => simp at h1
  | cons x l =>
    conv => lhs; unfold cutL
    rw [if_pos (by decide)]
    unfold lineOf
    rw [List.map_cons, Lib.join_cons, List.append_assoc]
    obtain ⟨i', he⟩ := cut_qt x (Lib.joinTail [32] (l.map qt) ++ 32 :: 35 :: r) 1 [] (h' x (by simp)) (by simp)
    rw [he, cut_joined_t r l x _ _ _ (fun y hy => h' y (by simp [hy])) (by simp at hn ⊢; omega)]
    rfl
theorem own_len {w : World} {b : Nat} {e : TypeId} {v : Value} {k n : Nat} {xs : List Value} (h : w.ownsRow b e 1 v k xs) (hk : n = k) : w.ownsRow b e 1 v n xs := by
  subst hk
  exact h
def bts (L : List ByteArray) : List (List UInt8) := L.map (·.data.toList)
theorem bts_getD (L : List ByteArray) (i : Nat) (h : i < L.length) : (⟨((bts L).getD i []).toArray⟩ : ByteArray) = L.getD i ByteArray.empty := by
  rw [List.getD_eq_getElem?_getD, List.getD_eq_getElem?_getD, bts, List.getElem?_map, List.getElem?_eq_getElem h]
  rfl
theorem fcells_get (fs : List (List UInt8 × Nat)) : ∀ i, (h : i < fs.length) → (fcells fs)[i * 2]? = some (.string ⟨fs[i].1.toArray⟩) ∧ (fcells fs)[i * 2 + 1]? = some (.int .i64 (fs[i].2 : Int)) := by
  induction fs with
  | nil => intro i h; simp at h
  | cons x r ih =>
    intro i h
    have e : fcells (x :: r) = .string ⟨x.1.toArray⟩ :: .int .i64 (x.2 : Int) :: fcells r := rfl
    rw [e]
    cases i with
    | zero => exact ⟨rfl, rfl⟩
    | succ i =>
      have := ih i (by simpa using h)
      rw [show (i + 1) * 2 = i * 2 + 1 + 1 by omega, show i * 2 + 1 + 1 + 1 = (i * 2 + 1) + 1 + 1 by omega]
      simp only [List.getElem?_cons_succ, List.getElem_cons_succ]
      exact this
end Go.Proofs.YtkcbmnboccjnnaaGreatDoor
/- The texts of right rules and eras may stand in a line, and make one that is not too long. No walk. -/

namespace Go.Proofs.YtkcbmnboccjnnaaGreatDoor
open Go.RowKit
def gr (c : UInt8) : Bool := decide (33 ≤ c.toNat ∧ c.toNat ≤ 126 ∧ c.toNat ≠ 34)
theorem okc_nat : ∀ n, n < 256 → 33 ≤ n → n ≤ 126 → n ≠ 34 → okc (UInt8.ofNat n) = true := by decide +kernel
theorem okc_gr {c : UInt8} (h : gr c = true) : okc c = true := by
  obtain ⟨h1, h2, h3⟩ := of_decide_eq_true h
  have := okc_nat c.toNat c.toNat_lt h1 h2 h3
  rwa [UInt8.ofNat_toNat] at this
theorem all_of {p q : UInt8 → Bool} {l : List UInt8} (h : ∀ c, p c = true → q c = true) (hl : l.all p = true) : l.all q = true := by
  rw [List.all_eq_true] at *
  exact fun c hc => h c (hl c hc)
theorem gr_inn {c : UInt8} (h : Rl.inn c = true) : gr c = true := by
  have := of_decide_eq_true h
  unfold gr
  rw [decide_eq_true_eq]
  omega
theorem gr_isD {c : UInt8} (h : Txt.isD c = true) : gr c = true := by
  have := (isD_iff c).1 h
  unfold gr
  rw [decide_eq_true_eq]
  omega
theorem gr_sg {c : UInt8} (h : Fm.sg c = true) : gr c = true := by
  have := of_decide_eq_true h
  unfold gr
  rw [decide_eq_true_eq]
  omega
theorem gr_name {l : List UInt8} (h : Rl.name l = true) : l.all gr = true := by
  unfold Rl.name at h
  simp only [Bool.and_eq_true] at h
  exact all_of (fun _ => gr_inn) h.2.2
theorem gr_itoa {y : Int} (h : 0 ≤ y) : (⟨(Lib.itoa y).toArray⟩ : ByteArray).data.toList.all gr = true := by
  show (Lib.itoa y).toArray.toList.all gr = true
  rw [List.toList_toArray]
  exact all_of (fun _ => gr_isD) (itoa_all y h)
theorem gr_txt0 {u : Int} (h0 : 0 ≤ u) : (txt0 u).all gr = true := by
  unfold txt0
  rw [List.all_append, List.all_append, List.all_append, all_of (fun _ => gr_isD) (itoa_all (u / 3600) (by omega)), all_of (fun _ => gr_isD) (two_all (u % 3600 / 60) (by omega) (by omega))]
  split
  · decide
  · have h2 : (two (u % 60)).all gr = true := all_of (fun _ => gr_isD) (two_all (u % 60) (by omega) (by omega))
    show (true && (gr 58 && true) && true && (gr 58 && (two (u % 60)).all gr)) = true
    rw [h2]
    decide
theorem gr_txt (t : Int) : (txt t).all gr = true := by
  unfold txt
  split
  · rw [List.all_cons, gr_txt0 (by omega)]
    decide
  · exact gr_txt0 (by omega)
theorem gr_ba {l : List UInt8} (h : l.all gr = true) : (⟨l.toArray⟩ : ByteArray).data.toList.all gr = true := by
  show l.toArray.toList.all gr = true
  rw [List.toList_toArray]
  exact h
theorem gr_mons : ∀ i, i < 12 → (Wd.three Wd.mons i).data.toList.all gr = true := by decide +kernel
theorem gr_dy0 : ∀ n, n < 32 → (Dy.txt 0 (n : Nat) 0).data.toList.all gr = true := by decide +kernel
theorem gr_dy1 : ∀ d, d < 7 → (Dy.txt 1 0 (d : Nat)).data.toList.all gr = true := by decide +kernel
def gr_dyk (k : Int) : Bool := (List.range 32).all fun n => (List.range 7).all fun d => (Dy.txt k (n : Nat) (d : Nat)).data.toList.all gr
theorem gr_dy2 : gr_dyk 2 = true := by decide +kernel
theorem gr_dy3 : gr_dyk 3 = true := by decide +kernel
theorem gr_dyn {k : Int} (h : gr_dyk k = true) (n d : Nat) (h1 : n < 32) (h3 : d < 7) : (Dy.txt k (n : Nat) (d : Nat)).data.toList.all gr = true :=
  List.all_eq_true.1 (List.all_eq_true.1 h n (List.mem_range.2 h1)) d (List.mem_range.2 h3)
theorem gr_dy {k n d : Int} (h : Dy.right k n d = true) : (Dy.txt k n d).data.toList.all gr = true := by
  rcases (Dy.right_iff k n d).1 h with ⟨rfl, h1, h2, rfl⟩ | ⟨rfl, rfl, h1, h2⟩ | ⟨hk, h1, h2, h3, h4⟩
  · have := gr_dy0 n.toNat (by omega)
    rwa [show ((n.toNat : Nat) : Int) = n by omega] at this
  · have := gr_dy1 d.toNat (by omega)
    rwa [show ((d.toNat : Nat) : Int) = d by omega] at this
  · rcases hk with rfl | rfl
    · have := gr_dyn gr_dy2 n.toNat d.toNat (by omega) (by omega)
      rwa [show ((n.toNat : Nat) : Int) = n by omega, show ((d.toNat : Nat) : Int) = d by omega] at this
    · have := gr_dyn gr_dy3 n.toNat d.toNat (by omega) (by omega)
      rwa [show ((n.toNat : Nat) : Int) = n by omega, show ((d.toNat : Nat) : Int) = d by omega] at this
theorem gr_mo (s c : Int) : (Mo.txt s c).all gr = true := by
  unfold Mo.txt Mo.ltr
  rw [List.all_append, gr_txt]
  split
  · decide
  · split <;> decide
theorem gr_fmt {l : List UInt8} (h : Fm.fmt l = true) : l.all gr = true := by
  obtain ⟨_, _, m, a, b, hc, ha, hb, _⟩ := Fm.fmt_cases h
  have ga : a.all gr = true := all_of (fun _ => gr_sg) ha
  have gb : b.all gr = true := all_of (fun _ => gr_sg) hb
  obtain ⟨m', a', b', hc', hw⟩ := Fm.cutF_cases l
  rw [hc] at hc'
  injection hc' with e1 e2
  injection e2 with e2 e3
  subst e1 e2 e3
  rcases hw with ⟨_, e⟩ | ⟨_, e⟩ | ⟨_, e⟩ | ⟨_, e, _⟩
  · rw [e, List.all_append, List.all_append, ga, gb]; decide
  · rw [e, List.all_append, List.all_append, ga, gb]; decide
  · rw [e, List.all_append, List.all_append, ga, gb]; decide
  · rw [e]; exact ga
theorem gr_letter {l : List UInt8} (h : Fm.ltr l = true) : l.all gr = true := by
  unfold Fm.ltr at h
  simp only [Bool.and_eq_true] at h
  exact all_of (fun _ => gr_sg) h.2.2
theorem rtexts_gr {r : Ru} (h : Rl.right r = true) : ∀ t ∈ Rl.texts r, t.data.toList.all gr = true := by
  obtain ⟨h1, ⟨y1, y2, y3⟩, ⟨m1, m2⟩, hd, hr, ⟨v1, v2⟩, hl⟩ := rl_parts h
  intro t ht
  simp only [Rl.texts, List.mem_cons, List.not_mem_nil, or_false] at ht
  rcases ht with rfl | rfl | rfl | rfl | rfl | rfl | rfl | rfl | rfl
  · exact gr_name h1
  · exact gr_itoa (by omega)
  · unfold Rl.t2
    split
    · decide
    · split
      · decide
      · exact gr_itoa (by omega)
  · decide
  · exact gr_mons _ (by omega)
  · exact gr_dy hd
  · exact gr_ba (gr_mo _ _)
  · exact gr_ba (gr_txt _)
  · unfold Rl.t8
    split
    · decide
    · exact gr_letter hl
theorem etexts_gr {e : Er} (h : El.right e = true) : ∀ t ∈ El.texts e, t.data.toList.all gr = true := by
  obtain ⟨_, hk, hf, he⟩ := el_parts h
  intro t ht
  unfold El.texts at ht
  rcases List.mem_append.1 ht with ht | ht
  · simp only [List.mem_cons, List.not_mem_nil, or_false] at ht
    rcases ht with rfl | rfl | rfl
    · exact gr_ba (gr_txt _)
    · unfold El.t1
      rcases kind_cases hk with ⟨k, s, r⟩ | ⟨k, _, r⟩ | ⟨k, s, r⟩
      · rw [k, if_neg (by decide), if_neg (by decide)]
        decide
      · rw [k, if_pos rfl]
        exact gr_ba (gr_txt _)
      · rw [k, if_neg (by decide), if_pos rfl]
        exact gr_name r
    · exact gr_fmt hf
  · unfold El.rest at ht
    split at ht
    · rename_i hn
      unfold El.ends at he
      rw [if_pos hn] at he
      obtain ⟨⟨y1, y2, m1, m2⟩, hd, hr⟩ := unt_parts he
      have ht := List.mem_of_mem_take ht
      simp only [Mo.texts, List.mem_cons, List.not_mem_nil, or_false] at ht
      rcases ht with rfl | rfl | rfl | rfl
      · exact gr_itoa (by omega)
      · exact gr_mons _ (by omega)
      · exact gr_dy hd
      · exact gr_ba (gr_mo _ _)
    · cases ht
theorem okc_texts {L : List ByteArray} (h : ∀ t ∈ L, t.data.toList.all gr = true) : ∀ x ∈ bts L, x.all okc = true := by
  intro x hx
  obtain ⟨t, ht, rfl⟩ := List.mem_map.1 hx
  exact all_of (fun _ => okc_gr) (h t ht)
theorem line_texts {L : List ByteArray} (h : ∀ t ∈ L, t.size ≤ 201) (hn : L.length ≤ 9) : (lineOf (bts L)).length ≤ 2000 := by
  have h1 := line_len 201 (bts L) (fun s hs => by
    obtain ⟨t, ht, rfl⟩ := List.mem_map.1 hs
    have := h t ht
    have hz : t.data.toList.length = t.size := by simp
    omega)
  have h2 : (bts L).length = L.length := by unfold bts; rw [List.length_map]
  have h3 : (bts L).length * (201 + 3) ≤ 9 * 204 := Nat.mul_le_mul_right _ (by omega)
  omega
end Go.Proofs.YtkcbmnboccjnnaaGreatDoor
