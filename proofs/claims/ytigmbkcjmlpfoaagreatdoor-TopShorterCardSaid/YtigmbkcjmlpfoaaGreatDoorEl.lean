/- Eras as numbers and texts: which are right, what texts tell, and that a right era is read from its texts. No walk. -/
import Derived.Test.YtigmbkcjmlpfoaaGreatDoorRl
namespace Go.Proofs.YtigmbkcjmlpfoaaGreatDoor
open Go.RowKit
/-- An era: its standard offset, its kind, what is saved; the rules' name and the format; whether it ends, and when. -/
structure Er where
  sd : Int
  k : Int
  sv : Int
  ru : ByteArray
  fm : ByteArray
  en : Bool
  u : Ut
@[reducible] def erV (e : Er) : Value := .agg #[.int .i64 e.sd, .int .u8 e.k, .int .i64 e.sv, .string e.ru, .string e.fm, .bool e.en, .int .i64 e.u.y, .int .i64 e.u.m, .int .u8 e.u.k, .int .i64 e.u.n, .int .i64 e.u.d, .int .i64 e.u.s, .int .u8 e.u.c]
def Er.zero : Er := ⟨0, 0, 0, ⟨#[]⟩, ⟨#[]⟩, false, ⟨0, 0, 0, 0, 0, 0, 0⟩⟩
/-- What an era's kind asks for. -/
def El.kind (k sv : Int) (ru : List UInt8) : Bool :=
  if k = 0 then decide (sv = 0) && decide (ru = []) else if k = 1 then Rl.time sv && decide (ru = []) else if k = 2 then decide (sv = 0) && Rl.name ru else false
/-- There is no until. -/
def Ut.nil (u : Ut) : Bool := decide (u.y = 0 ∧ u.m = 0 ∧ u.k = 0 ∧ u.n = 0 ∧ u.d = 0 ∧ u.s = 0 ∧ u.c = 0)
theorem nil_eq {u : Ut} (h : u.nil = true) : u = Ut.zero := by
  obtain ⟨y, m, k, n, d, s, c⟩ := u
  obtain ⟨h1, h2, h3, h4, h5, h6, h7⟩ := of_decide_eq_true h
  simp only at h1 h2 h3 h4 h5 h6 h7
  subst h1 h2 h3 h4 h5 h6 h7
  rfl
def El.ends (en : Bool) (u : Ut) : Bool := if en = true then Mo.un u else u.nil
/-- An era is right. -/
def El.right (e : Er) : Bool := Rl.time e.sd && (El.kind e.k e.sv e.ru.data.toList && (Fm.fmt e.fm.data.toList && El.ends e.en e.u))
theorem el_parts {e : Er} (h : El.right e = true) : (-604800 ≤ e.sd ∧ e.sd ≤ 604800) ∧ El.kind e.k e.sv e.ru.data.toList = true ∧ Fm.fmt e.fm.data.toList = true ∧ El.ends e.en e.u = true := by
  unfold El.right at h
  simp only [Bool.and_eq_true] at h
  obtain ⟨h1, h2, h3, h4⟩ := h
  exact ⟨of_decide_eq_true h1, h2, h3, h4⟩
theorem el_of {e : Er} (h1 : -604800 ≤ e.sd ∧ e.sd ≤ 604800) (h2 : El.kind e.k e.sv e.ru.data.toList = true) (h3 : Fm.fmt e.fm.data.toList = true) (h4 : El.ends e.en e.u = true) : El.right e = true := by
  unfold El.right
  rw [h2, h3, h4, show Rl.time e.sd = true from decide_eq_true h1]
  rfl
theorem kind_cases {k sv : Int} {ru : List UInt8} (h : El.kind k sv ru = true) : (k = 0 ∧ sv = 0 ∧ ru = []) ∨ (k = 1 ∧ (-604800 ≤ sv ∧ sv ≤ 604800) ∧ ru = []) ∨ (k = 2 ∧ sv = 0 ∧ Rl.name ru = true) := by
  unfold El.kind at h
  by_cases h0 : k = 0
  · rw [if_pos h0, Bool.and_eq_true] at h
    exact .inl ⟨h0, of_decide_eq_true h.1, of_decide_eq_true h.2⟩
  · rw [if_neg h0] at h
    by_cases h1 : k = 1
    · rw [if_pos h1, Bool.and_eq_true] at h
      exact .inr (.inl ⟨h1, of_decide_eq_true h.1, of_decide_eq_true h.2⟩)
    · rw [if_neg h1] at h
      by_cases h2 : k = 2
      · rw [if_pos h2, Bool.and_eq_true] at h
        exact .inr (.inr ⟨h2, of_decide_eq_true h.1, h.2⟩)
      · rw [if_neg h2] at h
        cases h
/-- A text begins as that of a time does. -/
def El.beg : List UInt8 → Bool
  | [] => false
  | [c] => Txt.isD c
  | c :: x :: _ => if c = 45 then Txt.isD x else Txt.isD c
def El.std (l : List UInt8) : Int × Int := if l = [45] then (0, 0) else parseL l
def El.saved (t : ByteArray) (e : Er) : Er × Int :=
  if t.data.toList = [45] then ({ e with k := 0 }, 0) else if El.beg t.data.toList = true then ({ e with k := 1, sv := (parseL t.data.toList).1 }, (parseL t.data.toList).2)
  else if Rl.name t.data.toList = true then ({ e with k := 2, ru := t }, 0) else (e, 7)
def El.form (t : ByteArray) (e : Er) : Er × Int := if Fm.fmt t.data.toList = true then ({ e with fm := t }, 0) else (e, 4)
/-- What a text at a place makes of an era, and why it makes none. -/
def El.step (i : Nat) (t : ByteArray) (e : Er) : Er × Int :=
  match i with
  | 0 => if t.data.toList = [45] then (e, 0) else ({ e with sd := (parseL t.data.toList).1 }, (parseL t.data.toList).2)
  | 1 => El.saved t e
  | _ => El.form t e
def El.run : Nat → List ByteArray → Er → Er × Nat × Int
  | _, [], e => (e, 0, 0)
  | i, t :: l, e => if (El.step i t e).2 = 0 then El.run (i + 1) l (El.step i t e).1 else (Er.zero, i, (El.step i t e).2)
/-- The era that texts tell, or the place of what tells none, and why. -/
def El.prs (L : List ByteArray) : Er × Nat × Int :=
  if (El.run 0 (L.take 3) Er.zero).2.2 ≠ 0 then El.run 0 (L.take 3) Er.zero
  else if L.length < 3 then (Er.zero, L.length, 5) else if L.length = 3 then El.run 0 (L.take 3) Er.zero
  else if (Mo.prsU (L.drop 3)).2.2 ≠ 0 then (Er.zero, 3 + (Mo.prsU (L.drop 3)).2.1, (Mo.prsU (L.drop 3)).2.2)
  else ({ (El.run 0 (L.take 3) Er.zero).1 with en := true, u := (Mo.prsU (L.drop 3)).1 }, 0, 0)
theorem eprs_stop {L : List ByteArray} {k : Nat} {z : Int} (h : El.run 0 (L.take 3) Er.zero = (Er.zero, k, z)) (hz : z ≠ 0) : El.prs L = (Er.zero, k, z) := by
  unfold El.prs
  rw [h, if_pos hz]
theorem eprs_short {L : List ByteArray} {e : Er} (h : El.run 0 (L.take 3) Er.zero = (e, 0, 0)) (hl : L.length < 3) : El.prs L = (Er.zero, L.length, 5) := by
  unfold El.prs
  rw [h, if_neg (fun h => h rfl), if_pos hl]
theorem eprs_three {L : List ByteArray} {e : Er} (h : El.run 0 (L.take 3) Er.zero = (e, 0, 0)) (hl : L.length = 3) : El.prs L = (e, 0, 0) := by
  unfold El.prs
  rw [h, if_neg (fun h => h rfl), if_neg (by omega), if_pos hl]
theorem eprs_wrong {L : List ByteArray} {e : Er} {u : Ut} {i : Nat} {z : Int} (h : El.run 0 (L.take 3) Er.zero = (e, 0, 0)) (hl : 3 < L.length) (hu : Mo.prsU (L.drop 3) = (u, i, z)) (hz : z ≠ 0) : El.prs L = (Er.zero, 3 + i, z) := by
  unfold El.prs
  rw [h, if_neg (fun h => h rfl), if_neg (by omega), if_neg (by omega), hu, if_pos hz]
theorem eprs_ends {L : List ByteArray} {e : Er} {u : Ut} {i : Nat} (h : El.run 0 (L.take 3) Er.zero = (e, 0, 0)) (hl : 3 < L.length) (hu : Mo.prsU (L.drop 3) = (u, i, 0)) : El.prs L = ({ e with en := true, u := u }, 0, 0) := by
  unfold El.prs
  rw [h, if_neg (fun h => h rfl), if_neg (by omega), if_neg (by omega), hu, if_neg (fun h => h rfl)]
/-- What is right of an era when so many texts are read. -/
structure El.good (i : Nat) (e : Er) : Prop where
  no : e.en = false
  nu : e.u = ⟨0, 0, 0, 0, 0, 0, 0⟩
  g0 : -604800 ≤ e.sd ∧ e.sd ≤ 604800
  z1 : i ≤ 1 → e.sv = 0 ∧ e.ru = ⟨#[]⟩
  g1 : 1 < i → El.kind e.k e.sv e.ru.data.toList = true
  k0 : 0 ≤ e.k
  g2 : 2 < i → Fm.fmt e.fm.data.toList = true
theorem egood_zero : El.good 0 Er.zero := ⟨rfl, rfl, ⟨by decide, by decide⟩, fun _ => ⟨rfl, rfl⟩, fun h => absurd h (by omega), by decide, fun h => absurd h (by omega)⟩
theorem estep_ok (i : Nat) (hi : i < 3) (t : ByteArray) (e : Er) (h : El.good i e) (hz : (El.step i t e).2 = 0) : El.good (i + 1) (El.step i t e).1 := by
  obtain ⟨no, nu, g0, z1, g1, k0, g2⟩ := h
  have hi3 : i = 0 ∨ i = 1 ∨ i = 2 := by omega
  rcases hi3 with rfl | rfl | rfl
  · have z := z1 (by omega)
    unfold El.step at *
    simp only at hz ⊢
    by_cases h0 : t.data.toList = [45]
    · rw [if_pos h0]
      exact ⟨no, nu, g0, fun _ => z, fun h => absurd h (by omega), k0, fun h => absurd h (by omega)⟩
    · rw [if_neg h0] at hz ⊢
      exact ⟨no, nu, parse_ok _ hz, fun _ => z, fun h => absurd h (by omega), k0, fun h => absurd h (by omega)⟩
  · obtain ⟨zs, zr⟩ := z1 (by omega)
    have hz : (El.saved t e).2 = 0 := hz
    show El.good 2 (El.saved t e).1
    unfold El.saved at *
    by_cases h0 : t.data.toList = [45]
    · rw [if_pos h0]
      refine ⟨no, nu, g0, fun h => absurd h (by omega), fun _ => ?_, by show (0 : Int) ≤ 0; omega, fun h => absurd h (by omega)⟩
      show El.kind 0 e.sv e.ru.data.toList = true
      rw [zs, zr]
      decide +kernel
    · rw [if_neg h0] at hz ⊢
      by_cases h1 : El.beg t.data.toList = true
      · rw [if_pos h1] at hz ⊢
        have hp := parse_ok _ hz
        refine ⟨no, nu, g0, fun h => absurd h (by omega), fun _ => ?_, by show (0 : Int) ≤ 1; omega, fun h => absurd h (by omega)⟩
        show El.kind 1 (parseL t.data.toList).1 e.ru.data.toList = true
        unfold El.kind
        rw [if_neg (by decide), if_pos rfl, show Rl.time (parseL t.data.toList).1 = true from decide_eq_true hp, zr]
        rfl
      · rw [if_neg h1] at hz ⊢
        by_cases h2 : Rl.name t.data.toList = true
        · rw [if_pos h2]
          refine ⟨no, nu, g0, fun h => absurd h (by omega), fun _ => ?_, by show (0 : Int) ≤ 2; omega, fun h => absurd h (by omega)⟩
          show El.kind 2 e.sv t.data.toList = true
          unfold El.kind
          rw [if_neg (by decide), if_neg (by decide), if_pos rfl, h2, zs]
          rfl
        · rw [if_neg h2] at hz
          cases hz
  · have hz : (El.form t e).2 = 0 := hz
    show El.good 3 (El.form t e).1
    have g1 := g1 (by omega)
    unfold El.form at *
    by_cases h0 : Fm.fmt t.data.toList = true
    · rw [if_pos h0]
      exact ⟨no, nu, g0, fun h => absurd h (by omega), fun _ => g1, k0, fun _ => h0⟩
    · rw [if_neg h0] at hz
      cases hz
theorem erun_ok : ∀ (l : List ByteArray) (i : Nat) (e : Er), i + l.length ≤ 3 → El.good i e →
    ((El.run i l e).2.2 = 0 → (El.run i l e).2.1 = 0 ∧ El.good (i + l.length) (El.run i l e).1) ∧ ((El.run i l e).2.2 ≠ 0 → (El.run i l e).1 = Er.zero ∧ (El.run i l e).2.1 < i + l.length)
  | [], i, e, _, hg => by
    unfold El.run
    exact ⟨fun _ => ⟨rfl, hg⟩, fun h => absurd rfl h⟩
  | t :: l, i, e, hl, hg => by
    have hl' : i + (l.length + 1) ≤ 3 := by simpa using hl
    unfold El.run
    by_cases h0 : (El.step i t e).2 = 0
    · rw [if_pos h0]
      have ih := erun_ok l (i + 1) (El.step i t e).1 (by omega) (estep_ok i (by omega) t e hg h0)
      rw [show i + (t :: l).length = i + 1 + l.length by simp; omega]
      exact ih
    · rw [if_neg h0]
      refine ⟨fun h => absurd h h0, fun _ => ⟨rfl, ?_⟩⟩
      show i < i + (t :: l).length
      simp
/-- How many texts an era has. -/
def El.num (e : Er) : Nat := if e.en = true then 3 + Mo.ndU e.u else 3
/-- Of an until that is read from so many texts what is behind these is as it is untold. -/
theorem run_rest : ∀ (l : List ByteArray) (i : Nat) (v : Ut), i + l.length ≤ 4 → (Mo.run i l v).2.2 = 0 → (i + l.length ≤ 1 → (Mo.run i l v).1.m = v.m) ∧ (i + l.length ≤ 2 → (Mo.run i l v).1.k = v.k ∧ (Mo.run i l v).1.n = v.n ∧ (Mo.run i l v).1.d = v.d) ∧ (i + l.length ≤ 3 → (Mo.run i l v).1.s = v.s ∧ (Mo.run i l v).1.c = v.c)
  | [], i, v, _, _ => ⟨fun _ => rfl, fun _ => ⟨rfl, rfl, rfl⟩, fun _ => ⟨rfl, rfl⟩⟩
  | t :: l, i, v, hl, hz => by
    have hl' : i + (l.length + 1) ≤ 4 := by simpa using hl
    unfold Mo.run at *
    by_cases h0 : (Mo.step i t v).2 = 0
    · rw [if_pos h0] at hz ⊢
      have ih := run_rest l (i + 1) (Mo.step i t v).1 (by omega) hz
      rw [show i + (t :: l).length = i + 1 + l.length by simp; omega]
      obtain ⟨a, b, c⟩ := ih
      have hi4 : i = 0 ∨ i = 1 ∨ i = 2 ∨ i = 3 := by omega
      have h2 : i = 2 → (Mo.step i t v).1.s = v.s ∧ (Mo.step i t v).1.c = v.c := by
        rintro rfl
        unfold Mo.step
        cases Dy.prs t with
        | none => exact ⟨rfl, rfl⟩
        | some r => exact ⟨rfl, rfl⟩
      rcases hi4 with rfl | rfl | rfl | rfl
      · exact ⟨a, b, c⟩
      · exact ⟨fun h => absurd h (by omega), b, c⟩
      · refine ⟨fun h => absurd h (by omega), fun h => absurd h (by omega), fun h => ?_⟩
        have := c h
        have e := h2 rfl
        exact ⟨this.1.trans e.1, this.2.trans e.2⟩
      · exact ⟨fun h => absurd h (by omega), fun h => absurd h (by omega), fun h => absurd h (by omega)⟩
    · rw [if_neg h0] at hz
      exact absurd hz h0
/-- An until's texts are no more than any from which it is read. -/
theorem nd_least {L : List ByteArray} {u : Ut} {i : Nat} (h : Mo.prsU L = (u, i, 0)) : Mo.ndU u ≤ L.length := by
  unfold Mo.prsU at h
  by_cases h0 : L = []
  · rw [if_pos h0] at h
    injection h with _ h
    injection h with _ h
    cases h
  · rw [if_neg h0] at h
    by_cases h4 : 4 < L.length
    · rw [if_pos h4] at h
      injection h with _ h
      injection h with _ h
      cases h
    · rw [if_neg h4] at h
      have hp : 1 ≤ L.length := by
        cases L with
        | nil => exact absurd rfl h0
        | cons a b => simp
      obtain ⟨a, b, c⟩ := run_rest L 0 Ut.first (by omega) (by rw [h])
      rw [h, Nat.zero_add] at a b c
      have hb := nd_bd (Mo.t1 u).data.toList (Mo.t2 u).data.toList (Mo.t3 u).data.toList
      have t3 : L.length ≤ 3 → (Mo.t3 u).data.toList = [48, 58, 48, 48] := fun h => by
        obtain ⟨e1, e2⟩ := c h
        have e1 : u.s = 0 := e1
        have e2 : u.c = 0 := e2
        unfold Mo.t3
        rw [e1, e2]
        decide +kernel
      have t2 : L.length ≤ 2 → (Mo.t2 u).data.toList = [49] := fun h => by
        obtain ⟨e1, e2, e3⟩ := b h
        have e1 : u.k = 0 := e1
        have e2 : u.n = 1 := e2
        have e3 : u.d = 0 := e3
        unfold Mo.t2
        rw [e1, e2, e3]
        decide +kernel
      have t1 : L.length ≤ 1 → (Mo.t1 u).data.toList = [74, 97, 110] := fun h => by
        have e1 : u.m = 1 := a h
        unfold Mo.t1
        rw [e1]
        decide +kernel
      unfold Mo.ndU
      have hL : L.length = 1 ∨ L.length = 2 ∨ L.length = 3 ∨ L.length = 4 := by omega
      rcases hL with h | h | h | h
      · unfold Mo.nd
        rw [if_pos (t3 (by omega)), if_pos (t2 (by omega)), if_pos (t1 (by omega))]
        exact hp
      · unfold Mo.nd
        rw [if_pos (t3 (by omega)), if_pos (t2 (by omega))]
        split <;> omega
      · unfold Mo.nd
        rw [if_pos (t3 (by omega))]
        split
        · split <;> omega
        · omega
      · omega
/-- What is read of any texts. -/
theorem eprs_ok (L : List ByteArray) : ((El.prs L).2.2 = 0 → (El.prs L).2.1 = 0 ∧ El.right (El.prs L).1 = true ∧ 0 ≤ (El.prs L).1.k ∧ 0 ≤ (El.prs L).1.u.c ∧ 3 ≤ L.length ∧ (El.prs L).1.en = decide (3 < L.length) ∧ El.num (El.prs L).1 ≤ L.length) ∧
    ((El.prs L).2.2 ≠ 0 → (El.prs L).1 = Er.zero ∧ (El.prs L).2.1 ≤ 7 ∧ (El.prs L).2.1 ≤ L.length) := by
  have hlen : (L.take 3).length = min 3 L.length := List.length_take
  have hr := erun_ok (L.take 3) 0 Er.zero (by omega) egood_zero
  obtain ⟨e, i, z, he⟩ : ∃ e i z, El.run 0 (L.take 3) Er.zero = (e, i, z) := ⟨_, _, _, rfl⟩
  rw [he] at hr
  by_cases h0 : z = 0
  · subst h0
    obtain ⟨e0, g⟩ := hr.1 rfl
    obtain rfl : i = 0 := e0
    by_cases h1 : L.length < 3
    · rw [eprs_short he h1]
      exact ⟨(fun h => by cases h), fun _ => ⟨rfl, by show L.length ≤ 7; omega, Nat.le_refl _⟩⟩
    · rw [show 0 + (L.take 3).length = 3 by omega] at g
      obtain ⟨no, nu, g0, z1, g1, k0, g2⟩ := g
      have g1 := g1 (by omega)
      have g2 := g2 (by omega)
      simp only at no nu g0 g1 k0 g2
      by_cases h2 : L.length = 3
      · rw [eprs_three he h2]
        refine ⟨fun _ => ⟨rfl, el_of g0 g1 g2 ?_, k0, ?_, by omega, ?_, ?_⟩, fun h => absurd rfl h⟩
        · show El.ends e.en e.u = true
          rw [no, nu]
          decide +kernel
        · show 0 ≤ e.u.c
          rw [nu]
          decide
        · show e.en = decide (3 < L.length)
          rw [no, h2]
          rfl
        · show El.num e ≤ L.length
          unfold El.num
          rw [no, if_neg (by decide)]
          omega
      · obtain ⟨u, j, y, hu⟩ : ∃ u j y, Mo.prsU (L.drop 3) = (u, j, y) := ⟨_, _, _, rfl⟩
        have ho := prsU_ok (L.drop 3)
        rw [hu] at ho
        have hd : (L.drop 3).length = L.length - 3 := List.length_drop
        by_cases h3 : y = 0
        · subst h3
          obtain ⟨_, hun, hc0⟩ := ho.1 rfl
          have hnd := nd_least hu
          rw [eprs_ends he (by omega) hu]
          refine ⟨fun _ => ⟨rfl, el_of g0 g1 g2 ?_, k0, hc0, by omega, ?_, ?_⟩, fun h => absurd rfl h⟩
          · show El.ends true u = true
            unfold El.ends
            rw [if_pos rfl]
            exact hun
          · show true = decide (3 < L.length)
            symm
            rw [decide_eq_true_eq]
            omega
          · show El.num { e with en := true, u := u } ≤ L.length
            unfold El.num
            rw [if_pos rfl]
            show 3 + Mo.ndU u ≤ L.length
            omega
        · obtain ⟨_, hj4, hjl⟩ := ho.2 h3
          have hj4 : j ≤ 4 := hj4
          have hjl : j ≤ (L.drop 3).length := hjl
          rw [eprs_wrong he (by omega) hu h3]
          exact ⟨fun h => absurd h h3, fun _ => ⟨rfl, by show 3 + j ≤ 7; omega, by show 3 + j ≤ L.length; omega⟩⟩
  · obtain ⟨e1, g⟩ := hr.2 h0
    have e1 : e = Er.zero := e1
    have g : i < 0 + (L.take 3).length := g
    subst e1
    rw [eprs_stop he h0]
    exact ⟨fun h => absurd h h0, fun _ => ⟨rfl, by show i ≤ 7; omega, by show i ≤ L.length; omega⟩⟩
/-- The texts of a right era. -/
def El.t0 (e : Er) : ByteArray := ⟨(txt e.sd).toArray⟩
def El.t1 (e : Er) : ByteArray := if e.k = 1 then ⟨(txt e.sv).toArray⟩ else if e.k = 2 then e.ru else ⟨#[45]⟩
def El.rest (e : Er) : List ByteArray := if e.en = true then (Mo.texts e.u).take (Mo.ndU e.u) else []
def El.texts (e : Er) : List ByteArray := [El.t0 e, El.t1 e, e.fm] ++ El.rest e
theorem txt_dash {t : Int} (h1 : -604800 ≤ t) (h2 : t ≤ 604800) : txt t ≠ [45] := fun e => by
  have hp := parse_txt t h1 h2
  rw [e] at hp
  have h3 : (parseL [45]).2 = 0 := congrArg Prod.snd hp
  revert h3
  decide +kernel
theorem beg_txt {t : Int} (h1 : -604800 ≤ t) (h2 : t ≤ 604800) : El.beg (txt t) = true := by
  unfold txt
  split
  · obtain ⟨c, r, e, hd⟩ := txt0_head (-t) (by omega)
    rw [e]
    show (if (45 : UInt8) = 45 then Txt.isD c else Txt.isD 45) = true
    rw [if_pos rfl]
    exact hd
  · obtain ⟨c, r, e, hd⟩ := txt0_head t (by omega)
    rw [e]
    have hc : c ≠ 45 := by
      rintro rfl
      revert hd
      decide
    cases r with
    | nil => exact hd
    | cons x y =>
      show (if c = 45 then Txt.isD x else Txt.isD c) = true
      rw [if_neg hc]
      exact hd
theorem beg_name {l : List UInt8} (h : Rl.name l = true) : El.beg l = false ∧ l ≠ [45] := by
  unfold Rl.name at h
  simp only [Bool.and_eq_true] at h
  obtain ⟨_, h1, _⟩ := h
  cases l with
  | nil => exact ⟨rfl, by simp⟩
  | cons c r =>
    have hc : Rl.first c = true := by simpa using h1
    have hd : Txt.isD c = false := by
      have := of_decide_eq_true hc
      have hi := isD_iff c
      cases hb : Txt.isD c with
      | false => rfl
      | true =>
        have := hi.1 hb
        omega
    have hn : c ≠ 45 := by
      rintro rfl
      revert hc
      decide
    refine ⟨?_, by
      intro e
      injection e with e _
      exact hn e⟩
    cases r with
    | nil => exact hd
    | cons x y =>
      show (if c = 45 then Txt.isD x else Txt.isD c) = false
      rw [if_neg hn]
      exact hd
theorem erun_step {i : Nat} {t : ByteArray} {l : List ByteArray} {v v' : Er} (h : El.step i t v = (v', 0)) : El.run i (t :: l) v = El.run (i + 1) l v' := by
  rw [El.run, h, if_pos rfl]
section
variable {e : Er} (h : El.right e = true)
include h
theorem es0 (v : Er) : El.step 0 (El.t0 e) v = ({ v with sd := e.sd }, 0) := by
  obtain ⟨⟨s1, s2⟩, _⟩ := el_parts h
  have hp : parseL (El.t0 e).data.toList = (e.sd, 0) := by
    show parseL (txt e.sd).toArray.toList = _
    rw [List.toList_toArray]
    exact parse_txt e.sd s1 s2
  have hn : (El.t0 e).data.toList ≠ [45] := by
    show (txt e.sd).toArray.toList ≠ _
    rw [List.toList_toArray]
    exact txt_dash s1 s2
  show (if (El.t0 e).data.toList = [45] then (v, (0 : Int)) else ({ v with sd := (parseL (El.t0 e).data.toList).1 }, (parseL (El.t0 e).data.toList).2)) = _
  rw [if_neg hn, hp]
theorem es1 : El.step 1 (El.t1 e) ⟨e.sd, 0, 0, ⟨#[]⟩, ⟨#[]⟩, false, ⟨0, 0, 0, 0, 0, 0, 0⟩⟩ = (⟨e.sd, e.k, e.sv, e.ru, ⟨#[]⟩, false, ⟨0, 0, 0, 0, 0, 0, 0⟩⟩, 0) := by
  obtain ⟨_, hk, _⟩ := el_parts h
  show El.saved (El.t1 e) _ = _
  unfold El.t1
  rcases kind_cases hk with ⟨k, s, r⟩ | ⟨k, ⟨s1, s2⟩, r⟩ | ⟨k, s, r⟩
  · rw [k, s, show e.ru = ⟨#[]⟩ from ByteArray.ext (Array.toList_inj.1 r)]
    rfl
  · rw [k, if_pos rfl, show e.ru = ⟨#[]⟩ from ByteArray.ext (Array.toList_inj.1 r)]
    unfold El.saved
    have hl : (⟨(txt e.sv).toArray⟩ : ByteArray).data.toList = txt e.sv := by simp
    rw [hl, if_neg (txt_dash s1 s2), if_pos (beg_txt s1 s2), parse_txt e.sv s1 s2]
  · obtain ⟨hb, hn⟩ := beg_name r
    rw [k, if_neg (by decide), if_pos rfl, s]
    unfold El.saved
    rw [if_neg hn, if_neg (by rw [hb]; decide), if_pos r]
theorem es2 (v : Er) : El.step 2 e.fm v = ({ v with fm := e.fm }, 0) := by
  obtain ⟨_, _, hf, _⟩ := el_parts h
  show El.form e.fm v = _
  unfold El.form
  rw [if_pos hf]
theorem erun3 : El.run 0 [El.t0 e, El.t1 e, e.fm] Er.zero = (⟨e.sd, e.k, e.sv, e.ru, e.fm, false, ⟨0, 0, 0, 0, 0, 0, 0⟩⟩, 0, 0) := by
  have e0 : El.step 0 (El.t0 e) ⟨0, 0, 0, ⟨#[]⟩, ⟨#[]⟩, false, ⟨0, 0, 0, 0, 0, 0, 0⟩⟩ = (⟨e.sd, 0, 0, ⟨#[]⟩, ⟨#[]⟩, false, ⟨0, 0, 0, 0, 0, 0, 0⟩⟩, 0) := es0 h _
  have e2 : El.step 2 e.fm ⟨e.sd, e.k, e.sv, e.ru, ⟨#[]⟩, false, ⟨0, 0, 0, 0, 0, 0, 0⟩⟩ = (⟨e.sd, e.k, e.sv, e.ru, e.fm, false, ⟨0, 0, 0, 0, 0, 0, 0⟩⟩, 0) := es2 h _
  rw [show Er.zero = ⟨0, 0, 0, ⟨#[]⟩, ⟨#[]⟩, false, ⟨0, 0, 0, 0, 0, 0, 0⟩⟩ from rfl, erun_step e0, erun_step (es1 h), erun_step e2]
  rfl
theorem etake3 (l : List ByteArray) : El.run 0 (([El.t0 e, El.t1 e, e.fm] ++ l).take 3) Er.zero = (⟨e.sd, e.k, e.sv, e.ru, e.fm, false, ⟨0, 0, 0, 0, 0, 0, 0⟩⟩, 0, 0) := erun3 h
theorem eback (c0 : 0 ≤ e.u.c) : El.prs (El.texts e) = (e, 0, 0) := by
  obtain ⟨_, _, _, he⟩ := el_parts h
  have h3 := etake3 h (El.rest e)
  unfold El.texts
  by_cases hn : e.en = true
  · unfold El.ends at he
    rw [if_pos hn] at he
    have hb := nd_bd (Mo.t1 e.u).data.toList (Mo.t2 e.u).data.toList (Mo.t3 e.u).data.toList
    have hrest : El.rest e = (Mo.texts e.u).take (Mo.ndU e.u) := by unfold El.rest; rw [if_pos hn]
    have hu : Mo.prsU ((Mo.texts e.u).take (Mo.ndU e.u)) = (e.u, 0, 0) := by
      rcases back_cases he c0 with ⟨q, r1, _⟩ | ⟨q, r1, _⟩ | ⟨q, r1, _⟩ | ⟨q, r1, _⟩ <;> rw [q] <;> exact r1
    have hl : (El.rest e).length = Mo.ndU e.u := by
      rw [hrest, List.length_take]
      show min (Mo.ndU e.u) 4 = Mo.ndU e.u
      unfold Mo.ndU
      omega
    rw [eprs_ends (i := 0) (u := e.u) h3 (by rw [List.length_append, hl]; show 3 < 3 + Mo.ndU e.u; unfold Mo.ndU; omega) (by
      show Mo.prsU (El.rest e) = _
      rw [hrest]
      exact hu)]
    obtain ⟨sd, k, sv, ru, fm, en, u⟩ := e
    simp only at hn ⊢
    subst hn
    rfl
  · have hn : e.en = false := by simpa using hn
    unfold El.ends at he
    rw [hn, if_neg (by decide)] at he
    have hz := nil_eq he
    have hr : El.rest e = [] := by unfold El.rest; rw [hn, if_neg (by decide)]
    rw [hr] at h3 ⊢
    rw [eprs_three h3 rfl]
    obtain ⟨sd, k, sv, ru, fm, en, u⟩ := e
    simp only at hn hz ⊢
    subst hn hz
    rfl
omit h in
theorem enum_len (e : Er) : (El.texts e).length = El.num e := by
  unfold El.texts El.rest El.num
  by_cases hn : e.en = true
  · rw [if_pos hn, if_pos hn, List.length_append, List.length_take]
    have hb := nd_bd (Mo.t1 e.u).data.toList (Mo.t2 e.u).data.toList (Mo.t3 e.u).data.toList
    show 3 + min (Mo.ndU e.u) 4 = 3 + Mo.ndU e.u
    unfold Mo.ndU
    omega
  · rw [if_neg hn, if_neg hn]
    rfl
omit h in
theorem enum_bd (e : Er) : (e.en = false → El.num e = 3) ∧ (e.en = true → 4 ≤ El.num e ∧ El.num e ≤ 7) := by
  unfold El.num
  have hb := nd_bd (Mo.t1 e.u).data.toList (Mo.t2 e.u).data.toList (Mo.t3 e.u).data.toList
  refine ⟨fun h => by rw [h, if_neg (by decide)], fun h => ?_⟩
  rw [if_pos h]
  unfold Mo.ndU
  omega
end
end Go.Proofs.YtigmbkcjmlpfoaaGreatDoor
