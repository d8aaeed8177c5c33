/- Rl, RuS, RuR, RuP, RuQ, RuT, Bx, RuleSize, one behind the other. -/
import Derived.Test.YtkcbmnboccjnnaaGreatDoorMc
import Derived.Test.YtkcbmnboccjnnaaGreatDoorMd
import Derived.OwnWalk
import Derived.Deep.RegionHeld3
import Derived.Deep.QuietTactic
import Derived.BigQuiet
/- Rules as numbers and texts: which are right, what texts tell, and that a right rule is read from its texts. No walk. -/


namespace Go.Proofs.YtkcbmnboccjnnaaGreatDoor
open Go.RowKit
/-- A rule: its name, nine numbers, its letter. -/
structure Ru where
  nm : ByteArray
  fr : Int
  tl : Int
  m : Int
  k : Int
  n : Int
  d : Int
  s : Int
  c : Int
  sv : Int
  lt : ByteArray
@[reducible] def ruV (r : Ru) : Value := .agg #[.string r.nm, .int .i64 r.fr, .int .i64 r.tl, .int .i64 r.m, .int .u8 r.k, .int .i64 r.n, .int .i64 r.d, .int .i64 r.s, .int .u8 r.c, .int .i64 r.sv, .string r.lt]
def Ru.zero : Ru := ⟨⟨#[]⟩, 0, 0, 0, 0, 0, 0, 0, 0, 0, ⟨#[]⟩⟩
def Rl.first (c : UInt8) : Bool := decide ((97 ≤ c.toNat ∧ c.toNat ≤ 122) ∨ (65 ≤ c.toNat ∧ c.toNat ≤ 90) ∨ c.toNat = 95)
def Rl.inn (c : UInt8) : Bool := decide ((97 ≤ c.toNat ∧ c.toNat ≤ 122) ∨ (65 ≤ c.toNat ∧ c.toNat ≤ 90) ∨ c.toNat = 95 ∨ (48 ≤ c.toNat ∧ c.toNat ≤ 57) ∨ c.toNat = 43 ∨ c.toNat = 45 ∨ c.toNat = 47)
/-- A text is a name. -/
def Rl.name (l : List UInt8) : Bool := decide (1 ≤ l.length ∧ l.length ≤ 64) && ((l.take 1).all Rl.first && l.all Rl.inn)
def Rl.time (t : Int) : Bool := decide (-604800 ≤ t ∧ t ≤ 604800)
def Rl.years (r : Ru) : Bool := decide (1 ≤ r.fr ∧ r.fr ≤ r.tl ∧ r.tl ≤ 9999)
def Rl.month (r : Ru) : Bool := decide (1 ≤ r.m ∧ r.m ≤ 12)
/-- A rule is right. -/
def Rl.right (r : Ru) : Bool := Rl.name r.nm.data.toList && (Rl.years r && (Rl.month r && (Dy.right r.k r.n r.d && (Mo.right r.s r.c && (Rl.time r.sv && Fm.ltr r.lt.data.toList)))))
theorem rl_parts {r : Ru} (h : Rl.right r = true) : Rl.name r.nm.data.toList = true ∧ (1 ≤ r.fr ∧ r.fr ≤ r.tl ∧ r.tl ≤ 9999) ∧ (1 ≤ r.m ∧ r.m ≤ 12) ∧ Dy.right r.k r.n r.d = true ∧ Mo.right r.s r.c = true ∧ (-604800 ≤ r.sv ∧ r.sv ≤ 604800) ∧ Fm.ltr r.lt.data.toList = true := by
  unfold Rl.right at h
  simp only [Bool.and_eq_true] at h
  obtain ⟨h1, h2, h3, h4, h5, h6, h7⟩ := h
  exact ⟨h1, of_decide_eq_true h2, of_decide_eq_true h3, h4, h5, of_decide_eq_true h6, h7⟩
theorem rl_of {r : Ru} (h1 : Rl.name r.nm.data.toList = true) (h2 : 1 ≤ r.fr ∧ r.fr ≤ r.tl ∧ r.tl ≤ 9999) (h3 : 1 ≤ r.m ∧ r.m ≤ 12) (h4 : Dy.right r.k r.n r.d = true) (h5 : Mo.right r.s r.c = true) (h6 : -604800 ≤ r.sv ∧ r.sv ≤ 604800) (h7 : Fm.ltr r.lt.data.toList = true) : Rl.right r = true := by
  unfold Rl.right
  rw [h1, h4, h5, h7, show Rl.years r = true from decide_eq_true h2, show Rl.month r = true from decide_eq_true h3, show Rl.time r.sv = true from decide_eq_true h6]
  rfl
def Rl.onlyW : ByteArray := ⟨#[111, 110, 108, 121]⟩
def Rl.maxW : ByteArray := ⟨#[109, 97, 120, 105, 109, 117, 109]⟩
def Rl.maxT : ByteArray := ⟨#[109, 97, 120]⟩
def Rl.ends : List ByteArray := [Rl.onlyW, Rl.maxW]
/-- The last year that a text tells of a rule from a year on, and why it tells none. -/
def Rl.till (fr : Int) (t : ByteArray) : Int × Int :=
  if Wd.pick t Rl.ends = 0 then (fr, 0) else if Wd.pick t Rl.ends = 1 then (9999, 0) else if Mo.yr t.data.toList = 0 then (0, 4) else if Mo.yr t.data.toList < fr then (0, 10) else (Mo.yr t.data.toList, 0)
/-- How much a text says is saved. -/
def Rl.save (l : List UInt8) : Int × Int := if l = [45] then (0, 0) else parseL l
/-- The letter that a text tells. -/
def Rl.lett (t : ByteArray) : ByteArray × Int := if t.data.toList = [45] then (⟨#[]⟩, 0) else if Fm.ltr t.data.toList = true then (t, 0) else (⟨#[]⟩, 4)
def Rl.nam (t : ByteArray) : ByteArray × Int := if Rl.name t.data.toList = true then (t, 0) else (⟨#[]⟩, 7)
/-- What a text at a place makes of a rule, and why it makes none. -/
def Rl.step (i : Nat) (t : ByteArray) (r : Ru) : Ru × Int :=
  match i with
  | 0 => ({ r with nm := (Rl.nam t).1 }, (Rl.nam t).2)
  | 1 => ({ r with fr := Mo.yr t.data.toList }, if Mo.yr t.data.toList = 0 then 4 else 0)
  | 2 => ({ r with tl := (Rl.till r.fr t).1 }, (Rl.till r.fr t).2)
  | 3 => (r, if t.data.toList = [45] then 0 else 4)
  | 4 => ({ r with m := Wd.pick t Wd.mons + 1 }, if Wd.pick t Wd.mons + 1 = 0 then 7 else 0)
  | 5 => match Dy.prs t with
    | some (k, n, d) => ({ r with k := k, n := n, d := d }, 0)
    | none => ({ r with k := 0, n := 0, d := 0 }, 4)
  | 6 => ({ r with s := (Mo.prs t.data.toList).1, c := ((Mo.prs t.data.toList).2.1 : Nat) }, (Mo.prs t.data.toList).2.2)
  | 7 => ({ r with sv := (Rl.save t.data.toList).1 }, (Rl.save t.data.toList).2)
  | _ => ({ r with lt := (Rl.lett t).1 }, (Rl.lett t).2)
/-- What texts from a place on make of a rule: it, or the place of what makes none, and why. -/
def Rl.run : Nat → List ByteArray → Ru → Ru × Nat × Int
  | _, [], r => (r, 0, 0)
  | i, t :: l, r => if (Rl.step i t r).2 = 0 then Rl.run (i + 1) l (Rl.step i t r).1 else (Ru.zero, i, (Rl.step i t r).2)
/-- The rule that texts tell, or the place of what tells none, and why. -/
def Rl.prs (L : List ByteArray) : Ru × Nat × Int :=
  if (Rl.run 0 (L.take 9) Ru.zero).2.2 ≠ 0 then Rl.run 0 (L.take 9) Ru.zero
  else if L.length < 9 then (Ru.zero, L.length, 5) else if 9 < L.length then (Ru.zero, 9, 6) else Rl.run 0 (L.take 9) Ru.zero
/-- What is right of a rule when so many texts are read. -/
structure Rl.good (i : Nat) (r : Ru) : Prop where
  g0 : 0 < i → Rl.name r.nm.data.toList = true
  g1 : 1 < i → 1 ≤ r.fr ∧ r.fr ≤ 9999
  g2 : 2 < i → r.fr ≤ r.tl ∧ r.tl ≤ 9999
  g4 : 4 < i → 1 ≤ r.m ∧ r.m ≤ 12
  g5 : 5 < i → Dy.right r.k r.n r.d = true
  g6 : 6 < i → Mo.right r.s r.c = true ∧ 0 ≤ r.c
  g7 : 7 < i → -604800 ≤ r.sv ∧ r.sv ≤ 604800
  g8 : 8 < i → Fm.ltr r.lt.data.toList = true
theorem rgood_zero : Rl.good 0 Ru.zero :=
  ⟨fun h => absurd h (by omega), fun h => absurd h (by omega), fun h => absurd h (by omega), fun h => absurd h (by omega), fun h => absurd h (by omega), fun h => absurd h (by omega), fun h => absurd h (by omega), fun h => absurd h (by omega)⟩
theorem rstep_ok (i : Nat) (hi : i < 9) (t : ByteArray) (r : Ru) (h : Rl.good i r) (hz : (Rl.step i t r).2 = 0) : Rl.good (i + 1) (Rl.step i t r).1 := by
  obtain ⟨g0, g1, g2, g4, g5, g6, g7, g8⟩ := h
  have hi9 : i = 0 ∨ i = 1 ∨ i = 2 ∨ i = 3 ∨ i = 4 ∨ i = 5 ∨ i = 6 ∨ i = 7 ∨ i = 8 := by omega
  rcases hi9 with rfl | rfl | rfl | rfl | rfl | rfl | rfl | rfl | rfl
  · have hz : (Rl.nam t).2 = 0 := hz
    have hn : Rl.name (Rl.nam t).1.data.toList = true := by
      unfold Rl.nam at *
      split at hz
      · rename_i h
        rw [if_pos h]
        exact h
      · cases hz
    exact ⟨fun _ => hn, fun h => absurd h (by omega), fun h => absurd h (by omega), fun h => absurd h (by omega), fun h => absurd h (by omega), fun h => absurd h (by omega), fun h => absurd h (by omega), fun h => absurd h (by omega)⟩
  · have hz : (if Mo.yr t.data.toList = 0 then (4 : Int) else 0) = 0 := hz
    have hn : Mo.yr t.data.toList ≠ 0 := fun e => by rw [if_pos e] at hz; cases hz
    exact ⟨fun _ => g0 (by omega), fun _ => yr_ok _ hn, fun h => absurd h (by omega), fun h => absurd h (by omega), fun h => absurd h (by omega), fun h => absurd h (by omega), fun h => absurd h (by omega), fun h => absurd h (by omega)⟩
  · have hz : (Rl.till r.fr t).2 = 0 := hz
    have hf := g1 (by omega)
    have hn : r.fr ≤ (Rl.till r.fr t).1 ∧ (Rl.till r.fr t).1 ≤ 9999 := by
      unfold Rl.till at *
      by_cases h0 : Wd.pick t Rl.ends = 0
      · rw [if_pos h0]; exact ⟨Int.le_refl _, hf.2⟩
      · rw [if_neg h0] at hz ⊢
        by_cases h1 : Wd.pick t Rl.ends = 1
        · rw [if_pos h1]; exact ⟨hf.2, Int.le_refl _⟩
        · rw [if_neg h1] at hz ⊢
          by_cases h2 : Mo.yr t.data.toList = 0
          · rw [if_pos h2] at hz; cases hz
          · rw [if_neg h2] at hz ⊢
            by_cases h3 : Mo.yr t.data.toList < r.fr
            · rw [if_pos h3] at hz; cases hz
            · rw [if_neg h3]
              exact ⟨by show r.fr ≤ Mo.yr t.data.toList; omega, (yr_ok _ h2).2⟩
    exact ⟨fun _ => g0 (by omega), fun _ => hf, fun _ => hn, fun h => absurd h (by omega), fun h => absurd h (by omega), fun h => absurd h (by omega), fun h => absurd h (by omega), fun h => absurd h (by omega)⟩
  · exact ⟨fun _ => g0 (by omega), fun _ => g1 (by omega), fun _ => g2 (by omega), fun h => absurd h (by omega), fun h => absurd h (by omega), fun h => absurd h (by omega), fun h => absurd h (by omega), fun h => absurd h (by omega)⟩
  · have hz : (if Wd.pick t Wd.mons + 1 = 0 then (7 : Int) else 0) = 0 := hz
    have hn : Wd.pick t Wd.mons + 1 ≠ 0 := fun e => by rw [if_pos e] at hz; cases hz
    have p1 := Wd.pick_ge t Wd.mons
    have p2 : Wd.pick t Wd.mons < 12 := Wd.pick_lt t Wd.mons
    exact ⟨fun _ => g0 (by omega), fun _ => g1 (by omega), fun _ => g2 (by omega), fun _ => ⟨by show 1 ≤ Wd.pick t Wd.mons + 1; omega, by show Wd.pick t Wd.mons + 1 ≤ 12; omega⟩, fun h => absurd h (by omega), fun h => absurd h (by omega), fun h => absurd h (by omega), fun h => absurd h (by omega)⟩
  · cases hp : Dy.prs t with
    | none =>
      have e : Rl.step 5 t r = ({ r with k := 0, n := 0, d := 0 }, 4) := by unfold Rl.step; rw [hp]; rfl
      rw [e] at hz
      cases hz
    | some q =>
      obtain ⟨k, n, d⟩ := q
      have e : Rl.step 5 t r = ({ r with k := k, n := n, d := d }, 0) := by unfold Rl.step; rw [hp]; rfl
      rw [e]
      exact ⟨fun _ => g0 (by omega), fun _ => g1 (by omega), fun _ => g2 (by omega), fun _ => g4 (by omega), fun _ => Dy.prs_right hp, fun h => absurd h (by omega), fun h => absurd h (by omega), fun h => absurd h (by omega)⟩
  · have hz : (Mo.prs t.data.toList).2.2 = 0 := hz
    exact ⟨fun _ => g0 (by omega), fun _ => g1 (by omega), fun _ => g2 (by omega), fun _ => g4 (by omega), fun _ => g5 (by omega), fun _ => ⟨prs_right _ hz, by show (0 : Int) ≤ (((Mo.prs t.data.toList).2.1 : Nat) : Int); omega⟩, fun h => absurd h (by omega), fun h => absurd h (by omega)⟩
  · have hz : (Rl.save t.data.toList).2 = 0 := hz
    have hn : -604800 ≤ (Rl.save t.data.toList).1 ∧ (Rl.save t.data.toList).1 ≤ 604800 := by
      unfold Rl.save at *
      by_cases h0 : t.data.toList = [45]
      · rw [if_pos h0]; exact ⟨by decide, by decide⟩
      · rw [if_neg h0] at hz ⊢; exact parse_ok _ hz
    exact ⟨fun _ => g0 (by omega), fun _ => g1 (by omega), fun _ => g2 (by omega), fun _ => g4 (by omega), fun _ => g5 (by omega), fun _ => g6 (by omega), fun _ => hn, fun h => absurd h (by omega)⟩
  · have hz : (Rl.lett t).2 = 0 := hz
    have hn : Fm.ltr (Rl.lett t).1.data.toList = true := by
      unfold Rl.lett at *
      by_cases h0 : t.data.toList = [45]
      · rw [if_pos h0]; decide +kernel
      · rw [if_neg h0] at hz ⊢
        by_cases h1 : Fm.ltr t.data.toList = true
        · rw [if_pos h1]; exact h1
        · rw [if_neg h1] at hz; cases hz
    exact ⟨fun _ => g0 (by omega), fun _ => g1 (by omega), fun _ => g2 (by omega), fun _ => g4 (by omega), fun _ => g5 (by omega), fun _ => g6 (by omega), fun _ => g7 (by omega), fun _ => hn⟩
theorem rrun_ok : ∀ (l : List ByteArray) (i : Nat) (r : Ru), i + l.length ≤ 9 → Rl.good i r →
    ((Rl.run i l r).2.2 = 0 → (Rl.run i l r).2.1 = 0 ∧ Rl.good (i + l.length) (Rl.run i l r).1) ∧ ((Rl.run i l r).2.2 ≠ 0 → (Rl.run i l r).1 = Ru.zero ∧ (Rl.run i l r).2.1 < i + l.length)
  | [], i, r, _, hg => by
    unfold Rl.run
    exact ⟨fun _ => ⟨rfl, hg⟩, fun h => absurd rfl h⟩
  | t :: l, i, r, hl, hg => by
    have hl' : i + (l.length + 1) ≤ 9 := by simpa using hl
    unfold Rl.run
    by_cases h0 : (Rl.step i t r).2 = 0
    · rw [if_pos h0]
      have ih := rrun_ok l (i + 1) (Rl.step i t r).1 (by omega) (rstep_ok i (by omega) t r hg h0)
      rw [show i + (t :: l).length = i + 1 + l.length by simp; omega]
      exact ih
    · rw [if_neg h0]
      refine ⟨fun h => absurd h h0, fun _ => ⟨rfl, ?_⟩⟩
      show i < i + (t :: l).length
      simp
/-- What is read of any texts. -/
theorem rprs_ok (L : List ByteArray) : ((Rl.prs L).2.2 = 0 → (Rl.prs L).2.1 = 0 ∧ Rl.right (Rl.prs L).1 = true ∧ 0 ≤ (Rl.prs L).1.c ∧ L.length = 9) ∧
    ((Rl.prs L).2.2 ≠ 0 → (Rl.prs L).1 = Ru.zero ∧ (Rl.prs L).2.1 ≤ 9 ∧ (Rl.prs L).2.1 ≤ L.length) := by
  have hlen : (L.take 9).length = min 9 L.length := List.length_take
  have hr := rrun_ok (L.take 9) 0 Ru.zero (by omega) rgood_zero
  unfold Rl.prs
  by_cases h0 : (Rl.run 0 (L.take 9) Ru.zero).2.2 ≠ 0
  · rw [if_pos h0]
    obtain ⟨e, g⟩ := hr.2 h0
    exact ⟨fun h => absurd h h0, fun _ => ⟨e, by omega, by omega⟩⟩
  · rw [if_neg h0]
    by_cases h1 : L.length < 9
    · rw [if_pos h1]
      exact ⟨(fun h => by cases h), fun _ => ⟨rfl, by show L.length ≤ 9; omega, Nat.le_refl _⟩⟩
    · rw [if_neg h1]
      by_cases h2 : 9 < L.length
      · rw [if_pos h2]
        exact ⟨(fun h => by cases h), fun _ => ⟨rfl, Nat.le_refl _, by show 9 ≤ L.length; omega⟩⟩
      · rw [if_neg h2]
        refine ⟨fun h => ?_, fun h => absurd h h0⟩
        obtain ⟨e, g⟩ := hr.1 h
        rw [show 0 + (L.take 9).length = 9 by omega] at g
        obtain ⟨g0, g1, g2, g4, g5, g6, g7, g8⟩ := g
        have g2' := g2 (by omega)
        exact ⟨e, rl_of (g0 (by omega)) ⟨(g1 (by omega)).1, g2'.1, g2'.2⟩ (g4 (by omega)) (g5 (by omega)) (g6 (by omega)).1 (g7 (by omega)) (g8 (by omega)), (g6 (by omega)).2, by omega⟩
/-- The texts of a right rule. -/
def Rl.t1 (r : Ru) : ByteArray := ⟨(Lib.itoa r.fr).toArray⟩
def Rl.t2 (r : Ru) : ByteArray := if r.tl = r.fr then Rl.onlyW else if r.tl = 9999 then Rl.maxT else ⟨(Lib.itoa r.tl).toArray⟩
def Rl.t4 (r : Ru) : ByteArray := Wd.three Wd.mons (r.m - 1).toNat
def Rl.t5 (r : Ru) : ByteArray := Dy.txt r.k r.n r.d
def Rl.t6 (r : Ru) : ByteArray := ⟨(Mo.txt r.s r.c).toArray⟩
def Rl.t7 (r : Ru) : ByteArray := ⟨(txt r.sv).toArray⟩
def Rl.t8 (r : Ru) : ByteArray := if r.lt.data.toList = [] then ⟨#[45]⟩ else r.lt
def Rl.texts (r : Ru) : List ByteArray := [r.nm, Rl.t1 r, Rl.t2 r, ⟨#[45]⟩, Rl.t4 r, Rl.t5 r, Rl.t6 r, Rl.t7 r, Rl.t8 r]
theorem sm_digit {c : UInt8} (h : Txt.isD c = true) : Wd.sm c = c := by
  unfold Wd.sm
  have := (isD_iff c).1 h
  rw [if_neg (by omega)]
/-- Digits mean neither word. -/
theorem pick_digits {t : ByteArray} (h : t.data.toList.all Txt.isD = true) : Wd.pick t Rl.ends = -1 := by
  rcases Wd.pick_place t Rl.ends with e | ⟨h0, k, _, hk, x, hx, hb⟩
  · exact e
  · exfalso
    have hz : 0 < t.size := Nat.pos_of_ne_zero h0
    have hd : Txt.isD t[0] = true := List.all_eq_true.1 h _ (List.mem_of_getElem? (Lib.data_getElem? t 0 hz))
    have hk2 : k = 0 ∨ k = 1 := by
      have : Rl.ends.length = 2 := rfl
      omega
    rcases hk2 with rfl | rfl
    · obtain rfl : Rl.onlyW = x := by simpa [Rl.ends] using hx
      have := Wd.beg_at hb 0 hz (by decide)
      rw [sm_digit hd] at this
      rw [← this] at hd
      revert hd
      decide +kernel
    · obtain rfl : Rl.maxW = x := by simpa [Rl.ends] using hx
      have := Wd.beg_at hb 0 hz (by decide)
      rw [sm_digit hd] at this
      rw [← this] at hd
      revert hd
      decide +kernel
theorem rt_year (y : Int) (h1 : 1 ≤ y) (h2 : y ≤ 9999) : Mo.yr (⟨(Lib.itoa y).toArray⟩ : ByteArray).data.toList = y := by
  show Mo.yr (Lib.itoa y).toArray.toList = y
  rw [List.toList_toArray]
  exact yr_itoa y h1 h2
theorem rrun_step {i : Nat} {t : ByteArray} {l : List ByteArray} {v v' : Ru} (h : Rl.step i t v = (v', 0)) : Rl.run i (t :: l) v = Rl.run (i + 1) l v' := by
  rw [Rl.run, h, if_pos rfl]
section
variable {r : Ru} (h : Rl.right r = true) (c0 : 0 ≤ r.c)
include h
theorem rt_till : Rl.till r.fr (Rl.t2 r) = (r.tl, 0) := by
  obtain ⟨_, ⟨y1, y2, y3⟩, _⟩ := rl_parts h
  unfold Rl.t2
  by_cases h1 : r.tl = r.fr
  · rw [if_pos h1]
    unfold Rl.till
    rw [if_pos (by decide +kernel), h1]
  · rw [if_neg h1]
    by_cases h2 : r.tl = 9999
    · rw [if_pos h2]
      unfold Rl.till
      rw [if_neg (by decide +kernel), if_pos (by decide +kernel), h2]
    · rw [if_neg h2]
      have hp : Wd.pick (⟨(Lib.itoa r.tl).toArray⟩ : ByteArray) Rl.ends = -1 := pick_digits (by
        show (Lib.itoa r.tl).toArray.toList.all Txt.isD = true
        rw [List.toList_toArray]
        exact itoa_all _ (by omega))
      have hy := rt_year r.tl (by omega) y3
      unfold Rl.till
      rw [hp, if_neg (by decide), if_neg (by decide), hy, if_neg (by omega), if_neg (by omega)]
theorem rs0 (v : Ru) : Rl.step 0 r.nm v = ({ v with nm := r.nm }, 0) := by
  have e : Rl.nam r.nm = (r.nm, 0) := by unfold Rl.nam; rw [if_pos (rl_parts h).1]
  show (({ v with nm := (Rl.nam r.nm).1 } : Ru), (Rl.nam r.nm).2) = _
  rw [e]
theorem rs1 (v : Ru) : Rl.step 1 (Rl.t1 r) v = ({ v with fr := r.fr }, 0) := by
  obtain ⟨_, ⟨y1, y2, y3⟩, _⟩ := rl_parts h
  have e := rt_year r.fr y1 (by omega)
  show (({ v with fr := Mo.yr (Rl.t1 r).data.toList } : Ru), if Mo.yr (Rl.t1 r).data.toList = 0 then (4 : Int) else 0) = _
  unfold Rl.t1
  rw [e, if_neg (by omega)]
theorem rs2 (v : Ru) (hv : v.fr = r.fr) : Rl.step 2 (Rl.t2 r) v = ({ v with tl := r.tl }, 0) := by
  have e := rt_till h
  show (({ v with tl := (Rl.till v.fr (Rl.t2 r)).1 } : Ru), (Rl.till v.fr (Rl.t2 r)).2) = _
  rw [hv, e]
omit h in
theorem rs3 (v : Ru) : Rl.step 3 ⟨#[45]⟩ v = (v, 0) := rfl
theorem rs4 (v : Ru) : Rl.step 4 (Rl.t4 r) v = ({ v with m := r.m }, 0) := by
  obtain ⟨_, _, ⟨m1, m2⟩, _⟩ := rl_parts h
  have e : Wd.pick (Rl.t4 r) Wd.mons + 1 = r.m := by
    have := (Wd.mons_back (r.m - 1).toNat (by omega)).1
    show Wd.pick (Wd.three Wd.mons (r.m - 1).toNat) Wd.mons + 1 = r.m
    rw [this]
    omega
  show (({ v with m := Wd.pick (Rl.t4 r) Wd.mons + 1 } : Ru), if Wd.pick (Rl.t4 r) Wd.mons + 1 = 0 then (7 : Int) else 0) = _
  rw [e, if_neg (by omega)]
theorem rs5 (v : Ru) : Rl.step 5 (Rl.t5 r) v = ({ v with k := r.k, n := r.n, d := r.d }, 0) := by
  obtain ⟨_, _, _, hd, _⟩ := rl_parts h
  unfold Rl.step
  rw [show Dy.prs (Rl.t5 r) = some (r.k, r.n, r.d) from Dy.back hd]
  rfl
include c0 in
theorem rs6 (v : Ru) : Rl.step 6 (Rl.t6 r) v = ({ v with s := r.s, c := r.c }, 0) := by
  obtain ⟨_, _, _, _, hm, _⟩ := rl_parts h
  have e : ((r.c.toNat : Nat) : Int) = r.c := by omega
  have hp : Mo.prs (Rl.t6 r).data.toList = (r.s, r.c.toNat, 0) := by
    show Mo.prs (Mo.txt r.s r.c).toArray.toList = _
    rw [List.toList_toArray, ← e]
    exact prs_txt r.s r.c.toNat (by rw [e]; exact hm)
  show (({ v with s := (Mo.prs (Rl.t6 r).data.toList).1, c := (((Mo.prs (Rl.t6 r).data.toList).2.1 : Nat) : Int) } : Ru), (Mo.prs (Rl.t6 r).data.toList).2.2) = _
  rw [hp]
  show (({ v with s := r.s, c := ((r.c.toNat : Nat) : Int) } : Ru), (0 : Int)) = _
  rw [e]
theorem rs7 (v : Ru) : Rl.step 7 (Rl.t7 r) v = ({ v with sv := r.sv }, 0) := by
  obtain ⟨_, _, _, _, _, ⟨s1, s2⟩, _⟩ := rl_parts h
  have e : Rl.save (Rl.t7 r).data.toList = (r.sv, 0) := by
    show Rl.save (txt r.sv).toArray.toList = _
    rw [List.toList_toArray]
    unfold Rl.save
    have hp := parse_txt r.sv s1 s2
    rw [if_neg (fun e => by
      rw [e] at hp
      have h2 : (parseL [45]).2 = 0 := congrArg Prod.snd hp
      revert h2
      decide +kernel), hp]
  show (({ v with sv := (Rl.save (Rl.t7 r).data.toList).1 } : Ru), (Rl.save (Rl.t7 r).data.toList).2) = _
  rw [e]
theorem rs8 (v : Ru) : Rl.step 8 (Rl.t8 r) v = ({ v with lt := r.lt }, 0) := by
  obtain ⟨_, _, _, _, _, _, hl⟩ := rl_parts h
  have e : Rl.lett (Rl.t8 r) = (r.lt, 0) := by
    unfold Rl.t8 Rl.lett
    by_cases h0 : r.lt.data.toList = []
    · rw [if_pos h0, if_pos rfl, show r.lt = ⟨#[]⟩ from ByteArray.ext (Array.toList_inj.1 h0)]
    · rw [if_neg h0, if_neg (fun e => by rw [e] at hl; revert hl; decide +kernel), if_pos hl]
  show (({ v with lt := (Rl.lett (Rl.t8 r)).1 } : Ru), (Rl.lett (Rl.t8 r)).2) = _
  rw [e]
include c0
theorem rrun9 : Rl.run 0 (Rl.texts r) Ru.zero = (r, 0, 0) := by
  have e0 : Rl.step 0 r.nm ⟨⟨#[]⟩, 0, 0, 0, 0, 0, 0, 0, 0, 0, ⟨#[]⟩⟩ = (⟨r.nm, 0, 0, 0, 0, 0, 0, 0, 0, 0, ⟨#[]⟩⟩, 0) := rs0 h _
  have e1 : Rl.step 1 (Rl.t1 r) ⟨r.nm, 0, 0, 0, 0, 0, 0, 0, 0, 0, ⟨#[]⟩⟩ = (⟨r.nm, r.fr, 0, 0, 0, 0, 0, 0, 0, 0, ⟨#[]⟩⟩, 0) := rs1 h _
  have e2 : Rl.step 2 (Rl.t2 r) ⟨r.nm, r.fr, 0, 0, 0, 0, 0, 0, 0, 0, ⟨#[]⟩⟩ = (⟨r.nm, r.fr, r.tl, 0, 0, 0, 0, 0, 0, 0, ⟨#[]⟩⟩, 0) := rs2 h _ rfl
  have e3 : Rl.step 3 ⟨#[45]⟩ ⟨r.nm, r.fr, r.tl, 0, 0, 0, 0, 0, 0, 0, ⟨#[]⟩⟩ = (⟨r.nm, r.fr, r.tl, 0, 0, 0, 0, 0, 0, 0, ⟨#[]⟩⟩, 0) := rs3 _
  have e4 : Rl.step 4 (Rl.t4 r) ⟨r.nm, r.fr, r.tl, 0, 0, 0, 0, 0, 0, 0, ⟨#[]⟩⟩ = (⟨r.nm, r.fr, r.tl, r.m, 0, 0, 0, 0, 0, 0, ⟨#[]⟩⟩, 0) := rs4 h _
  have e5 : Rl.step 5 (Rl.t5 r) ⟨r.nm, r.fr, r.tl, r.m, 0, 0, 0, 0, 0, 0, ⟨#[]⟩⟩ = (⟨r.nm, r.fr, r.tl, r.m, r.k, r.n, r.d, 0, 0, 0, ⟨#[]⟩⟩, 0) := rs5 h _
  have e6 : Rl.step 6 (Rl.t6 r) ⟨r.nm, r.fr, r.tl, r.m, r.k, r.n, r.d, 0, 0, 0, ⟨#[]⟩⟩ = (⟨r.nm, r.fr, r.tl, r.m, r.k, r.n, r.d, r.s, r.c, 0, ⟨#[]⟩⟩, 0) := rs6 h c0 _
  have e7 : Rl.step 7 (Rl.t7 r) ⟨r.nm, r.fr, r.tl, r.m, r.k, r.n, r.d, r.s, r.c, 0, ⟨#[]⟩⟩ = (⟨r.nm, r.fr, r.tl, r.m, r.k, r.n, r.d, r.s, r.c, r.sv, ⟨#[]⟩⟩, 0) := rs7 h _
  have e8 : Rl.step 8 (Rl.t8 r) ⟨r.nm, r.fr, r.tl, r.m, r.k, r.n, r.d, r.s, r.c, r.sv, ⟨#[]⟩⟩ = (⟨r.nm, r.fr, r.tl, r.m, r.k, r.n, r.d, r.s, r.c, r.sv, r.lt⟩, 0) := rs8 h _
  unfold Rl.texts
  rw [show Ru.zero = ⟨⟨#[]⟩, 0, 0, 0, 0, 0, 0, 0, 0, 0, ⟨#[]⟩⟩ from rfl]
  rw [rrun_step e0, rrun_step e1, rrun_step e2, rrun_step e3, rrun_step e4, rrun_step e5, rrun_step e6, rrun_step e7, rrun_step e8]
  rfl
theorem rrun8 : (Rl.run 0 [r.nm, Rl.t1 r, Rl.t2 r, ⟨#[45]⟩, Rl.t4 r, Rl.t5 r, Rl.t6 r, Rl.t7 r] Ru.zero).2.2 = 0 := by
  have e0 : Rl.step 0 r.nm ⟨⟨#[]⟩, 0, 0, 0, 0, 0, 0, 0, 0, 0, ⟨#[]⟩⟩ = (⟨r.nm, 0, 0, 0, 0, 0, 0, 0, 0, 0, ⟨#[]⟩⟩, 0) := rs0 h _
  have e1 : Rl.step 1 (Rl.t1 r) ⟨r.nm, 0, 0, 0, 0, 0, 0, 0, 0, 0, ⟨#[]⟩⟩ = (⟨r.nm, r.fr, 0, 0, 0, 0, 0, 0, 0, 0, ⟨#[]⟩⟩, 0) := rs1 h _
  have e2 : Rl.step 2 (Rl.t2 r) ⟨r.nm, r.fr, 0, 0, 0, 0, 0, 0, 0, 0, ⟨#[]⟩⟩ = (⟨r.nm, r.fr, r.tl, 0, 0, 0, 0, 0, 0, 0, ⟨#[]⟩⟩, 0) := rs2 h _ rfl
  have e3 : Rl.step 3 ⟨#[45]⟩ ⟨r.nm, r.fr, r.tl, 0, 0, 0, 0, 0, 0, 0, ⟨#[]⟩⟩ = (⟨r.nm, r.fr, r.tl, 0, 0, 0, 0, 0, 0, 0, ⟨#[]⟩⟩, 0) := rs3 _
  have e4 : Rl.step 4 (Rl.t4 r) ⟨r.nm, r.fr, r.tl, 0, 0, 0, 0, 0, 0, 0, ⟨#[]⟩⟩ = (⟨r.nm, r.fr, r.tl, r.m, 0, 0, 0, 0, 0, 0, ⟨#[]⟩⟩, 0) := rs4 h _
  have e5 : Rl.step 5 (Rl.t5 r) ⟨r.nm, r.fr, r.tl, r.m, 0, 0, 0, 0, 0, 0, ⟨#[]⟩⟩ = (⟨r.nm, r.fr, r.tl, r.m, r.k, r.n, r.d, 0, 0, 0, ⟨#[]⟩⟩, 0) := rs5 h _
  have e6 : Rl.step 6 (Rl.t6 r) ⟨r.nm, r.fr, r.tl, r.m, r.k, r.n, r.d, 0, 0, 0, ⟨#[]⟩⟩ = (⟨r.nm, r.fr, r.tl, r.m, r.k, r.n, r.d, r.s, r.c, 0, ⟨#[]⟩⟩, 0) := rs6 h c0 _
  have e7 : Rl.step 7 (Rl.t7 r) ⟨r.nm, r.fr, r.tl, r.m, r.k, r.n, r.d, r.s, r.c, 0, ⟨#[]⟩⟩ = (⟨r.nm, r.fr, r.tl, r.m, r.k, r.n, r.d, r.s, r.c, r.sv, ⟨#[]⟩⟩, 0) := rs7 h _
  rw [show Ru.zero = ⟨⟨#[]⟩, 0, 0, 0, 0, 0, 0, 0, 0, 0, ⟨#[]⟩⟩ from rfl]
  rw [rrun_step e0, rrun_step e1, rrun_step e2, rrun_step e3, rrun_step e4, rrun_step e5, rrun_step e6, rrun_step e7]
  rfl
theorem rback : Rl.prs (Rl.texts r) = (r, 0, 0) := by
  unfold Rl.prs
  rw [show (Rl.texts r).take 9 = Rl.texts r from rfl, rrun9 h c0]
  rfl
theorem rback8 : Rl.prs ((Rl.texts r).take 8) = (Ru.zero, 8, 5) := by
  have e : (Rl.run 0 ((Rl.texts r).take 8) Ru.zero).2.2 = 0 := rrun8 h c0
  unfold Rl.prs
  rw [show ((Rl.texts r).take 8).take 9 = (Rl.texts r).take 8 from rfl, if_neg (fun hn => hn e)]
  rfl
end
end Go.Proofs.YtkcbmnboccjnnaaGreatDoor
/- Contracts of package rule: isFirst, isInName, Name; rise, with slices.IsSorted at two to four numbers. -/


namespace Go.Proofs.YtkcbmnboccjnnaaGreatDoor
open Go.RowKit
theorem first_yes {c : UInt8} (h : (97 ≤ (c.toNat : Int) ∧ (c.toNat : Int) ≤ 122) ∨ (65 ≤ (c.toNat : Int) ∧ (c.toNat : Int) ≤ 90) ∨ (c.toNat : Int) = 95) : true = Rl.first c := by
  symm
  unfold Rl.first
  rw [decide_eq_true_eq]
  omega
theorem first_no {c : UInt8} (h : ¬ ((97 ≤ (c.toNat : Int) ∧ (c.toNat : Int) ≤ 122) ∨ (65 ≤ (c.toNat : Int) ∧ (c.toNat : Int) ≤ 90) ∨ (c.toNat : Int) = 95)) : false = Rl.first c := by
  symm
  unfold Rl.first
  rw [decide_eq_false_iff_not]
  omega
theorem isFirst_any (c : UInt8) (w : World) : Calls Tryz.prog 95 #[.int .u8 (c.toNat : Int)] w fun e w' => e = .returned (.bool (Rl.first c)) ∧ w = w' := by
  have hb := c.toNat_lt
  by_cases e1 : c.toNat = 95
  · obtain rfl : c = 95 := UInt8.toNat_inj.1 e1
    clear hb e1
    go_enter Tryz.func95, Tryz.ntmps95
    go_wp2_with fail
    go_ret
    exact ⟨rfl, rfl⟩
  · have t1 : ((c.toNat : Int) == 95) = false := by rw [beq_eq_false_iff_ne]; omega
    have E1 := Lib.hid e1
    clear e1
    go_enter Tryz.func95, Tryz.ntmps95
    go_wp2_with fail
    all_goals
      go_ret
      have h1 := E1.out
      exact ⟨ret_bool (by first | exact first_yes (by omega) | exact first_no (by omega) | (unfold Rl.first; rw [Bool.eq_iff_iff]; simp only [Bool.or_eq_true, decide_eq_true_eq]; omega)), rfl⟩
theorem isFirst_is (c : UInt8) (v : Bool) (w : World) (h : Rl.first c = v) : Calls Tryz.prog 95 #[.int .u8 (c.toNat : Int)] w fun e w' => e = .returned (.bool v) ∧ w = w' := by
  subst h
  exact isFirst_any c w
theorem inn_first {c : UInt8} (h : Rl.first c = true) : true = Rl.inn c := by
  have := of_decide_eq_true h
  symm
  unfold Rl.inn
  rw [decide_eq_true_eq]
  omega
theorem inn_yes {c : UInt8} (h : 48 ≤ (c.toNat : Int) ∧ (c.toNat : Int) ≤ 57) : true = Rl.inn c := by
  symm
  unfold Rl.inn
  rw [decide_eq_true_eq]
  omega
theorem inn_no {c : UInt8} (h : Rl.first c = false) (h1 : ¬ (48 ≤ (c.toNat : Int) ∧ (c.toNat : Int) ≤ 57)) (h2 : c.toNat ≠ 43) (h3 : c.toNat ≠ 45) (h4 : c.toNat ≠ 47) : false = Rl.inn c := by
  have := of_decide_eq_false h
  symm
  unfold Rl.inn
  rw [decide_eq_false_iff_not]
  omega
theorem isInName_any (c : UInt8) (w : World) : Calls Tryz.prog 96 #[.int .u8 (c.toNat : Int)] w fun e w' => e = .returned (.bool (Rl.inn c)) ∧ w = w' := by
  have hb := c.toNat_lt
  cases hd : Rl.first c with
  | true =>
    have HD := Lib.hid hd
    clear hd hb
    go_enter Tryz.func96, Tryz.ntmps96
    go_wp2_with fail
    refine (isFirst_is c true _ HD.out).mono ?_
    rintro e w' ⟨rfl, rfl⟩
    go_wp2_with fail
    go_ret
    exact ⟨ret_bool (inn_first HD.out), rfl⟩
  | false =>
    have HD := Lib.hid hd
    clear hd
    by_cases e43 : c.toNat = 43
    · obtain rfl : c = 43 := UInt8.toNat_inj.1 e43
      clear hb e43
      go_enter Tryz.func96, Tryz.ntmps96
      go_wp2_with fail
      refine (isFirst_is 43 false _ HD.out).mono ?_
      rintro e w' ⟨rfl, rfl⟩
      go_wp2_with fail
      go_ret
      exact ⟨rfl, rfl⟩
    by_cases e45 : c.toNat = 45
    · obtain rfl : c = 45 := UInt8.toNat_inj.1 e45
      clear hb e45
      go_enter Tryz.func96, Tryz.ntmps96
      go_wp2_with fail
      refine (isFirst_is 45 false _ HD.out).mono ?_
      rintro e w' ⟨rfl, rfl⟩
      go_wp2_with fail
      go_ret
      exact ⟨rfl, rfl⟩
    by_cases e47 : c.toNat = 47
    · obtain rfl : c = 47 := UInt8.toNat_inj.1 e47
      clear hb e47
      go_enter Tryz.func96, Tryz.ntmps96
      go_wp2_with fail
      refine (isFirst_is 47 false _ HD.out).mono ?_
      rintro e w' ⟨rfl, rfl⟩
      go_wp2_with fail
      go_ret
      exact ⟨rfl, rfl⟩
    have t43 : ((c.toNat : Int) == 43) = false := by rw [beq_eq_false_iff_ne]; omega
    have E43 := Lib.hid e43
    have t45 : ((c.toNat : Int) == 45) = false := by rw [beq_eq_false_iff_ne]; omega
    have E45 := Lib.hid e45
    have t47 : ((c.toNat : Int) == 47) = false := by rw [beq_eq_false_iff_ne]; omega
    have E47 := Lib.hid e47
    clear e43 e45 e47
    go_enter Tryz.func96, Tryz.ntmps96
    go_wp2_with fail
    refine (isFirst_is c false _ HD.out).mono ?_
    rintro e w' ⟨rfl, rfl⟩
    go_wp2_with fail
    all_goals
      go_ret
      have hd := of_decide_eq_false HD.out
      have h43 := E43.out
      have h45 := E45.out
      have h47 := E47.out
      exact ⟨ret_bool (by first | exact inn_yes (by omega) | exact inn_no HD.out (by omega) h43 h45 h47 | (unfold Rl.inn; rw [Bool.eq_iff_iff]; simp only [decide_eq_true_eq]; omega)), rfl⟩
theorem isInName_is (c : UInt8) (v : Bool) (w : World) (h : Rl.inn c = v) : Calls Tryz.prog 96 #[.int .u8 (c.toNat : Int)] w fun e w' => e = .returned (.bool v) ∧ w = w' := by
  subst h
  exact isInName_any c w
theorem name_head {s : ByteArray} (h : 0 < s.size) : s.data.toList.take 1 = [s[0]] := by
  have := take_snoc s 0 h
  simpa using this
theorem inn_stop {s : ByteArray} {k : Nat} (h : k < s.size) (hc : Rl.inn s[k] = false) : s.data.toList.all Rl.inn = false := by
  rw [List.all_eq_false]
  refine ⟨s[k], ?_, by rw [hc]; simp⟩
  have : s.data.toList[k]? = some s[k] := Lib.data_getElem? s k h
  exact List.mem_of_getElem? this
theorem name_size {s : ByteArray} (h : ¬ (1 ≤ s.size ∧ s.size ≤ 64)) : false = Rl.name s.data.toList := by
  have hz : s.data.toList.length = s.size := by simp
  unfold Rl.name
  rw [hz, show decide (1 ≤ s.size ∧ s.size ≤ 64) = false from decide_eq_false h]
  rfl
theorem name_in {s : ByteArray} (h1 : 1 ≤ s.size) (h2 : s.size ≤ 64) : Rl.name s.data.toList = (Rl.first s[0] && s.data.toList.all Rl.inn) := by
  have hz : s.data.toList.length = s.size := by simp
  unfold Rl.name
  rw [hz, name_head (by omega), show decide (1 ≤ s.size ∧ s.size ≤ 64) = true from decide_eq_true ⟨h1, h2⟩]
  simp
set_option maxHeartbeats 1000000 in
theorem rname_any (s : ByteArray) (w : World) (hs : s.size ≤ 9223372036854775807) : Calls Tryz.prog 55 #[.string s] w fun e w' => e = .returned (.bool (Rl.name s.data.toList)) ∧ w = w' := by
  by_cases h1 : 1 ≤ s.size
  · by_cases h2 : s.size ≤ 64
    · have hi0 : ∀ W, (Instr.index 9 (.string s) (.int .i64 0)).run Tryz.prog W = .ok (.int .u8 (s[0].toNat : Int)) W := fun W => by simpa using idx_any s .i64 0 (by omega) W
      have hn := name_in h1 h2
      cases hf : Rl.first s[0] with
      | false =>
        have HE := Lib.hid (show false = Rl.name s.data.toList by rw [hn, hf]; rfl)
        have HF := Lib.hid hf
        clear hn hf
        generalize s[0] = c at *
        go_enter Tryz.func55, Tryz.ntmps55
        go_wp2_with fail
        refine (isFirst_is c false _ HF.out).mono ?_
        rintro e w' ⟨rfl, rfl⟩
        go_wp2_with fail
        go_ret
        exact ⟨ret_bool HE.out, rfl⟩
      | true =>
        have HN := Lib.hid (show Rl.name s.data.toList = s.data.toList.all Rl.inn by rw [hn, hf]; rfl)
        have HF := Lib.hid hf
        clear hn hf
        generalize s[0] = c at *
        go_enter Tryz.func55, Tryz.ntmps55
        go_wp2_with fail
        refine (isFirst_is c true _ HF.out).mono ?_
        rintro e w' ⟨rfl, rfl⟩
        clear hi0
        go_wp2_with fail
        go_loop [20] (fun i => ∃ k : Nat, k ≤ s.size ∧ i = .int .i64 k ∧ Hid ((s.data.toList.take k).all Rl.inn = true)) (fun i => s.size - (intOf i).toNat)
        case atStart => exact ⟨0, Nat.zero_le _, rfl, rfl⟩
        case round =>
          obtain ⟨k, hk, rfl, hA⟩ := hrel
          by_cases hlt : k < s.size
          · have hi := idx_any s .i64 k hlt
            have hT := take_snoc s k hlt
            cases hc : Rl.inn s[k] with
            | false =>
              have HE := Lib.hid (show false = Rl.name s.data.toList by rw [HN.out, inn_stop hlt hc])
              have HC := Lib.hid hc
              clear hc hT hA
              generalize s[k] = x at *
              go_wp2_with fail
              refine (isInName_is x false _ HC.out).mono ?_
              rintro e w' ⟨rfl, rfl⟩
              go_wp2_with fail
              go_ret
              exact ⟨ret_bool HE.out, rfl⟩
            | true =>
              have HA := Lib.hid (show (s.data.toList.take (k + 1)).all Rl.inn = true by rw [hT, List.all_append, hA.out]; simp [hc])
              have HC := Lib.hid hc
              clear hc hT hA
              generalize s[k] = x at *
              go_wp2_with fail
              refine (isInName_is x true _ HC.out).mono ?_
              rintro e w' ⟨rfl, rfl⟩
              go_wp2_with fail
              go_round
              case rel => exact ⟨k + 1, by omega, by go_num, HA⟩
              case measure => simp [intOf]; omega
          · obtain rfl : k = s.size := by omega
            have HE := Lib.hid (show true = Rl.name s.data.toList by rw [HN.out, ← hA.out, take_all])
            clear hA
            go_wp2_with fail
            go_ret
            exact ⟨ret_bool HE.out, rfl⟩
    · have HE := Lib.hid (name_size (s := s) (by omega))
      have h2' : 64 < s.size := by omega
      clear h2
      go_enter Tryz.func55, Tryz.ntmps55
      go_wp2_with fail
      go_ret
      exact ⟨ret_bool HE.out, rfl⟩
  · have HE := Lib.hid (name_size (s := s) (by omega))
    have h1' : s.size < 1 := by omega
    clear h1
    go_enter Tryz.func55, Tryz.ntmps55
    go_wp2_with fail
    go_ret
    exact ⟨ret_bool HE.out, rfl⟩
theorem rname_is (s : ByteArray) (v : Bool) (w : World) (hs : s.size ≤ 9223372036854775807) (h : Rl.name s.data.toList = v) : Calls Tryz.prog 55 #[.string s] w fun e w' => e = .returned (.bool v) ∧ w = w' := by
  subst h
  exact rname_any s w hs
theorem isNaN_any (x : Int) (w : World) : Calls Tryz.prog 206 #[.int .i64 x] w fun e w' => e = .returned (.bool false) ∧ w = w' := by
  go_enter Tryz.func206, Tryz.ntmps206
  go_wp2_with fail
  go_ret
  exact ⟨rfl, rfl⟩
theorem less_any (x y : Int) (w : World) : Calls Tryz.prog 185 #[.int .i64 x, .int .i64 y] w fun e w' => e = .returned (.bool (decide (x < y))) ∧ w = w' := by
  go_enter Tryz.func185, Tryz.ntmps185
  go_wp2_with fail
  refine (isNaN_any x _).mono ?_
  rintro e w' ⟨rfl, rfl⟩
  go_wp2_with fail
  go_ret
  exact ⟨rfl, rfl⟩
theorem less_is (x y : Int) (v : Bool) (w : World) (h : decide (x < y) = v) : Calls Tryz.prog 185 #[.int .i64 x, .int .i64 y] w fun e w' => e = .returned (.bool v) ∧ w' = w := by
  subst h
  exact (less_any x y w).mono fun _ _ h => ⟨h.1, h.2.symm⟩
/-- A call that leaves the world as it is, in a quiet region; and in one behind another. -/
theorem quiet_l {P : Program} {f : FuncId} {args : Array Value} {w : World} {n : Nat} {v : Value} (h : Calls P f args (w.drewN n) fun e w' => e = .returned v ∧ w' = w.drewN n) :
    Calls P f args (w.drewN n) fun e w'' => e = .returned v ∧ ∃ m, w'' = w.drewN m := h.mono fun _ _ ⟨he, hm⟩ => ⟨he, n, hm⟩
theorem quiet_add_l {P : Program} {f : FuncId} {args : Array Value} {w : World} {a n : Nat} {v : Value} (h : Calls P f args (w.drewN (a + n)) fun e w' => e = .returned v ∧ w' = w.drewN (a + n)) :
    Calls P f args (w.drewN (a + n)) fun e w'' => e = .returned v ∧ ∃ m, w'' = w.drewN (a + m) := h.mono fun _ _ ⟨he, hm⟩ => ⟨he, n, hm⟩
/-- Numbers none of which is less than the one ahead of it. -/
def up : List Int → Bool
  | a :: b :: r => decide (a ≤ b) && up (b :: r)
  | _ => true
section
variable (g : Nat) (w : World)
theorem sorted2_1 (a b : Int) (_hg : g < w.heap.size) (c0 : w.cell? ⟨g, 0, none⟩ = some (.int .i64 a)) (c1 : w.cell? ⟨g, 1, none⟩ = some (.int .i64 b)) (h1 : b < a) : Calls Tryz.prog 152 #[.slice (some ⟨g, 0, none⟩) 2 2] w fun e w' => e = .returned (.bool false) ∧ Below w.heap.size w w' := by
  have t1 := Lib.hid (show decide (b < a) = true by simp; omega)
  clear h1
  have q0 : IntKind.i64.wrap 0 = 0 := by decide
  go_enter Tryz.func152, Tryz.ntmps152
  go_wp2_with fail
  refine wp_loop_rounds 1 ?_
  rw [rounds_succ]
  go_wp2_with fail
  go_quiet ((go_at_call 185; first | exact quiet_add_l (less_is b a true _ t1.out) | exact quiet_l (less_is b a true _ t1.out)))
  go_wp2_with fail
  go_ret
  refine ⟨rfl, ?_⟩
  repeat (first | exact Below.refl _ _ | assumption | refine below_drewN ?_ _ | refine Below.drew ?_ | refine Below.setCell ?_ (by first | omega | (simp; done) | (simp; omega)) _ | refine Below.alloc ?_ (by first | omega | (simp; done) | (simp; omega)) _)
theorem sorted2_0 (a b : Int) (_hg : g < w.heap.size) (c0 : w.cell? ⟨g, 0, none⟩ = some (.int .i64 a)) (c1 : w.cell? ⟨g, 1, none⟩ = some (.int .i64 b)) (h1 : a ≤ b) : Calls Tryz.prog 152 #[.slice (some ⟨g, 0, none⟩) 2 2] w fun e w' => e = .returned (.bool true) ∧ Below w.heap.size w w' := by
  have t1 := Lib.hid (show decide (b < a) = false by simp; omega)
  clear h1
  have q0 : IntKind.i64.wrap 0 = 0 := by decide
  go_enter Tryz.func152, Tryz.ntmps152
  go_wp2_with fail
  refine wp_loop_rounds 2 ?_
  rw [rounds_succ]
  go_wp2_with fail
  go_quiet ((go_at_call 185; first | exact quiet_add_l (less_is b a false _ t1.out) | exact quiet_l (less_is b a false _ t1.out)))
  go_wp2_with fail
  rw [rounds_succ]
  go_wp2_with fail
  go_ret
  refine ⟨rfl, ?_⟩
  repeat (first | exact Below.refl _ _ | assumption | refine below_drewN ?_ _ | refine Below.drew ?_ | refine Below.setCell ?_ (by first | omega | (simp; done) | (simp; omega)) _ | refine Below.alloc ?_ (by first | omega | (simp; done) | (simp; omega)) _)
theorem sorted2 (a b : Int) (hg : g < w.heap.size) (c0 : w.cell? ⟨g, 0, none⟩ = some (.int .i64 a)) (c1 : w.cell? ⟨g, 1, none⟩ = some (.int .i64 b)) : Calls Tryz.prog 152 #[.slice (some ⟨g, 0, none⟩) 2 2] w fun e w' => e = .returned (.bool (up [a, b])) ∧ Below w.heap.size w w' := by
  by_cases h1 : a ≤ b
  case neg => rw [show up [a, b] = false by simp [up]; omega]; exact sorted2_1 g w a b hg c0 c1  (by omega)
  rw [show up [a, b] = true by simp [up]; omega]
  exact sorted2_0 g w a b hg c0 c1 h1
theorem rise2 (a b : Int) (v : Bool) (hg : g < w.heap.size) (c0 : w.cell? ⟨g, 0, none⟩ = some (.int .i64 a)) (c1 : w.cell? ⟨g, 1, none⟩ = some (.int .i64 b)) (hv : up [a, b] = v) : Calls Tryz.prog 109 #[.slice (some ⟨g, 0, none⟩) 2 2] w fun e w' => e = .returned (.bool v) ∧ Below w.heap.size w w' := by
  have H := Lib.hid (sorted2 g w a b hg c0 c1)
  rw [hv] at H
  clear hv
  go_enter Tryz.func109, Tryz.ntmps109
  go_wp2_with fail
  refine H.out.mono ?_
  rintro e w1 ⟨rfl, b1⟩
  go_wp2_with fail
  go_ret
  exact ⟨rfl, b1⟩
theorem sorted3_2 (a b c : Int) (_hg : g < w.heap.size) (_c0 : w.cell? ⟨g, 0, none⟩ = some (.int .i64 a)) (c1 : w.cell? ⟨g, 1, none⟩ = some (.int .i64 b)) (c2 : w.cell? ⟨g, 2, none⟩ = some (.int .i64 c)) (h2 : c < b) : Calls Tryz.prog 152 #[.slice (some ⟨g, 0, none⟩) 3 3] w fun e w' => e = .returned (.bool false) ∧ Below w.heap.size w w' := by
  have t2 := Lib.hid (show decide (c < b) = true by simp; omega)
  clear h2
  have q1 : IntKind.i64.wrap 1 = 1 := by decide
  have q0 : IntKind.i64.wrap 0 = 0 := by decide
  go_enter Tryz.func152, Tryz.ntmps152
  go_wp2_with fail
  refine wp_loop_rounds 1 ?_
  rw [rounds_succ]
  go_wp2_with fail
  go_quiet ((go_at_call 185; first | exact quiet_add_l (less_is c b true _ t2.out) | exact quiet_l (less_is c b true _ t2.out)))
  go_wp2_with fail
  go_ret
  refine ⟨rfl, ?_⟩
  repeat (first | exact Below.refl _ _ | assumption | refine below_drewN ?_ _ | refine Below.drew ?_ | refine Below.setCell ?_ (by first | omega | (simp; done) | (simp; omega)) _ | refine Below.alloc ?_ (by first | omega | (simp; done) | (simp; omega)) _)
theorem sorted3_1 (a b c : Int) (_hg : g < w.heap.size) (c0 : w.cell? ⟨g, 0, none⟩ = some (.int .i64 a)) (c1 : w.cell? ⟨g, 1, none⟩ = some (.int .i64 b)) (c2 : w.cell? ⟨g, 2, none⟩ = some (.int .i64 c)) (h2 : b ≤ c) (h1 : b < a) : Calls Tryz.prog 152 #[.slice (some ⟨g, 0, none⟩) 3 3] w fun e w' => e = .returned (.bool false) ∧ Below w.heap.size w w' := by
  have t2 := Lib.hid (show decide (c < b) = false by simp; omega)
  have t1 := Lib.hid (show decide (b < a) = true by simp; omega)
  clear h2 h1
  have q1 : IntKind.i64.wrap 1 = 1 := by decide
  have q0 : IntKind.i64.wrap 0 = 0 := by decide
  go_enter Tryz.func152, Tryz.ntmps152
  go_wp2_with fail
  refine wp_loop_rounds 2 ?_
  rw [rounds_succ]
  go_wp2_with fail
  go_quiet ((go_at_call 185; first | exact quiet_add_l (less_is c b false _ t2.out) | exact quiet_l (less_is c b false _ t2.out)))
  go_wp2_with fail
  rw [rounds_succ]
  go_wp2_with fail
  go_quiet ((go_at_call 185; first | exact quiet_add_l (less_is b a true _ t1.out) | exact quiet_l (less_is b a true _ t1.out)))
  go_wp2_with fail
  go_ret
  refine ⟨rfl, ?_⟩
  repeat (first | exact Below.refl _ _ | assumption | refine below_drewN ?_ _ | refine Below.drew ?_ | refine Below.setCell ?_ (by first | omega | (simp; done) | (simp; omega)) _ | refine Below.alloc ?_ (by first | omega | (simp; done) | (simp; omega)) _)
theorem sorted3_0 (a b c : Int) (_hg : g < w.heap.size) (c0 : w.cell? ⟨g, 0, none⟩ = some (.int .i64 a)) (c1 : w.cell? ⟨g, 1, none⟩ = some (.int .i64 b)) (c2 : w.cell? ⟨g, 2, none⟩ = some (.int .i64 c)) (h2 : b ≤ c) (h1 : a ≤ b) : Calls Tryz.prog 152 #[.slice (some ⟨g, 0, none⟩) 3 3] w fun e w' => e = .returned (.bool true) ∧ Below w.heap.size w w' := by
  have t2 := Lib.hid (show decide (c < b) = false by simp; omega)
  have t1 := Lib.hid (show decide (b < a) = false by simp; omega)
  clear h2 h1
  have q1 : IntKind.i64.wrap 1 = 1 := by decide
  have q0 : IntKind.i64.wrap 0 = 0 := by decide
  go_enter Tryz.func152, Tryz.ntmps152
  go_wp2_with fail
  refine wp_loop_rounds 3 ?_
  rw [rounds_succ]
  go_wp2_with fail
  go_quiet ((go_at_call 185; first | exact quiet_add_l (less_is c b false _ t2.out) | exact quiet_l (less_is c b false _ t2.out)))
  go_wp2_with fail
  rw [rounds_succ]
  go_wp2_with fail
  go_quiet ((go_at_call 185; first | exact quiet_add_l (less_is b a false _ t1.out) | exact quiet_l (less_is b a false _ t1.out)))
  go_wp2_with fail
  rw [rounds_succ]
  go_wp2_with fail
  go_ret
  refine ⟨rfl, ?_⟩
  repeat (first | exact Below.refl _ _ | assumption | refine below_drewN ?_ _ | refine Below.drew ?_ | refine Below.setCell ?_ (by first | omega | (simp; done) | (simp; omega)) _ | refine Below.alloc ?_ (by first | omega | (simp; done) | (simp; omega)) _)
theorem sorted3 (a b c : Int) (hg : g < w.heap.size) (c0 : w.cell? ⟨g, 0, none⟩ = some (.int .i64 a)) (c1 : w.cell? ⟨g, 1, none⟩ = some (.int .i64 b)) (c2 : w.cell? ⟨g, 2, none⟩ = some (.int .i64 c)) : Calls Tryz.prog 152 #[.slice (some ⟨g, 0, none⟩) 3 3] w fun e w' => e = .returned (.bool (up [a, b, c])) ∧ Below w.heap.size w w' := by
  by_cases h2 : b ≤ c
  case neg => rw [show up [a, b, c] = false by simp [up]; omega]; exact sorted3_2 g w a b c hg c0 c1 c2  (by omega)
  by_cases h1 : a ≤ b
  case neg => rw [show up [a, b, c] = false by simp [up]; omega]; exact sorted3_1 g w a b c hg c0 c1 c2 h2 (by omega)
  rw [show up [a, b, c] = true by simp [up]; omega]
  exact sorted3_0 g w a b c hg c0 c1 c2 h2 h1
theorem rise3 (a b c : Int) (v : Bool) (hg : g < w.heap.size) (c0 : w.cell? ⟨g, 0, none⟩ = some (.int .i64 a)) (c1 : w.cell? ⟨g, 1, none⟩ = some (.int .i64 b)) (c2 : w.cell? ⟨g, 2, none⟩ = some (.int .i64 c)) (hv : up [a, b, c] = v) : Calls Tryz.prog 109 #[.slice (some ⟨g, 0, none⟩) 3 3] w fun e w' => e = .returned (.bool v) ∧ Below w.heap.size w w' := by
  have H := Lib.hid (sorted3 g w a b c hg c0 c1 c2)
  rw [hv] at H
  clear hv
  go_enter Tryz.func109, Tryz.ntmps109
  go_wp2_with fail
  refine H.out.mono ?_
  rintro e w1 ⟨rfl, b1⟩
  go_wp2_with fail
  go_ret
  exact ⟨rfl, b1⟩
theorem sorted4_3 (a b c d : Int) (_hg : g < w.heap.size) (_c0 : w.cell? ⟨g, 0, none⟩ = some (.int .i64 a)) (_c1 : w.cell? ⟨g, 1, none⟩ = some (.int .i64 b)) (c2 : w.cell? ⟨g, 2, none⟩ = some (.int .i64 c)) (c3 : w.cell? ⟨g, 3, none⟩ = some (.int .i64 d)) (h3 : d < c) : Calls Tryz.prog 152 #[.slice (some ⟨g, 0, none⟩) 4 4] w fun e w' => e = .returned (.bool false) ∧ Below w.heap.size w w' := by
  have t3 := Lib.hid (show decide (d < c) = true by simp; omega)
  clear h3
  have q2 : IntKind.i64.wrap 2 = 2 := by decide
  have q1 : IntKind.i64.wrap 1 = 1 := by decide
  have q0 : IntKind.i64.wrap 0 = 0 := by decide
  go_enter Tryz.func152, Tryz.ntmps152
  go_wp2_with fail
  refine wp_loop_rounds 1 ?_
  rw [rounds_succ]
  go_wp2_with fail
  go_quiet ((go_at_call 185; first | exact quiet_add_l (less_is d c true _ t3.out) | exact quiet_l (less_is d c true _ t3.out)))
  go_wp2_with fail
  go_ret
  refine ⟨rfl, ?_⟩
  repeat (first | exact Below.refl _ _ | assumption | refine below_drewN ?_ _ | refine Below.drew ?_ | refine Below.setCell ?_ (by first | omega | (simp; done) | (simp; omega)) _ | refine Below.alloc ?_ (by first | omega | (simp; done) | (simp; omega)) _)
theorem sorted4_2 (a b c d : Int) (_hg : g < w.heap.size) (_c0 : w.cell? ⟨g, 0, none⟩ = some (.int .i64 a)) (c1 : w.cell? ⟨g, 1, none⟩ = some (.int .i64 b)) (c2 : w.cell? ⟨g, 2, none⟩ = some (.int .i64 c)) (c3 : w.cell? ⟨g, 3, none⟩ = some (.int .i64 d)) (h3 : c ≤ d) (h2 : c < b) : Calls Tryz.prog 152 #[.slice (some ⟨g, 0, none⟩) 4 4] w fun e w' => e = .returned (.bool false) ∧ Below w.heap.size w w' := by
  have t3 := Lib.hid (show decide (d < c) = false by simp; omega)
  have t2 := Lib.hid (show decide (c < b) = true by simp; omega)
  clear h3 h2
  have q2 : IntKind.i64.wrap 2 = 2 := by decide
  have q1 : IntKind.i64.wrap 1 = 1 := by decide
  have q0 : IntKind.i64.wrap 0 = 0 := by decide
  go_enter Tryz.func152, Tryz.ntmps152
  go_wp2_with fail
  refine wp_loop_rounds 2 ?_
  rw [rounds_succ]
  go_wp2_with fail
  go_quiet ((go_at_call 185; first | exact quiet_add_l (less_is d c false _ t3.out) | exact quiet_l (less_is d c false _ t3.out)))
  go_wp2_with fail
  rw [rounds_succ]
  go_wp2_with fail
  go_quiet ((go_at_call 185; first | exact quiet_add_l (less_is c b true _ t2.out) | exact quiet_l (less_is c b true _ t2.out)))
  go_wp2_with fail
  go_ret
  refine ⟨rfl, ?_⟩
  repeat (first | exact Below.refl _ _ | assumption | refine below_drewN ?_ _ | refine Below.drew ?_ | refine Below.setCell ?_ (by first | omega | (simp; done) | (simp; omega)) _ | refine Below.alloc ?_ (by first | omega | (simp; done) | (simp; omega)) _)
theorem sorted4_1 (a b c d : Int) (_hg : g < w.heap.size) (c0 : w.cell? ⟨g, 0, none⟩ = some (.int .i64 a)) (c1 : w.cell? ⟨g, 1, none⟩ = some (.int .i64 b)) (c2 : w.cell? ⟨g, 2, none⟩ = some (.int .i64 c)) (c3 : w.cell? ⟨g, 3, none⟩ = some (.int .i64 d)) (h3 : c ≤ d) (h2 : b ≤ c) (h1 : b < a) : Calls Tryz.prog 152 #[.slice (some ⟨g, 0, none⟩) 4 4] w fun e w' => e = .returned (.bool false) ∧ Below w.heap.size w w' := by
  have t3 := Lib.hid (show decide (d < c) = false by simp; omega)
  have t2 := Lib.hid (show decide (c < b) = false by simp; omega)
  have t1 := Lib.hid (show decide (b < a) = true by simp; omega)
  clear h3 h2 h1
  have q2 : IntKind.i64.wrap 2 = 2 := by decide
  have q1 : IntKind.i64.wrap 1 = 1 := by decide
  have q0 : IntKind.i64.wrap 0 = 0 := by decide
  go_enter Tryz.func152, Tryz.ntmps152
  go_wp2_with fail
  refine wp_loop_rounds 3 ?_
  rw [rounds_succ]
  go_wp2_with fail
  go_quiet ((go_at_call 185; first | exact quiet_add_l (less_is d c false _ t3.out) | exact quiet_l (less_is d c false _ t3.out)))
  go_wp2_with fail
  rw [rounds_succ]
  go_wp2_with fail
  go_quiet ((go_at_call 185; first | exact quiet_add_l (less_is c b false _ t2.out) | exact quiet_l (less_is c b false _ t2.out)))
  go_wp2_with fail
  rw [rounds_succ]
  go_wp2_with fail
  go_quiet ((go_at_call 185; first | exact quiet_add_l (less_is b a true _ t1.out) | exact quiet_l (less_is b a true _ t1.out)))
  go_wp2_with fail
  go_ret
  refine ⟨rfl, ?_⟩
  repeat (first | exact Below.refl _ _ | assumption | refine below_drewN ?_ _ | refine Below.drew ?_ | refine Below.setCell ?_ (by first | omega | (simp; done) | (simp; omega)) _ | refine Below.alloc ?_ (by first | omega | (simp; done) | (simp; omega)) _)
theorem sorted4_0 (a b c d : Int) (_hg : g < w.heap.size) (c0 : w.cell? ⟨g, 0, none⟩ = some (.int .i64 a)) (c1 : w.cell? ⟨g, 1, none⟩ = some (.int .i64 b)) (c2 : w.cell? ⟨g, 2, none⟩ = some (.int .i64 c)) (c3 : w.cell? ⟨g, 3, none⟩ = some (.int .i64 d)) (h3 : c ≤ d) (h2 : b ≤ c) (h1 : a ≤ b) : Calls Tryz.prog 152 #[.slice (some ⟨g, 0, none⟩) 4 4] w fun e w' => e = .returned (.bool true) ∧ Below w.heap.size w w' := by
  have t3 := Lib.hid (show decide (d < c) = false by simp; omega)
  have t2 := Lib.hid (show decide (c < b) = false by simp; omega)
  have t1 := Lib.hid (show decide (b < a) = false by simp; omega)
  clear h3 h2 h1
  have q2 : IntKind.i64.wrap 2 = 2 := by decide
  have q1 : IntKind.i64.wrap 1 = 1 := by decide
  have q0 : IntKind.i64.wrap 0 = 0 := by decide
  go_enter Tryz.func152, Tryz.ntmps152
  go_wp2_with fail
  refine wp_loop_rounds 4 ?_
  rw [rounds_succ]
  go_wp2_with fail
  go_quiet ((go_at_call 185; first | exact quiet_add_l (less_is d c false _ t3.out) | exact quiet_l (less_is d c false _ t3.out)))
  go_wp2_with fail
  rw [rounds_succ]
  go_wp2_with fail
  go_quiet ((go_at_call 185; first | exact quiet_add_l (less_is c b false _ t2.out) | exact quiet_l (less_is c b false _ t2.out)))
  go_wp2_with fail
  rw [rounds_succ]
  go_wp2_with fail
  go_quiet ((go_at_call 185; first | exact quiet_add_l (less_is b a false _ t1.out) | exact quiet_l (less_is b a false _ t1.out)))
  go_wp2_with fail
  rw [rounds_succ]
  go_wp2_with fail
  go_ret
  refine ⟨rfl, ?_⟩
  repeat (first | exact Below.refl _ _ | assumption | refine below_drewN ?_ _ | refine Below.drew ?_ | refine Below.setCell ?_ (by first | omega | (simp; done) | (simp; omega)) _ | refine Below.alloc ?_ (by first | omega | (simp; done) | (simp; omega)) _)
theorem sorted4 (a b c d : Int) (hg : g < w.heap.size) (c0 : w.cell? ⟨g, 0, none⟩ = some (.int .i64 a)) (c1 : w.cell? ⟨g, 1, none⟩ = some (.int .i64 b)) (c2 : w.cell? ⟨g, 2, none⟩ = some (.int .i64 c)) (c3 : w.cell? ⟨g, 3, none⟩ = some (.int .i64 d)) : Calls Tryz.prog 152 #[.slice (some ⟨g, 0, none⟩) 4 4] w fun e w' => e = .returned (.bool (up [a, b, c, d])) ∧ Below w.heap.size w w' := by
  by_cases h3 : c ≤ d
  case neg => rw [show up [a, b, c, d] = false by simp [up]; omega]; exact sorted4_3 g w a b c d hg c0 c1 c2 c3  (by omega)
  by_cases h2 : b ≤ c
  case neg => rw [show up [a, b, c, d] = false by simp [up]; omega]; exact sorted4_2 g w a b c d hg c0 c1 c2 c3 h3 (by omega)
  by_cases h1 : a ≤ b
  case neg => rw [show up [a, b, c, d] = false by simp [up]; omega]; exact sorted4_1 g w a b c d hg c0 c1 c2 c3 h3 h2 (by omega)
  rw [show up [a, b, c, d] = true by simp [up]; omega]
  exact sorted4_0 g w a b c d hg c0 c1 c2 c3 h3 h2 h1
theorem rise4 (a b c d : Int) (v : Bool) (hg : g < w.heap.size) (c0 : w.cell? ⟨g, 0, none⟩ = some (.int .i64 a)) (c1 : w.cell? ⟨g, 1, none⟩ = some (.int .i64 b)) (c2 : w.cell? ⟨g, 2, none⟩ = some (.int .i64 c)) (c3 : w.cell? ⟨g, 3, none⟩ = some (.int .i64 d)) (hv : up [a, b, c, d] = v) : Calls Tryz.prog 109 #[.slice (some ⟨g, 0, none⟩) 4 4] w fun e w' => e = .returned (.bool v) ∧ Below w.heap.size w w' := by
  have H := Lib.hid (sorted4 g w a b c d hg c0 c1 c2 c3)
  rw [hv] at H
  clear hv
  go_enter Tryz.func109, Tryz.ntmps109
  go_wp2_with fail
  refine H.out.mono ?_
  rintro e w1 ⟨rfl, b1⟩
  go_wp2_with fail
  go_ret
  exact ⟨rfl, b1⟩
end
end Go.Proofs.YtkcbmnboccjnnaaGreatDoor
/- Contracts of package rule: isRight, Check. -/


namespace Go.Proofs.YtkcbmnboccjnnaaGreatDoor
open Go.RowKit
theorem up4_of (r : Ru) : up [1, r.fr, r.tl, 9999] = Rl.years r := by
  unfold Rl.years
  rw [Bool.eq_iff_iff]
  simp [up]
theorem up3_m (r : Ru) : up [1, r.m, 12] = Rl.month r := by
  unfold Rl.month
  rw [Bool.eq_iff_iff]
  simp [up]
theorem up3_s (t : Int) : up [-604800, t, 604800] = Rl.time t := by
  unfold Rl.time
  rw [Bool.eq_iff_iff]
  simp [up]
set_option maxHeartbeats 1000000 in
theorem rright_0 (nm : ByteArray) (fr tl m k n d s c sv : Int) (lt : ByteArray) (w : World) (hs : nm.size ≤ 9223372036854775807) (H0 : Hid (Rl.name nm.data.toList = false)) : Calls Tryz.prog 67 #[.agg #[.string nm, .int .i64 fr, .int .i64 tl, .int .i64 m, .int .u8 k, .int .i64 n, .int .i64 d, .int .i64 s, .int .u8 c, .int .i64 sv, .string lt]] w fun e w' => e = .returned (.bool false) ∧ Below w.heap.size w w' := by
  go_enter Tryz.func67, Tryz.ntmps67
  go_wp2_with fail
  refine (rname_is nm false _ hs H0.out).mono ?_
  rintro e w' ⟨rfl, rfl⟩
  have a0 : Below w.heap.size w (w.alloc (.cells #[.string nm, .int .i64 fr, .int .i64 tl, .int .i64 m, .int .u8 k, .int .i64 n, .int .i64 d, .int .i64 s, .int .u8 c, .int .i64 sv, .string lt] 48)) := (Below.refl _ _).alloc (Nat.le_refl _) _
  have k0 : Below (w.heap.size + 1) (w.alloc (.cells #[.string nm, .int .i64 fr, .int .i64 tl, .int .i64 m, .int .u8 k, .int .i64 n, .int .i64 d, .int .i64 s, .int .u8 c, .int .i64 sv, .string lt] 48)) (w.alloc (.cells #[.string nm, .int .i64 fr, .int .i64 tl, .int .i64 m, .int .u8 k, .int .i64 n, .int .i64 d, .int .i64 s, .int .u8 c, .int .i64 sv, .string lt] 48)) := Below.refl _ _
  have z0 : w.heap.size + 1 ≤ (w.alloc (.cells #[.string nm, .int .i64 fr, .int .i64 tl, .int .i64 m, .int .u8 k, .int .i64 n, .int .i64 d, .int .i64 s, .int .u8 c, .int .i64 sv, .string lt] 48)).heap.size := by simp
  go_wp2_with fail
  go_ret
  exact ⟨rfl, a0.trans (k0.mono (Nat.le_succ _))⟩
set_option maxHeartbeats 1000000 in
theorem rright_1 (nm : ByteArray) (fr tl m k n d s c sv : Int) (lt : ByteArray) (w : World) (hs : nm.size ≤ 9223372036854775807) (H0 : Hid (Rl.name nm.data.toList = true)) (H1 : Hid (up [1, fr, tl, 9999] = false)) : Calls Tryz.prog 67 #[.agg #[.string nm, .int .i64 fr, .int .i64 tl, .int .i64 m, .int .u8 k, .int .i64 n, .int .i64 d, .int .i64 s, .int .u8 c, .int .i64 sv, .string lt]] w fun e w' => e = .returned (.bool false) ∧ Below w.heap.size w w' := by
  go_enter Tryz.func67, Tryz.ntmps67
  go_wp2_with fail
  refine (rname_is nm true _ hs H0.out).mono ?_
  rintro e w' ⟨rfl, rfl⟩
  have a0 : Below w.heap.size w (w.alloc (.cells #[.string nm, .int .i64 fr, .int .i64 tl, .int .i64 m, .int .u8 k, .int .i64 n, .int .i64 d, .int .i64 s, .int .u8 c, .int .i64 sv, .string lt] 48)) := (Below.refl _ _).alloc (Nat.le_refl _) _
  have k0 : Below (w.heap.size + 1) (w.alloc (.cells #[.string nm, .int .i64 fr, .int .i64 tl, .int .i64 m, .int .u8 k, .int .i64 n, .int .i64 d, .int .i64 s, .int .u8 c, .int .i64 sv, .string lt] 48)) (w.alloc (.cells #[.string nm, .int .i64 fr, .int .i64 tl, .int .i64 m, .int .u8 k, .int .i64 n, .int .i64 d, .int .i64 s, .int .u8 c, .int .i64 sv, .string lt] 48)) := Below.refl _ _
  have z0 : w.heap.size + 1 ≤ (w.alloc (.cells #[.string nm, .int .i64 fr, .int .i64 tl, .int .i64 m, .int .u8 k, .int .i64 n, .int .i64 d, .int .i64 s, .int .u8 c, .int .i64 sv, .string lt] 48)).heap.size := by simp
  go_wp2_with fail
  refine (rise4 (w.heap.size + 1) _ 1 fr tl 9999 false (by simp) (by go_simp) (by go_simp) (by go_simp) (by go_simp) H1.out).mono ?_
  rintro e w1 ⟨rfl, b1⟩
  have k1 := (k0.alloc z0 _).trans (b1.mono (by first | (simp; done) | (simp; omega)))
  have z1 : w.heap.size + 1 ≤ w1.heap.size := Nat.le_trans z0 k1.size
  have hc1 : ∀ o, w1.cell? ⟨w.heap.size, o, none⟩ = (w.alloc (.cells #[.string nm, .int .i64 fr, .int .i64 tl, .int .i64 m, .int .u8 k, .int .i64 n, .int .i64 d, .int .i64 s, .int .u8 c, .int .i64 sv, .string lt] 48)).cell? ⟨w.heap.size, o, none⟩ := fun o => k1.cell (p := ⟨w.heap.size, o, none⟩) (Nat.lt_succ_self _)
  clear b1
  go_wp2_with fail
  go_ret
  exact ⟨rfl, a0.trans (k1.mono (Nat.le_succ _))⟩
set_option maxHeartbeats 1000000 in
theorem rright_2 (nm : ByteArray) (fr tl m k n d s c sv : Int) (lt : ByteArray) (w : World) (hs : nm.size ≤ 9223372036854775807) (H0 : Hid (Rl.name nm.data.toList = true)) (H1 : Hid (up [1, fr, tl, 9999] = true)) (H2 : Hid (up [1, m, 12] = false)) : Calls Tryz.prog 67 #[.agg #[.string nm, .int .i64 fr, .int .i64 tl, .int .i64 m, .int .u8 k, .int .i64 n, .int .i64 d, .int .i64 s, .int .u8 c, .int .i64 sv, .string lt]] w fun e w' => e = .returned (.bool false) ∧ Below w.heap.size w w' := by
  go_enter Tryz.func67, Tryz.ntmps67
  go_wp2_with fail
  refine (rname_is nm true _ hs H0.out).mono ?_
  rintro e w' ⟨rfl, rfl⟩
  have a0 : Below w.heap.size w (w.alloc (.cells #[.string nm, .int .i64 fr, .int .i64 tl, .int .i64 m, .int .u8 k, .int .i64 n, .int .i64 d, .int .i64 s, .int .u8 c, .int .i64 sv, .string lt] 48)) := (Below.refl _ _).alloc (Nat.le_refl _) _
  have k0 : Below (w.heap.size + 1) (w.alloc (.cells #[.string nm, .int .i64 fr, .int .i64 tl, .int .i64 m, .int .u8 k, .int .i64 n, .int .i64 d, .int .i64 s, .int .u8 c, .int .i64 sv, .string lt] 48)) (w.alloc (.cells #[.string nm, .int .i64 fr, .int .i64 tl, .int .i64 m, .int .u8 k, .int .i64 n, .int .i64 d, .int .i64 s, .int .u8 c, .int .i64 sv, .string lt] 48)) := Below.refl _ _
  have z0 : w.heap.size + 1 ≤ (w.alloc (.cells #[.string nm, .int .i64 fr, .int .i64 tl, .int .i64 m, .int .u8 k, .int .i64 n, .int .i64 d, .int .i64 s, .int .u8 c, .int .i64 sv, .string lt] 48)).heap.size := by simp
  go_wp2_with fail
  refine (rise4 (w.heap.size + 1) _ 1 fr tl 9999 true (by simp) (by go_simp) (by go_simp) (by go_simp) (by go_simp) H1.out).mono ?_
  rintro e w1 ⟨rfl, b1⟩
  have k1 := (k0.alloc z0 _).trans (b1.mono (by first | (simp; done) | (simp; omega)))
  have z1 : w.heap.size + 1 ≤ w1.heap.size := Nat.le_trans z0 k1.size
  have hc1 : ∀ o, w1.cell? ⟨w.heap.size, o, none⟩ = (w.alloc (.cells #[.string nm, .int .i64 fr, .int .i64 tl, .int .i64 m, .int .u8 k, .int .i64 n, .int .i64 d, .int .i64 s, .int .u8 c, .int .i64 sv, .string lt] 48)).cell? ⟨w.heap.size, o, none⟩ := fun o => k1.cell (p := ⟨w.heap.size, o, none⟩) (Nat.lt_succ_self _)
  clear b1
  go_wp2_with fail
  refine (rise3 w1.heap.size _ 1 m 12 false (by simp) (by go_simp) (by go_simp) (by go_simp) H2.out).mono ?_
  rintro e w2 ⟨rfl, b2⟩
  have k2 := (k1.alloc z1 _).trans (b2.mono (by first | (simp; done) | (simp; omega)))
  have z2 : w.heap.size + 1 ≤ w2.heap.size := Nat.le_trans z0 k2.size
  have hc2 : ∀ o, w2.cell? ⟨w.heap.size, o, none⟩ = (w.alloc (.cells #[.string nm, .int .i64 fr, .int .i64 tl, .int .i64 m, .int .u8 k, .int .i64 n, .int .i64 d, .int .i64 s, .int .u8 c, .int .i64 sv, .string lt] 48)).cell? ⟨w.heap.size, o, none⟩ := fun o => k2.cell (p := ⟨w.heap.size, o, none⟩) (Nat.lt_succ_self _)
  clear b2 k1 hc1
  go_wp2_with fail
  go_ret
  exact ⟨rfl, a0.trans (k2.mono (Nat.le_succ _))⟩
set_option maxHeartbeats 1000000 in
theorem rright_3 (nm : ByteArray) (fr tl m k n d s c sv : Int) (lt : ByteArray) (w : World) (hs : nm.size ≤ 9223372036854775807) (H0 : Hid (Rl.name nm.data.toList = true)) (H1 : Hid (up [1, fr, tl, 9999] = true)) (H2 : Hid (up [1, m, 12] = true)) (H3 : Hid (Dy.right k n d = false)) : Calls Tryz.prog 67 #[.agg #[.string nm, .int .i64 fr, .int .i64 tl, .int .i64 m, .int .u8 k, .int .i64 n, .int .i64 d, .int .i64 s, .int .u8 c, .int .i64 sv, .string lt]] w fun e w' => e = .returned (.bool false) ∧ Below w.heap.size w w' := by
  go_enter Tryz.func67, Tryz.ntmps67
  go_wp2_with fail
  refine (rname_is nm true _ hs H0.out).mono ?_
  rintro e w' ⟨rfl, rfl⟩
  have a0 : Below w.heap.size w (w.alloc (.cells #[.string nm, .int .i64 fr, .int .i64 tl, .int .i64 m, .int .u8 k, .int .i64 n, .int .i64 d, .int .i64 s, .int .u8 c, .int .i64 sv, .string lt] 48)) := (Below.refl _ _).alloc (Nat.le_refl _) _
  have k0 : Below (w.heap.size + 1) (w.alloc (.cells #[.string nm, .int .i64 fr, .int .i64 tl, .int .i64 m, .int .u8 k, .int .i64 n, .int .i64 d, .int .i64 s, .int .u8 c, .int .i64 sv, .string lt] 48)) (w.alloc (.cells #[.string nm, .int .i64 fr, .int .i64 tl, .int .i64 m, .int .u8 k, .int .i64 n, .int .i64 d, .int .i64 s, .int .u8 c, .int .i64 sv, .string lt] 48)) := Below.refl _ _
  have z0 : w.heap.size + 1 ≤ (w.alloc (.cells #[.string nm, .int .i64 fr, .int .i64 tl, .int .i64 m, .int .u8 k, .int .i64 n, .int .i64 d, .int .i64 s, .int .u8 c, .int .i64 sv, .string lt] 48)).heap.size := by simp
  go_wp2_with fail
  refine (rise4 (w.heap.size + 1) _ 1 fr tl 9999 true (by simp) (by go_simp) (by go_simp) (by go_simp) (by go_simp) H1.out).mono ?_
  rintro e w1 ⟨rfl, b1⟩
  have k1 := (k0.alloc z0 _).trans (b1.mono (by first | (simp; done) | (simp; omega)))
  have z1 : w.heap.size + 1 ≤ w1.heap.size := Nat.le_trans z0 k1.size
  have hc1 : ∀ o, w1.cell? ⟨w.heap.size, o, none⟩ = (w.alloc (.cells #[.string nm, .int .i64 fr, .int .i64 tl, .int .i64 m, .int .u8 k, .int .i64 n, .int .i64 d, .int .i64 s, .int .u8 c, .int .i64 sv, .string lt] 48)).cell? ⟨w.heap.size, o, none⟩ := fun o => k1.cell (p := ⟨w.heap.size, o, none⟩) (Nat.lt_succ_self _)
  clear b1
  go_wp2_with fail
  refine (rise3 w1.heap.size _ 1 m 12 true (by simp) (by go_simp) (by go_simp) (by go_simp) H2.out).mono ?_
  rintro e w2 ⟨rfl, b2⟩
  have k2 := (k1.alloc z1 _).trans (b2.mono (by first | (simp; done) | (simp; omega)))
  have z2 : w.heap.size + 1 ≤ w2.heap.size := Nat.le_trans z0 k2.size
  have hc2 : ∀ o, w2.cell? ⟨w.heap.size, o, none⟩ = (w.alloc (.cells #[.string nm, .int .i64 fr, .int .i64 tl, .int .i64 m, .int .u8 k, .int .i64 n, .int .i64 d, .int .i64 s, .int .u8 c, .int .i64 sv, .string lt] 48)).cell? ⟨w.heap.size, o, none⟩ := fun o => k2.cell (p := ⟨w.heap.size, o, none⟩) (Nat.lt_succ_self _)
  clear b2 k1 hc1
  go_wp2_with fail
  refine (dcheck_no k n d _ H3.out).mono ?_
  rintro e w3 ⟨rfl, b3⟩
  have k3 := k2.trans (b3.mono z2)
  have z3 : w.heap.size + 1 ≤ w3.heap.size := Nat.le_trans z0 k3.size
  have hc3 : ∀ o, w3.cell? ⟨w.heap.size, o, none⟩ = (w.alloc (.cells #[.string nm, .int .i64 fr, .int .i64 tl, .int .i64 m, .int .u8 k, .int .i64 n, .int .i64 d, .int .i64 s, .int .u8 c, .int .i64 sv, .string lt] 48)).cell? ⟨w.heap.size, o, none⟩ := fun o => k3.cell (p := ⟨w.heap.size, o, none⟩) (Nat.lt_succ_self _)
  clear b3 k2 hc2
  go_wp2_with fail
  go_ret
  exact ⟨rfl, a0.trans (k3.mono (Nat.le_succ _))⟩
set_option maxHeartbeats 1000000 in
theorem rright_4 (nm : ByteArray) (fr tl m k n d s c sv : Int) (lt : ByteArray) (w : World) (hs : nm.size ≤ 9223372036854775807) (H0 : Hid (Rl.name nm.data.toList = true)) (H1 : Hid (up [1, fr, tl, 9999] = true)) (H2 : Hid (up [1, m, 12] = true)) (H3 : Hid (Dy.right k n d = true)) (H4 : Hid (Mo.right s c = false)) : Calls Tryz.prog 67 #[.agg #[.string nm, .int .i64 fr, .int .i64 tl, .int .i64 m, .int .u8 k, .int .i64 n, .int .i64 d, .int .i64 s, .int .u8 c, .int .i64 sv, .string lt]] w fun e w' => e = .returned (.bool false) ∧ Below w.heap.size w w' := by
  go_enter Tryz.func67, Tryz.ntmps67
  go_wp2_with fail
  refine (rname_is nm true _ hs H0.out).mono ?_
  rintro e w' ⟨rfl, rfl⟩
  have a0 : Below w.heap.size w (w.alloc (.cells #[.string nm, .int .i64 fr, .int .i64 tl, .int .i64 m, .int .u8 k, .int .i64 n, .int .i64 d, .int .i64 s, .int .u8 c, .int .i64 sv, .string lt] 48)) := (Below.refl _ _).alloc (Nat.le_refl _) _
  have k0 : Below (w.heap.size + 1) (w.alloc (.cells #[.string nm, .int .i64 fr, .int .i64 tl, .int .i64 m, .int .u8 k, .int .i64 n, .int .i64 d, .int .i64 s, .int .u8 c, .int .i64 sv, .string lt] 48)) (w.alloc (.cells #[.string nm, .int .i64 fr, .int .i64 tl, .int .i64 m, .int .u8 k, .int .i64 n, .int .i64 d, .int .i64 s, .int .u8 c, .int .i64 sv, .string lt] 48)) := Below.refl _ _
  have z0 : w.heap.size + 1 ≤ (w.alloc (.cells #[.string nm, .int .i64 fr, .int .i64 tl, .int .i64 m, .int .u8 k, .int .i64 n, .int .i64 d, .int .i64 s, .int .u8 c, .int .i64 sv, .string lt] 48)).heap.size := by simp
  go_wp2_with fail
  refine (rise4 (w.heap.size + 1) _ 1 fr tl 9999 true (by simp) (by go_simp) (by go_simp) (by go_simp) (by go_simp) H1.out).mono ?_
  rintro e w1 ⟨rfl, b1⟩
  have k1 := (k0.alloc z0 _).trans (b1.mono (by first | (simp; done) | (simp; omega)))
  have z1 : w.heap.size + 1 ≤ w1.heap.size := Nat.le_trans z0 k1.size
  have hc1 : ∀ o, w1.cell? ⟨w.heap.size, o, none⟩ = (w.alloc (.cells #[.string nm, .int .i64 fr, .int .i64 tl, .int .i64 m, .int .u8 k, .int .i64 n, .int .i64 d, .int .i64 s, .int .u8 c, .int .i64 sv, .string lt] 48)).cell? ⟨w.heap.size, o, none⟩ := fun o => k1.cell (p := ⟨w.heap.size, o, none⟩) (Nat.lt_succ_self _)
  clear b1
  go_wp2_with fail
  refine (rise3 w1.heap.size _ 1 m 12 true (by simp) (by go_simp) (by go_simp) (by go_simp) H2.out).mono ?_
  rintro e w2 ⟨rfl, b2⟩
  have k2 := (k1.alloc z1 _).trans (b2.mono (by first | (simp; done) | (simp; omega)))
  have z2 : w.heap.size + 1 ≤ w2.heap.size := Nat.le_trans z0 k2.size
  have hc2 : ∀ o, w2.cell? ⟨w.heap.size, o, none⟩ = (w.alloc (.cells #[.string nm, .int .i64 fr, .int .i64 tl, .int .i64 m, .int .u8 k, .int .i64 n, .int .i64 d, .int .i64 s, .int .u8 c, .int .i64 sv, .string lt] 48)).cell? ⟨w.heap.size, o, none⟩ := fun o => k2.cell (p := ⟨w.heap.size, o, none⟩) (Nat.lt_succ_self _)
  clear b2 k1 hc1
  go_wp2_with fail
  refine (dcheck_yes k n d _ H3.out).mono ?_
  rintro e w3 ⟨rfl, b3⟩
  have k3 := k2.trans (b3.mono z2)
  have z3 : w.heap.size + 1 ≤ w3.heap.size := Nat.le_trans z0 k3.size
  have hc3 : ∀ o, w3.cell? ⟨w.heap.size, o, none⟩ = (w.alloc (.cells #[.string nm, .int .i64 fr, .int .i64 tl, .int .i64 m, .int .u8 k, .int .i64 n, .int .i64 d, .int .i64 s, .int .u8 c, .int .i64 sv, .string lt] 48)).cell? ⟨w.heap.size, o, none⟩ := fun o => k3.cell (p := ⟨w.heap.size, o, none⟩) (Nat.lt_succ_self _)
  clear b3 k2 hc2
  go_wp2_with fail
  refine (mcheck_no s c _ H4.out).mono ?_
  rintro e w4 ⟨rfl, b4⟩
  have k4 := k3.trans (b4.mono z3)
  have z4 : w.heap.size + 1 ≤ w4.heap.size := Nat.le_trans z0 k4.size
  have hc4 : ∀ o, w4.cell? ⟨w.heap.size, o, none⟩ = (w.alloc (.cells #[.string nm, .int .i64 fr, .int .i64 tl, .int .i64 m, .int .u8 k, .int .i64 n, .int .i64 d, .int .i64 s, .int .u8 c, .int .i64 sv, .string lt] 48)).cell? ⟨w.heap.size, o, none⟩ := fun o => k4.cell (p := ⟨w.heap.size, o, none⟩) (Nat.lt_succ_self _)
  clear b4 k3 hc3
  go_wp2_with fail
  go_ret
  exact ⟨rfl, a0.trans (k4.mono (Nat.le_succ _))⟩
set_option maxHeartbeats 1000000 in
theorem rright_5 (nm : ByteArray) (fr tl m k n d s c sv : Int) (lt : ByteArray) (w : World) (hs : nm.size ≤ 9223372036854775807) (H0 : Hid (Rl.name nm.data.toList = true)) (H1 : Hid (up [1, fr, tl, 9999] = true)) (H2 : Hid (up [1, m, 12] = true)) (H3 : Hid (Dy.right k n d = true)) (H4 : Hid (Mo.right s c = true)) (H5 : Hid (up [-604800, sv, 604800] = false)) : Calls Tryz.prog 67 #[.agg #[.string nm, .int .i64 fr, .int .i64 tl, .int .i64 m, .int .u8 k, .int .i64 n, .int .i64 d, .int .i64 s, .int .u8 c, .int .i64 sv, .string lt]] w fun e w' => e = .returned (.bool false) ∧ Below w.heap.size w w' := by
  go_enter Tryz.func67, Tryz.ntmps67
  go_wp2_with fail
  refine (rname_is nm true _ hs H0.out).mono ?_
  rintro e w' ⟨rfl, rfl⟩
  have a0 : Below w.heap.size w (w.alloc (.cells #[.string nm, .int .i64 fr, .int .i64 tl, .int .i64 m, .int .u8 k, .int .i64 n, .int .i64 d, .int .i64 s, .int .u8 c, .int .i64 sv, .string lt] 48)) := (Below.refl _ _).alloc (Nat.le_refl _) _
  have k0 : Below (w.heap.size + 1) (w.alloc (.cells #[.string nm, .int .i64 fr, .int .i64 tl, .int .i64 m, .int .u8 k, .int .i64 n, .int .i64 d, .int .i64 s, .int .u8 c, .int .i64 sv, .string lt] 48)) (w.alloc (.cells #[.string nm, .int .i64 fr, .int .i64 tl, .int .i64 m, .int .u8 k, .int .i64 n, .int .i64 d, .int .i64 s, .int .u8 c, .int .i64 sv, .string lt] 48)) := Below.refl _ _
  have z0 : w.heap.size + 1 ≤ (w.alloc (.cells #[.string nm, .int .i64 fr, .int .i64 tl, .int .i64 m, .int .u8 k, .int .i64 n, .int .i64 d, .int .i64 s, .int .u8 c, .int .i64 sv, .string lt] 48)).heap.size := by simp
  go_wp2_with fail
  refine (rise4 (w.heap.size + 1) _ 1 fr tl 9999 true (by simp) (by go_simp) (by go_simp) (by go_simp) (by go_simp) H1.out).mono ?_
  rintro e w1 ⟨rfl, b1⟩
  have k1 := (k0.alloc z0 _).trans (b1.mono (by first | (simp; done) | (simp; omega)))
  have z1 : w.heap.size + 1 ≤ w1.heap.size := Nat.le_trans z0 k1.size
  have hc1 : ∀ o, w1.cell? ⟨w.heap.size, o, none⟩ = (w.alloc (.cells #[.string nm, .int .i64 fr, .int .i64 tl, .int .i64 m, .int .u8 k, .int .i64 n, .int .i64 d, .int .i64 s, .int .u8 c, .int .i64 sv, .string lt] 48)).cell? ⟨w.heap.size, o, none⟩ := fun o => k1.cell (p := ⟨w.heap.size, o, none⟩) (Nat.lt_succ_self _)
  clear b1
  go_wp2_with fail
  refine (rise3 w1.heap.size _ 1 m 12 true (by simp) (by go_simp) (by go_simp) (by go_simp) H2.out).mono ?_
  rintro e w2 ⟨rfl, b2⟩
  have k2 := (k1.alloc z1 _).trans (b2.mono (by first | (simp; done) | (simp; omega)))
  have z2 : w.heap.size + 1 ≤ w2.heap.size := Nat.le_trans z0 k2.size
  have hc2 : ∀ o, w2.cell? ⟨w.heap.size, o, none⟩ = (w.alloc (.cells #[.string nm, .int .i64 fr, .int .i64 tl, .int .i64 m, .int .u8 k, .int .i64 n, .int .i64 d, .int .i64 s, .int .u8 c, .int .i64 sv, .string lt] 48)).cell? ⟨w.heap.size, o, none⟩ := fun o => k2.cell (p := ⟨w.heap.size, o, none⟩) (Nat.lt_succ_self _)
  clear b2 k1 hc1
  go_wp2_with fail
  refine (dcheck_yes k n d _ H3.out).mono ?_
  rintro e w3 ⟨rfl, b3⟩
  have k3 := k2.trans (b3.mono z2)
  have z3 : w.heap.size + 1 ≤ w3.heap.size := Nat.le_trans z0 k3.size
  have hc3 : ∀ o, w3.cell? ⟨w.heap.size, o, none⟩ = (w.alloc (.cells #[.string nm, .int .i64 fr, .int .i64 tl, .int .i64 m, .int .u8 k, .int .i64 n, .int .i64 d, .int .i64 s, .int .u8 c, .int .i64 sv, .string lt] 48)).cell? ⟨w.heap.size, o, none⟩ := fun o => k3.cell (p := ⟨w.heap.size, o, none⟩) (Nat.lt_succ_self _)
  clear b3 k2 hc2
  go_wp2_with fail
  refine (mcheck_yes s c _ H4.out).mono ?_
  rintro e w4 ⟨rfl, b4⟩
  have k4 := k3.trans (b4.mono z3)
  have z4 : w.heap.size + 1 ≤ w4.heap.size := Nat.le_trans z0 k4.size
  have hc4 : ∀ o, w4.cell? ⟨w.heap.size, o, none⟩ = (w.alloc (.cells #[.string nm, .int .i64 fr, .int .i64 tl, .int .i64 m, .int .u8 k, .int .i64 n, .int .i64 d, .int .i64 s, .int .u8 c, .int .i64 sv, .string lt] 48)).cell? ⟨w.heap.size, o, none⟩ := fun o => k4.cell (p := ⟨w.heap.size, o, none⟩) (Nat.lt_succ_self _)
  clear b4 k3 hc3
  go_wp2_with fail
  refine (rise3 w4.heap.size _ (-604800) sv 604800 false (by simp) (by go_simp) (by go_simp) (by go_simp) H5.out).mono ?_
  rintro e w5 ⟨rfl, b5⟩
  have k5 := (k4.alloc z4 _).trans (b5.mono (by first | (simp; done) | (simp; omega)))
  have z5 : w.heap.size + 1 ≤ w5.heap.size := Nat.le_trans z0 k5.size
  have hc5 : ∀ o, w5.cell? ⟨w.heap.size, o, none⟩ = (w.alloc (.cells #[.string nm, .int .i64 fr, .int .i64 tl, .int .i64 m, .int .u8 k, .int .i64 n, .int .i64 d, .int .i64 s, .int .u8 c, .int .i64 sv, .string lt] 48)).cell? ⟨w.heap.size, o, none⟩ := fun o => k5.cell (p := ⟨w.heap.size, o, none⟩) (Nat.lt_succ_self _)
  clear b5 k4 hc4
  go_wp2_with fail
  go_ret
  exact ⟨rfl, a0.trans (k5.mono (Nat.le_succ _))⟩
set_option maxHeartbeats 1000000 in
theorem rright_6 (nm : ByteArray) (fr tl m k n d s c sv : Int) (lt : ByteArray) (w : World) (hs : nm.size ≤ 9223372036854775807) (H0 : Hid (Rl.name nm.data.toList = true)) (H1 : Hid (up [1, fr, tl, 9999] = true)) (H2 : Hid (up [1, m, 12] = true)) (H3 : Hid (Dy.right k n d = true)) (H4 : Hid (Mo.right s c = true)) (H5 : Hid (up [-604800, sv, 604800] = true)) (H6 : Hid (Fm.ltr lt.data.toList = false)) : Calls Tryz.prog 67 #[.agg #[.string nm, .int .i64 fr, .int .i64 tl, .int .i64 m, .int .u8 k, .int .i64 n, .int .i64 d, .int .i64 s, .int .u8 c, .int .i64 sv, .string lt]] w fun e w' => e = .returned (.bool false) ∧ Below w.heap.size w w' := by
  go_enter Tryz.func67, Tryz.ntmps67
  go_wp2_with fail
  refine (rname_is nm true _ hs H0.out).mono ?_
  rintro e w' ⟨rfl, rfl⟩
  have a0 : Below w.heap.size w (w.alloc (.cells #[.string nm, .int .i64 fr, .int .i64 tl, .int .i64 m, .int .u8 k, .int .i64 n, .int .i64 d, .int .i64 s, .int .u8 c, .int .i64 sv, .string lt] 48)) := (Below.refl _ _).alloc (Nat.le_refl _) _
  have k0 : Below (w.heap.size + 1) (w.alloc (.cells #[.string nm, .int .i64 fr, .int .i64 tl, .int .i64 m, .int .u8 k, .int .i64 n, .int .i64 d, .int .i64 s, .int .u8 c, .int .i64 sv, .string lt] 48)) (w.alloc (.cells #[.string nm, .int .i64 fr, .int .i64 tl, .int .i64 m, .int .u8 k, .int .i64 n, .int .i64 d, .int .i64 s, .int .u8 c, .int .i64 sv, .string lt] 48)) := Below.refl _ _
  have z0 : w.heap.size + 1 ≤ (w.alloc (.cells #[.string nm, .int .i64 fr, .int .i64 tl, .int .i64 m, .int .u8 k, .int .i64 n, .int .i64 d, .int .i64 s, .int .u8 c, .int .i64 sv, .string lt] 48)).heap.size := by simp
  go_wp2_with fail
  refine (rise4 (w.heap.size + 1) _ 1 fr tl 9999 true (by simp) (by go_simp) (by go_simp) (by go_simp) (by go_simp) H1.out).mono ?_
  rintro e w1 ⟨rfl, b1⟩
  have k1 := (k0.alloc z0 _).trans (b1.mono (by first | (simp; done) | (simp; omega)))
  have z1 : w.heap.size + 1 ≤ w1.heap.size := Nat.le_trans z0 k1.size
  have hc1 : ∀ o, w1.cell? ⟨w.heap.size, o, none⟩ = (w.alloc (.cells #[.string nm, .int .i64 fr, .int .i64 tl, .int .i64 m, .int .u8 k, .int .i64 n, .int .i64 d, .int .i64 s, .int .u8 c, .int .i64 sv, .string lt] 48)).cell? ⟨w.heap.size, o, none⟩ := fun o => k1.cell (p := ⟨w.heap.size, o, none⟩) (Nat.lt_succ_self _)
  clear b1
  go_wp2_with fail
  refine (rise3 w1.heap.size _ 1 m 12 true (by simp) (by go_simp) (by go_simp) (by go_simp) H2.out).mono ?_
  rintro e w2 ⟨rfl, b2⟩
  have k2 := (k1.alloc z1 _).trans (b2.mono (by first | (simp; done) | (simp; omega)))
  have z2 : w.heap.size + 1 ≤ w2.heap.size := Nat.le_trans z0 k2.size
  have hc2 : ∀ o, w2.cell? ⟨w.heap.size, o, none⟩ = (w.alloc (.cells #[.string nm, .int .i64 fr, .int .i64 tl, .int .i64 m, .int .u8 k, .int .i64 n, .int .i64 d, .int .i64 s, .int .u8 c, .int .i64 sv, .string lt] 48)).cell? ⟨w.heap.size, o, none⟩ := fun o => k2.cell (p := ⟨w.heap.size, o, none⟩) (Nat.lt_succ_self _)
  clear b2 k1 hc1
  go_wp2_with fail
  refine (dcheck_yes k n d _ H3.out).mono ?_
  rintro e w3 ⟨rfl, b3⟩
  have k3 := k2.trans (b3.mono z2)
  have z3 : w.heap.size + 1 ≤ w3.heap.size := Nat.le_trans z0 k3.size
  have hc3 : ∀ o, w3.cell? ⟨w.heap.size, o, none⟩ = (w.alloc (.cells #[.string nm, .int .i64 fr, .int .i64 tl, .int .i64 m, .int .u8 k, .int .i64 n, .int .i64 d, .int .i64 s, .int .u8 c, .int .i64 sv, .string lt] 48)).cell? ⟨w.heap.size, o, none⟩ := fun o => k3.cell (p := ⟨w.heap.size, o, none⟩) (Nat.lt_succ_self _)
  clear b3 k2 hc2
  go_wp2_with fail
  refine (mcheck_yes s c _ H4.out).mono ?_
  rintro e w4 ⟨rfl, b4⟩
  have k4 := k3.trans (b4.mono z3)
  have z4 : w.heap.size + 1 ≤ w4.heap.size := Nat.le_trans z0 k4.size
  have hc4 : ∀ o, w4.cell? ⟨w.heap.size, o, none⟩ = (w.alloc (.cells #[.string nm, .int .i64 fr, .int .i64 tl, .int .i64 m, .int .u8 k, .int .i64 n, .int .i64 d, .int .i64 s, .int .u8 c, .int .i64 sv, .string lt] 48)).cell? ⟨w.heap.size, o, none⟩ := fun o => k4.cell (p := ⟨w.heap.size, o, none⟩) (Nat.lt_succ_self _)
  clear b4 k3 hc3
  go_wp2_with fail
  refine (rise3 w4.heap.size _ (-604800) sv 604800 true (by simp) (by go_simp) (by go_simp) (by go_simp) H5.out).mono ?_
  rintro e w5 ⟨rfl, b5⟩
  have k5 := (k4.alloc z4 _).trans (b5.mono (by first | (simp; done) | (simp; omega)))
  have z5 : w.heap.size + 1 ≤ w5.heap.size := Nat.le_trans z0 k5.size
  have hc5 : ∀ o, w5.cell? ⟨w.heap.size, o, none⟩ = (w.alloc (.cells #[.string nm, .int .i64 fr, .int .i64 tl, .int .i64 m, .int .u8 k, .int .i64 n, .int .i64 d, .int .i64 s, .int .u8 c, .int .i64 sv, .string lt] 48)).cell? ⟨w.heap.size, o, none⟩ := fun o => k5.cell (p := ⟨w.heap.size, o, none⟩) (Nat.lt_succ_self _)
  clear b5 k4 hc4
  go_wp2_with fail
  refine (cletter_no lt _ H6.out).mono ?_
  rintro e w6 ⟨rfl, b6⟩
  have k6 := k5.trans (b6.mono z5)
  have z6 : w.heap.size + 1 ≤ w6.heap.size := Nat.le_trans z0 k6.size
  have hc6 : ∀ o, w6.cell? ⟨w.heap.size, o, none⟩ = (w.alloc (.cells #[.string nm, .int .i64 fr, .int .i64 tl, .int .i64 m, .int .u8 k, .int .i64 n, .int .i64 d, .int .i64 s, .int .u8 c, .int .i64 sv, .string lt] 48)).cell? ⟨w.heap.size, o, none⟩ := fun o => k6.cell (p := ⟨w.heap.size, o, none⟩) (Nat.lt_succ_self _)
  clear b6 k5 hc5
  go_wp2_with fail
  go_ret
  exact ⟨rfl, a0.trans (k6.mono (Nat.le_succ _))⟩
set_option maxHeartbeats 1000000 in
theorem rright_7 (nm : ByteArray) (fr tl m k n d s c sv : Int) (lt : ByteArray) (w : World) (hs : nm.size ≤ 9223372036854775807) (H0 : Hid (Rl.name nm.data.toList = true)) (H1 : Hid (up [1, fr, tl, 9999] = true)) (H2 : Hid (up [1, m, 12] = true)) (H3 : Hid (Dy.right k n d = true)) (H4 : Hid (Mo.right s c = true)) (H5 : Hid (up [-604800, sv, 604800] = true)) (H6 : Hid (Fm.ltr lt.data.toList = true)) : Calls Tryz.prog 67 #[.agg #[.string nm, .int .i64 fr, .int .i64 tl, .int .i64 m, .int .u8 k, .int .i64 n, .int .i64 d, .int .i64 s, .int .u8 c, .int .i64 sv, .string lt]] w fun e w' => e = .returned (.bool true) ∧ Below w.heap.size w w' := by
  go_enter Tryz.func67, Tryz.ntmps67
  go_wp2_with fail
  refine (rname_is nm true _ hs H0.out).mono ?_
  rintro e w' ⟨rfl, rfl⟩
  have a0 : Below w.heap.size w (w.alloc (.cells #[.string nm, .int .i64 fr, .int .i64 tl, .int .i64 m, .int .u8 k, .int .i64 n, .int .i64 d, .int .i64 s, .int .u8 c, .int .i64 sv, .string lt] 48)) := (Below.refl _ _).alloc (Nat.le_refl _) _
  have k0 : Below (w.heap.size + 1) (w.alloc (.cells #[.string nm, .int .i64 fr, .int .i64 tl, .int .i64 m, .int .u8 k, .int .i64 n, .int .i64 d, .int .i64 s, .int .u8 c, .int .i64 sv, .string lt] 48)) (w.alloc (.cells #[.string nm, .int .i64 fr, .int .i64 tl, .int .i64 m, .int .u8 k, .int .i64 n, .int .i64 d, .int .i64 s, .int .u8 c, .int .i64 sv, .string lt] 48)) := Below.refl _ _
  have z0 : w.heap.size + 1 ≤ (w.alloc (.cells #[.string nm, .int .i64 fr, .int .i64 tl, .int .i64 m, .int .u8 k, .int .i64 n, .int .i64 d, .int .i64 s, .int .u8 c, .int .i64 sv, .string lt] 48)).heap.size := by simp
  go_wp2_with fail
  refine (rise4 (w.heap.size + 1) _ 1 fr tl 9999 true (by simp) (by go_simp) (by go_simp) (by go_simp) (by go_simp) H1.out).mono ?_
  rintro e w1 ⟨rfl, b1⟩
  have k1 := (k0.alloc z0 _).trans (b1.mono (by first | (simp; done) | (simp; omega)))
  have z1 : w.heap.size + 1 ≤ w1.heap.size := Nat.le_trans z0 k1.size
  have hc1 : ∀ o, w1.cell? ⟨w.heap.size, o, none⟩ = (w.alloc (.cells #[.string nm, .int .i64 fr, .int .i64 tl, .int .i64 m, .int .u8 k, .int .i64 n, .int .i64 d, .int .i64 s, .int .u8 c, .int .i64 sv, .string lt] 48)).cell? ⟨w.heap.size, o, none⟩ := fun o => k1.cell (p := ⟨w.heap.size, o, none⟩) (Nat.lt_succ_self _)
  clear b1
  go_wp2_with fail
  refine (rise3 w1.heap.size _ 1 m 12 true (by simp) (by go_simp) (by go_simp) (by go_simp) H2.out).mono ?_
  rintro e w2 ⟨rfl, b2⟩
  have k2 := (k1.alloc z1 _).trans (b2.mono (by first | (simp; done) | (simp; omega)))
  have z2 : w.heap.size + 1 ≤ w2.heap.size := Nat.le_trans z0 k2.size
  have hc2 : ∀ o, w2.cell? ⟨w.heap.size, o, none⟩ = (w.alloc (.cells #[.string nm, .int .i64 fr, .int .i64 tl, .int .i64 m, .int .u8 k, .int .i64 n, .int .i64 d, .int .i64 s, .int .u8 c, .int .i64 sv, .string lt] 48)).cell? ⟨w.heap.size, o, none⟩ := fun o => k2.cell (p := ⟨w.heap.size, o, none⟩) (Nat.lt_succ_self _)
  clear b2 k1 hc1
  go_wp2_with fail
  refine (dcheck_yes k n d _ H3.out).mono ?_
  rintro e w3 ⟨rfl, b3⟩
  have k3 := k2.trans (b3.mono z2)
  have z3 : w.heap.size + 1 ≤ w3.heap.size := Nat.le_trans z0 k3.size
  have hc3 : ∀ o, w3.cell? ⟨w.heap.size, o, none⟩ = (w.alloc (.cells #[.string nm, .int .i64 fr, .int .i64 tl, .int .i64 m, .int .u8 k, .int .i64 n, .int .i64 d, .int .i64 s, .int .u8 c, .int .i64 sv, .string lt] 48)).cell? ⟨w.heap.size, o, none⟩ := fun o => k3.cell (p := ⟨w.heap.size, o, none⟩) (Nat.lt_succ_self _)
  clear b3 k2 hc2
  go_wp2_with fail
  refine (mcheck_yes s c _ H4.out).mono ?_
  rintro e w4 ⟨rfl, b4⟩
  have k4 := k3.trans (b4.mono z3)
  have z4 : w.heap.size + 1 ≤ w4.heap.size := Nat.le_trans z0 k4.size
  have hc4 : ∀ o, w4.cell? ⟨w.heap.size, o, none⟩ = (w.alloc (.cells #[.string nm, .int .i64 fr, .int .i64 tl, .int .i64 m, .int .u8 k, .int .i64 n, .int .i64 d, .int .i64 s, .int .u8 c, .int .i64 sv, .string lt] 48)).cell? ⟨w.heap.size, o, none⟩ := fun o => k4.cell (p := ⟨w.heap.size, o, none⟩) (Nat.lt_succ_self _)
  clear b4 k3 hc3
  go_wp2_with fail
  refine (rise3 w4.heap.size _ (-604800) sv 604800 true (by simp) (by go_simp) (by go_simp) (by go_simp) H5.out).mono ?_
  rintro e w5 ⟨rfl, b5⟩
  have k5 := (k4.alloc z4 _).trans (b5.mono (by first | (simp; done) | (simp; omega)))
  have z5 : w.heap.size + 1 ≤ w5.heap.size := Nat.le_trans z0 k5.size
  have hc5 : ∀ o, w5.cell? ⟨w.heap.size, o, none⟩ = (w.alloc (.cells #[.string nm, .int .i64 fr, .int .i64 tl, .int .i64 m, .int .u8 k, .int .i64 n, .int .i64 d, .int .i64 s, .int .u8 c, .int .i64 sv, .string lt] 48)).cell? ⟨w.heap.size, o, none⟩ := fun o => k5.cell (p := ⟨w.heap.size, o, none⟩) (Nat.lt_succ_self _)
  clear b5 k4 hc4
  go_wp2_with fail
  refine (cletter_yes lt _ H6.out).mono ?_
  rintro e w6 ⟨rfl, b6⟩
  have k6 := k5.trans (b6.mono z5)
  have z6 : w.heap.size + 1 ≤ w6.heap.size := Nat.le_trans z0 k6.size
  have hc6 : ∀ o, w6.cell? ⟨w.heap.size, o, none⟩ = (w.alloc (.cells #[.string nm, .int .i64 fr, .int .i64 tl, .int .i64 m, .int .u8 k, .int .i64 n, .int .i64 d, .int .i64 s, .int .u8 c, .int .i64 sv, .string lt] 48)).cell? ⟨w.heap.size, o, none⟩ := fun o => k6.cell (p := ⟨w.heap.size, o, none⟩) (Nat.lt_succ_self _)
  clear b6 k5 hc5
  go_wp2_with fail
  go_ret
  exact ⟨rfl, a0.trans (k6.mono (Nat.le_succ _))⟩
theorem isRight_any (r : Ru) (w : World) (hs : r.nm.size ≤ 9223372036854775807) : Calls Tryz.prog 67 #[ruV r] w fun e w' => e = .returned (.bool (Rl.right r)) ∧ Below w.heap.size w w' := by
  have e1 := up4_of r
  have e2 := up3_m r
  have e5 := up3_s r.sv
  unfold Rl.right
  obtain ⟨nm, fr, tl, m, k, n, d, s, c, sv, lt⟩ := r
  simp only at e1 e2 e5 hs ⊢
  cases h0 : Rl.name nm.data.toList with
  | false => exact rright_0 nm fr tl m k n d s c sv lt w hs (Lib.hid h0)
  | true =>
    cases h1 : Rl.years ⟨nm, fr, tl, m, k, n, d, s, c, sv, lt⟩ with
    | false => exact rright_1 nm fr tl m k n d s c sv lt w hs (Lib.hid h0) (Lib.hid (e1.trans h1))
    | true =>
      cases h2 : Rl.month ⟨nm, fr, tl, m, k, n, d, s, c, sv, lt⟩ with
      | false => exact rright_2 nm fr tl m k n d s c sv lt w hs (Lib.hid h0) (Lib.hid (e1.trans h1)) (Lib.hid (e2.trans h2))
      | true =>
        cases h3 : Dy.right k n d with
        | false => exact rright_3 nm fr tl m k n d s c sv lt w hs (Lib.hid h0) (Lib.hid (e1.trans h1)) (Lib.hid (e2.trans h2)) (Lib.hid h3)
        | true =>
          cases h4 : Mo.right s c with
          | false => exact rright_4 nm fr tl m k n d s c sv lt w hs (Lib.hid h0) (Lib.hid (e1.trans h1)) (Lib.hid (e2.trans h2)) (Lib.hid h3) (Lib.hid h4)
          | true =>
            cases h5 : Rl.time sv with
            | false => exact rright_5 nm fr tl m k n d s c sv lt w hs (Lib.hid h0) (Lib.hid (e1.trans h1)) (Lib.hid (e2.trans h2)) (Lib.hid h3) (Lib.hid h4) (Lib.hid (e5.trans h5))
            | true =>
              cases h6 : Fm.ltr lt.data.toList with
              | false => exact rright_6 nm fr tl m k n d s c sv lt w hs (Lib.hid h0) (Lib.hid (e1.trans h1)) (Lib.hid (e2.trans h2)) (Lib.hid h3) (Lib.hid h4) (Lib.hid (e5.trans h5)) (Lib.hid h6)
              | true =>
                exact rright_7 nm fr tl m k n d s c sv lt w hs (Lib.hid h0) (Lib.hid (e1.trans h1)) (Lib.hid (e2.trans h2)) (Lib.hid h3) (Lib.hid h4) (Lib.hid (e5.trans h5)) (Lib.hid h6)
theorem isRight_is (r : Ru) (v : Bool) (w : World) (hs : r.nm.size ≤ 9223372036854775807) (h : Rl.right r = v) : Calls Tryz.prog 67 #[ruV r] w fun e w' => e = .returned (.bool v) ∧ Below w.heap.size w w' := by
  subst h
  exact isRight_any r w hs
/-- What Check answers. -/
theorem rcheck_is (r : Ru) (v : Bool) (w : World) (hs : r.nm.size ≤ 9223372036854775807) (h : Rl.right r = v) : Calls Tryz.prog 53 #[ruV r] w fun e w' => e = .returned (.int .i64 (if v = true then 0 else 2)) ∧ Below w.heap.size w w' := by
  have H := fun W => isRight_is r v W hs h
  obtain ⟨nm, fr, tl, m, k, n, d, s, c, sv, lt⟩ := r
  have HH := Lib.hid H
  clear H h
  cases v with
  | false =>
    go_enter Tryz.func53, Tryz.ntmps53
    go_wp2_with fail
    refine (HH.out _).mono ?_
    rintro e w1 ⟨rfl, b1⟩
    have a1 : Below w.heap.size w w1 := ((Below.refl _ _).alloc (Nat.le_refl _) _).trans (b1.mono (by simp))
    go_wp2_with fail
    go_ret
    exact ⟨rfl, a1⟩
  | true =>
    go_enter Tryz.func53, Tryz.ntmps53
    go_wp2_with fail
    refine (HH.out _).mono ?_
    rintro e w1 ⟨rfl, b1⟩
    have a1 : Below w.heap.size w w1 := ((Below.refl _ _).alloc (Nat.le_refl _) _).trans (b1.mono (by simp))
    go_wp2_with fail
    go_ret
    exact ⟨rfl, a1⟩
end Go.Proofs.YtkcbmnboccjnnaaGreatDoor
/- Contracts of package rule: the readers of its texts, readPart. -/

namespace Go.Proofs.YtkcbmnboccjnnaaGreatDoor
open Go.RowKit
/-- A rule at block g. -/
structure Rn (w : World) (B g : Nat) (r : Ru) : Prop where
  base : B ≤ g
  lt : g < w.heap.size
  c0 : w.cell? ⟨g, 0, none⟩ = some (.string r.nm)
  c1 : w.cell? ⟨g, 1, none⟩ = some (.int .i64 r.fr)
  c2 : w.cell? ⟨g, 2, none⟩ = some (.int .i64 r.tl)
  c3 : w.cell? ⟨g, 3, none⟩ = some (.int .i64 r.m)
  c4 : w.cell? ⟨g, 4, none⟩ = some (.int .u8 r.k)
  c5 : w.cell? ⟨g, 5, none⟩ = some (.int .i64 r.n)
  c6 : w.cell? ⟨g, 6, none⟩ = some (.int .i64 r.d)
  c7 : w.cell? ⟨g, 7, none⟩ = some (.int .i64 r.s)
  c8 : w.cell? ⟨g, 8, none⟩ = some (.int .u8 r.c)
  c9 : w.cell? ⟨g, 9, none⟩ = some (.int .i64 r.sv)
  c10 : w.cell? ⟨g, 10, none⟩ = some (.string r.lt)
  f0 : w.frozen? ⟨g, 0, none⟩ = false
  f1 : w.frozen? ⟨g, 1, none⟩ = false
  f2 : w.frozen? ⟨g, 2, none⟩ = false
  f3 : w.frozen? ⟨g, 3, none⟩ = false
  f4 : w.frozen? ⟨g, 4, none⟩ = false
  f5 : w.frozen? ⟨g, 5, none⟩ = false
  f6 : w.frozen? ⟨g, 6, none⟩ = false
  f7 : w.frozen? ⟨g, 7, none⟩ = false
  f8 : w.frozen? ⟨g, 8, none⟩ = false
  f9 : w.frozen? ⟨g, 9, none⟩ = false
  f10 : w.frozen? ⟨g, 10, none⟩ = false
theorem Rn.below {w w' : World} {B g : Nat} {r : Ru} (h : Rn w B g r) (hb : Below w.heap.size w w') : Rn w' B g r := by
  obtain ⟨hc, hf⟩ := bcell hb
  have hl := h.lt
  exact ⟨h.base, Nat.lt_of_lt_of_le hl hb.size, (hc _ _ hl).trans h.c0, (hc _ _ hl).trans h.c1, (hc _ _ hl).trans h.c2, (hc _ _ hl).trans h.c3, (hc _ _ hl).trans h.c4, (hc _ _ hl).trans h.c5, (hc _ _ hl).trans h.c6, (hc _ _ hl).trans h.c7, (hc _ _ hl).trans h.c8, (hc _ _ hl).trans h.c9, (hc _ _ hl).trans h.c10,
    (hf _ _ hl).trans h.f0, (hf _ _ hl).trans h.f1, (hf _ _ hl).trans h.f2, (hf _ _ hl).trans h.f3, (hf _ _ hl).trans h.f4, (hf _ _ hl).trans h.f5, (hf _ _ hl).trans h.f6, (hf _ _ hl).trans h.f7, (hf _ _ hl).trans h.f8, (hf _ _ hl).trans h.f9, (hf _ _ hl).trans h.f10⟩
theorem Rn.stay {w w' : World} {B B' g : Nat} {r : Ru} (h : Rn w B g r) (hb : Below B' w w') (hg : g < B') : Rn w' B g r := by
  have hc : ∀ o, w'.cell? ⟨g, o, none⟩ = w.cell? ⟨g, o, none⟩ := fun o => hb.cell (p := ⟨g, o, none⟩) hg
  have hf : ∀ o, w'.frozen? ⟨g, o, none⟩ = w.frozen? ⟨g, o, none⟩ := fun o => hb.frozen (p := ⟨g, o, none⟩) hg
  exact ⟨h.base, Nat.lt_of_lt_of_le h.lt hb.size, (hc _).trans h.c0, (hc _).trans h.c1, (hc _).trans h.c2, (hc _).trans h.c3, (hc _).trans h.c4, (hc _).trans h.c5, (hc _).trans h.c6, (hc _).trans h.c7, (hc _).trans h.c8, (hc _).trans h.c9, (hc _).trans h.c10,
    (hf _).trans h.f0, (hf _).trans h.f1, (hf _).trans h.f2, (hf _).trans h.f3, (hf _).trans h.f4, (hf _).trans h.f5, (hf _).trans h.f6, (hf _).trans h.f7, (hf _).trans h.f8, (hf _).trans h.f9, (hf _).trans h.f10⟩
theorem dash_no {s : ByteArray} (h : s.data.toList ≠ [45]) : (s.toList == [45]) = false ∧ ¬ s.toList = [45] := toList_ne h
theorem dash_eq {s : ByteArray} (h : s.data.toList = [45]) : s = ⟨#[45]⟩ := ByteArray.ext (Array.toList_inj.1 h)
theorem readName_any (s : ByteArray) (w : World) (hs : s.size ≤ 9223372036854775807) : Calls Tryz.prog 176 #[.string s] w fun e w' => e = .returned (.tuple #[.string (Rl.nam s).1, .int .i64 (Rl.nam s).2]) ∧ Below w.heap.size w w' := by
  cases h : Rl.name s.data.toList with
  | true =>
    rw [show Rl.nam s = (s, 0) by unfold Rl.nam; rw [if_pos h]]
    have H := Lib.hid h
    clear h
    go_enter Tryz.func176, Tryz.ntmps176
    go_wp2_with fail
    refine (rname_is s true _ hs H.out).mono ?_
    rintro e w' ⟨rfl, rfl⟩
    go_wp2_with fail
    go_ret2
    exact ⟨rfl, Below.refl _ _⟩
  | false =>
    rw [show Rl.nam s = (⟨#[]⟩, 7) by unfold Rl.nam; rw [if_neg (by rw [h]; decide)]]
    have H := Lib.hid h
    clear h
    go_enter Tryz.func176, Tryz.ntmps176
    go_wp2_with fail
    refine (rname_is s false _ hs H.out).mono ?_
    rintro e w' ⟨rfl, rfl⟩
    go_wp2_with fail
    go_ret2
    exact ⟨rfl, Below.refl _ _⟩
theorem yr_step (s : ByteArray) : (Mo.prsU [s]).1.y = Mo.yr s.data.toList ∧ (Mo.prsU [s]).2.2 = (if Mo.yr s.data.toList = 0 then 4 else 0) := by
  have e : Mo.prsU [s] = Mo.run 0 [s] Ut.first := rfl
  rw [e, Mo.run]
  have h : (Mo.step 0 s Ut.first).2 = (if Mo.yr s.data.toList = 0 then (4 : Int) else 0) := rfl
  by_cases h0 : Mo.yr s.data.toList = 0
  · rw [h, if_pos h0, if_neg (by decide)]
    exact ⟨h0.symm, rfl⟩
  · rw [h, if_neg h0, if_pos rfl, Mo.run]
    exact ⟨rfl, rfl⟩
theorem ryear_any (s : ByteArray) (w : World) (hE : Env w) (hs : s.size ≤ 4096) : Calls Tryz.prog 177 #[.string s] w fun e w' => e = .returned (.tuple #[.int .i64 (Mo.yr s.data.toList), .int .i64 (if Mo.yr s.data.toList = 0 then 4 else 0)]) ∧ Below w.heap.size w w' := by
  obtain ⟨e1, e2⟩ := yr_step s
  have hU := fun (W : World) (g : Nat) (hE : Env W) (hg : g < W.heap.size) (hc : W.cell? ⟨g, 0, none⟩ = some (.string s)) => uprs_any (some ⟨g, 0, none⟩) 1 1 [s] rfl (by omega) (fun _ i hi => by have h : i = 0 := (by omega); subst h; exact hs) W hE W.heap.size (Nat.le_refl _) (sl_one hg hc)
  unfold UPrsE at hU
  rw [e2] at hU
  generalize Mo.prsU [s] = q at *
  obtain ⟨⟨vy, vm, vk, vn, vd, vs, vc⟩, i, z⟩ := q
  have e1 : vy = Mo.yr s.data.toList := e1
  subst e1
  have HU := Lib.hid hU
  have HE := Lib.hid hE
  clear hU e2 hE
  generalize (if Mo.yr s.data.toList = 0 then (4 : Int) else 0) = z' at *
  generalize Mo.yr s.data.toList = y at *
  go_enter Tryz.func177, Tryz.ntmps177
  go_wp2_with fail
  refine (HU.out _ w.heap.size (HE.out.alloc _) (by simp) (by go_simp)).mono ?_
  rintro e w1 ⟨rfl, b1⟩
  have a1 : Below w.heap.size w w1 := ((Below.refl _ _).alloc (Nat.le_refl _) _).trans (b1.mono (by simp))
  have z1 := a1.size
  go_wp2_with fail
  go_ret2
  refine ⟨rfl, ?_⟩
  repeat (first | exact Below.refl _ _ | assumption | refine below_drewN ?_ _ | refine Below.drew ?_ | refine Below.setCell ?_ (by first | omega | (simp; done) | (simp; omega)) _ | refine Below.alloc ?_ (by first | omega | (simp; done) | (simp; omega)) _)
theorem ends_sl (W : World) (g : Nat) (hg : g < W.heap.size) (h0 : W.cell? ⟨g, 0, none⟩ = some (.string Rl.onlyW)) (h1 : W.cell? ⟨g, 1, none⟩ = some (.string Rl.maxW)) : Sl W W.heap.size (some ⟨g, 0, none⟩) 2 (fun i => .string (Rl.ends.getD i ByteArray.empty)) := sl_two hg h0 h1
theorem pick_ends (s : ByteArray) (g : Nat) (v : Int) (W : World) (hs : s.size ≤ 4096) (hg : g < W.heap.size) (h0 : W.cell? ⟨g, 0, none⟩ = some (.string ⟨#[111, 110, 108, 121]⟩)) (h1 : W.cell? ⟨g, 1, none⟩ = some (.string ⟨#[109, 97, 120, 105, 109, 117, 109]⟩)) (hv : Wd.pick s Rl.ends = v) :
    Calls Tryz.prog 91 #[.string s, .slice (some ⟨g, 0, none⟩) 2 2] W fun e w' => e = .returned (.int .i64 v) ∧ Below W.heap.size W w' := by
  subst hv
  exact pick_any s (some ⟨g, 0, none⟩) 2 2 Rl.ends rfl (by omega) (by omega) (fun i hi => by
    have h2 : i = 0 ∨ i = 1 := by omega
    rcases h2 with rfl | rfl
    · decide +kernel
    · decide +kernel) W W.heap.size (Nat.le_refl _) (ends_sl W g hg h0 h1)
section
variable (s : ByteArray) (fr : Int) (w : World)
theorem rto_only (hs : s.size ≤ 4096) (h : Wd.pick s Rl.ends = 0) : Calls Tryz.prog 178 #[.string s, .int .i64 fr] w fun e w' => e = .returned (.tuple #[.int .i64 fr, .int .i64 0]) ∧ Below w.heap.size w w' := by
  have H := Lib.hid h
  clear h
  go_enter Tryz.func178, Tryz.ntmps178
  go_wp2_with fail
  refine (pick_ends s w.heap.size 0 _ hs (by simp) (by go_simp) (by go_simp) H.out).mono ?_
  rintro e w1 ⟨rfl, b1⟩
  have a1 : Below w.heap.size w w1 := ((Below.refl _ _).alloc (Nat.le_refl _) _).trans (b1.mono (by simp))
  go_wp2_with fail
  go_ret2
  exact ⟨rfl, a1⟩
theorem rto_max (hs : s.size ≤ 4096) (h : Wd.pick s Rl.ends = 1) : Calls Tryz.prog 178 #[.string s, .int .i64 fr] w fun e w' => e = .returned (.tuple #[.int .i64 9999, .int .i64 0]) ∧ Below w.heap.size w w' := by
  have H := Lib.hid h
  clear h
  go_enter Tryz.func178, Tryz.ntmps178
  go_wp2_with fail
  refine (pick_ends s w.heap.size 1 _ hs (by simp) (by go_simp) (by go_simp) H.out).mono ?_
  rintro e w1 ⟨rfl, b1⟩
  have a1 : Below w.heap.size w w1 := ((Below.refl _ _).alloc (Nat.le_refl _) _).trans (b1.mono (by simp))
  go_wp2_with fail
  go_ret2
  exact ⟨rfl, a1⟩
theorem rto_none (hs : s.size ≤ 4096) (h : Wd.pick s Rl.ends = -1) (hy : Mo.yr s.data.toList = 0) (hE : Env w) : Calls Tryz.prog 178 #[.string s, .int .i64 fr] w fun e w' => e = .returned (.tuple #[.int .i64 0, .int .i64 4]) ∧ Below w.heap.size w w' := by
  have H := Lib.hid h
  have HY := Lib.hid (fun W (hE : Env W) => by
    have hr := ryear_any s W hE hs
    rw [hy, if_pos rfl] at hr
    exact hr)
  have HE := Lib.hid hE
  clear h hy hE
  go_enter Tryz.func178, Tryz.ntmps178
  go_wp2_with fail
  refine (pick_ends s w.heap.size (-1) _ hs (by simp) (by go_simp) (by go_simp) H.out).mono ?_
  rintro e w1 ⟨rfl, b1⟩
  have a1 : Below w.heap.size w w1 := ((Below.refl _ _).alloc (Nat.le_refl _) _).trans (b1.mono (by simp))
  go_wp2_with fail
  refine (HY.out _ (HE.out.below a1)).mono ?_
  rintro e w2 ⟨rfl, b2⟩
  have a2 := a1.trans (b2.mono a1.size)
  go_wp2_with fail
  go_ret2
  exact ⟨rfl, a2⟩
theorem rto_year (y : Int) (v : Bool) (hs : s.size ≤ 4096) (h : Wd.pick s Rl.ends = -1) (hy : Mo.yr s.data.toList = y) (h0 : y ≠ 0) (hE : Env w) (hv : decide (fr ≤ y) = v) : Calls Tryz.prog 178 #[.string s, .int .i64 fr] w fun e w' => e = .returned (.tuple #[.int .i64 (if v = true then y else 0), .int .i64 (if v = true then 0 else 10)]) ∧ Below w.heap.size w w' := by
  have H := Lib.hid h
  have HY := Lib.hid (fun W (hE : Env W) => by
    have hr := ryear_any s W hE hs
    rw [hy, if_neg h0] at hr
    exact hr)
  have HE := Lib.hid hE
  have HV := Lib.hid (show up [fr, y] = v by rw [← hv]; simp [up])
  clear h hy hE h0 hv
  cases v with
  | true =>
    go_enter Tryz.func178, Tryz.ntmps178
    go_wp2_with fail
    refine (pick_ends s w.heap.size (-1) _ hs (by simp) (by go_simp) (by go_simp) H.out).mono ?_
    rintro e w1 ⟨rfl, b1⟩
    have a1 : Below w.heap.size w w1 := ((Below.refl _ _).alloc (Nat.le_refl _) _).trans (b1.mono (by simp))
    go_wp2_with fail
    refine (HY.out _ (HE.out.below a1)).mono ?_
    rintro e w2 ⟨rfl, b2⟩
    have a2 := a1.trans (b2.mono a1.size)
    go_wp2_with fail
    refine (rise2 w2.heap.size _ fr y true (by simp) (by go_simp) (by go_simp) HV.out).mono ?_
    rintro e w3 ⟨rfl, b3⟩
    have a3 := (a2.alloc a2.size _).trans (b3.mono (by have := a2.size; simp; omega))
    go_wp2_with fail
    go_ret2
    exact ⟨rfl, a3⟩
  | false =>
    go_enter Tryz.func178, Tryz.ntmps178
    go_wp2_with fail
    refine (pick_ends s w.heap.size (-1) _ hs (by simp) (by go_simp) (by go_simp) H.out).mono ?_
    rintro e w1 ⟨rfl, b1⟩
    have a1 : Below w.heap.size w w1 := ((Below.refl _ _).alloc (Nat.le_refl _) _).trans (b1.mono (by simp))
    go_wp2_with fail
    refine (HY.out _ (HE.out.below a1)).mono ?_
    rintro e w2 ⟨rfl, b2⟩
    have a2 := a1.trans (b2.mono a1.size)
    go_wp2_with fail
    refine (rise2 w2.heap.size _ fr y false (by simp) (by go_simp) (by go_simp) HV.out).mono ?_
    rintro e w3 ⟨rfl, b3⟩
    have a3 := (a2.alloc a2.size _).trans (b3.mono (by have := a2.size; simp; omega))
    go_wp2_with fail
    go_ret2
    exact ⟨rfl, a3⟩
theorem rto_any (hs : s.size ≤ 4096) (hE : Env w) : Calls Tryz.prog 178 #[.string s, .int .i64 fr] w fun e w' => e = .returned (.tuple #[.int .i64 (Rl.till fr s).1, .int .i64 (Rl.till fr s).2]) ∧ Below w.heap.size w w' := by
  have hg := Wd.pick_ge s Rl.ends
  have hl : Wd.pick s Rl.ends < 2 := Wd.pick_lt s Rl.ends
  by_cases h0 : Wd.pick s Rl.ends = 0
  · rw [show Rl.till fr s = (fr, 0) by unfold Rl.till; rw [if_pos h0]]
    exact rto_only s fr w hs h0
  · by_cases h1 : Wd.pick s Rl.ends = 1
    · rw [show Rl.till fr s = (9999, 0) by unfold Rl.till; rw [if_neg h0, if_pos h1]]
      exact rto_max s fr w hs h1
    · have hm : Wd.pick s Rl.ends = -1 := by omega
      by_cases h2 : Mo.yr s.data.toList = 0
      · rw [show Rl.till fr s = (0, 4) by unfold Rl.till; rw [if_neg h0, if_neg h1, if_pos h2]]
        exact rto_none s fr w hs hm h2 hE
      · by_cases h3 : fr ≤ Mo.yr s.data.toList
        · rw [show Rl.till fr s = (Mo.yr s.data.toList, 0) by unfold Rl.till; rw [if_neg h0, if_neg h1, if_neg h2, if_neg (by omega)]]
          exact rto_year s fr w _ true hs hm rfl h2 hE (decide_eq_true h3)
        · rw [show Rl.till fr s = (0, 10) by unfold Rl.till; rw [if_neg h0, if_neg h1, if_neg h2, if_pos (by omega)]]
          exact rto_year s fr w _ false hs hm rfl h2 hE (decide_eq_false h3)
theorem rnone_any : Calls Tryz.prog 179 #[.string s] w fun e w' => e = .returned (.int .i64 (if s.data.toList = [45] then 0 else 4)) ∧ Below w.heap.size w w' := by
  by_cases h : s.data.toList = [45]
  · rw [if_pos h]
    obtain rfl := dash_eq h
    clear h
    go_enter Tryz.func179, Tryz.ntmps179
    go_wp2_with fail
    go_ret
    exact ⟨rfl, Below.refl _ _⟩
  · rw [if_neg h]
    obtain ⟨t1, t2⟩ := dash_no h
    clear h
    go_enter Tryz.func179, Tryz.ntmps179
    go_wp2_with fail
    go_ret
    exact ⟨rfl, Below.refl _ _⟩
theorem rmonth_any (hs : s.size ≤ 4294967296) : Calls Tryz.prog 180 #[.string s] w fun e w' => e = .returned (.tuple #[.int .i64 (Wd.pick s Wd.mons + 1), .int .i64 (if Wd.pick s Wd.mons + 1 = 0 then 7 else 0)]) ∧ Below w.heap.size w w' := by
  have hb1 := Wd.pick_ge s Wd.mons
  have hm := monthWord_any s
  by_cases h : Wd.pick s Wd.mons + 1 = 0
  · rw [if_pos h, h]
    rw [h] at hm
    have HM := Lib.hid hm
    clear h hm hb1
    go_enter Tryz.func180, Tryz.ntmps180
    go_wp2_with fail
    refine (HM.out _ hs).mono ?_
    rintro e w1 ⟨rfl, b1⟩
    go_wp2_with fail
    go_ret2
    exact ⟨rfl, b1⟩
  · rw [if_neg h]
    have t1 : (Wd.pick s Wd.mons + 1 == 0) = false := by rw [beq_eq_false_iff_ne]; exact h
    generalize Wd.pick s Wd.mons + 1 = p at *
    have HM := Lib.hid hm
    clear h hm
    go_enter Tryz.func180, Tryz.ntmps180
    go_wp2_with fail
    refine (HM.out _ hs).mono ?_
    rintro e w1 ⟨rfl, b1⟩
    go_wp2_with fail
    go_ret2
    exact ⟨rfl, b1⟩
theorem rsave_any (hs : s.size ≤ 4096) (hE : Env w) : Calls Tryz.prog 183 #[.string s] w fun e w' => e = .returned (.tuple #[.int .i64 (Rl.save s.data.toList).1, .int .i64 (Rl.save s.data.toList).2]) ∧ Below w.heap.size w w' := by
  by_cases h : s.data.toList = [45]
  · rw [show Rl.save s.data.toList = (0, 0) by unfold Rl.save; rw [if_pos h]]
    obtain rfl := dash_eq h
    clear h
    go_enter Tryz.func183, Tryz.ntmps183
    go_wp2_with fail
    go_ret2
    exact ⟨rfl, Below.refl _ _⟩
  · rw [show Rl.save s.data.toList = parseL s.data.toList by unfold Rl.save; rw [if_neg h]]
    have HP := Lib.hid (parse_any s w hE hs)
    obtain ⟨t1, t2⟩ := dash_no h
    generalize parseL s.data.toList = q at *
    clear h hE
    go_enter Tryz.func183, Tryz.ntmps183
    go_wp2_with fail
    refine (HP.out).mono ?_
    rintro e w1 ⟨rfl, b1⟩
    go_wp2_with fail
    go_ret2
    exact ⟨rfl, b1⟩
theorem rlett_any : Calls Tryz.prog 184 #[.string s] w fun e w' => e = .returned (.tuple #[.string (Rl.lett s).1, .int .i64 (Rl.lett s).2]) ∧ Below w.heap.size w w' := by
  by_cases h : s.data.toList = [45]
  · rw [show Rl.lett s = (⟨#[]⟩, 0) by unfold Rl.lett; rw [if_pos h]]
    obtain rfl := dash_eq h
    clear h
    go_enter Tryz.func184, Tryz.ntmps184
    go_wp2_with fail
    go_ret2
    exact ⟨rfl, Below.refl _ _⟩
  · cases h1 : Fm.ltr s.data.toList with
    | true =>
      rw [show Rl.lett s = (s, 0) by unfold Rl.lett; rw [if_neg h, if_pos h1]]
      obtain ⟨t1, t2⟩ := dash_no h
      have H1 := Lib.hid h1
      clear h h1
      go_enter Tryz.func184, Tryz.ntmps184
      go_wp2_with fail
      refine (cletter_yes s _ H1.out).mono ?_
      rintro e w1 ⟨rfl, b1⟩
      go_wp2_with fail
      go_ret2
      exact ⟨rfl, b1⟩
    | false =>
      rw [show Rl.lett s = (⟨#[]⟩, 4) by unfold Rl.lett; rw [if_neg h, if_neg (by rw [h1]; decide)]]
      obtain ⟨t1, t2⟩ := dash_no h
      have H1 := Lib.hid h1
      clear h h1
      go_enter Tryz.func184, Tryz.ntmps184
      go_wp2_with fail
      refine (cletter_no s _ H1.out).mono ?_
      rintro e w1 ⟨rfl, b1⟩
      go_wp2_with fail
      go_ret2
      exact ⟨rfl, b1⟩
end
section
variable (B g : Nat) (t : ByteArray) (r : Ru) (w : World)
theorem rpart0 (z : Int) (v : ByteArray) (hE : Env w) (hu : Rn w B g r) (hR : Hid (∀ W, Calls Tryz.prog 176 #[.string t] W fun e w' => e = .returned (.tuple #[.string v, .int .i64 z]) ∧ Below W.heap.size W w')) :
    Calls Tryz.prog 149 #[.pointer (some ⟨g, 0, none⟩), .int .i64 0, .string t] w fun e w' => e = .returned (.int .i64 z) ∧ Rn w' B g ({ r with nm := v }) ∧ Below B w w' := by
  have HU := Lib.hid hu
  have HE := Lib.hid hE
  have hB := hu.base
  have hl0 := hu.lt
  clear hu hE
  go_enter Tryz.func149, Tryz.ntmps149
  go_wp2_with fail
  refine (hR.out _).mono ?_
  rintro e w1 ⟨rfl, b1⟩
  obtain ⟨_, hl, c0, c1, c2, c3, c4, c5, c6, c7, c8, c9, c10, f0, f1, f2, f3, f4, f5, f6, f7, f8, f9, f10⟩ := HU.out.below b1
  have a1 := b1.mono (show B ≤ w.heap.size by omega)
  clear b1 HU
  go_wp2_with fail
  go_ret
  refine ⟨rfl, ⟨hB, by simpa using hl, by go_simp, by go_simp, by go_simp, by go_simp, by go_simp, by go_simp, by go_simp, by go_simp, by go_simp, by go_simp, by go_simp, by go_simp, by go_simp, by go_simp, by go_simp, by go_simp, by go_simp, by go_simp, by go_simp, by go_simp, by go_simp, by go_simp⟩, ?_⟩
  repeat (first | exact Below.refl _ _ | assumption | refine below_drewN ?_ _ | refine Below.drew ?_ | refine Below.setCell ?_ (by first | omega | (simp; done) | (simp; omega)) _ | refine Below.alloc ?_ (by first | omega | (simp; done) | (simp; omega)) _)
theorem rpart1 (z v : Int) (hE : Env w) (hu : Rn w B g r) (hR : Hid (∀ W, Env W → Calls Tryz.prog 177 #[.string t] W fun e w' => e = .returned (.tuple #[.int .i64 v, .int .i64 z]) ∧ Below W.heap.size W w')) :
    Calls Tryz.prog 149 #[.pointer (some ⟨g, 0, none⟩), .int .i64 1, .string t] w fun e w' => e = .returned (.int .i64 z) ∧ Rn w' B g ({ r with fr := v }) ∧ Below B w w' := by
  have HU := Lib.hid hu
  have HE := Lib.hid hE
  have hB := hu.base
  have hl0 := hu.lt
  clear hu hE
  go_enter Tryz.func149, Tryz.ntmps149
  go_wp2_with fail
  refine (hR.out _ HE.out).mono ?_
  rintro e w1 ⟨rfl, b1⟩
  obtain ⟨_, hl, c0, c1, c2, c3, c4, c5, c6, c7, c8, c9, c10, f0, f1, f2, f3, f4, f5, f6, f7, f8, f9, f10⟩ := HU.out.below b1
  have a1 := b1.mono (show B ≤ w.heap.size by omega)
  clear b1 HU
  go_wp2_with fail
  go_ret
  refine ⟨rfl, ⟨hB, by simpa using hl, by go_simp, by go_simp, by go_simp, by go_simp, by go_simp, by go_simp, by go_simp, by go_simp, by go_simp, by go_simp, by go_simp, by go_simp, by go_simp, by go_simp, by go_simp, by go_simp, by go_simp, by go_simp, by go_simp, by go_simp, by go_simp, by go_simp⟩, ?_⟩
  repeat (first | exact Below.refl _ _ | assumption | refine below_drewN ?_ _ | refine Below.drew ?_ | refine Below.setCell ?_ (by first | omega | (simp; done) | (simp; omega)) _ | refine Below.alloc ?_ (by first | omega | (simp; done) | (simp; omega)) _)
theorem rpart2 (z v : Int) (hE : Env w) (hu : Rn w B g r) (hR : Hid (∀ W, Env W → Calls Tryz.prog 178 #[.string t, .int .i64 r.fr] W fun e w' => e = .returned (.tuple #[.int .i64 v, .int .i64 z]) ∧ Below W.heap.size W w')) :
    Calls Tryz.prog 149 #[.pointer (some ⟨g, 0, none⟩), .int .i64 2, .string t] w fun e w' => e = .returned (.int .i64 z) ∧ Rn w' B g ({ r with tl := v }) ∧ Below B w w' := by
  have HU := Lib.hid hu
  have HE := Lib.hid hE
  have hB := hu.base
  have hl0 := hu.lt
  have d1 := hu.c1
  clear hu hE
  go_enter Tryz.func149, Tryz.ntmps149
  go_wp2_with fail
  refine (hR.out _ HE.out).mono ?_
  rintro e w1 ⟨rfl, b1⟩
  clear d1
  obtain ⟨_, hl, c0, c1, c2, c3, c4, c5, c6, c7, c8, c9, c10, f0, f1, f2, f3, f4, f5, f6, f7, f8, f9, f10⟩ := HU.out.below b1
  have a1 := b1.mono (show B ≤ w.heap.size by omega)
  clear b1 HU
  go_wp2_with fail
  go_ret
  refine ⟨rfl, ⟨hB, by simpa using hl, by go_simp, by go_simp, by go_simp, by go_simp, by go_simp, by go_simp, by go_simp, by go_simp, by go_simp, by go_simp, by go_simp, by go_simp, by go_simp, by go_simp, by go_simp, by go_simp, by go_simp, by go_simp, by go_simp, by go_simp, by go_simp, by go_simp⟩, ?_⟩
  repeat (first | exact Below.refl _ _ | assumption | refine below_drewN ?_ _ | refine Below.drew ?_ | refine Below.setCell ?_ (by first | omega | (simp; done) | (simp; omega)) _ | refine Below.alloc ?_ (by first | omega | (simp; done) | (simp; omega)) _)
theorem rpart3 (z : Int) (hE : Env w) (hu : Rn w B g r) (hR : Hid (∀ W, Calls Tryz.prog 179 #[.string t] W fun e w' => e = .returned (.int .i64 z) ∧ Below W.heap.size W w')) :
    Calls Tryz.prog 149 #[.pointer (some ⟨g, 0, none⟩), .int .i64 3, .string t] w fun e w' => e = .returned (.int .i64 z) ∧ Rn w' B g r ∧ Below B w w' := by
  have HU := Lib.hid hu
  have HE := Lib.hid hE
  have hB := hu.base
  have hl0 := hu.lt
  clear hu hE
  go_enter Tryz.func149, Tryz.ntmps149
  go_wp2_with fail
  refine (hR.out _).mono ?_
  rintro e w1 ⟨rfl, b1⟩
  go_wp2_with fail
  go_ret
  exact ⟨rfl, HU.out.below b1, b1.mono (by omega)⟩
theorem rpart4 (z v : Int) (hE : Env w) (hu : Rn w B g r) (hR : Hid (∀ W, Calls Tryz.prog 180 #[.string t] W fun e w' => e = .returned (.tuple #[.int .i64 v, .int .i64 z]) ∧ Below W.heap.size W w')) :
    Calls Tryz.prog 149 #[.pointer (some ⟨g, 0, none⟩), .int .i64 4, .string t] w fun e w' => e = .returned (.int .i64 z) ∧ Rn w' B g ({ r with m := v }) ∧ Below B w w' := by
  have HU := Lib.hid hu
  have HE := Lib.hid hE
  have hB := hu.base
  have hl0 := hu.lt
  clear hu hE
  go_enter Tryz.func149, Tryz.ntmps149
  go_wp2_with fail
  refine (hR.out _).mono ?_
  rintro e w1 ⟨rfl, b1⟩
  obtain ⟨_, hl, c0, c1, c2, c3, c4, c5, c6, c7, c8, c9, c10, f0, f1, f2, f3, f4, f5, f6, f7, f8, f9, f10⟩ := HU.out.below b1
  have a1 := b1.mono (show B ≤ w.heap.size by omega)
  clear b1 HU
  go_wp2_with fail
  go_ret
  refine ⟨rfl, ⟨hB, by simpa using hl, by go_simp, by go_simp, by go_simp, by go_simp, by go_simp, by go_simp, by go_simp, by go_simp, by go_simp, by go_simp, by go_simp, by go_simp, by go_simp, by go_simp, by go_simp, by go_simp, by go_simp, by go_simp, by go_simp, by go_simp, by go_simp, by go_simp⟩, ?_⟩
  repeat (first | exact Below.refl _ _ | assumption | refine below_drewN ?_ _ | refine Below.drew ?_ | refine Below.setCell ?_ (by first | omega | (simp; done) | (simp; omega)) _ | refine Below.alloc ?_ (by first | omega | (simp; done) | (simp; omega)) _)
theorem rpart5 (z k n d : Int) (hE : Env w) (hu : Rn w B g r) (hR : Hid (∀ W, Env W → Calls Tryz.prog 181 #[.string t] W fun e w' => e = .returned (.tuple #[.agg #[.int .u8 k, .int .i64 n, .int .i64 d], .int .i64 z]) ∧ Below W.heap.size W w')) :
    Calls Tryz.prog 149 #[.pointer (some ⟨g, 0, none⟩), .int .i64 5, .string t] w fun e w' => e = .returned (.int .i64 z) ∧ Rn w' B g ({ r with k := k, n := n, d := d }) ∧ Below B w w' := by
  have HU := Lib.hid hu
  have HE := Lib.hid hE
  have hB := hu.base
  have hl0 := hu.lt
  clear hu hE
  go_enter Tryz.func149, Tryz.ntmps149
  go_wp2_with fail
  refine (hR.out _ HE.out).mono ?_
  rintro e w1 ⟨rfl, b1⟩
  obtain ⟨_, hl, c0, c1, c2, c3, c4, c5, c6, c7, c8, c9, c10, f0, f1, f2, f3, f4, f5, f6, f7, f8, f9, f10⟩ := HU.out.below b1
  have a1 := b1.mono (show B ≤ w.heap.size by omega)
  clear b1 HU
  go_wp2_with fail
  go_ret
  refine ⟨rfl, ⟨hB, by simpa using hl, by go_simp, by go_simp, by go_simp, by go_simp, by go_simp, by go_simp, by go_simp, by go_simp, by go_simp, by go_simp, by go_simp, by go_simp, by go_simp, by go_simp, by go_simp, by go_simp, by go_simp, by go_simp, by go_simp, by go_simp, by go_simp, by go_simp⟩, ?_⟩
  repeat (first | exact Below.refl _ _ | assumption | refine below_drewN ?_ _ | refine Below.drew ?_ | refine Below.setCell ?_ (by first | omega | (simp; done) | (simp; omega)) _ | refine Below.alloc ?_ (by first | omega | (simp; done) | (simp; omega)) _)
theorem rpart6 (z s c : Int) (hE : Env w) (hu : Rn w B g r) (hR : Hid (∀ W, Env W → Calls Tryz.prog 182 #[.string t] W fun e w' => e = .returned (.tuple #[.agg #[.int .i64 s, .int .u8 c], .int .i64 z]) ∧ Below W.heap.size W w')) :
    Calls Tryz.prog 149 #[.pointer (some ⟨g, 0, none⟩), .int .i64 6, .string t] w fun e w' => e = .returned (.int .i64 z) ∧ Rn w' B g ({ r with s := s, c := c }) ∧ Below B w w' := by
  have HU := Lib.hid hu
  have HE := Lib.hid hE
  have hB := hu.base
  have hl0 := hu.lt
  clear hu hE
  go_enter Tryz.func149, Tryz.ntmps149
  go_wp2_with fail
  refine (hR.out _ HE.out).mono ?_
  rintro e w1 ⟨rfl, b1⟩
  obtain ⟨_, hl, c0, c1, c2, c3, c4, c5, c6, c7, c8, c9, c10, f0, f1, f2, f3, f4, f5, f6, f7, f8, f9, f10⟩ := HU.out.below b1
  have a1 := b1.mono (show B ≤ w.heap.size by omega)
  clear b1 HU
  go_wp2_with fail
  go_ret
  refine ⟨rfl, ⟨hB, by simpa using hl, by go_simp, by go_simp, by go_simp, by go_simp, by go_simp, by go_simp, by go_simp, by go_simp, by go_simp, by go_simp, by go_simp, by go_simp, by go_simp, by go_simp, by go_simp, by go_simp, by go_simp, by go_simp, by go_simp, by go_simp, by go_simp, by go_simp⟩, ?_⟩
  repeat (first | exact Below.refl _ _ | assumption | refine below_drewN ?_ _ | refine Below.drew ?_ | refine Below.setCell ?_ (by first | omega | (simp; done) | (simp; omega)) _ | refine Below.alloc ?_ (by first | omega | (simp; done) | (simp; omega)) _)
theorem rpart7 (z v : Int) (hE : Env w) (hu : Rn w B g r) (hR : Hid (∀ W, Env W → Calls Tryz.prog 183 #[.string t] W fun e w' => e = .returned (.tuple #[.int .i64 v, .int .i64 z]) ∧ Below W.heap.size W w')) :
    Calls Tryz.prog 149 #[.pointer (some ⟨g, 0, none⟩), .int .i64 7, .string t] w fun e w' => e = .returned (.int .i64 z) ∧ Rn w' B g ({ r with sv := v }) ∧ Below B w w' := by
  have HU := Lib.hid hu
  have HE := Lib.hid hE
  have hB := hu.base
  have hl0 := hu.lt
  clear hu hE
  go_enter Tryz.func149, Tryz.ntmps149
  go_wp2_with fail
  refine (hR.out _ HE.out).mono ?_
  rintro e w1 ⟨rfl, b1⟩
  obtain ⟨_, hl, c0, c1, c2, c3, c4, c5, c6, c7, c8, c9, c10, f0, f1, f2, f3, f4, f5, f6, f7, f8, f9, f10⟩ := HU.out.below b1
  have a1 := b1.mono (show B ≤ w.heap.size by omega)
  clear b1 HU
  go_wp2_with fail
  go_ret
  refine ⟨rfl, ⟨hB, by simpa using hl, by go_simp, by go_simp, by go_simp, by go_simp, by go_simp, by go_simp, by go_simp, by go_simp, by go_simp, by go_simp, by go_simp, by go_simp, by go_simp, by go_simp, by go_simp, by go_simp, by go_simp, by go_simp, by go_simp, by go_simp, by go_simp, by go_simp⟩, ?_⟩
  repeat (first | exact Below.refl _ _ | assumption | refine below_drewN ?_ _ | refine Below.drew ?_ | refine Below.setCell ?_ (by first | omega | (simp; done) | (simp; omega)) _ | refine Below.alloc ?_ (by first | omega | (simp; done) | (simp; omega)) _)
theorem rpart8 (z : Int) (v : ByteArray) (hE : Env w) (hu : Rn w B g r) (hR : Hid (∀ W, Calls Tryz.prog 184 #[.string t] W fun e w' => e = .returned (.tuple #[.string v, .int .i64 z]) ∧ Below W.heap.size W w')) :
    Calls Tryz.prog 149 #[.pointer (some ⟨g, 0, none⟩), .int .i64 8, .string t] w fun e w' => e = .returned (.int .i64 z) ∧ Rn w' B g ({ r with lt := v }) ∧ Below B w w' := by
  have HU := Lib.hid hu
  have HE := Lib.hid hE
  have hB := hu.base
  have hl0 := hu.lt
  clear hu hE
  go_enter Tryz.func149, Tryz.ntmps149
  go_wp2_with fail
  refine (hR.out _).mono ?_
  rintro e w1 ⟨rfl, b1⟩
  obtain ⟨_, hl, c0, c1, c2, c3, c4, c5, c6, c7, c8, c9, c10, f0, f1, f2, f3, f4, f5, f6, f7, f8, f9, f10⟩ := HU.out.below b1
  have a1 := b1.mono (show B ≤ w.heap.size by omega)
  clear b1 HU
  go_wp2_with fail
  go_ret
  refine ⟨rfl, ⟨hB, by simpa using hl, by go_simp, by go_simp, by go_simp, by go_simp, by go_simp, by go_simp, by go_simp, by go_simp, by go_simp, by go_simp, by go_simp, by go_simp, by go_simp, by go_simp, by go_simp, by go_simp, by go_simp, by go_simp, by go_simp, by go_simp, by go_simp, by go_simp⟩, ?_⟩
  repeat (first | exact Below.refl _ _ | assumption | refine below_drewN ?_ _ | refine Below.drew ?_ | refine Below.setCell ?_ (by first | omega | (simp; done) | (simp; omega)) _ | refine Below.alloc ?_ (by first | omega | (simp; done) | (simp; omega)) _)
theorem rpart_any (i : Nat) (hi : i < 9) (hE : Env w) (ht : t.size ≤ 4096) (hu : Rn w B g r) :
    Calls Tryz.prog 149 #[.pointer (some ⟨g, 0, none⟩), .int .i64 (i : Int), .string t] w fun e w' => e = .returned (.int .i64 (Rl.step i t r).2) ∧ Rn w' B g (Rl.step i t r).1 ∧ Below B w w' := by
  have hi9 : i = 0 ∨ i = 1 ∨ i = 2 ∨ i = 3 ∨ i = 4 ∨ i = 5 ∨ i = 6 ∨ i = 7 ∨ i = 8 := by omega
  rcases hi9 with rfl | rfl | rfl | rfl | rfl | rfl | rfl | rfl | rfl
  · exact rpart0 B g t r w _ _ hE hu (Lib.hid fun W => readName_any t W (by omega))
  · exact rpart1 B g t r w _ _ hE hu (Lib.hid fun W hW => ryear_any t W hW ht)
  · exact rpart2 B g t r w _ _ hE hu (Lib.hid fun W hW => rto_any t r.fr W ht hW)
  · exact rpart3 B g t r w _ hE hu (Lib.hid fun W => rnone_any t W)
  · exact rpart4 B g t r w _ _ hE hu (Lib.hid fun W => rmonth_any t W (by omega))
  · show Calls Tryz.prog 149 #[.pointer (some ⟨g, 0, none⟩), .int .i64 5, .string t] w fun e w' => e = .returned (.int .i64 (Rl.step 5 t r).2) ∧ Rn w' B g (Rl.step 5 t r).1 ∧ Below B w w'
    cases hp : Dy.prs t with
    | none =>
      have e : Rl.step 5 t r = ({ r with k := 0, n := 0, d := 0 }, 4) := by unfold Rl.step; rw [hp]; rfl
      rw [e]
      exact rpart5 B g t r w _ _ _ _ hE hu (Lib.hid fun W hW => dparse_no t W hW.longest (by omega) hp)
    | some q =>
      obtain ⟨k, n, d⟩ := q
      have e : Rl.step 5 t r = ({ r with k := k, n := n, d := d }, 0) := by unfold Rl.step; rw [hp]; rfl
      rw [e]
      exact rpart5 B g t r w _ _ _ _ hE hu (Lib.hid fun W hW => dparse_yes t k n d W hW.longest (by omega) hp)
  · exact rpart6 B g t r w _ _ _ hE hu (Lib.hid fun W hW => mparse_any t W hW ht)
  · exact rpart7 B g t r w _ _ hE hu (Lib.hid fun W hW => rsave_any t W ht hW)
  · exact rpart8 B g t r w _ _ hE hu (Lib.hid fun W => rlett_any t W)
end
end Go.Proofs.YtkcbmnboccjnnaaGreatDoor
/- Contract of package rule: Parse. -/


namespace Go.Proofs.YtkcbmnboccjnnaaGreatDoor
open Go.RowKit
def RPrsE (r : Ru × Nat × Int) (e : Ending) : Prop := e = .returned (.tuple #[ruV r.1, .int .i64 (r.2.1 : Nat), .int .i64 r.2.2])
theorem rprsE_of {r : Ru × Nat × Int} {v : Ru} {i : Nat} {z : Int} (h : r = (v, i, z)) : RPrsE r (.returned (.tuple #[.agg #[.string v.nm, .int .i64 v.fr, .int .i64 v.tl, .int .i64 v.m, .int .u8 v.k, .int .i64 v.n, .int .i64 v.d, .int .i64 v.s, .int .u8 v.c, .int .i64 v.sv, .string v.lt], .int .i64 (i : Int), .int .i64 z])) := by
  subst h
  rfl
/-- What is answered of the first texts that are read: they make a rule, or do not. -/
theorem rprs_stop {L : List ByteArray} {k : Nat} {z : Int} (h : Rl.run 0 (L.take 9) Ru.zero = (Ru.zero, k, z)) (hz : z ≠ 0) : Rl.prs L = (Ru.zero, k, z) := by
  unfold Rl.prs
  rw [h, if_pos hz]
theorem rprs_short {L : List ByteArray} {r : Ru} (h : Rl.run 0 (L.take 9) Ru.zero = (r, 0, 0)) (hl : L.length < 9) : Rl.prs L = (Ru.zero, L.length, 5) := by
  unfold Rl.prs
  rw [h, if_neg (fun h => h rfl), if_pos hl]
theorem rprs_long {L : List ByteArray} {r : Ru} (h : Rl.run 0 (L.take 9) Ru.zero = (r, 0, 0)) (hl : 9 < L.length) : Rl.prs L = (Ru.zero, 9, 6) := by
  unfold Rl.prs
  rw [h, if_neg (fun h => h rfl), if_neg (by omega), if_pos hl]
theorem rprs_nine {L : List ByteArray} {r : Ru} (h : Rl.run 0 (L.take 9) Ru.zero = (r, 0, 0)) (hl : L.length = 9) : Rl.prs L = (r, 0, 0) := by
  unfold Rl.prs
  rw [h, if_neg (fun h => h rfl), if_neg (by omega), if_neg (by omega)]
set_option maxRecDepth 100000 in
set_option maxHeartbeats 2000000 in
theorem rprs_any (A : Option Addr) (n c M : Nat) (L : List ByteArray) (hl : L.length = n) (hn : n ≤ 4294967296) (hM : M = min n 9) (hL : ∀ i, i < M → (L.getD i ByteArray.empty).size ≤ 4096) (w : World) (hE : Env w) (B : Nat) (hB : B ≤ w.heap.size) (hS : Sl w B A n (fun i => .string (L.getD i ByteArray.empty))) :
    Calls Tryz.prog 92 #[.slice A n c] w fun e w' => RPrsE (Rl.prs L) e ∧ Below w.heap.size w w' := by
  have tm : min (n : Int) 9 = (M : Int) := by omega
  have hM9 : M ≤ 9 := by omega
  have hMn : M ≤ n := by omega
  have hS' : Sl w w.heap.size A n (fun i => .string (L.getD i ByteArray.empty)) := by
    intro hp
    obtain ⟨ad, e, hb, hc⟩ := hS hp
    exact ⟨ad, e, Nat.lt_of_lt_of_le hb hB, hc⟩
  have HS := Lib.hid hS'
  have HE := Lib.hid hE
  have HL := Lib.hid hL
  have HN := Lib.hid hl
  have HM := Lib.hid hM
  have HT := Lib.hid (show (L.take 9).length = M by rw [List.length_take, hl, hM, Nat.min_comm])
  clear hS hS' hE hL hl hM
  go_enter Tryz.func92, Tryz.ntmps92
  go_wp2_with fail
  clear tm
  go_loopw [11] (fun i wr => ∃ (k : Nat) (u : Ru), k ≤ M ∧ i = .int .i64 k ∧ Hid (Rl.run 0 (L.take 9) Ru.zero = Rl.run k ((L.take 9).drop k) u) ∧ Rn wr w.heap.size w.heap.size Ru.zero ∧ Rn wr (w.heap.size + 1) (w.heap.size + 1) u ∧ Below w.heap.size w wr) (fun i _ => M - (intOf i).toNat)
  case atStart =>
    refine ⟨0, Ru.zero, Nat.zero_le _, rfl, Lib.hid rfl, ⟨Nat.le_refl _, by simp; omega, by go_simp; rfl, by go_simp; rfl, by go_simp; rfl, by go_simp; rfl, by go_simp; rfl, by go_simp; rfl, by go_simp; rfl, by go_simp; rfl, by go_simp; rfl, by go_simp; rfl, by go_simp; rfl, by go_simp, by go_simp, by go_simp, by go_simp, by go_simp, by go_simp, by go_simp, by go_simp, by go_simp, by go_simp, by go_simp⟩, ⟨Nat.le_refl _, by simp, by go_simp; rfl, by go_simp; rfl, by go_simp; rfl, by go_simp; rfl, by go_simp; rfl, by go_simp; rfl, by go_simp; rfl, by go_simp; rfl, by go_simp; rfl, by go_simp; rfl, by go_simp; rfl, by go_simp, by go_simp, by go_simp, by go_simp, by go_simp, by go_simp, by go_simp, by go_simp, by go_simp, by go_simp, by go_simp⟩, ?_⟩
    repeat (first | exact Below.refl _ _ | assumption | refine below_drewN ?_ _ | refine Below.drew ?_ | refine Below.setCell ?_ (by first | omega | (simp; done) | (simp; omega)) _ | refine Below.alloc ?_ (by first | omega | (simp; done) | (simp; omega)) _)
  case round =>
    obtain ⟨k, u, hk, rfl, hG, hR, hU, hbw⟩ := hrel
    have hEw := HE.out.below hbw
    by_cases hlt : k < M
    · obtain ⟨ad, rfl, hal, hc⟩ := (HS.out.below hbw).at_ (show k < n by omega)
      change wr.cell? (ad.add k) = some (.string (L.getD k ByteArray.empty)) at hc
      have hz := HL.out k hlt
      have hkn : k < n := by omega
      have hd : (L.take 9).drop k = L.getD k ByteArray.empty :: (L.take 9).drop (k + 1) := by
        have hkl : k < (L.take 9).length := by rw [HT.out]; exact hlt
        rw [List.drop_eq_getElem_cons hkl, List.getD_eq_getElem?_getD, ← List.getElem?_take_of_lt (show k < 9 by omega), List.getElem?_eq_getElem hkl]
        rfl
      have hG2 := hG.out
      rw [hd] at hG2
      generalize L.getD k ByteArray.empty = X at *
      have HP := Lib.hid (fun W (hE : Env W) (h : Rn W (w.heap.size + 1) (w.heap.size + 1) u) => rpart_any (w.heap.size + 1) (w.heap.size + 1) X u W k (by omega) hE hz h)
      by_cases h0 : (Rl.step k X u).2 = 0
      · have HG := Lib.hid (show Rl.run 0 (L.take 9) Ru.zero = Rl.run (k + 1) ((L.take 9).drop (k + 1)) (Rl.step k X u).1 by rw [hG2, Rl.run, if_pos h0])
        rw [h0] at HP
        have HEw := Lib.hid hEw
        have HR := Lib.hid hR
        have HU := Lib.hid hU
        clear hd hG hG2 h0 hEw hR hU
        go_wp2_with fail
        refine (HP.out _ HEw.out HU.out).mono ?_
        rintro e w1 ⟨rfl, u1, b1⟩
        have r1 := HR.out.stay b1 (Nat.lt_succ_self _)
        have a1 := hbw.trans (b1.mono (Nat.le_succ _))
        go_wp2_with fail
        go_roundw
        case rel => exact ⟨k + 1, _, by omega, by go_num, HG, r1, u1, a1⟩
        case measure => simp [intOf]; omega
      · have HRE := Lib.hid (rprsE_of (rprs_stop (show Rl.run 0 (L.take 9) Ru.zero = (Ru.zero, k, (Rl.step k X u).2) by rw [hG2, Rl.run, if_neg h0]) h0))
        have t5 : ((Rl.step k X u).2 != 0) = true := by rw [bne_iff_ne]; exact h0
        generalize (Rl.step k X u).2 = z at *
        have HEw := Lib.hid hEw
        have HR := Lib.hid hR
        have HU := Lib.hid hU
        clear hd hG hG2 h0 hEw hR hU
        go_wp2_with fail
        refine (HP.out _ HEw.out HU.out).mono ?_
        rintro e w1 ⟨rfl, u1, b1⟩
        have r1 := HR.out.stay b1 (Nat.lt_succ_self _)
        have a1 := hbw.trans (b1.mono (Nat.le_succ _))
        obtain ⟨_, hl1, c0, c1, c2, c3, c4, c5, c6, c7, c8, c9, c10, f0, f1, f2, f3, f4, f5, f6, f7, f8, f9, f10⟩ := r1
        clear u1 b1
        go_wp2_with fail
        refine bodyPost_ret (v := .tuple #[.agg #[.string ⟨#[]⟩, .int .i64 0, .int .i64 0, .int .i64 0, .int .u8 0, .int .i64 0, .int .i64 0, .int .i64 0, .int .u8 0, .int .i64 0, .string ⟨#[]⟩], .int .i64 (k : Int), .int .i64 z]) (by simp [results, Tryz.results92, go_sem, c0, c1, c2, c3, c4, c5, c6, c7, c8, c9, c10]) rfl ⟨HRE.out, ?_⟩
        exact (((((((((((a1).setCell (Nat.le_refl _) _).setCell (Nat.le_refl _) _).setCell (Nat.le_refl _) _).setCell (Nat.le_refl _) _).setCell (Nat.le_refl _) _).setCell (Nat.le_refl _) _).setCell (Nat.le_refl _) _).setCell (Nat.le_refl _) _).setCell (Nat.le_refl _) _).setCell (Nat.le_refl _) _).setCell (Nat.le_refl _) _
    · obtain rfl : k = M := by omega
      have hG2 := hG.out
      rw [List.drop_of_length_le (by rw [HT.out]; exact Nat.le_refl _), Rl.run] at hG2
      obtain ⟨_, hl1, c0, c1, c2, c3, c4, c5, c6, c7, c8, c9, c10, f0, f1, f2, f3, f4, f5, f6, f7, f8, f9, f10⟩ := hR
      by_cases h9 : n < 9
      · have HRE := Lib.hid (rprsE_of (rprs_short hG2 (by rw [HN.out]; exact h9)))
        rw [HN.out] at HRE
        clear hG hG2 hEw hlt hU
        go_wp2_with fail
        refine bodyPost_ret (v := .tuple #[.agg #[.string ⟨#[]⟩, .int .i64 0, .int .i64 0, .int .i64 0, .int .u8 0, .int .i64 0, .int .i64 0, .int .i64 0, .int .u8 0, .int .i64 0, .string ⟨#[]⟩], .int .i64 (n : Int), .int .i64 5]) (by simp [results, Tryz.results92, go_sem, c0, c1, c2, c3, c4, c5, c6, c7, c8, c9, c10]) rfl ⟨HRE.out, ?_⟩
        exact (((((((((((hbw).setCell (Nat.le_refl _) _).setCell (Nat.le_refl _) _).setCell (Nat.le_refl _) _).setCell (Nat.le_refl _) _).setCell (Nat.le_refl _) _).setCell (Nat.le_refl _) _).setCell (Nat.le_refl _) _).setCell (Nat.le_refl _) _).setCell (Nat.le_refl _) _).setCell (Nat.le_refl _) _).setCell (Nat.le_refl _) _
      · by_cases h10 : 9 < n
        · have HRE := Lib.hid (rprsE_of (rprs_long hG2 (by rw [HN.out]; exact h10)))
          clear hG hG2 hEw hlt hU
          go_wp2_with fail
          refine bodyPost_ret (v := .tuple #[.agg #[.string ⟨#[]⟩, .int .i64 0, .int .i64 0, .int .i64 0, .int .u8 0, .int .i64 0, .int .i64 0, .int .i64 0, .int .u8 0, .int .i64 0, .string ⟨#[]⟩], .int .i64 9, .int .i64 6]) (by simp [results, Tryz.results92, go_sem, c0, c1, c2, c3, c4, c5, c6, c7, c8, c9, c10]) rfl ⟨HRE.out, ?_⟩
          exact (((((((((((hbw).setCell (Nat.le_refl _) _).setCell (Nat.le_refl _) _).setCell (Nat.le_refl _) _).setCell (Nat.le_refl _) _).setCell (Nat.le_refl _) _).setCell (Nat.le_refl _) _).setCell (Nat.le_refl _) _).setCell (Nat.le_refl _) _).setCell (Nat.le_refl _) _).setCell (Nat.le_refl _) _).setCell (Nat.le_refl _) _
        · obtain rfl : n = 9 := by omega
          have HRE := Lib.hid (rprsE_of (rprs_nine hG2 HN.out))
          obtain ⟨um, uf, ut, uo, uk, un, ud, us, uc, uv, ul⟩ := u
          obtain ⟨_, hl2, d0, d1, d2, d3, d4, d5, d6, d7, d8, d9, d10, _, _, _, _, _, _, _, _, _, _, _⟩ := hU
          clear hG hG2 hEw hlt
          go_wp2_with fail
          refine bodyPost_ret (v := .tuple #[.agg #[.string um, .int .i64 uf, .int .i64 ut, .int .i64 uo, .int .u8 uk, .int .i64 un, .int .i64 ud, .int .i64 us, .int .u8 uc, .int .i64 uv, .string ul], .int .i64 0, .int .i64 0]) (by simp [results, Tryz.results92, go_sem, c0, c1, c2, c3, c4, c5, c6, c7, c8, c9, c10]) rfl ⟨HRE.out, ?_⟩
          exact (((((((((((hbw).setCell (Nat.le_refl _) _).setCell (Nat.le_refl _) _).setCell (Nat.le_refl _) _).setCell (Nat.le_refl _) _).setCell (Nat.le_refl _) _).setCell (Nat.le_refl _) _).setCell (Nat.le_refl _) _).setCell (Nat.le_refl _) _).setCell (Nat.le_refl _) _).setCell (Nat.le_refl _) _).setCell (Nat.le_refl _) _
end Go.Proofs.YtkcbmnboccjnnaaGreatDoor
/- Contracts of package rule: toText, letterText, Text. -/


namespace Go.Proofs.YtkcbmnboccjnnaaGreatDoor
open Go.RowKit
/-- Texts at block g. -/
structure Txs (w : World) (g : Nat) (L : List ByteArray) : Prop where
  lt : g < w.heap.size
  at_ : ∀ i, i < L.length → w.cell? ⟨g, i, none⟩ = some (.string (L.getD i ByteArray.empty))
theorem Txs.below {w w' : World} {g : Nat} {L : List ByteArray} (h : Txs w g L) (hb : Below w.heap.size w w') : Txs w' g L := by
  obtain ⟨hc, _⟩ := bcell hb
  exact ⟨Nat.lt_of_lt_of_le h.lt hb.size, fun i hi => (hc _ _ h.lt).trans (h.at_ i hi)⟩
theorem Txs.sl {w : World} {g : Nat} {L : List ByteArray} (h : Txs w g L) (n : Nat) (hn : n ≤ L.length) (L' : List ByteArray) (hL : ∀ i, i < n → L'.getD i ByteArray.empty = L.getD i ByteArray.empty) : Sl w w.heap.size (some ⟨g, 0, none⟩) n (fun i => .string (L'.getD i ByteArray.empty)) := fun _ =>
  ⟨_, rfl, h.lt, fun i hi => by rw [addr_at]; show _ = some (Value.string (L'.getD i ByteArray.empty)); rw [hL i hi]; exact h.at_ i (by omega)⟩
def RKeep (B : Nat) (w0 w : World) (nm : ByteArray) (fr tl m k n d s c sv : Int) (lt : ByteArray) : Prop := w.cell? ⟨B, 0, none⟩ = some (.string nm) ∧ w.cell? ⟨B, 1, none⟩ = some (.int .i64 fr) ∧ w.cell? ⟨B, 2, none⟩ = some (.int .i64 tl) ∧ w.cell? ⟨B, 3, none⟩ = some (.int .i64 m) ∧ w.cell? ⟨B, 4, none⟩ = some (.int .u8 k) ∧ w.cell? ⟨B, 5, none⟩ = some (.int .i64 n) ∧ w.cell? ⟨B, 6, none⟩ = some (.int .i64 d) ∧ w.cell? ⟨B, 7, none⟩ = some (.int .i64 s) ∧ w.cell? ⟨B, 8, none⟩ = some (.int .u8 c) ∧ w.cell? ⟨B, 9, none⟩ = some (.int .i64 sv) ∧ w.cell? ⟨B, 10, none⟩ = some (.string lt) ∧ MKeep B w0 w
section
variable {B : Nat} {w0 w w1 : World} {x0 x1 x2 x3 x4 x5 x6 x7 x8 x9 x10 : Value}
theorem rkeep_on (h : w.cell? ⟨B, 0, none⟩ = some x0 ∧ w.cell? ⟨B, 1, none⟩ = some x1 ∧ w.cell? ⟨B, 2, none⟩ = some x2 ∧ w.cell? ⟨B, 3, none⟩ = some x3 ∧ w.cell? ⟨B, 4, none⟩ = some x4 ∧ w.cell? ⟨B, 5, none⟩ = some x5 ∧ w.cell? ⟨B, 6, none⟩ = some x6 ∧ w.cell? ⟨B, 7, none⟩ = some x7 ∧ w.cell? ⟨B, 8, none⟩ = some x8 ∧ w.cell? ⟨B, 9, none⟩ = some x9 ∧ w.cell? ⟨B, 10, none⟩ = some x10 ∧ MKeep B w0 w) (hb : Below w.heap.size w w1) : w1.cell? ⟨B, 0, none⟩ = some x0 ∧ w1.cell? ⟨B, 1, none⟩ = some x1 ∧ w1.cell? ⟨B, 2, none⟩ = some x2 ∧ w1.cell? ⟨B, 3, none⟩ = some x3 ∧ w1.cell? ⟨B, 4, none⟩ = some x4 ∧ w1.cell? ⟨B, 5, none⟩ = some x5 ∧ w1.cell? ⟨B, 6, none⟩ = some x6 ∧ w1.cell? ⟨B, 7, none⟩ = some x7 ∧ w1.cell? ⟨B, 8, none⟩ = some x8 ∧ w1.cell? ⟨B, 9, none⟩ = some x9 ∧ w1.cell? ⟨B, 10, none⟩ = some x10 ∧ MKeep B w0 w1 := by
  obtain ⟨c0, c1, c2, c3, c4, c5, c6, c7, c8, c9, c10, hl, he, hbw⟩ := h
  obtain ⟨hc, _⟩ := bcell hb
  have := hb.size
  exact ⟨(hc _ _ hl).trans c0, (hc _ _ hl).trans c1, (hc _ _ hl).trans c2, (hc _ _ hl).trans c3, (hc _ _ hl).trans c4, (hc _ _ hl).trans c5, (hc _ _ hl).trans c6, (hc _ _ hl).trans c7, (hc _ _ hl).trans c8, (hc _ _ hl).trans c9, (hc _ _ hl).trans c10, by omega, he.below hb, hbw.trans (hb.mono (Nat.le_of_lt hl))⟩
theorem rkeep_keep (h : w.cell? ⟨B, 0, none⟩ = some x0 ∧ w.cell? ⟨B, 1, none⟩ = some x1 ∧ w.cell? ⟨B, 2, none⟩ = some x2 ∧ w.cell? ⟨B, 3, none⟩ = some x3 ∧ w.cell? ⟨B, 4, none⟩ = some x4 ∧ w.cell? ⟨B, 5, none⟩ = some x5 ∧ w.cell? ⟨B, 6, none⟩ = some x6 ∧ w.cell? ⟨B, 7, none⟩ = some x7 ∧ w.cell? ⟨B, 8, none⟩ = some x8 ∧ w.cell? ⟨B, 9, none⟩ = some x9 ∧ w.cell? ⟨B, 10, none⟩ = some x10 ∧ MKeep B w0 w) : MKeep B w0 w := h.2.2.2.2.2.2.2.2.2.2.2
end
section
variable (nm : ByteArray) (fr tl m k n d s c sv : Int) (lt : ByteArray) (w : World)
theorem rtot_only (h : tl = fr) : Calls Tryz.prog 71 #[.agg #[.string nm, .int .i64 fr, .int .i64 tl, .int .i64 m, .int .u8 k, .int .i64 n, .int .i64 d, .int .i64 s, .int .u8 c, .int .i64 sv, .string lt]] w fun e w' => e = .returned (.string ⟨#[111, 110, 108, 121]⟩) ∧ Below w.heap.size w w' := by
  subst h
  go_enter Tryz.func71, Tryz.ntmps71
  go_wp2_with fail
  go_ret
  exact ⟨rfl, (Below.refl _ _).alloc (Nat.le_refl _) _⟩
theorem rtot_max (h : (tl == fr) = false) (h2 : tl = 9999) : Calls Tryz.prog 71 #[.agg #[.string nm, .int .i64 fr, .int .i64 tl, .int .i64 m, .int .u8 k, .int .i64 n, .int .i64 d, .int .i64 s, .int .u8 c, .int .i64 sv, .string lt]] w fun e w' => e = .returned (.string ⟨#[109, 97, 120]⟩) ∧ Below w.heap.size w w' := by
  subst h2
  go_enter Tryz.func71, Tryz.ntmps71
  go_wp2_with fail
  go_ret
  exact ⟨rfl, (Below.refl _ _).alloc (Nat.le_refl _) _⟩
theorem rtot_num (h : (tl == fr) = false) (h2 : (tl == 9999) = false) (T : ByteArray) (HE : Hid (Env w)) (h0 : 1 ≤ tl) (h1 : tl ≤ 9999) (HT : Hid ((⟨(Lib.itoa tl).toArray⟩ : ByteArray) = T)) : Calls Tryz.prog 71 #[.agg #[.string nm, .int .i64 fr, .int .i64 tl, .int .i64 m, .int .u8 k, .int .i64 n, .int .i64 d, .int .i64 s, .int .u8 c, .int .i64 sv, .string lt]] w fun e w' => e = .returned (.string T) ∧ Below w.heap.size w w' := by
  go_enter Tryz.func71, Tryz.ntmps71
  go_wp2_with fail
  refine (itoa_T tl T _ (HE.out.alloc _) (by omega) (by omega) HT.out).mono ?_
  rintro e w1 ⟨rfl, b1⟩
  have a1 := ((Below.refl w.heap.size w).alloc (Nat.le_refl _) (.cells #[.string nm, .int .i64 fr, .int .i64 tl, .int .i64 m, .int .u8 k, .int .i64 n, .int .i64 d, .int .i64 s, .int .u8 c, .int .i64 sv, .string lt] 48)).trans (b1.mono (by simp))
  go_wp2_with fail
  go_ret
  exact ⟨rfl, a1⟩
theorem rlet_dash (h : lt = ⟨#[]⟩) : Calls Tryz.prog 74 #[.agg #[.string nm, .int .i64 fr, .int .i64 tl, .int .i64 m, .int .u8 k, .int .i64 n, .int .i64 d, .int .i64 s, .int .u8 c, .int .i64 sv, .string lt]] w fun e w' => e = .returned (.string ⟨#[45]⟩) ∧ Below w.heap.size w w' := by
  subst h
  go_enter Tryz.func74, Tryz.ntmps74
  go_wp2_with fail
  go_ret
  exact ⟨rfl, (Below.refl _ _).alloc (Nat.le_refl _) _⟩
theorem rlet_own (h : lt.toList.isEmpty = false) (_h2 : ¬ lt.toList = []) : Calls Tryz.prog 74 #[.agg #[.string nm, .int .i64 fr, .int .i64 tl, .int .i64 m, .int .u8 k, .int .i64 n, .int .i64 d, .int .i64 s, .int .u8 c, .int .i64 sv, .string lt]] w fun e w' => e = .returned (.string lt) ∧ Below w.heap.size w w' := by
  go_enter Tryz.func74, Tryz.ntmps74
  go_wp2_with fail
  go_ret
  exact ⟨rfl, (Below.refl _ _).alloc (Nat.le_refl _) _⟩
end
theorem rtot_T (r : Ru) (T : ByteArray) (w : World) (hE : Env w) (h : Rl.right r = true) (hT : Rl.t2 r = T) : Calls Tryz.prog 71 #[ruV r] w fun e w' => e = .returned (.string T) ∧ Below w.heap.size w w' := by
  subst hT
  obtain ⟨_, ⟨y1, y2, y3⟩, _⟩ := rl_parts h
  unfold Rl.t2
  obtain ⟨nm, fr, tl, m, k, n, d, s, c, sv, lt⟩ := r
  simp only at y1 y2 y3 ⊢
  by_cases h1 : tl = fr
  · rw [if_pos h1]
    exact rtot_only nm fr tl m k n d s c sv lt w h1
  · rw [if_neg h1]
    have t1 : (tl == fr) = false := by rw [beq_eq_false_iff_ne]; exact h1
    by_cases h2 : tl = 9999
    · rw [if_pos h2]
      exact rtot_max nm fr tl m k n d s c sv lt w t1 h2
    · rw [if_neg h2]
      exact rtot_num nm fr tl m k n d s c sv lt w t1 (by rw [beq_eq_false_iff_ne]; exact h2) _ (Lib.hid hE) (by omega) y3 (Lib.hid rfl)
theorem rlet_T (r : Ru) (T : ByteArray) (w : World) (hT : Rl.t8 r = T) : Calls Tryz.prog 74 #[ruV r] w fun e w' => e = .returned (.string T) ∧ Below w.heap.size w w' := by
  subst hT
  unfold Rl.t8
  obtain ⟨nm, fr, tl, m, k, n, d, s, c, sv, lt⟩ := r
  simp only
  by_cases h : lt.data.toList = []
  · rw [if_pos h]
    exact rlet_dash nm fr tl m k n d s c sv lt w (ByteArray.ext (Array.toList_inj.1 h))
  · rw [if_neg h]
    exact rlet_own nm fr tl m k n d s c sv lt w (by rw [ByteArray.toList_eq]; simpa using h) (by rw [ByteArray.toList_eq]; exact h)
/-- What Text answers: so many texts. -/
def RTxtE (w w' : World) (L : List ByteArray) (e : Ending) : Prop := ∃ g, e = .returned (.tuple #[.slice (some ⟨g, 0, none⟩) L.length L.length, .int .i64 0]) ∧ w.heap.size ≤ g ∧ Txs w' g L
theorem rtext_no (r : Ru) (w : World) (hs : r.nm.size ≤ 9223372036854775807) (h : Rl.right r = false) : Calls Tryz.prog 39 #[ruV r] w fun e w' => e = .returned (.tuple #[.slice none 0 0, .int .i64 2]) ∧ Below w.heap.size w w' := by
  have H := Lib.hid (fun W => isRight_is r false W hs h)
  obtain ⟨nm, fr, tl, m, k, n, d, s, c, sv, lt⟩ := r
  clear h
  go_enter Tryz.func39, Tryz.ntmps39
  go_wp2_with fail
  refine (H.out _).mono ?_
  rintro e w1 ⟨rfl, b1⟩
  have a1 : Below w.heap.size w w1 := ((Below.refl _ _).alloc (Nat.le_refl _) _).trans (b1.mono (by simp))
  go_wp2_with fail
  go_ret2
  exact ⟨rfl, a1⟩
set_option maxRecDepth 100000 in
set_option maxHeartbeats 4000000 in
theorem rtext_in (nm : ByteArray) (fr tl m k n d s c sv : Int) (lt : ByteArray) (T1 T2 T4 T5 T6 T7 T8 : ByteArray) (w : World) (HE : Hid (Env w)) (hs : nm.size ≤ 9223372036854775807) (H : Hid (Rl.right ⟨nm, fr, tl, m, k, n, d, s, c, sv, lt⟩ = true)) (y1 : 1 ≤ fr) (y2 : fr ≤ 9999) (m1 : 1 ≤ m) (m2 : m ≤ 12) (v1 : -604800 ≤ sv) (v2 : sv ≤ 604800) (HD : Hid (Dy.right k n d = true)) (HR : Hid (Mo.right s c = true)) (c0 : 0 ≤ c)
    (H1 : Hid ((⟨(Lib.itoa fr).toArray⟩ : ByteArray) = T1)) (H2 : Hid (Rl.t2 ⟨nm, fr, tl, m, k, n, d, s, c, sv, lt⟩ = T2)) (H4 : Hid (Wd.three Wd.mons (m - 1).toNat = T4)) (H5 : Hid (Dy.txt k n d = T5)) (H6 : Hid (T6.data.toList = Mo.txt s c)) (H7 : Hid ((⟨(txt sv).toArray⟩ : ByteArray) = T7)) (H8 : Hid (Rl.t8 ⟨nm, fr, tl, m, k, n, d, s, c, sv, lt⟩ = T8)) :
    Calls Tryz.prog 39 #[.agg #[.string nm, .int .i64 fr, .int .i64 tl, .int .i64 m, .int .u8 k, .int .i64 n, .int .i64 d, .int .i64 s, .int .u8 c, .int .i64 sv, .string lt]] w fun e w' => RTxtE w w' [nm, T1, T2, ⟨#[45]⟩, T4, T5, T6, T7, T8] e ∧ Below w.heap.size w w' := by
  have HI := Lib.hid (fun W => isRight_is ⟨nm, fr, tl, m, k, n, d, s, c, sv, lt⟩ true W hs H.out)
  have HT2 := Lib.hid (fun W (hE : Env W) => rtot_T ⟨nm, fr, tl, m, k, n, d, s, c, sv, lt⟩ T2 W hE H.out H2.out)
  have HT8 := Lib.hid (fun W => rlet_T ⟨nm, fr, tl, m, k, n, d, s, c, sv, lt⟩ T8 W H8.out)
  go_enter Tryz.func39, Tryz.ntmps39
  go_wp2_with fail
  refine (HI.out _).mono ?_
  rintro e w1 ⟨rfl, b1⟩
  have k1 := rkeep_on (w := w.alloc (.cells #[.string nm, .int .i64 fr, .int .i64 tl, .int .i64 m, .int .u8 k, .int .i64 n, .int .i64 d, .int .i64 s, .int .u8 c, .int .i64 sv, .string lt] 48)) (B := w.heap.size) (w0 := w) (x0 := .string nm) (x1 := .int .i64 fr) (x2 := .int .i64 tl) (x3 := .int .i64 m) (x4 := .int .u8 k) (x5 := .int .i64 n) (x6 := .int .i64 d) (x7 := .int .i64 s) (x8 := .int .u8 c) (x9 := .int .i64 sv) (x10 := .string lt) ⟨by go_simp, by go_simp, by go_simp, by go_simp, by go_simp, by go_simp, by go_simp, by go_simp, by go_simp, by go_simp, by go_simp, by simp, HE.out.alloc _, (Below.refl _ _).alloc (Nat.le_refl _) _⟩ b1
  clear b1
  have K1 := Lib.hid k1
  obtain ⟨c0', c1', c2', c3', c4', c5', c6', c7', c8', c9', c10', hk⟩ := k1
  have hlt := hk.lt
  have HK := Lib.hid hk
  clear hk
  go_wp2_with fail
  refine (dtext_T k n d T5 _ HD.out H5.out).mono ?_
  rintro e w2 ⟨rfl, b2⟩
  have k2 := rkeep_on (B := w.heap.size) (w0 := w) (x0 := .string nm) (x1 := .int .i64 fr) (x2 := .int .i64 tl) (x3 := .int .i64 m) (x4 := .int .u8 k) (x5 := .int .i64 n) (x6 := .int .i64 d) (x7 := .int .i64 s) (x8 := .int .u8 c) (x9 := .int .i64 sv) (x10 := .string lt) K1.out b2
  clear b2 c0' c1' c2' c3' c4' c5' c6' c7' c8' c9' c10' hlt K1 HK
  have K2 := Lib.hid k2
  obtain ⟨c0', c1', c2', c3', c4', c5', c6', c7', c8', c9', c10', hk⟩ := k2
  have hlt := hk.lt
  have HK := Lib.hid hk
  clear hk
  go_wp2_with fail
  refine (mtext_yes s c T6 _ HK.out.env HR.out c0 H6.out).mono ?_
  rintro e w3 ⟨rfl, b3⟩
  have k3 := rkeep_on (B := w.heap.size) (w0 := w) (x0 := .string nm) (x1 := .int .i64 fr) (x2 := .int .i64 tl) (x3 := .int .i64 m) (x4 := .int .u8 k) (x5 := .int .i64 n) (x6 := .int .i64 d) (x7 := .int .i64 s) (x8 := .int .u8 c) (x9 := .int .i64 sv) (x10 := .string lt) K2.out b3
  clear b3 c0' c1' c2' c3' c4' c5' c6' c7' c8' c9' c10' hlt K2 HK
  have S0 := rkeep_on (B := w.heap.size) (w0 := w) (x0 := .string nm) (x1 := .int .i64 fr) (x2 := .int .i64 tl) (x3 := .int .i64 m) (x4 := .int .u8 k) (x5 := .int .i64 n) (x6 := .int .i64 d) (x7 := .int .i64 s) (x8 := .int .u8 c) (x9 := .int .i64 sv) (x10 := .string lt) k3 (Below.drew (Below.refl _ w3))
  have hlt := (rkeep_keep (B := w.heap.size) (w0 := w) (x0 := .string nm) (x1 := .int .i64 fr) (x2 := .int .i64 tl) (x3 := .int .i64 m) (x4 := .int .u8 k) (x5 := .int .i64 n) (x6 := .int .i64 d) (x7 := .int .i64 s) (x8 := .int .u8 c) (x9 := .int .i64 sv) (x10 := .string lt) k3).lt
  clear k3
  go_wp2_with fail
  go_region_held3 (fun w' => w'.cell? ⟨w.heap.size, 0, none⟩ = some (.string nm) ∧ w'.cell? ⟨w.heap.size, 1, none⟩ = some (.int .i64 fr) ∧ w'.cell? ⟨w.heap.size, 2, none⟩ = some (.int .i64 tl) ∧ w'.cell? ⟨w.heap.size, 3, none⟩ = some (.int .i64 m) ∧ w'.cell? ⟨w.heap.size, 4, none⟩ = some (.int .u8 k) ∧ w'.cell? ⟨w.heap.size, 5, none⟩ = some (.int .i64 n) ∧ w'.cell? ⟨w.heap.size, 6, none⟩ = some (.int .i64 d) ∧ w'.cell? ⟨w.heap.size, 7, none⟩ = some (.int .i64 s) ∧ w'.cell? ⟨w.heap.size, 8, none⟩ = some (.int .u8 c) ∧ w'.cell? ⟨w.heap.size, 9, none⟩ = some (.int .i64 sv) ∧ w'.cell? ⟨w.heap.size, 10, none⟩ = some (.string lt) ∧ MKeep w.heap.size w w')
    (first | assumption | exact rkeep_on (by assumption) (by assumption) | exact rkeep_on (by assumption) ((Below.refl _ _).alloc (Nat.le_refl _) _))
    (first
      | (go_at_call 70; refine (itoa_T fr T1 _ (rkeep_keep (B := w.heap.size) (w0 := w) (x0 := .string nm) (x1 := .int .i64 fr) (x2 := .int .i64 tl) (x3 := .int .i64 m) (x4 := .int .u8 k) (x5 := .int .i64 n) (x6 := .int .i64 d) (x7 := .int .i64 s) (x8 := .int .u8 c) (x9 := .int .i64 sv) (x10 := .string lt) (by assumption)).env (by omega) (by omega) H1.out).mono ?_; rintro e w' ⟨rfl, hb⟩)
      | (go_at_call 71; refine (HT2.out _ (rkeep_keep (B := w.heap.size) (w0 := w) (x0 := .string nm) (x1 := .int .i64 fr) (x2 := .int .i64 tl) (x3 := .int .i64 m) (x4 := .int .u8 k) (x5 := .int .i64 n) (x6 := .int .i64 d) (x7 := .int .i64 s) (x8 := .int .u8 c) (x9 := .int .i64 sv) (x10 := .string lt) (by assumption)).env).mono ?_; rintro e w' ⟨rfl, hb⟩)
      | (go_at_call 72; refine (month_T m T4 _ m1 m2 H4.out).mono ?_; rintro e w' ⟨rfl, hb⟩)
      | (go_at_call 73; refine (clk_text sv T7 _ (rkeep_keep (B := w.heap.size) (w0 := w) (x0 := .string nm) (x1 := .int .i64 fr) (x2 := .int .i64 tl) (x3 := .int .i64 m) (x4 := .int .u8 k) (x5 := .int .i64 n) (x6 := .int .i64 d) (x7 := .int .i64 s) (x8 := .int .u8 c) (x9 := .int .i64 sv) (x10 := .string lt) (by assumption)).env v1 v2 H7.out).mono ?_; rintro e w' ⟨rfl, hb⟩)
      | (go_at_call 74; refine (HT8.out _).mono ?_; rintro e w' ⟨rfl, hb⟩))
  go_wp2_with fail
  have k5 := (rkeep_keep (w := w'.alloc (.cells #[.string nm, .string T1, .string T2, .string ⟨#[45]⟩, .string T4, .string T5, .string T6, .string T7, .string T8] 9)) (B := w.heap.size) (w0 := w) (x0 := .string nm) (x1 := .int .i64 fr) (x2 := .int .i64 tl) (x3 := .int .i64 m) (x4 := .int .u8 k) (x5 := .int .i64 n) (x6 := .int .i64 d) (x7 := .int .i64 s) (x8 := .int .u8 c) (x9 := .int .i64 sv) (x10 := .string lt) (by assumption)).bel
  have k6 : w.heap.size ≤ w'.heap.size := by
    have h : w.heap.size < (w'.alloc (.cells #[.string nm, .string T1, .string T2, .string ⟨#[45]⟩, .string T4, .string T5, .string T6, .string T7, .string T8] 9)).heap.size := (rkeep_keep (w := w'.alloc (.cells #[.string nm, .string T1, .string T2, .string ⟨#[45]⟩, .string T4, .string T5, .string T6, .string T7, .string T8] 9)) (B := w.heap.size) (w0 := w) (x0 := .string nm) (x1 := .int .i64 fr) (x2 := .int .i64 tl) (x3 := .int .i64 m) (x4 := .int .u8 k) (x5 := .int .i64 n) (x6 := .int .i64 d) (x7 := .int .i64 s) (x8 := .int .u8 c) (x9 := .int .i64 sv) (x10 := .string lt) (by assumption)).lt
    simp at h
    omega
  have hF : Txs (w'.alloc (.cells #[.string nm, .string T1, .string T2, .string ⟨#[45]⟩, .string T4, .string T5, .string T6, .string T7, .string T8] 9)) w'.heap.size [nm, T1, T2, ⟨#[45]⟩, T4, T5, T6, T7, T8] := ⟨by simp, fun i hi => by
    rw [cell_blk (heap_alloc_new _ _)]
    have hi9 : i = 0 ∨ i = 1 ∨ i = 2 ∨ i = 3 ∨ i = 4 ∨ i = 5 ∨ i = 6 ∨ i = 7 ∨ i = 8 := by simp at hi; omega
    rcases hi9 with rfl | rfl | rfl | rfl | rfl | rfl | rfl | rfl | rfl <;> rfl⟩
  have HF := Lib.hid hF
  clear hF
  go_ret2
  exact ⟨⟨_, rfl, k6, HF.out⟩, k5⟩
theorem rtext_yes (r : Ru) (w : World) (hE : Env w) (h : Rl.right r = true) (c0 : 0 ≤ r.c) :
    Calls Tryz.prog 39 #[ruV r] w fun e w' => RTxtE w w' (Rl.texts r) e ∧ Below w.heap.size w w' := by
  obtain ⟨h1, ⟨y1, y2, y3⟩, ⟨m1, m2⟩, hd, hr, ⟨v1, v2⟩, hl⟩ := rl_parts h
  have hs : r.nm.size ≤ 64 := by
    have hz : r.nm.data.toList.length = r.nm.size := by simp
    unfold Rl.name at h1
    rw [Bool.and_eq_true] at h1
    have := of_decide_eq_true h1.1
    omega
  exact rtext_in r.nm r.fr r.tl r.m r.k r.n r.d r.s r.c r.sv r.lt _ _ _ _ _ _ _ w (Lib.hid hE) (by omega) (Lib.hid h) y1 (by omega) m1 m2 v1 v2 (Lib.hid hd) (Lib.hid hr) c0 (Lib.hid rfl) (Lib.hid rfl) (Lib.hid rfl) (Lib.hid rfl) (Lib.hid (by simp [Rl.t6])) (Lib.hid rfl) (Lib.hid rfl)
end Go.Proofs.YtkcbmnboccjnnaaGreatDoor
/- Boxes and texts that live through many calls; the document's Texts of two lists that are alike; rule.Parse, Text and Check at given texts and rules. -/



namespace Go.Proofs.YtkcbmnboccjnnaaGreatDoor
open Go.RowKit
/-- Block g holds these values. -/
structure Bx (W : World) (g : Nat) (cs : List Value) : Prop where
  lt : g < W.heap.size
  at_ : ∀ i v, cs[i]? = some v → W.cell? ⟨g, i, none⟩ = some v
theorem Bx.on {W W' : World} {g : Nat} {cs : List Value} (h : Bx W g cs) (hb : Below W.heap.size W W') : Bx W' g cs := by
  obtain ⟨hc, _⟩ := bcell hb
  exact ⟨Nat.lt_of_lt_of_le h.lt hb.size, fun i v hv => (hc _ _ h.lt).trans (h.at_ i v hv)⟩
theorem Bx.al {W : World} {g : Nat} {cs : List Value} (h : Bx W g cs) (o : Obj) : Bx (W.alloc o) g cs := h.on ((Below.refl _ _).alloc (Nat.le_refl _) o)
theorem Bx.mk' (W : World) (g : Nat) (cs : Array Value) (t : TypeId) (h : g = W.heap.size) : Bx (W.alloc (.cells cs t)) g cs.toList := by
  subst h
  exact ⟨by simp, fun i v hv => by rw [cell_blk (heap_alloc_new _ _)]; simpa using hv⟩
theorem Bx.txs {W : World} {g : Nat} {L : List ByteArray} (h : Bx W g (L.map Value.string)) : Txs W g L :=
  ⟨h.lt, fun i hi => h.at_ i _ (by rw [List.getElem?_map, List.getElem?_eq_getElem hi, List.getD_eq_getElem?_getD, List.getElem?_eq_getElem hi]; rfl)⟩
theorem Txs.bx {W : World} {g : Nat} {L : List ByteArray} (h : Txs W g L) : Bx W g (L.map Value.string) :=
  ⟨h.lt, fun i v hv => by
    rw [List.getElem?_map] at hv
    obtain ⟨x, hx, rfl⟩ := Option.map_eq_some_iff.1 hv
    obtain ⟨hi, e⟩ := List.getElem?_eq_some_iff.1 hx
    rw [h.at_ i hi, List.getD_eq_getElem?_getD, hx]
    rfl⟩
/-- What is kept through all calls: the tables, and what was there. -/
structure Cx (w W : World) : Prop where
  env : Env W
  bel : Below w.heap.size w W
theorem Cx.on {w W W' : World} (h : Cx w W) (hb : Below W.heap.size W W') : Cx w W' := ⟨h.env.below hb, h.bel.trans (hb.mono h.bel.size)⟩
theorem Cx.al {w W : World} (h : Cx w W) (o : Obj) : Cx w (W.alloc o) := h.on ((Below.refl _ _).alloc (Nat.le_refl _) o)
theorem sl_take {W : World} {g : Nat} {L L' : List ByteArray} {n : Nat} (h : Txs W g L) (hn : n ≤ L.length) (hL : L.take n = L') : Sl W W.heap.size (some ⟨g, 0, none⟩) n (fun i => .string (L'.getD i ByteArray.empty)) :=
  h.sl n hn L' fun i hi => by rw [← hL, List.getD_eq_getElem?_getD, List.getElem?_take_of_lt hi, List.getD_eq_getElem?_getD]
set_option maxHeartbeats 1000000 in
theorem texts_eq (A A' : Option Addr) (n c c' : Nat) (L : List ByteArray) (hn : n ≤ 4294967296) (w : World) (hS : Sl w w.heap.size A n (fun i => .string (L.getD i ByteArray.empty))) (hS' : Sl w w.heap.size A' n (fun i => .string (L.getD i ByteArray.empty))) :
    Calls Tryz.prog 21 #[.slice A n c, .slice A' n c'] w fun e w' => e = .returned (.bool true) ∧ Below w.heap.size w w' := by
  have HS := Lib.hid hS
  have HS' := Lib.hid hS'
  clear hS hS'
  go_enter Tryz.func21, Tryz.ntmps21
  go_wp2_with fail
  go_loopw [13] (fun i wr => ∃ k : Nat, k ≤ n ∧ i = .int .i64 k ∧ Below w.heap.size w wr) (fun i _ => n - (intOf i).toNat)
  case atStart => exact ⟨0, Nat.zero_le _, rfl, Below.refl _ _⟩
  case round =>
    obtain ⟨k, hk, rfl, hbw⟩ := hrel
    by_cases hlt : k < n
    · obtain ⟨ad, rfl, hal, hc⟩ := (HS.out.below hbw).at_ hlt
      obtain ⟨ad', rfl, hal', hc'⟩ := (HS'.out.below hbw).at_ hlt
      change wr.cell? (ad.add k) = some (.string (L.getD k ByteArray.empty)) at hc
      change wr.cell? (ad'.add k) = some (.string (L.getD k ByteArray.empty)) at hc'
      generalize L.getD k ByteArray.empty = X at *
      have t1 : (X.toList != X.toList) = false := by simp
      go_wp2_with fail
      go_quiet (fail)
      go_wp2_with fail
      go_roundw
      case rel =>
        refine ⟨k + 1, by omega, by go_num, ?_⟩
        repeat (first | exact Below.refl _ _ | assumption | refine below_drewN ?_ _ | refine Below.drew ?_ | refine Below.setCell ?_ (by first | omega | (simp; done) | (simp; omega)) _ | refine Below.alloc ?_ (by first | omega | (simp; done) | (simp; omega)) _)
      case measure => simp [intOf]; omega
    · go_wp2_with fail
      go_ret
      exact ⟨rfl, hbw⟩
theorem texts_bx (g q n c c' : Nat) (L : List ByteArray) (w : World) (hn : n ≤ 4096) (hl : L.length = n) (h : Bx w g (L.map Value.string)) (h' : Bx w q (L.map Value.string)) :
    Calls Tryz.prog 21 #[.slice (some ⟨g, 0, none⟩) n c, .slice (some ⟨q, 0, none⟩) n c'] w fun e w' => e = .returned (.bool true) ∧ Below w.heap.size w w' :=
  texts_eq _ _ n c c' L (by omega) w (sl_take h.txs (by omega) (List.take_of_length_le (by omega))) (sl_take h'.txs (by omega) (List.take_of_length_le (by omega)))
theorem rprs_bx (g n c : Nat) (L L' : List ByteArray) (v : Ru) (i : Nat) (z : Int) (w : World) (hE : Env w) (h : Bx w g (L.map Value.string)) (hn : n ≤ L.length) (hn2 : n ≤ 4096) (hL : L.take n = L') (hs : ∀ t ∈ L', t.size ≤ 4096) (hp : Rl.prs L' = (v, i, z)) :
    Calls Tryz.prog 92 #[.slice (some ⟨g, 0, none⟩) n c] w fun e w' => e = .returned (.tuple #[.agg #[.string v.nm, .int .i64 v.fr, .int .i64 v.tl, .int .i64 v.m, .int .u8 v.k, .int .i64 v.n, .int .i64 v.d, .int .i64 v.s, .int .u8 v.c, .int .i64 v.sv, .string v.lt], .int .i64 (i : Int), .int .i64 z]) ∧ Below w.heap.size w w' := by
  have hl : L'.length = n := by rw [← hL, List.length_take]; omega
  have hr := rprs_any (some ⟨g, 0, none⟩) n c (min n 9) L' hl (by omega) rfl (fun j hj => by
    have hj' : j < L'.length := by omega
    rw [List.getD_eq_getElem?_getD, List.getElem?_eq_getElem hj']
    exact hs _ (List.getElem_mem hj')) w hE w.heap.size (Nat.le_refl _) (sl_take h.txs hn hL)
  rw [hp] at hr
  exact hr
theorem rtext_bx (r : Ru) (L : List ByteArray) (n : Nat) (w : World) (hE : Env w) (h : Rl.right r = true) (c0 : 0 ≤ r.c) (hL : Rl.texts r = L) (hn : L.length = n) :
    Calls Tryz.prog 39 #[.agg #[.string r.nm, .int .i64 r.fr, .int .i64 r.tl, .int .i64 r.m, .int .u8 r.k, .int .i64 r.n, .int .i64 r.d, .int .i64 r.s, .int .u8 r.c, .int .i64 r.sv, .string r.lt]] w fun e w' => (∃ g, e = .returned (.tuple #[.slice (some ⟨g, 0, none⟩) n n, .int .i64 0]) ∧ Bx w' g (L.map Value.string)) ∧ Below w.heap.size w w' := by
  subst hL hn
  exact (rtext_yes r w hE h c0).mono fun _ _ ⟨⟨g, he, _, ht⟩, hb⟩ => ⟨⟨g, he, ht.bx⟩, hb⟩
theorem rcheck_yes (r : Ru) (w : World) (hs : r.nm.size ≤ 4096) (h : Rl.right r = true) : Calls Tryz.prog 53 #[.agg #[.string r.nm, .int .i64 r.fr, .int .i64 r.tl, .int .i64 r.m, .int .u8 r.k, .int .i64 r.n, .int .i64 r.d, .int .i64 r.s, .int .u8 r.c, .int .i64 r.sv, .string r.lt]] w fun e w' => e = .returned (.int .i64 0) ∧ Below w.heap.size w w' := rcheck_is r true w (by omega) h
theorem rcheck_no (r : Ru) (w : World) (hs : r.nm.size ≤ 4096) (h : Rl.right r = false) : Calls Tryz.prog 53 #[.agg #[.string r.nm, .int .i64 r.fr, .int .i64 r.tl, .int .i64 r.m, .int .u8 r.k, .int .i64 r.n, .int .i64 r.d, .int .i64 r.s, .int .u8 r.c, .int .i64 r.sv, .string r.lt]] w fun e w' => e = .returned (.int .i64 2) ∧ Below w.heap.size w w' := rcheck_is r false w (by omega) h
end Go.Proofs.YtkcbmnboccjnnaaGreatDoor
/- Sizes of a rule's texts, and what is read of them. No walk. -/

namespace Go.Proofs.YtkcbmnboccjnnaaGreatDoor
open Go.RowKit
theorem name_le {s : ByteArray} (h : Rl.name s.data.toList = true) : s.size ≤ 64 := by
  have hz : s.data.toList.length = s.size := by simp
  unfold Rl.name at h
  rw [Bool.and_eq_true] at h
  have := of_decide_eq_true h.1
  omega
theorem ltr_le {s : ByteArray} (h : Fm.ltr s.data.toList = true) : s.size ≤ 32 := by
  have hz : s.data.toList.length = s.size := by simp
  unfold Fm.ltr at h
  rw [Bool.and_eq_true] at h
  have := of_decide_eq_true h.1
  omega
theorem itoa_le (y : Int) (h1 : 1 ≤ y) (h2 : y ≤ 9999) : (⟨(Lib.itoa y).toArray⟩ : ByteArray).size ≤ 201 := by
  have e : Lib.itoa y = Lib.decDigits y.toNat := by unfold Lib.itoa; rw [if_neg (by omega)]
  rw [size_ba, e]
  have := ten_len y.toNat (by omega)
  omega
theorem rtexts_small {r : Ru} (h : Rl.right r = true) : ∀ t ∈ Rl.texts r, t.size ≤ 201 := by
  obtain ⟨h1, ⟨y1, y2, y3⟩, ⟨m1, m2⟩, hd, hr, ⟨v1, v2⟩, hl⟩ := rl_parts h
  have n0 := name_le h1
  have n8 := ltr_le hl
  intro t ht
  simp only [Rl.texts, List.mem_cons, List.not_mem_nil, or_false] at ht
  rcases ht with rfl | rfl | rfl | rfl | rfl | rfl | rfl | rfl | rfl
  · omega
  · exact itoa_le _ y1 (by omega)
  · unfold Rl.t2
    split
    · decide
    · split
      · decide
      · exact itoa_le _ (by omega) y3
  · decide
  · have := (Wd.mons_back (r.m - 1).toNat (by omega)).2.1
    show (Wd.three Wd.mons (r.m - 1).toNat).size ≤ 201
    omega
  · have := txt_size r.k r.n r.d hd
    show (Dy.txt r.k r.n r.d).size ≤ 201
    omega
  · obtain ⟨q1, q2, _⟩ := (Mo.right_iff _ _).1 hr
    unfold Rl.t6
    rw [size_ba]
    have := txt_len r.s q1 q2
    have := ltr_len r.c
    unfold Mo.txt
    rw [List.length_append]
    omega
  · unfold Rl.t7
    rw [size_ba]
    have := txt_len r.sv v1 v2
    omega
  · unfold Rl.t8
    split
    · decide
    · omega
/-- What is needed of a right rule's texts. -/
structure RTx (r : Ru) (LT : List ByteArray) : Prop where
  texts : Rl.texts r = LT
  len : LT.length = 9
  small : ∀ t ∈ LT, t.size ≤ 4096
  nine : Rl.prs LT = (r, 0, 0)
  eight : Rl.prs (LT.take 8) = (Ru.zero, 8, 5)
theorem rtx_of {r : Ru} (h : Rl.right r = true) (c0 : 0 ≤ r.c) : ∃ LT, RTx r LT := ⟨_, rfl, rfl, fun t ht => Nat.le_trans (rtexts_small h t ht) (by decide), rback h c0, rback8 h c0⟩
theorem RTx.small8 {r : Ru} {LT : List ByteArray} (h : RTx r LT) : ∀ t ∈ LT.take 8, t.size ≤ 4096 := fun t ht => h.small t (List.mem_of_mem_take ht)
theorem zero_eight {L : List ByteArray} (h : Rl.prs L = (Ru.zero, 8, 5)) : Rl.prs L = (⟨⟨#[]⟩, 0, 0, 0, 0, 0, 0, 0, 0, 0, ⟨#[]⟩⟩, 8, 5) := h
end Go.Proofs.YtkcbmnboccjnnaaGreatDoor
