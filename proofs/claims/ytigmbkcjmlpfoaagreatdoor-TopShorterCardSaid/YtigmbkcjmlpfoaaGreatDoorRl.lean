/- Rules as numbers and texts: which are right, what texts tell, and that a right rule is read from its texts. No walk. -/
import Derived.Test.YtigmbkcjmlpfoaaGreatDoorMc
import Derived.Test.YtigmbkcjmlpfoaaGreatDoorMd
namespace Go.Proofs.YtigmbkcjmlpfoaaGreatDoor
open Go.RowKit
/-- A rule: its name, nine numbers, its letter. -/
structure Ru where
  nm : ByteArray
  fr : Int
  tl : Int
  m : Int
  k : Int
  n : Int
  d : Int
  s : Int
  c : Int
  sv : Int
  lt : ByteArray
@[reducible] def ruV (r : Ru) : Value := .agg #[.string r.nm, .int .i64 r.fr, .int .i64 r.tl, .int .i64 r.m, .int .u8 r.k, .int .i64 r.n, .int .i64 r.d, .int .i64 r.s, .int .u8 r.c, .int .i64 r.sv, .string r.lt]
def Ru.zero : Ru := ⟨⟨#[]⟩, 0, 0, 0, 0, 0, 0, 0, 0, 0, ⟨#[]⟩⟩
def Rl.first (c : UInt8) : Bool := decide ((97 ≤ c.toNat ∧ c.toNat ≤ 122) ∨ (65 ≤ c.toNat ∧ c.toNat ≤ 90) ∨ c.toNat = 95)
def Rl.inn (c : UInt8) : Bool := decide ((97 ≤ c.toNat ∧ c.toNat ≤ 122) ∨ (65 ≤ c.toNat ∧ c.toNat ≤ 90) ∨ c.toNat = 95 ∨ (48 ≤ c.toNat ∧ c.toNat ≤ 57) ∨ c.toNat = 43 ∨ c.toNat = 45 ∨ c.toNat = 47)
/-- A text is a name. -/
def Rl.name (l : List UInt8) : Bool := decide (1 ≤ l.length ∧ l.length ≤ 64) && ((l.take 1).all Rl.first && l.all Rl.inn)
def Rl.time (t : Int) : Bool := decide (-604800 ≤ t ∧ t ≤ 604800)
def Rl.years (r : Ru) : Bool := decide (1 ≤ r.fr ∧ r.fr ≤ r.tl ∧ r.tl ≤ 9999)
def Rl.month (r : Ru) : Bool := decide (1 ≤ r.m ∧ r.m ≤ 12)
/-- A rule is right. -/
def Rl.right (r : Ru) : Bool := Rl.name r.nm.data.toList && (Rl.years r && (Rl.month r && (Dy.right r.k r.n r.d && (Mo.right r.s r.c && (Rl.time r.sv && Fm.ltr r.lt.data.toList)))))
theorem rl_parts {r : Ru} (h : Rl.right r = true) : Rl.name r.nm.data.toList = true ∧ (1 ≤ r.fr ∧ r.fr ≤ r.tl ∧ r.tl ≤ 9999) ∧ (1 ≤ r.m ∧ r.m ≤ 12) ∧ Dy.right r.k r.n r.d = true ∧ Mo.right r.s r.c = true ∧ (-604800 ≤ r.sv ∧ r.sv ≤ 604800) ∧ Fm.ltr r.lt.data.toList = true := by
  unfold Rl.right at h
  simp only [Bool.and_eq_true] at h
  obtain ⟨h1, h2, h3, h4, h5, h6, h7⟩ := h
  exact ⟨h1, of_decide_eq_true h2, of_decide_eq_true h3, h4, h5, of_decide_eq_true h6, h7⟩
theorem rl_of {r : Ru} (h1 : Rl.name r.nm.data.toList = true) (h2 : 1 ≤ r.fr ∧ r.fr ≤ r.tl ∧ r.tl ≤ 9999) (h3 : 1 ≤ r.m ∧ r.m ≤ 12) (h4 : Dy.right r.k r.n r.d = true) (h5 : Mo.right r.s r.c = true) (h6 : -604800 ≤ r.sv ∧ r.sv ≤ 604800) (h7 : Fm.ltr r.lt.data.toList = true) : Rl.right r = true := by
  unfold Rl.right
  rw [h1, h4, h5, h7, show Rl.years r = true from decide_eq_true h2, show Rl.month r = true from decide_eq_true h3, show Rl.time r.sv = true from decide_eq_true h6]
  rfl
def Rl.onlyW : ByteArray := ⟨#[111, 110, 108, 121]⟩
def Rl.maxW : ByteArray := ⟨#[109, 97, 120, 105, 109, 117, 109]⟩
def Rl.maxT : ByteArray := ⟨#[109, 97, 120]⟩
def Rl.ends : List ByteArray := [Rl.onlyW, Rl.maxW]
/-- The last year that a text tells of a rule from a year on, and why it tells none. -/
def Rl.till (fr : Int) (t : ByteArray) : Int × Int :=
  if Wd.pick t Rl.ends = 0 then (fr, 0) else if Wd.pick t Rl.ends = 1 then (9999, 0) else if Mo.yr t.data.toList = 0 then (0, 4) else if Mo.yr t.data.toList < fr then (0, 10) else (Mo.yr t.data.toList, 0)
/-- How much a text says is saved. -/
def Rl.save (l : List UInt8) : Int × Int := if l = [45] then (0, 0) else parseL l
/-- The letter that a text tells. -/
def Rl.lett (t : ByteArray) : ByteArray × Int := if t.data.toList = [45] then (⟨#[]⟩, 0) else if Fm.ltr t.data.toList = true then (t, 0) else (⟨#[]⟩, 4)
def Rl.nam (t : ByteArray) : ByteArray × Int := if Rl.name t.data.toList = true then (t, 0) else (⟨#[]⟩, 7)
/-- What a text at a place makes of a rule, and why it makes none. -/
def Rl.step (i : Nat) (t : ByteArray) (r : Ru) : Ru × Int :=
  match i with
  | 0 => ({ r with nm := (Rl.nam t).1 }, (Rl.nam t).2)
  | 1 => ({ r with fr := Mo.yr t.data.toList }, if Mo.yr t.data.toList = 0 then 4 else 0)
  | 2 => ({ r with tl := (Rl.till r.fr t).1 }, (Rl.till r.fr t).2)
  | 3 => (r, if t.data.toList = [45] then 0 else 4)
  | 4 => ({ r with m := Wd.pick t Wd.mons + 1 }, if Wd.pick t Wd.mons + 1 = 0 then 7 else 0)
  | 5 => match Dy.prs t with
    | some (k, n, d) => ({ r with k := k, n := n, d := d }, 0)
    | none => ({ r with k := 0, n := 0, d := 0 }, 4)
  | 6 => ({ r with s := (Mo.prs t.data.toList).1, c := ((Mo.prs t.data.toList).2.1 : Nat) }, (Mo.prs t.data.toList).2.2)
  | 7 => ({ r with sv := (Rl.save t.data.toList).1 }, (Rl.save t.data.toList).2)
  | _ => ({ r with lt := (Rl.lett t).1 }, (Rl.lett t).2)
/-- What texts from a place on make of a rule: it, or the place of what makes none, and why. -/
def Rl.run : Nat → List ByteArray → Ru → Ru × Nat × Int
  | _, [], r => (r, 0, 0)
  | i, t :: l, r => if (Rl.step i t r).2 = 0 then Rl.run (i + 1) l (Rl.step i t r).1 else (Ru.zero, i, (Rl.step i t r).2)
/-- The rule that texts tell, or the place of what tells none, and why. -/
def Rl.prs (L : List ByteArray) : Ru × Nat × Int :=
  if (Rl.run 0 (L.take 9) Ru.zero).2.2 ≠ 0 then Rl.run 0 (L.take 9) Ru.zero
  else if L.length < 9 then (Ru.zero, L.length, 5) else if 9 < L.length then (Ru.zero, 9, 6) else Rl.run 0 (L.take 9) Ru.zero
/-- What is right of a rule when so many texts are read. -/
structure Rl.good (i : Nat) (r : Ru) : Prop where
  g0 : 0 < i → Rl.name r.nm.data.toList = true
  g1 : 1 < i → 1 ≤ r.fr ∧ r.fr ≤ 9999
  g2 : 2 < i → r.fr ≤ r.tl ∧ r.tl ≤ 9999
  g4 : 4 < i → 1 ≤ r.m ∧ r.m ≤ 12
  g5 : 5 < i → Dy.right r.k r.n r.d = true
  g6 : 6 < i → Mo.right r.s r.c = true ∧ 0 ≤ r.c
  g7 : 7 < i → -604800 ≤ r.sv ∧ r.sv ≤ 604800
  g8 : 8 < i → Fm.ltr r.lt.data.toList = true
theorem rgood_zero : Rl.good 0 Ru.zero :=
  ⟨fun h => absurd h (by omega), fun h => absurd h (by omega), fun h => absurd h (by omega), fun h => absurd h (by omega), fun h => absurd h (by omega), fun h => absurd h (by omega), fun h => absurd h (by omega), fun h => absurd h (by omega)⟩
theorem rstep_ok (i : Nat) (hi : i < 9) (t : ByteArray) (r : Ru) (h : Rl.good i r) (hz : (Rl.step i t r).2 = 0) : Rl.good (i + 1) (Rl.step i t r).1 := by
  obtain ⟨g0, g1, g2, g4, g5, g6, g7, g8⟩ := h
  have hi9 : i = 0 ∨ i = 1 ∨ i = 2 ∨ i = 3 ∨ i = 4 ∨ i = 5 ∨ i = 6 ∨ i = 7 ∨ i = 8 := by omega
  rcases hi9 with rfl | rfl | rfl | rfl | rfl | rfl | rfl | rfl | rfl
  · have hz : (Rl.nam t).2 = 0 := hz
    have hn : Rl.name (Rl.nam t).1.data.toList = true := by
      unfold Rl.nam at *
      split at hz
      · rename_i h
        rw [if_pos h]
        exact h
      · cases hz
    exact ⟨fun _ => hn, fun h => absurd h (by omega), fun h => absurd h (by omega), fun h => absurd h (by omega), fun h => absurd h (by omega), fun h => absurd h (by omega), fun h => absurd h (by omega), fun h => absurd h (by omega)⟩
  · have hz : (if Mo.yr t.data.toList = 0 then (4 : Int) else 0) = 0 := hz
    have hn : Mo.yr t.data.toList ≠ 0 := fun e => by rw [if_pos e] at hz; cases hz
    exact ⟨fun _ => g0 (by omega), fun _ => yr_ok _ hn, fun h => absurd h (by omega), fun h => absurd h (by omega), fun h => absurd h (by omega), fun h => absurd h (by omega), fun h => absurd h (by omega), fun h => absurd h (by omega)⟩
  · have hz : (Rl.till r.fr t).2 = 0 := hz
    have hf := g1 (by omega)
    have hn : r.fr ≤ (Rl.till r.fr t).1 ∧ (Rl.till r.fr t).1 ≤ 9999 := by
      unfold Rl.till at *
      by_cases h0 : Wd.pick t Rl.ends = 0
      · rw [if_pos h0]; exact ⟨Int.le_refl _, hf.2⟩
      · rw [if_neg h0] at hz ⊢
        by_cases h1 : Wd.pick t Rl.ends = 1
        · rw [if_pos h1]; exact ⟨hf.2, Int.le_refl _⟩
        · rw [if_neg h1] at hz ⊢
          by_cases h2 : Mo.yr t.data.toList = 0
          · rw [if_pos h2] at hz; cases hz
          · rw [if_neg h2] at hz ⊢
            by_cases h3 : Mo.yr t.data.toList < r.fr
            · rw [if_pos h3] at hz; cases hz
            · rw [if_neg h3]
              exact ⟨by show r.fr ≤ Mo.yr t.data.toList; omega, (yr_ok _ h2).2⟩
    exact ⟨fun _ => g0 (by omega), fun _ => hf, fun _ => hn, fun h => absurd h (by omega), fun h => absurd h (by omega), fun h => absurd h (by omega), fun h => absurd h (by omega), fun h => absurd h (by omega)⟩
  · exact ⟨fun _ => g0 (by omega), fun _ => g1 (by omega), fun _ => g2 (by omega), fun h => absurd h (by omega), fun h => absurd h (by omega), fun h => absurd h (by omega), fun h => absurd h (by omega), fun h => absurd h (by omega)⟩
  · have hz : (if Wd.pick t Wd.mons + 1 = 0 then (7 : Int) else 0) = 0 := hz
    have hn : Wd.pick t Wd.mons + 1 ≠ 0 := fun e => by rw [if_pos e] at hz; cases hz
    have p1 := Wd.pick_ge t Wd.mons
    have p2 : Wd.pick t Wd.mons < 12 := Wd.pick_lt t Wd.mons
    exact ⟨fun _ => g0 (by omega), fun _ => g1 (by omega), fun _ => g2 (by omega), fun _ => ⟨by show 1 ≤ Wd.pick t Wd.mons + 1; omega, by show Wd.pick t Wd.mons + 1 ≤ 12; omega⟩, fun h => absurd h (by omega), fun h => absurd h (by omega), fun h => absurd h (by omega), fun h => absurd h (by omega)⟩
  · cases hp : Dy.prs t with
    | none =>
      have e : Rl.step 5 t r = ({ r with k := 0, n := 0, d := 0 }, 4) := by unfold Rl.step; rw [hp]; rfl
      rw [e] at hz
      cases hz
    | some q =>
      obtain ⟨k, n, d⟩ := q
      have e : Rl.step 5 t r = ({ r with k := k, n := n, d := d }, 0) := by unfold Rl.step; rw [hp]; rfl
      rw [e]
      exact ⟨fun _ => g0 (by omega), fun _ => g1 (by omega), fun _ => g2 (by omega), fun _ => g4 (by omega), fun _ => Dy.prs_right hp, fun h => absurd h (by omega), fun h => absurd h (by omega), fun h => absurd h (by omega)⟩
  · have hz : (Mo.prs t.data.toList).2.2 = 0 := hz
    exact ⟨fun _ => g0 (by omega), fun _ => g1 (by omega), fun _ => g2 (by omega), fun _ => g4 (by omega), fun _ => g5 (by omega), fun _ => ⟨prs_right _ hz, by show (0 : Int) ≤ (((Mo.prs t.data.toList).2.1 : Nat) : Int); omega⟩, fun h => absurd h (by omega), fun h => absurd h (by omega)⟩
  · have hz : (Rl.save t.data.toList).2 = 0 := hz
    have hn : -604800 ≤ (Rl.save t.data.toList).1 ∧ (Rl.save t.data.toList).1 ≤ 604800 := by
      unfold Rl.save at *
      by_cases h0 : t.data.toList = [45]
      · rw [if_pos h0]; exact ⟨by decide, by decide⟩
      · rw [if_neg h0] at hz ⊢; exact parse_ok _ hz
    exact ⟨fun _ => g0 (by omega), fun _ => g1 (by omega), fun _ => g2 (by omega), fun _ => g4 (by omega), fun _ => g5 (by omega), fun _ => g6 (by omega), fun _ => hn, fun h => absurd h (by omega)⟩
  · have hz : (Rl.lett t).2 = 0 := hz
    have hn : Fm.ltr (Rl.lett t).1.data.toList = true := by
      unfold Rl.lett at *
      by_cases h0 : t.data.toList = [45]
      · rw [if_pos h0]; decide +kernel
      · rw [if_neg h0] at hz ⊢
        by_cases h1 : Fm.ltr t.data.toList = true
        · rw [if_pos h1]; exact h1
        · rw [if_neg h1] at hz; cases hz
    exact ⟨fun _ => g0 (by omega), fun _ => g1 (by omega), fun _ => g2 (by omega), fun _ => g4 (by omega), fun _ => g5 (by omega), fun _ => g6 (by omega), fun _ => g7 (by omega), fun _ => hn⟩
theorem rrun_ok : ∀ (l : List ByteArray) (i : Nat) (r : Ru), i + l.length ≤ 9 → Rl.good i r →
    ((Rl.run i l r).2.2 = 0 → (Rl.run i l r).2.1 = 0 ∧ Rl.good (i + l.length) (Rl.run i l r).1) ∧ ((Rl.run i l r).2.2 ≠ 0 → (Rl.run i l r).1 = Ru.zero ∧ (Rl.run i l r).2.1 < i + l.length)
  | [], i, r, _, hg => by
    unfold Rl.run
    exact ⟨fun _ => ⟨rfl, hg⟩, fun h => absurd rfl h⟩
  | t :: l, i, r, hl, hg => by
    have hl' : i + (l.length + 1) ≤ 9 := by simpa using hl
    unfold Rl.run
    by_cases h0 : (Rl.step i t r).2 = 0
    · rw [if_pos h0]
      have ih := rrun_ok l (i + 1) (Rl.step i t r).1 (by omega) (rstep_ok i (by omega) t r hg h0)
      rw [show i + (t :: l).length = i + 1 + l.length by simp; omega]
      exact ih
    · rw [if_neg h0]
      refine ⟨fun h => absurd h h0, fun _ => ⟨rfl, ?_⟩⟩
      show i < i + (t :: l).length
      simp
/-- What is read of any texts. -/
theorem rprs_ok (L : List ByteArray) : ((Rl.prs L).2.2 = 0 → (Rl.prs L).2.1 = 0 ∧ Rl.right (Rl.prs L).1 = true ∧ 0 ≤ (Rl.prs L).1.c ∧ L.length = 9) ∧
    ((Rl.prs L).2.2 ≠ 0 → (Rl.prs L).1 = Ru.zero ∧ (Rl.prs L).2.1 ≤ 9 ∧ (Rl.prs L).2.1 ≤ L.length) := by
  have hlen : (L.take 9).length = min 9 L.length := List.length_take
  have hr := rrun_ok (L.take 9) 0 Ru.zero (by omega) rgood_zero
  unfold Rl.prs
  by_cases h0 : (Rl.run 0 (L.take 9) Ru.zero).2.2 ≠ 0
  · rw [if_pos h0]
    obtain ⟨e, g⟩ := hr.2 h0
    exact ⟨fun h => absurd h h0, fun _ => ⟨e, by omega, by omega⟩⟩
  · rw [if_neg h0]
    by_cases h1 : L.length < 9
    · rw [if_pos h1]
      exact ⟨(fun h => by cases h), fun _ => ⟨rfl, by show L.length ≤ 9; omega, Nat.le_refl _⟩⟩
    · rw [if_neg h1]
      by_cases h2 : 9 < L.length
      · rw [if_pos h2]
        exact ⟨(fun h => by cases h), fun _ => ⟨rfl, Nat.le_refl _, by show 9 ≤ L.length; omega⟩⟩
      · rw [if_neg h2]
        refine ⟨fun h => ?_, fun h => absurd h h0⟩
        obtain ⟨e, g⟩ := hr.1 h
        rw [show 0 + (L.take 9).length = 9 by omega] at g
        obtain ⟨g0, g1, g2, g4, g5, g6, g7, g8⟩ := g
        have g2' := g2 (by omega)
        exact ⟨e, rl_of (g0 (by omega)) ⟨(g1 (by omega)).1, g2'.1, g2'.2⟩ (g4 (by omega)) (g5 (by omega)) (g6 (by omega)).1 (g7 (by omega)) (g8 (by omega)), (g6 (by omega)).2, by omega⟩
/-- The texts of a right rule. -/
def Rl.t1 (r : Ru) : ByteArray := ⟨(Lib.itoa r.fr).toArray⟩
def Rl.t2 (r : Ru) : ByteArray := if r.tl = r.fr then Rl.onlyW else if r.tl = 9999 then Rl.maxT else ⟨(Lib.itoa r.tl).toArray⟩
def Rl.t4 (r : Ru) : ByteArray := Wd.three Wd.mons (r.m - 1).toNat
def Rl.t5 (r : Ru) : ByteArray := Dy.txt r.k r.n r.d
def Rl.t6 (r : Ru) : ByteArray := ⟨(Mo.txt r.s r.c).toArray⟩
def Rl.t7 (r : Ru) : ByteArray := ⟨(txt r.sv).toArray⟩
def Rl.t8 (r : Ru) : ByteArray := if r.lt.data.toList = [] then ⟨#[45]⟩ else r.lt
def Rl.texts (r : Ru) : List ByteArray := [r.nm, Rl.t1 r, Rl.t2 r, ⟨#[45]⟩, Rl.t4 r, Rl.t5 r, Rl.t6 r, Rl.t7 r, Rl.t8 r]
theorem sm_digit {c : UInt8} (h : Txt.isD c = true) : Wd.sm c = c := by
  unfold Wd.sm
  have := (isD_iff c).1 h
  rw [if_neg (by omega)]
/-- Digits mean neither word. -/
theorem pick_digits {t : ByteArray} (h : t.data.toList.all Txt.isD = true) : Wd.pick t Rl.ends = -1 := by
  rcases Wd.pick_place t Rl.ends with e | ⟨h0, k, _, hk, x, hx, hb⟩
  · exact e
  · exfalso
    have hz : 0 < t.size := Nat.pos_of_ne_zero h0
    have hd : Txt.isD t[0] = true := List.all_eq_true.1 h _ (List.mem_of_getElem? (Lib.data_getElem? t 0 hz))
    have hk2 : k = 0 ∨ k = 1 := by
      have : Rl.ends.length = 2 := rfl
      omega
    rcases hk2 with rfl | rfl
    · obtain rfl : Rl.onlyW = x := by simpa [Rl.ends] using hx
      have := Wd.beg_at hb 0 hz (by decide)
      rw [sm_digit hd] at this
      rw [← this] at hd
      revert hd
      decide +kernel
    · obtain rfl : Rl.maxW = x := by simpa [Rl.ends] using hx
      have := Wd.beg_at hb 0 hz (by decide)
      rw [sm_digit hd] at this
      rw [← this] at hd
      revert hd
      decide +kernel
theorem rt_year (y : Int) (h1 : 1 ≤ y) (h2 : y ≤ 9999) : Mo.yr (⟨(Lib.itoa y).toArray⟩ : ByteArray).data.toList = y := by
  show Mo.yr (Lib.itoa y).toArray.toList = y
  rw [List.toList_toArray]
  exact yr_itoa y h1 h2
theorem rrun_step {i : Nat} {t : ByteArray} {l : List ByteArray} {v v' : Ru} (h : Rl.step i t v = (v', 0)) : Rl.run i (t :: l) v = Rl.run (i + 1) l v' := by
  rw [Rl.run, h, if_pos rfl]
section
variable {r : Ru} (h : Rl.right r = true) (c0 : 0 ≤ r.c)
include h
theorem rt_till : Rl.till r.fr (Rl.t2 r) = (r.tl, 0) := by
  obtain ⟨_, ⟨y1, y2, y3⟩, _⟩ := rl_parts h
  unfold Rl.t2
  by_cases h1 : r.tl = r.fr
  · rw [if_pos h1]
    unfold Rl.till
    rw [if_pos (by decide +kernel), h1]
  · rw [if_neg h1]
    by_cases h2 : r.tl = 9999
    · rw [if_pos h2]
      unfold Rl.till
      rw [if_neg (by decide +kernel), if_pos (by decide +kernel), h2]
    · rw [if_neg h2]
      have hp : Wd.pick (⟨(Lib.itoa r.tl).toArray⟩ : ByteArray) Rl.ends = -1 := pick_digits (by
        show (Lib.itoa r.tl).toArray.toList.all Txt.isD = true
        rw [List.toList_toArray]
        exact itoa_all _ (by omega))
      have hy := rt_year r.tl (by omega) y3
      unfold Rl.till
      rw [hp, if_neg (by decide), if_neg (by decide), hy, if_neg (by omega), if_neg (by omega)]
theorem rs0 (v : Ru) : Rl.step 0 r.nm v = ({ v with nm := r.nm }, 0) := by
  have e : Rl.nam r.nm = (r.nm, 0) := by unfold Rl.nam; rw [if_pos (rl_parts h).1]
  show (({ v with nm := (Rl.nam r.nm).1 } : Ru), (Rl.nam r.nm).2) = _
  rw [e]
theorem rs1 (v : Ru) : Rl.step 1 (Rl.t1 r) v = ({ v with fr := r.fr }, 0) := by
  obtain ⟨_, ⟨y1, y2, y3⟩, _⟩ := rl_parts h
  have e := rt_year r.fr y1 (by omega)
  show (({ v with fr := Mo.yr (Rl.t1 r).data.toList } : Ru), if Mo.yr (Rl.t1 r).data.toList = 0 then (4 : Int) else 0) = _
  unfold Rl.t1
  rw [e, if_neg (by omega)]
theorem rs2 (v : Ru) (hv : v.fr = r.fr) : Rl.step 2 (Rl.t2 r) v = ({ v with tl := r.tl }, 0) := by
  have e := rt_till h
  show (({ v with tl := (Rl.till v.fr (Rl.t2 r)).1 } : Ru), (Rl.till v.fr (Rl.t2 r)).2) = _
  rw [hv, e]
omit h in
theorem rs3 (v : Ru) : Rl.step 3 ⟨#[45]⟩ v = (v, 0) := rfl
theorem rs4 (v : Ru) : Rl.step 4 (Rl.t4 r) v = ({ v with m := r.m }, 0) := by
  obtain ⟨_, _, ⟨m1, m2⟩, _⟩ := rl_parts h
  have e : Wd.pick (Rl.t4 r) Wd.mons + 1 = r.m := by
    have := (Wd.mons_back (r.m - 1).toNat (by omega)).1
    show Wd.pick (Wd.three Wd.mons (r.m - 1).toNat) Wd.mons + 1 = r.m
    rw [this]
    omega
  show (({ v with m := Wd.pick (Rl.t4 r) Wd.mons + 1 } : Ru), if Wd.pick (Rl.t4 r) Wd.mons + 1 = 0 then (7 : Int) else 0) = _
  rw [e, if_neg (by omega)]
theorem rs5 (v : Ru) : Rl.step 5 (Rl.t5 r) v = ({ v with k := r.k, n := r.n, d := r.d }, 0) := by
  obtain ⟨_, _, _, hd, _⟩ := rl_parts h
  unfold Rl.step
  rw [show Dy.prs (Rl.t5 r) = some (r.k, r.n, r.d) from Dy.back hd]
  rfl
include c0 in
theorem rs6 (v : Ru) : Rl.step 6 (Rl.t6 r) v = ({ v with s := r.s, c := r.c }, 0) := by
  obtain ⟨_, _, _, _, hm, _⟩ := rl_parts h
  have e : ((r.c.toNat : Nat) : Int) = r.c := by omega
  have hp : Mo.prs (Rl.t6 r).data.toList = (r.s, r.c.toNat, 0) := by
    show Mo.prs (Mo.txt r.s r.c).toArray.toList = _
    rw [List.toList_toArray, ← e]
    exact prs_txt r.s r.c.toNat (by rw [e]; exact hm)
  show (({ v with s := (Mo.prs (Rl.t6 r).data.toList).1, c := (((Mo.prs (Rl.t6 r).data.toList).2.1 : Nat) : Int) } : Ru), (Mo.prs (Rl.t6 r).data.toList).2.2) = _
  rw [hp]
  show (({ v with s := r.s, c := ((r.c.toNat : Nat) : Int) } : Ru), (0 : Int)) = _
  rw [e]
theorem rs7 (v : Ru) : Rl.step 7 (Rl.t7 r) v = ({ v with sv := r.sv }, 0) := by
  obtain ⟨_, _, _, _, _, ⟨s1, s2⟩, _⟩ := rl_parts h
  have e : Rl.save (Rl.t7 r).data.toList = (r.sv, 0) := by
    show Rl.save (txt r.sv).toArray.toList = _
    rw [List.toList_toArray]
    unfold Rl.save
    have hp := parse_txt r.sv s1 s2
    rw [if_neg (fun e => by
      rw [e] at hp
      have h2 : (parseL [45]).2 = 0 := congrArg Prod.snd hp
      revert h2
      decide +kernel), hp]
  show (({ v with sv := (Rl.save (Rl.t7 r).data.toList).1 } : Ru), (Rl.save (Rl.t7 r).data.toList).2) = _
  rw [e]
theorem rs8 (v : Ru) : Rl.step 8 (Rl.t8 r) v = ({ v with lt := r.lt }, 0) := by
  obtain ⟨_, _, _, _, _, _, hl⟩ := rl_parts h
  have e : Rl.lett (Rl.t8 r) = (r.lt, 0) := by
    unfold Rl.t8 Rl.lett
    by_cases h0 : r.lt.data.toList = []
    · rw [if_pos h0, if_pos rfl, show r.lt = ⟨#[]⟩ from ByteArray.ext (Array.toList_inj.1 h0)]
    · rw [if_neg h0, if_neg (fun e => by rw [e] at hl; revert hl; decide +kernel), if_pos hl]
  show (({ v with lt := (Rl.lett (Rl.t8 r)).1 } : Ru), (Rl.lett (Rl.t8 r)).2) = _
  rw [e]
include c0
theorem rrun9 : Rl.run 0 (Rl.texts r) Ru.zero = (r, 0, 0) := by
  have e0 : Rl.step 0 r.nm ⟨⟨#[]⟩, 0, 0, 0, 0, 0, 0, 0, 0, 0, ⟨#[]⟩⟩ = (⟨r.nm, 0, 0, 0, 0, 0, 0, 0, 0, 0, ⟨#[]⟩⟩, 0) := rs0 h _
  have e1 : Rl.step 1 (Rl.t1 r) ⟨r.nm, 0, 0, 0, 0, 0, 0, 0, 0, 0, ⟨#[]⟩⟩ = (⟨r.nm, r.fr, 0, 0, 0, 0, 0, 0, 0, 0, ⟨#[]⟩⟩, 0) := rs1 h _
  have e2 : Rl.step 2 (Rl.t2 r) ⟨r.nm, r.fr, 0, 0, 0, 0, 0, 0, 0, 0, ⟨#[]⟩⟩ = (⟨r.nm, r.fr, r.tl, 0, 0, 0, 0, 0, 0, 0, ⟨#[]⟩⟩, 0) := rs2 h _ rfl
  have e3 : Rl.step 3 ⟨#[45]⟩ ⟨r.nm, r.fr, r.tl, 0, 0, 0, 0, 0, 0, 0, ⟨#[]⟩⟩ = (⟨r.nm, r.fr, r.tl, 0, 0, 0, 0, 0, 0, 0, ⟨#[]⟩⟩, 0) := rs3 _
  have e4 : Rl.step 4 (Rl.t4 r) ⟨r.nm, r.fr, r.tl, 0, 0, 0, 0, 0, 0, 0, ⟨#[]⟩⟩ = (⟨r.nm, r.fr, r.tl, r.m, 0, 0, 0, 0, 0, 0, ⟨#[]⟩⟩, 0) := rs4 h _
  have e5 : Rl.step 5 (Rl.t5 r) ⟨r.nm, r.fr, r.tl, r.m, 0, 0, 0, 0, 0, 0, ⟨#[]⟩⟩ = (⟨r.nm, r.fr, r.tl, r.m, r.k, r.n, r.d, 0, 0, 0, ⟨#[]⟩⟩, 0) := rs5 h _
  have e6 : Rl.step 6 (Rl.t6 r) ⟨r.nm, r.fr, r.tl, r.m, r.k, r.n, r.d, 0, 0, 0, ⟨#[]⟩⟩ = (⟨r.nm, r.fr, r.tl, r.m, r.k, r.n, r.d, r.s, r.c, 0, ⟨#[]⟩⟩, 0) := rs6 h c0 _
  have e7 : Rl.step 7 (Rl.t7 r) ⟨r.nm, r.fr, r.tl, r.m, r.k, r.n, r.d, r.s, r.c, 0, ⟨#[]⟩⟩ = (⟨r.nm, r.fr, r.tl, r.m, r.k, r.n, r.d, r.s, r.c, r.sv, ⟨#[]⟩⟩, 0) := rs7 h _
  have e8 : Rl.step 8 (Rl.t8 r) ⟨r.nm, r.fr, r.tl, r.m, r.k, r.n, r.d, r.s, r.c, r.sv, ⟨#[]⟩⟩ = (⟨r.nm, r.fr, r.tl, r.m, r.k, r.n, r.d, r.s, r.c, r.sv, r.lt⟩, 0) := rs8 h _
  unfold Rl.texts
  rw [show Ru.zero = ⟨⟨#[]⟩, 0, 0, 0, 0, 0, 0, 0, 0, 0, ⟨#[]⟩⟩ from rfl]
  rw [rrun_step e0, rrun_step e1, rrun_step e2, rrun_step e3, rrun_step e4, rrun_step e5, rrun_step e6, rrun_step e7, rrun_step e8]
  rfl
theorem rrun8 : (Rl.run 0 [r.nm, Rl.t1 r, Rl.t2 r, ⟨#[45]⟩, Rl.t4 r, Rl.t5 r, Rl.t6 r, Rl.t7 r] Ru.zero).2.2 = 0 := by
  have e0 : Rl.step 0 r.nm ⟨⟨#[]⟩, 0, 0, 0, 0, 0, 0, 0, 0, 0, ⟨#[]⟩⟩ = (⟨r.nm, 0, 0, 0, 0, 0, 0, 0, 0, 0, ⟨#[]⟩⟩, 0) := rs0 h _
  have e1 : Rl.step 1 (Rl.t1 r) ⟨r.nm, 0, 0, 0, 0, 0, 0, 0, 0, 0, ⟨#[]⟩⟩ = (⟨r.nm, r.fr, 0, 0, 0, 0, 0, 0, 0, 0, ⟨#[]⟩⟩, 0) := rs1 h _
  have e2 : Rl.step 2 (Rl.t2 r) ⟨r.nm, r.fr, 0, 0, 0, 0, 0, 0, 0, 0, ⟨#[]⟩⟩ = (⟨r.nm, r.fr, r.tl, 0, 0, 0, 0, 0, 0, 0, ⟨#[]⟩⟩, 0) := rs2 h _ rfl
  have e3 : Rl.step 3 ⟨#[45]⟩ ⟨r.nm, r.fr, r.tl, 0, 0, 0, 0, 0, 0, 0, ⟨#[]⟩⟩ = (⟨r.nm, r.fr, r.tl, 0, 0, 0, 0, 0, 0, 0, ⟨#[]⟩⟩, 0) := rs3 _
  have e4 : Rl.step 4 (Rl.t4 r) ⟨r.nm, r.fr, r.tl, 0, 0, 0, 0, 0, 0, 0, ⟨#[]⟩⟩ = (⟨r.nm, r.fr, r.tl, r.m, 0, 0, 0, 0, 0, 0, ⟨#[]⟩⟩, 0) := rs4 h _
  have e5 : Rl.step 5 (Rl.t5 r) ⟨r.nm, r.fr, r.tl, r.m, 0, 0, 0, 0, 0, 0, ⟨#[]⟩⟩ = (⟨r.nm, r.fr, r.tl, r.m, r.k, r.n, r.d, 0, 0, 0, ⟨#[]⟩⟩, 0) := rs5 h _
  have e6 : Rl.step 6 (Rl.t6 r) ⟨r.nm, r.fr, r.tl, r.m, r.k, r.n, r.d, 0, 0, 0, ⟨#[]⟩⟩ = (⟨r.nm, r.fr, r.tl, r.m, r.k, r.n, r.d, r.s, r.c, 0, ⟨#[]⟩⟩, 0) := rs6 h c0 _
  have e7 : Rl.step 7 (Rl.t7 r) ⟨r.nm, r.fr, r.tl, r.m, r.k, r.n, r.d, r.s, r.c, 0, ⟨#[]⟩⟩ = (⟨r.nm, r.fr, r.tl, r.m, r.k, r.n, r.d, r.s, r.c, r.sv, ⟨#[]⟩⟩, 0) := rs7 h _
  rw [show Ru.zero = ⟨⟨#[]⟩, 0, 0, 0, 0, 0, 0, 0, 0, 0, ⟨#[]⟩⟩ from rfl]
  rw [rrun_step e0, rrun_step e1, rrun_step e2, rrun_step e3, rrun_step e4, rrun_step e5, rrun_step e6, rrun_step e7]
  rfl
theorem rback : Rl.prs (Rl.texts r) = (r, 0, 0) := by
  unfold Rl.prs
  rw [show (Rl.texts r).take 9 = Rl.texts r from rfl, rrun9 h c0]
  rfl
theorem rback8 : Rl.prs ((Rl.texts r).take 8) = (Ru.zero, 8, 5) := by
  have e : (Rl.run 0 ((Rl.texts r).take 8) Ru.zero).2.2 = 0 := rrun8 h c0
  unfold Rl.prs
  rw [show ((Rl.texts r).take 8).take 9 = (Rl.texts r).take 8 from rfl, if_neg (fun hn => hn e)]
  rfl
end
end Go.Proofs.YtigmbkcjmlpfoaaGreatDoor
