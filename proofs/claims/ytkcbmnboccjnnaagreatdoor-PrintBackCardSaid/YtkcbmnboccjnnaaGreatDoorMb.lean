/- Wd, Sl, Word, Names, Dy, Day, DayIn, DayParse, DayCut, DayText, one behind the other. -/
import Derived.Lib.Hide
import Derived.Below
import Derived.ChangeSlices
import Derived.SliceStrings
import Derived.WideShapes
import Derived.Deep.Slices
import Derived.Test.YtkcbmnboccjnnaaGreatDoorMa
import Derived.OpenShut
import Derived.LoopTactic
import Derived.Calls
import Derived.Lib.IndexMore
import Derived.Lib.ItoaNum
import Derived.Test.YtkcbmnboccjnnaaGreatDoorShelf
import Derived.Deep.RegionHeld3
import Derived.Handy
/- Words: letters alike, beginnings, and which of several names a word means. Imports nothing of the program. -/


namespace Go.Proofs.YtkcbmnboccjnnaaGreatDoor
namespace Wd
/-- The small letter of a great one. -/
def sm (c : UInt8) : UInt8 := if 65 ≤ c.toNat ∧ c.toNat ≤ 90 then UInt8.ofNat (c.toNat + 32) else c
def lo (s : ByteArray) : List UInt8 := s.data.toList.map sm
/-- x begins with s, letters alike. -/
def beg (x s : ByteArray) : Bool := (lo s).isPrefixOf (lo x)
/-- a and b are one, letters alike. -/
def one (a b : ByteArray) : Bool := decide (lo a = lo b)
theorem lo_len (s : ByteArray) : (lo s).length = s.size := by simp [lo]
theorem lo_at (s : ByteArray) (k : Nat) (h : k < s.size) : (lo s)[k]? = some (sm s[k]) := by
  have : s.data.toList[k]? = some s[k] := by
    rw [List.getElem?_eq_getElem (by simpa using h)]; rfl
  simp [lo, this]
theorem beg_pre (x s : ByteArray) : beg x s = true ↔ lo s <+: lo x := List.isPrefixOf_iff_prefix
theorem beg_short {x s : ByteArray} (h : x.size < s.size) : beg x s = false := by
  cases hb : beg x s with
  | false => rfl
  | true =>
    have := ((beg_pre x s).1 hb).length_le
    rw [lo_len, lo_len] at this
    omega
theorem beg_at {x s : ByteArray} (hb : beg x s = true) (k : Nat) (h : k < s.size) (h' : k < x.size) : sm x[k] = sm s[k] := by
  obtain ⟨t, ht⟩ := (beg_pre x s).1 hb
  have h1 := lo_at x k h'
  rw [← ht, List.getElem?_append_left (by rw [lo_len]; exact h), lo_at s k h] at h1
  injection h1 with h1
  exact h1.symm
theorem beg_of {x s : ByteArray} (hs : s.size ≤ x.size) (h : ∀ k (h : k < s.size) (h' : k < x.size), sm x[k] = sm s[k]) : beg x s = true := by
  rw [beg_pre, List.prefix_iff_eq_take, lo_len]
  apply List.ext_getElem?
  intro k
  by_cases hk : k < s.size
  · rw [List.getElem?_take_of_lt hk, lo_at s k hk, lo_at x k (by omega), h k hk (by omega)]
  · rw [List.getElem?_eq_none (by rw [lo_len]; omega), List.getElem?_eq_none (by simp [lo_len]; omega)]
/-- The first k letters are alike. -/
def Eqto (x s : ByteArray) (k : Nat) : Prop := ∀ j (_ : j < s.size) (_ : j < x.size), j < k → sm x[j] = sm s[j]
theorem eqto_zero (x s : ByteArray) : Eqto x s 0 := fun j _ _ h => absurd h (by omega)
theorem eqto_snoc {x s : ByteArray} {k : Nat} (h : Eqto x s k) (hx : k < x.size) (hs : k < s.size) (e : sm x[k] = sm s[k]) : Eqto x s (k + 1) := by
  intro j h1 h2 h3
  by_cases hjk : j = k
  · subst hjk; exact e
  · exact h j h1 h2 (by omega)
theorem eqto_all {x s : ByteArray} (h : Eqto x s s.size) (hs : s.size ≤ x.size) : beg x s = true := beg_of hs fun j h1 h2 => h j h1 h2 h1
theorem beg_differ {x s : ByteArray} {k : Nat} (hx : k < x.size) (hs : k < s.size) (e : sm x[k] ≠ sm s[k]) : beg x s = false := by
  cases hb : beg x s with
  | false => rfl
  | true => exact absurd (beg_at hb k hs hx) e
theorem one_iff (a b : ByteArray) : one a b = true ↔ a.size = b.size ∧ beg a b = true := by
  unfold one
  rw [decide_eq_true_eq, beg_pre]
  constructor
  · intro h
    have := congrArg List.length h
    rw [lo_len, lo_len] at this
    exact ⟨this, by rw [h]; exact List.prefix_refl _⟩
  · rintro ⟨h, hp⟩
    exact (hp.eq_of_length (by rw [lo_len, lo_len, h])).symm
theorem one_size {a b : ByteArray} (h : a.size ≠ b.size) : one a b = false := by
  cases hb : one a b with
  | false => rfl
  | true => exact absurd ((one_iff a b).1 hb).1 h
theorem one_beg {a b : ByteArray} (h : a.size = b.size) : one a b = beg a b := by
  cases hb : beg a b with
  | true => exact (one_iff a b).2 ⟨h, hb⟩
  | false =>
    cases ho : one a b with
    | false => rfl
    | true => rw [((one_iff a b).1 ho).2] at hb; cases hb
theorem beg_of_one {s x : ByteArray} (h : one s x = true) : beg x s = true := by
  unfold one at h
  rw [decide_eq_true_eq] at h
  rw [beg_pre, h]
  exact List.prefix_refl _
/-- The scan for the name that a word means: the place, the last name so far that begins so, and how many. -/
def go (s : ByteArray) (i : Nat) (f : Int) (c : Nat) : List ByteArray → Int
  | [] => if c = 1 then f else -1
  | x :: r => if one s x = true then (i : Int) else if beg x s = true then go s (i + 1) (i : Int) (c + 1) r else go s (i + 1) f c r
/-- The place of the name that s means, or -1. -/
def pick (s : ByteArray) (l : List ByteArray) : Int := if s.size = 0 then -1 else go s 0 (-1) 0 l
def Ex (s : ByteArray) (l : List ByteArray) (j : Nat) : Prop := ∃ x, l[j]? = some x ∧ one s x = true
def Bg (s : ByteArray) (l : List ByteArray) (j : Nat) : Prop := ∃ x, l[j]? = some x ∧ beg x s = true
def Inv (s : ByteArray) (p : List ByteArray) (f : Int) (c : Nat) : Prop :=
  (∀ j, ¬ Ex s p j) ∧ ((c = 0 ∧ ∀ j, ¬ Bg s p j) ∨ (c = 1 ∧ ∃ k : Nat, f = k ∧ Bg s p k ∧ ∀ j, Bg s p j → j = k) ∨ (2 ≤ c ∧ ∃ j k, j ≠ k ∧ Bg s p j ∧ Bg s p k))
/-- v is the place of the name that s means. -/
def Means (s : ByteArray) (l : List ByteArray) (v : Int) : Prop :=
  (∃ k : Nat, v = k ∧ Ex s l k ∧ ∀ j, j < k → ¬ Ex s l j) ∨ ((∀ j, ¬ Ex s l j) ∧ ((v = -1 ∧ ((∀ j, ¬ Bg s l j) ∨ ∃ j k, j ≠ k ∧ Bg s l j ∧ Bg s l k)) ∨ ∃ k : Nat, v = k ∧ Bg s l k ∧ ∀ j, Bg s l j → j = k))
theorem get_snoc (p : List ByteArray) (x y : ByteArray) (j : Nat) : (p ++ [x])[j]? = some y ↔ p[j]? = some y ∨ (j = p.length ∧ x = y) := by
  rcases Nat.lt_trichotomy j p.length with h | h | h
  · rw [List.getElem?_append_left h]
    exact ⟨.inl, fun h' => h'.elim id fun ⟨e, _⟩ => by omega⟩
  · subst h
    simp
  · rw [List.getElem?_eq_none (by simp; omega), List.getElem?_eq_none (by omega)]
    simp
    omega
theorem ex_snoc (s : ByteArray) (p : List ByteArray) (x : ByteArray) (j : Nat) : Ex s (p ++ [x]) j ↔ Ex s p j ∨ (j = p.length ∧ one s x = true) := by
  unfold Ex
  constructor
  · rintro ⟨y, h, hy⟩
    rcases (get_snoc p x y j).1 h with h | ⟨h2, rfl⟩
    · exact .inl ⟨y, h, hy⟩
    · exact .inr ⟨h2, hy⟩
  · rintro (⟨y, h, hy⟩ | ⟨h, hy⟩)
    · exact ⟨y, (get_snoc p x y j).2 (.inl h), hy⟩
    · exact ⟨x, (get_snoc p x x j).2 (.inr ⟨h, rfl⟩), hy⟩
theorem bg_snoc (s : ByteArray) (p : List ByteArray) (x : ByteArray) (j : Nat) : Bg s (p ++ [x]) j ↔ Bg s p j ∨ (j = p.length ∧ beg x s = true) := by
  unfold Bg
  constructor
  · rintro ⟨y, h, hy⟩
    rcases (get_snoc p x y j).1 h with h | ⟨h2, rfl⟩
    · exact .inl ⟨y, h, hy⟩
    · exact .inr ⟨h2, hy⟩
  · rintro (⟨y, h, hy⟩ | ⟨h, hy⟩)
    · exact ⟨y, (get_snoc p x y j).2 (.inl h), hy⟩
    · exact ⟨x, (get_snoc p x x j).2 (.inr ⟨h, rfl⟩), hy⟩
theorem bg_lt {s : ByteArray} {l : List ByteArray} {j : Nat} (h : Bg s l j) : j < l.length := by
  obtain ⟨x, h, _⟩ := h
  exact (List.getElem?_eq_some_iff.1 h).1
theorem ex_bg {s : ByteArray} {l : List ByteArray} {j : Nat} (h : Ex s l j) : Bg s l j := by
  obtain ⟨x, h, hx⟩ := h
  exact ⟨x, h, beg_of_one hx⟩
theorem ex_left {s : ByteArray} {p r : List ByteArray} {j : Nat} (hj : j < p.length) : Ex s (p ++ r) j ↔ Ex s p j := by
  unfold Ex
  rw [List.getElem?_append_left hj]
theorem inv_nil (s : ByteArray) : Inv s [] (-1) 0 := by
  refine ⟨?_, .inl ⟨rfl, ?_⟩⟩
  · rintro j ⟨x, h, _⟩; simp at h
  · rintro j ⟨x, h, _⟩; simp at h
theorem inv_no {s : ByteArray} {p : List ByteArray} {f : Int} {c : Nat} (h : Inv s p f c) (x : ByteArray) (ho : ¬ one s x = true) (hb : ¬ beg x s = true) : Inv s (p ++ [x]) f c := by
  have hB : ∀ j, Bg s (p ++ [x]) j ↔ Bg s p j := fun j => by rw [bg_snoc]; exact ⟨fun h => h.elim id fun ⟨_, e⟩ => absurd e hb, .inl⟩
  refine ⟨fun j hj => ?_, ?_⟩
  · rcases (ex_snoc s p x j).1 hj with h' | ⟨_, h'⟩
    · exact h.1 j h'
    · exact ho h'
  · simp only [hB]
    exact h.2
theorem inv_yes {s : ByteArray} {p : List ByteArray} {f : Int} {c : Nat} (h : Inv s p f c) (x : ByteArray) (ho : ¬ one s x = true) (hb : beg x s = true) : Inv s (p ++ [x]) (p.length : Int) (c + 1) := by
  have hN : Bg s (p ++ [x]) p.length := (bg_snoc _ _ _ _).2 (.inr ⟨rfl, hb⟩)
  refine ⟨fun j hj => ?_, ?_⟩
  · rcases (ex_snoc s p x j).1 hj with h' | ⟨_, h'⟩
    · exact h.1 j h'
    · exact ho h'
  · rcases h.2 with ⟨rfl, h0⟩ | ⟨rfl, k, _, hk, _⟩ | ⟨hc, j, k, hne, hj, hk⟩
    · refine .inr (.inl ⟨rfl, p.length, rfl, hN, fun j hj => ?_⟩)
      rcases (bg_snoc s p x j).1 hj with h' | ⟨h', _⟩
      · exact absurd h' (h0 j)
      · exact h'
    · have := bg_lt hk
      exact .inr (.inr ⟨by omega, k, p.length, by omega, (bg_snoc _ _ _ _).2 (.inl hk), hN⟩)
    · exact .inr (.inr ⟨by omega, j, k, hne, (bg_snoc _ _ _ _).2 (.inl hj), (bg_snoc _ _ _ _).2 (.inl hk)⟩)
theorem go_means (s : ByteArray) : ∀ (r p : List ByteArray) (f : Int) (c : Nat), Inv s p f c → Means s (p ++ r) (go s p.length f c r) := by
  intro r
  induction r with
  | nil =>
    intro p f c h
    rw [List.append_nil]
    refine .inr ⟨h.1, ?_⟩
    unfold go
    rcases h.2 with ⟨rfl, h0⟩ | ⟨rfl, k, rfl, hk, hu⟩ | ⟨hc, hm⟩
    · exact .inl ⟨rfl, .inl h0⟩
    · exact .inr ⟨k, rfl, hk, hu⟩
    · rw [if_neg (by omega)]
      exact .inl ⟨rfl, .inr hm⟩
  | cons x r ih =>
    intro p f c h
    unfold go
    by_cases ho : one s x = true
    · rw [if_pos ho]
      refine .inl ⟨p.length, rfl, ⟨x, by simp, ho⟩, fun j hj hx => h.1 j ((ex_left hj).1 hx)⟩
    · rw [if_neg ho]
      have e : p ++ x :: r = (p ++ [x]) ++ r := by simp
      have el : p.length + 1 = (p ++ [x]).length := by simp
      by_cases hb : beg x s = true
      · rw [if_pos hb, e, el]
        exact ih _ _ _ (inv_yes h x ho hb)
      · rw [if_neg hb, e, el]
        exact ih _ _ _ (inv_no h x ho hb)
theorem pick_means (s : ByteArray) (l : List ByteArray) (h : s.size ≠ 0) : Means s l (pick s l) := by
  unfold pick
  rw [if_neg h]
  exact go_means s l [] _ _ (inv_nil s)
theorem means_unique {s : ByteArray} {l : List ByteArray} {v v' : Int} (h : Means s l v) (h' : Means s l v') : v = v' := by
  rcases h with ⟨k, rfl, hk, hm⟩ | ⟨hn, h⟩
  · rcases h' with ⟨k', rfl, hk', hm'⟩ | ⟨hn', _⟩
    · rcases Nat.lt_trichotomy k k' with hl | hl | hl
      · exact absurd hk (hm' k hl)
      · rw [hl]
      · exact absurd hk' (hm k' hl)
    · exact absurd hk (hn' k)
  · rcases h' with ⟨k', rfl, hk', hm'⟩ | ⟨_, h'⟩
    · exact absurd hk' (hn k')
    · rcases h with ⟨rfl, h⟩ | ⟨k, rfl, hk, hu⟩
      · rcases h' with ⟨rfl, _⟩ | ⟨k, rfl, hk, hu⟩
        · rfl
        · rcases h with h | ⟨i, j, hne, hi, hj⟩
          · exact absurd hk (h k)
          · exact absurd ((hu i hi).trans (hu j hj).symm) hne
      · rcases h' with ⟨rfl, h⟩ | ⟨k', rfl, hk', hu'⟩
        · rcases h with h | ⟨i, j, hne, hi, hj⟩
          · exact absurd hk (h k)
          · exact absurd ((hu i hi).trans (hu j hj).symm) hne
        · rw [hu k' hk']
theorem pick_eq {s : ByteArray} {l : List ByteArray} {v : Int} (h0 : s.size ≠ 0) (h : Means s l v) : pick s l = v := means_unique (pick_means s l h0) h
theorem pick_place (s : ByteArray) (l : List ByteArray) : pick s l = -1 ∨ (s.size ≠ 0 ∧ ∃ k : Nat, pick s l = k ∧ k < l.length ∧ Bg s l k) := by
  by_cases h0 : s.size = 0
  · left; unfold pick; rw [if_pos h0]
  · rcases pick_means s l h0 with ⟨k, hv, hk, _⟩ | ⟨_, ⟨hv, _⟩ | ⟨k, hv, hk, _⟩⟩
    · exact .inr ⟨h0, k, hv, bg_lt (ex_bg hk), ex_bg hk⟩
    · exact .inl hv
    · exact .inr ⟨h0, k, hv, bg_lt hk, hk⟩
theorem lo_take (x : ByteArray) (n : Nat) : lo (x.extract 0 n) = (lo x).take n := by
  simp [lo, ByteArray.data_extract, List.map_take]
theorem take_size (x : ByteArray) (n : Nat) (h : n ≤ x.size) : (x.extract 0 n).size = n := by
  have := congrArg List.length (lo_take x n)
  rw [lo_len, List.length_take, lo_len] at this
  omega
theorem one_take {x s : ByteArray} (_h : s.size ≤ x.size) : one (x.extract 0 s.size) s = beg x s := by
  have hp : (one (x.extract 0 s.size) s = true) ↔ beg x s = true := by
    unfold one
    rw [decide_eq_true_eq, beg_pre, lo_take, List.prefix_iff_eq_take, lo_len]
    exact eq_comm
  cases hb : beg x s with
  | true => exact hp.2 hb
  | false =>
    cases ho : one (x.extract 0 s.size) s with
    | false => rfl
    | true => rw [hp.1 ho] at hb; cases hb
theorem pre_total {a b c : List UInt8} (h1 : a <+: c) (h2 : b <+: c) (h : a.length ≤ b.length) : a <+: b := List.prefix_of_prefix_length_le h1 h2 h
/-- With a letter more of the one that is meant a word means the same. -/
theorem pick_longer {s x : ByteArray} {l : List ByteArray} {k : Nat} (h0 : s.size ≠ 0) (h : pick s l = k) (hx : l[k]? = some x) (hs : s.size < x.size) : pick (x.extract 0 (s.size + 1)) l = k := by
  have hz := take_size x (s.size + 1) (by omega)
  have hM := pick_means s l h0
  rw [h] at hM
  have hbx : beg x s = true := by
    rcases pick_place s l with h' | ⟨_, k', h', _, y, hy, hb⟩
    · rw [h] at h'; exact absurd h' (by omega)
    · rw [h] at h'
      obtain rfl : k = k' := by omega
      rw [hx] at hy
      injection hy with hy
      rw [hy]; exact hb
  have hu : ∀ j, Bg s l j → j = k := by
    rcases hM with ⟨k', hv, ⟨y, hy, ho⟩, _⟩ | ⟨_, ⟨hv, _⟩ | ⟨k', hv, _, hu⟩⟩
    · exfalso
      obtain rfl : k = k' := by omega
      rw [hx] at hy
      injection hy with hy
      have := ((one_iff s y).1 ho).1
      rw [hy] at hs
      omega
    · exact absurd hv (by omega)
    · obtain rfl : k = k' := by omega
      exact hu
  have hsub : lo s <+: lo (x.extract 0 (s.size + 1)) := by
    refine pre_total ((beg_pre _ _).1 hbx) ?_ (by rw [lo_len, lo_len, hz]; omega)
    rw [lo_take]; exact List.take_prefix _ _
  have hB : ∀ j, Bg (x.extract 0 (s.size + 1)) l j → j = k := by
    rintro j ⟨y, hy, hb⟩
    exact hu j ⟨y, hy, (beg_pre _ _).2 (hsub.trans ((beg_pre _ _).1 hb))⟩
  have hk : Bg (x.extract 0 (s.size + 1)) l k := ⟨x, hx, (beg_pre _ _).2 (by rw [lo_take]; exact List.take_prefix _ _)⟩
  refine pick_eq (by rw [hz]; omega) ?_
  by_cases he : Ex (x.extract 0 (s.size + 1)) l k
  · exact .inl ⟨k, rfl, he, fun j hj hxj => by have := hB j (ex_bg hxj); omega⟩
  · exact .inr ⟨fun j hj => he (by have := hB j (ex_bg hj); rwa [this] at hj), .inr ⟨k, rfl, hk, hB⟩⟩
/-- With a name more that does not begin so a word means the same. -/
theorem pick_more {s m : ByteArray} {l : List ByteArray} {k : Nat} (h0 : s.size ≠ 0) (h : pick s l = k) (hm : beg m s = false) : pick s (l ++ [m]) = k := by
  have hno : ¬ beg m s = true := by rw [hm]; exact Bool.false_ne_true
  have hnx : ¬ one s m = true := fun ho => hno (beg_of_one ho)
  have hE : ∀ j, Ex s (l ++ [m]) j ↔ Ex s l j := fun j => by rw [ex_snoc]; exact ⟨fun h => h.elim id fun ⟨_, e⟩ => absurd e hnx, .inl⟩
  have hB : ∀ j, Bg s (l ++ [m]) j ↔ Bg s l j := fun j => by rw [bg_snoc]; exact ⟨fun h => h.elim id fun ⟨_, e⟩ => absurd e hno, .inl⟩
  have hM := pick_means s l h0
  rw [h] at hM
  refine pick_eq h0 ?_
  unfold Means at hM ⊢
  simp only [hE, hB]
  exact hM
end Wd
end Go.Proofs.YtkcbmnboccjnnaaGreatDoor
/- Arguments that are slices, read as cells (nil let in). Imports nothing of the program. -/





namespace Go.Proofs.YtkcbmnboccjnnaaGreatDoor
open Go.RowKit Go.ChangeShapes Go.WideShapes Go.Deep
theorem app_ba (a b : List UInt8) : (⟨a.toArray⟩ : ByteArray) ++ ⟨b.toArray⟩ = ⟨(a ++ b).toArray⟩ := by
  apply ByteArray.ext
  simp
theorem size_ba (l : List UInt8) : (⟨l.toArray⟩ : ByteArray).size = l.length := by simp [ByteArray.size]
/-- A slice that reads as n cells, from below block B; nil let in. -/
def Sl (w : World) (B : Nat) (A : Option Addr) (n : Nat) (v : Nat → Value) : Prop := 0 < n → ∃ ad, A = some ad ∧ ad.block < B ∧ ∀ i, i < n → w.cell? (ad.add i) = some (v i)
theorem block_of_add (a : Addr) (n : Nat) : (a.add n).block = a.block := by unfold Addr.add; split <;> rfl
theorem Sl.below {w w' : World} {B : Nat} {A : Option Addr} {n : Nat} {v : Nat → Value} (h : Sl w B A n v) (hb : Below B w w') : Sl w' B A n v := by
  intro hn
  obtain ⟨ad, e, hl, hc⟩ := h hn
  exact ⟨ad, e, hl, fun i hi => (hb.cell (by rw [block_of_add]; exact hl)).trans (hc i hi)⟩
theorem Sl.at_ {w : World} {B : Nat} {A : Option Addr} {n : Nat} {v : Nat → Value} (h : Sl w B A n v) {k : Nat} (hk : k < n) : ∃ ad, A = some ad ∧ ad.block < B ∧ w.cell? (ad.add k) = some (v k) := by
  obtain ⟨ad, e, hl, hc⟩ := h (by omega)
  exact ⟨ad, e, hl, hc k hk⟩
theorem lt_cell {w : World} {p : Addr} {v : Value} (h : w.cell? p = some v) : p.block < w.heap.size := World.block_lt_of_cell? w p h
section
variable {H : Type} {enc : TypeId × Value → H} {P : Program} {w : World} {base : Nat} {spare : Nat → Bool} {held : Bool}
theorem open_sl_ints {r : Reach} {b0 : Nat} {t e : TypeId} {k : IntKind} {v : Value} {d : DataW H} {p : List MemPlace} (ht : P.underlying t = some (.slice e)) (he : P.underlying e = some (.int k)) (hc : P.cellsOf e = 1)
    (hv : Value.okWide P w r b0 t v) (h : DataW.Trod enc P w base spare held t v d p) :
    ∃ (A : Option Addr) (n c : Nat) (zs : List Int), v = .slice A n c ∧ n ≤ maxLen ∧ zs.length = n ∧ (∀ i, i < n → (Lit.int k (zs.getD i 0)).wf = true) ∧ Sl w w.heap.size A n (fun i => .int k (zs.getD i 0)) := by
  obtain ⟨a0, len, cap, rfl⟩ := okWide_slice ht hv
  obtain ⟨fuel, hf⟩ := h
  rcases open_ints ht he hc hf with ⟨hcs, hx⟩ | ⟨a, len', cap', zs, hcs, _, hl, hm, hz, hx, hcell, hw⟩
  · simp [Value.cells] at hcs
    obtain ⟨rfl, rfl, rfl⟩ := hcs
    exact ⟨none, 0, 0, [], rfl, Nat.zero_le _, rfl, fun i hi => absurd hi (by omega), fun hn => absurd hn (by omega)⟩
  · simp [Value.cells] at hcs
    obtain ⟨rfl, rfl, rfl⟩ := hcs
    have hle : len ≤ zs.length := by rw [hz]; split <;> omega
    have hg : ∀ i, i < len → (zs.take len).getD i 0 = zs.getD i 0 := fun i hi => by simp [List.getD_eq_getElem?_getD, List.getElem?_take_of_lt hi]
    refine ⟨some a, len, cap, zs.take len, rfl, by omega, by simp; omega, fun i hi => ?_, fun hn => ⟨a, rfl, ?_, fun i hi => ?_⟩⟩
    · rw [hg i hi, List.getD_eq_getElem?_getD, List.getElem?_eq_getElem (by omega)]
      exact hw _ (List.getElem_mem _)
    · have := lt_cell (hcell 0 (by omega))
      rwa [block_of_add] at this
    · show _ = some (Value.int k ((zs.take len).getD i 0))
      rw [hg i hi]
      exact hcell i (by omega)
theorem open_sl_strs {r : Reach} {b0 : Nat} {t e : TypeId} {v : Value} {d : DataW H} {p : List MemPlace} (ht : P.underlying t = some (.slice e)) (he : P.underlying e = some .string) (hc : P.cellsOf e = 1)
    (hv : Value.okWide P w r b0 t v) (h : DataW.Trod enc P w base spare held t v d p) :
    ∃ (A : Option Addr) (n c : Nat) (ss : List ByteArray), v = .slice A n c ∧ n ≤ maxLen ∧ ss.length = n ∧ (∀ i, i < n → (ss.getD i ByteArray.empty).size ≤ maxLen) ∧ Sl w w.heap.size A n (fun i => .string (ss.getD i ByteArray.empty)) := by
  obtain ⟨a0, len, cap, rfl⟩ := okWide_slice ht hv
  obtain ⟨fuel, hf⟩ := h
  rcases open_strings ht he hc hf with ⟨hcs, hx⟩ | ⟨a, len', cap', zs, hcs, _, hl, hm, hz, hx, hcell, hw⟩
  · simp [Value.cells] at hcs
    obtain ⟨rfl, rfl, rfl⟩ := hcs
    exact ⟨none, 0, 0, [], rfl, Nat.zero_le _, rfl, fun i hi => absurd hi (by omega), fun hn => absurd hn (by omega)⟩
  · simp [Value.cells] at hcs
    obtain ⟨rfl, rfl, rfl⟩ := hcs
    have hle : len ≤ zs.length := by rw [hz]; split <;> omega
    have hg : ∀ i, i < len → (zs.take len).getD i ByteArray.empty = zs.getD i ByteArray.empty := fun i hi => by simp [List.getD_eq_getElem?_getD, List.getElem?_take_of_lt hi]
    refine ⟨some a, len, cap, zs.take len, rfl, by omega, by simp; omega, fun i hi => ?_, fun hn => ⟨a, rfl, ?_, fun i hi => ?_⟩⟩
    · rw [hg i hi, List.getD_eq_getElem?_getD, List.getElem?_eq_getElem (by omega)]
      exact hw _ (List.getElem_mem _)
    · have := lt_cell (hcell 0 (by omega))
      rwa [block_of_add] at this
    · show _ = some (Value.string ((zs.take len).getD i ByteArray.empty))
      rw [hg i hi]
      exact hcell i (by omega)
end
end Go.Proofs.YtkcbmnboccjnnaaGreatDoor
/- Contracts of package word: small, begins, Same, Pick. -/







namespace Go.Proofs.YtkcbmnboccjnnaaGreatDoor
open Go.RowKit
theorem idx_any (S : ByteArray) (kd : IntKind) (k : Nat) (hk : k < S.size) (W : World) : (Instr.index 9 (.string S) (.int kd (k : Int))).run Tryz.prog W = .ok (.int .u8 (S[k].toNat : Int)) W := by
  rw [run_index_string (P := Tryz.prog) W 9 S kd k Tryz.underlying9, dif_pos ⟨by omega, by omega⟩]
  rfl
theorem idx_str (S : ByteArray) (k : Nat) (hk : k < S.size) (W : World) : (Instr.index 9 (.string S) (.int .i64 (k : Int))).run Tryz.prog W = .ok (.int .u8 (S[k].toNat : Int)) W := idx_any S .i64 k hk W
theorem small_any (c : UInt8) (w : World) : Calls Tryz.prog 175 #[.int .u8 (c.toNat : Int)] w fun e w' => e = .returned (.int .u8 ((Wd.sm c).toNat : Int)) ∧ w = w' := by
  have hc := c.toNat_lt
  by_cases h : 65 ≤ c.toNat ∧ c.toNat ≤ 90
  · have hs : ((Wd.sm c).toNat : Int) = (c.toNat : Int) + 32 := by unfold Wd.sm; rw [if_pos h, UInt8.toNat_ofNat']; omega
    rw [hs]
    obtain ⟨a, b⟩ := h
    clear hs
    go_enter Tryz.func175, Tryz.ntmps175
    go_wp2
    go_ret
    exact ⟨rfl, rfl⟩
  · have hs : Wd.sm c = c := by unfold Wd.sm; rw [if_neg h]
    rw [hs]
    clear hs
    by_cases h1 : 65 ≤ c.toNat
    · have t1 : decide ((c.toNat : Int) ≤ 90) = false := by simp; omega
      clear h
      go_enter Tryz.func175, Tryz.ntmps175
      go_wp2
      go_ret
      exact ⟨rfl, rfl⟩
    · have t1 : decide (65 ≤ (c.toNat : Int)) = false := by simp; omega
      clear h
      go_enter Tryz.func175, Tryz.ntmps175
      go_wp2
      go_ret
      exact ⟨rfl, rfl⟩
theorem ret_bool {a b : Bool} (h : a = b) : Ending.returned (.bool a) = .returned (.bool b) := by rw [h]
set_option maxHeartbeats 1000000 in
theorem begins_any (x s : ByteArray) (w : World) (hx : x.size ≤ 4294967296) (_hs : s.size ≤ 4294967296) :
    Calls Tryz.prog 148 #[.string x, .string s] w fun e w' => e = .returned (.bool (Wd.beg x s)) ∧ Below w.heap.size w w' := by
  by_cases hl : x.size < s.size
  · rw [Wd.beg_short hl]
    go_enter Tryz.func148, Tryz.ntmps148
    go_wp2_with fail
    go_ret
    exact ⟨rfl, Below.refl _ _⟩
  · go_enter Tryz.func148, Tryz.ntmps148
    go_wp2_with fail
    go_loopw [13] (fun i wr => ∃ k : Nat, k ≤ s.size ∧ i = .int .i64 k ∧ Wd.Eqto x s k ∧ Below w.heap.size w wr) (fun i _ => s.size - (intOf i).toNat)
    case atStart => exact ⟨0, Nat.zero_le _, rfl, Wd.eqto_zero x s, Below.refl _ _⟩
    case round =>
      obtain ⟨k, hk, rfl, hE, hbw⟩ := hrel
      by_cases hlt : k < s.size
      · have hlx : k < x.size := by omega
        have hi0 := idx_str x k hlx
        have hi1 := idx_str s k hlt
        by_cases he : Wd.sm x[k] = Wd.sm s[k]
        · have HE := Lib.hid (Wd.eqto_snoc hE hlx hlt he)
          have t1 : (((Wd.sm x[k]).toNat : Int) != ((Wd.sm s[k]).toNat : Int)) = false := by rw [he]; simp
          clear he hE
          go_wp2_with fail
          go_quiet ((go_at_call 175; exact quiet_left (small_any _ _)))
          go_wp2_with fail
          go_roundw
          case rel => exact ⟨k + 1, by omega, by go_num, HE.out, below_drewN hbw _⟩
          case measure => simp [intOf]; omega
        · have HD := Lib.hid (Wd.beg_differ hlx hlt he)
          have t1 : (((Wd.sm x[k]).toNat : Int) != ((Wd.sm s[k]).toNat : Int)) = true := by
            rw [bne_iff_ne]; intro h; apply he; apply UInt8.toNat_inj.1; omega
          clear he hE
          go_wp2_with fail
          go_quiet ((go_at_call 175; exact quiet_left (small_any _ _)))
          go_wp2_with fail
          go_ret
          exact ⟨ret_bool HD.out.symm, below_drewN hbw _⟩
      · obtain rfl : k = s.size := by omega
        have HD := Lib.hid (Wd.eqto_all hE (by omega))
        clear hE
        go_wp2_with fail
        go_ret
        exact ⟨ret_bool HD.out.symm, hbw⟩
theorem same_any (a b : ByteArray) (w : World) (ha : a.size ≤ 4294967296) (hb : b.size ≤ 4294967296) :
    Calls Tryz.prog 147 #[.string a, .string b] w fun e w' => e = .returned (.bool (Wd.one a b)) ∧ Below w.heap.size w w' := by
  by_cases hl : a.size = b.size
  · rw [Wd.one_beg hl]
    have t1 : ((a.size : Int) == (b.size : Int)) = true := by simp [hl]
    clear hl
    go_enter Tryz.func147, Tryz.ntmps147
    go_wp2_with fail
    refine (begins_any a b _ ha hb).mono ?_
    rintro e w1 ⟨rfl, b1⟩
    go_wp2_with fail
    go_ret
    exact ⟨rfl, b1⟩
  · rw [Wd.one_size hl]
    have t1 : ((a.size : Int) == (b.size : Int)) = false := by rw [beq_eq_false_iff_ne]; omega
    clear hl
    go_enter Tryz.func147, Tryz.ntmps147
    go_wp2_with fail
    go_ret
    exact ⟨rfl, Below.refl _ _⟩
theorem not_empty {S : ByteArray} (h : S.size ≠ 0) : S.toList.isEmpty = false := by
  have hlen : S.data.toList.length = S.size := by simp
  rw [ByteArray.toList_eq]
  cases h' : S.data.toList with
  | nil => rw [h'] at hlen; simp at hlen; omega
  | cons a r => rfl
set_option maxHeartbeats 1000000 in
theorem pick_any (s : ByteArray) (A : Option Addr) (n c : Nat) (L : List ByteArray) (hl : L.length = n) (hn : n ≤ 4294967296) (hs : s.size ≤ 4294967296) (hL : ∀ i, i < n → (L.getD i ByteArray.empty).size ≤ 4294967296)
    (w : World) (B : Nat) (hB : B ≤ w.heap.size) (hS : Sl w B A n (fun i => .string (L.getD i ByteArray.empty))) :
    Calls Tryz.prog 91 #[.string s, .slice A n c] w fun e w' => e = .returned (.int .i64 (Wd.pick s L)) ∧ Below w.heap.size w w' := by
  by_cases h0 : s.size = 0
  · have hp : Wd.pick s L = -1 := by unfold Wd.pick; rw [if_pos h0]
    rw [hp]
    obtain rfl : s = ⟨#[]⟩ := ByteArray.ext (Array.eq_empty_of_size_eq_zero h0)
    clear hp h0 hl hL
    go_enter Tryz.func91, Tryz.ntmps91
    go_wp2_with fail
    go_ret
    exact ⟨rfl, Below.refl _ _⟩
  · have hp : Wd.pick s L = Wd.go s 0 (-1) 0 L := by unfold Wd.pick; rw [if_neg h0]
    rw [hp]
    have he := not_empty h0
    have HL := Lib.hid hl
    have HZ := Lib.hid hL
    clear hp h0 hl hL
    go_enter Tryz.func91, Tryz.ntmps91
    go_wp2_with fail
    go_loopw [5, 6, 13] (fun f q i wr => ∃ k : Nat, ∃ F : Int, ∃ C : Nat, k ≤ n ∧ i = .int .i64 k ∧ f = .int .i64 F ∧ q = .int .i64 C ∧ C ≤ k ∧ Wd.go s 0 (-1) 0 L = Wd.go s k F C (L.drop k) ∧ Below w.heap.size w wr) (fun _ _ i _ => n - (intOf i).toNat)
    case atStart => exact ⟨0, -1, 0, Nat.zero_le _, rfl, rfl, rfl, Nat.le_refl _, rfl, Below.refl _ _⟩
    case round =>
      obtain ⟨k, F, C, hk, rfl, rfl, rfl, hC, hG, hbw⟩ := hrel
      by_cases hlt : k < n
      · obtain ⟨ad, rfl, hal, hc⟩ := (hS.below (hbw.mono hB)).at_ hlt
        change wr.cell? (ad.add k) = some (.string (L.getD k ByteArray.empty)) at hc
        have hz := HZ.out k hlt
        have hd : L.drop k = L.getD k ByteArray.empty :: L.drop (k + 1) := by
          have hkl : k < L.length := by rw [HL.out]; exact hlt
          rw [List.drop_eq_getElem_cons hkl, List.getD_eq_getElem?_getD, List.getElem?_eq_getElem hkl]
          rfl
        rw [hd] at hG
        generalize L.getD k ByteArray.empty = X at *
        by_cases ho : Wd.one s X = true
        · have HG := Lib.hid (show Wd.go s 0 (-1) 0 L = (k : Int) by rw [hG]; unfold Wd.go; rw [if_pos ho])
          clear hG hd
          go_wp2_with fail
          refine (same_any s X _ hs hz).mono ?_
          rintro e w1 ⟨rfl, b1⟩
          have a1 := hbw.trans (b1.mono hbw.size)
          go_wp2_with fail
          go_ret
          exact ⟨ret_int HG.out.symm, a1⟩
        · have ho' : Wd.one s X = false := by simpa using ho
          by_cases hb : Wd.beg X s = true
          · have HG := Lib.hid (show Wd.go s 0 (-1) 0 L = Wd.go s (k + 1) (k : Int) (C + 1) (L.drop (k + 1)) by rw [hG, Wd.go, if_neg ho, if_pos hb])
            clear hG hd ho
            go_wp2_with fail
            refine (same_any s X _ hs hz).mono ?_
            rintro e w1 ⟨rfl, b1⟩
            have a1 := hbw.trans (b1.mono hbw.size)
            go_wp2_with fail
            refine (begins_any X s _ hz hs).mono ?_
            rintro e w2 ⟨rfl, b2⟩
            have a2 := a1.trans (b2.mono a1.size)
            go_wp2_with fail
            go_roundw
            case rel => exact ⟨k + 1, k, C + 1, by omega, by go_num, rfl, by go_num, by omega, HG.out, a2⟩
            case measure => simp [intOf]; omega
          · have HG := Lib.hid (show Wd.go s 0 (-1) 0 L = Wd.go s (k + 1) F C (L.drop (k + 1)) by rw [hG, Wd.go, if_neg ho, if_neg hb])
            have hb' : Wd.beg X s = false := by simpa using hb
            clear hG hd ho hb
            go_wp2_with fail
            refine (same_any s X _ hs hz).mono ?_
            rintro e w1 ⟨rfl, b1⟩
            have a1 := hbw.trans (b1.mono hbw.size)
            go_wp2_with fail
            refine (begins_any X s _ hz hs).mono ?_
            rintro e w2 ⟨rfl, b2⟩
            have a2 := a1.trans (b2.mono a1.size)
            go_wp2_with fail
            go_roundw
            case rel => exact ⟨k + 1, F, C, by omega, by go_num, rfl, rfl, by omega, HG.out, a2⟩
            case measure => simp [intOf]; omega
      · obtain rfl : k = n := by omega
        rw [List.drop_of_length_le (by rw [HL.out]; exact Nat.le_refl _)] at hG
        by_cases h1 : C = 1
        · have HG := Lib.hid (show Wd.go s 0 (-1) 0 L = F by rw [hG, Wd.go, if_pos h1])
          subst h1
          clear hG
          go_wp2_with fail
          go_ret
          exact ⟨ret_int HG.out.symm, hbw⟩
        · have HG := Lib.hid (show Wd.go s 0 (-1) 0 L = -1 by rw [hG, Wd.go, if_neg h1])
          have t1 : ((C : Int) != 1) = true := by rw [bne_iff_ne]; omega
          clear hG h1
          go_wp2_with fail
          go_ret
          exact ⟨ret_int HG.out.symm, hbw⟩
end Go.Proofs.YtkcbmnboccjnnaaGreatDoor
/- Contracts of package word: the names, and their beginnings. -/

namespace Go.Proofs.YtkcbmnboccjnnaaGreatDoor
open Go.RowKit
namespace Wd
/-- The names of the days of the week, and of the months. -/
def week : List ByteArray := [⟨#[83, 117, 110, 100, 97, 121]⟩, ⟨#[77, 111, 110, 100, 97, 121]⟩, ⟨#[84, 117, 101, 115, 100, 97, 121]⟩, ⟨#[87, 101, 100, 110, 101, 115, 100, 97, 121]⟩, ⟨#[84, 104, 117, 114, 115, 100, 97, 121]⟩, ⟨#[70, 114, 105, 100, 97, 121]⟩, ⟨#[83, 97, 116, 117, 114, 100, 97, 121]⟩]
def mons : List ByteArray := [⟨#[74, 97, 110, 117, 97, 114, 121]⟩, ⟨#[70, 101, 98, 114, 117, 97, 114, 121]⟩, ⟨#[77, 97, 114, 99, 104]⟩, ⟨#[65, 112, 114, 105, 108]⟩, ⟨#[77, 97, 121]⟩, ⟨#[74, 117, 110, 101]⟩, ⟨#[74, 117, 108, 121]⟩, ⟨#[65, 117, 103, 117, 115, 116]⟩, ⟨#[83, 101, 112, 116, 101, 109, 98, 101, 114]⟩, ⟨#[79, 99, 116, 111, 98, 101, 114]⟩, ⟨#[78, 111, 118, 101, 109, 98, 101, 114]⟩, ⟨#[68, 101, 99, 101, 109, 98, 101, 114]⟩]
/-- The name at the place i of a list. -/
def nth (l : List ByteArray) (i : Nat) : ByteArray := l.getD i ByteArray.empty
/-- The first three letters of it. -/
def three (l : List ByteArray) (i : Nat) : ByteArray := (nth l i).extract 0 3
theorem week_back : ∀ i, i < 7 → pick (three week i) week = i ∧ (three week i).size = 3 ∧ (nth week i).size ≤ 9 ∧ 3 ≤ (nth week i).size := by decide +kernel
theorem mons_back : ∀ i, i < 12 → pick (three mons i) mons = i ∧ (three mons i).size = 3 ∧ (nth mons i).size ≤ 9 ∧ 3 ≤ (nth mons i).size := by decide +kernel
theorem pick_ge (s : ByteArray) (l : List ByteArray) : -1 ≤ pick s l := by
  rcases pick_place s l with h | ⟨_, k, h, _, _⟩ <;> omega
theorem pick_lt (s : ByteArray) (l : List ByteArray) : pick s l < l.length := by
  rcases pick_place s l with h | ⟨_, k, h, _, _⟩ <;> omega
end Wd
theorem sl_alloc (w : World) (L : List ByteArray) (cs : Array Value) (t : TypeId) (h : cs = (L.map Value.string).toArray) : Sl (w.alloc (.cells cs t)) (w.alloc (.cells cs t)).heap.size (some ⟨w.heap.size, 0, none⟩) L.length (fun i => .string (L.getD i ByteArray.empty)) := by
  subst h
  refine fun _ => ⟨_, rfl, by simp, fun i hi => ?_⟩
  have e : (⟨w.heap.size, 0, none⟩ : Addr).add i = ⟨w.heap.size, i, none⟩ := by unfold Addr.add; split <;> simp_all
  show _ = some (Value.string (L.getD i ByteArray.empty))
  rw [e, World.cell?_alloc_new, List.getD_eq_getElem?_getD, List.getElem?_eq_getElem hi]
  simp [hi]
theorem Sl.drew {w : World} {B : Nat} {A : Option Addr} {n : Nat} {v : Nat → Value} (h : Sl w B A n v) : Sl w.drew B A n v := h
theorem weekdays_any (w : World) : Calls Tryz.prog 156 #[] w fun e w' => e = .returned (.slice (some ⟨w.heap.size, 0, none⟩) 7 7) ∧ Sl w' w'.heap.size (some ⟨w.heap.size, 0, none⟩) 7 (fun i => .string (Wd.week.getD i ByteArray.empty)) ∧ Below w.heap.size w w' := by
  go_enter Tryz.func156, Tryz.ntmps156
  go_wp2_with fail
  go_ret
  exact ⟨rfl, sl_alloc w Wd.week _ _ rfl, (Below.refl _ _).alloc (Nat.le_refl _) _⟩
theorem months_any (w : World) : Calls Tryz.prog 119 #[] w fun e w' => e = .returned (.slice (some ⟨w.heap.size, 0, none⟩) 12 12) ∧ Sl w' w'.heap.size (some ⟨w.heap.size, 0, none⟩) 12 (fun i => .string (Wd.mons.getD i ByteArray.empty)) ∧ Below w.heap.size w w' := by
  go_enter Tryz.func119, Tryz.ntmps119
  go_wp2_with fail
  go_ret
  exact ⟨rfl, sl_alloc w Wd.mons _ _ rfl, (Below.refl _ _).alloc (Nat.le_refl _) _⟩
theorem text_yes (i : Nat) (A : Option Addr) (n c : Nat) (L : List ByteArray) (w : World) (hi : i < n) (_hn : n ≤ 100) (h3 : 3 ≤ (L.getD i ByteArray.empty).size) (h9 : (L.getD i ByteArray.empty).size ≤ 100) (hS : Sl w w.heap.size A n (fun i => .string (L.getD i ByteArray.empty))) :
    Calls Tryz.prog 118 #[.int .i64 i, .slice A n c] w fun e w' => e = .returned (.string ((L.getD i ByteArray.empty).extract 0 3)) ∧ w = w' := by
  obtain ⟨ad, rfl, hal, hc⟩ := hS.at_ hi
  change w.cell? (ad.add i) = some (.string (L.getD i ByteArray.empty)) at hc
  generalize L.getD i ByteArray.empty = X at *
  go_enter Tryz.func118, Tryz.ntmps118
  go_wp2_with fail
  go_ret
  exact ⟨rfl, rfl⟩
theorem text_no (i : Int) (A : Option Addr) (n c : Nat) (w : World) (hi : i < 0 ∨ n ≤ i) (hn : n ≤ 100) :
    Calls Tryz.prog 118 #[.int .i64 i, .slice A n c] w fun e w' => e = .returned (.string ⟨#[]⟩) ∧ w = w' := by
  rcases hi with h | h
  · go_enter Tryz.func118, Tryz.ntmps118
    go_wp2_with fail
    go_ret
    exact ⟨rfl, rfl⟩
  · have t0 : decide (i < 0) = false := by simp; omega
    have t1 : decide ((n : Int) ≤ i) = true := by simp; omega
    go_enter Tryz.func118, Tryz.ntmps118
    go_wp2_with fail
    go_ret
    exact ⟨rfl, rfl⟩
theorem size_week : ∀ i, i < 7 → (Wd.week.getD i ByteArray.empty).size ≤ 4294967296 := fun i h => by have := (Wd.week_back i h).2.2.1; unfold Wd.nth at this; omega
theorem size_mons : ∀ i, i < 12 → (Wd.mons.getD i ByteArray.empty).size ≤ 4294967296 := fun i h => by have := (Wd.mons_back i h).2.2.1; unfold Wd.nth at this; omega

theorem weekdayWord_any (s : ByteArray) (w : World) (hs : s.size ≤ 4294967296) : Calls Tryz.prog 231 #[.string s] w fun e w' => e = .returned (.int .i64 (Wd.pick s Wd.week)) ∧ Below w.heap.size w w' := by
  have hb1 := Wd.pick_ge s Wd.week
  have hb2 : Wd.pick s Wd.week < 7 := Wd.pick_lt s Wd.week
  go_enter Tryz.func231, Tryz.ntmps231
  go_wp2_with fail
  refine (weekdays_any _).mono ?_
  rintro e w1 ⟨rfl, hS, b1⟩
  go_wp2_with fail
  refine (pick_any s _ 7 _ Wd.week rfl (by omega) hs size_week w1 w1.heap.size (Nat.le_refl _) hS).mono ?_
  rintro e w2 ⟨rfl, b2⟩
  have a2 := b1.trans (b2.mono b1.size)
  clear hS b1 b2
  go_wp2_with fail
  go_ret
  exact ⟨rfl, a2⟩
theorem monthWord_any (s : ByteArray) (w : World) (hs : s.size ≤ 4294967296) : Calls Tryz.prog 203 #[.string s] w fun e w' => e = .returned (.int .i64 (Wd.pick s Wd.mons + 1)) ∧ Below w.heap.size w w' := by
  have hb1 := Wd.pick_ge s Wd.mons
  have hb2 : Wd.pick s Wd.mons < 12 := Wd.pick_lt s Wd.mons
  go_enter Tryz.func203, Tryz.ntmps203
  go_wp2_with fail
  refine (months_any _).mono ?_
  rintro e w1 ⟨rfl, hS, b1⟩
  go_wp2_with fail
  refine (pick_any s _ 12 _ Wd.mons rfl (by omega) hs size_mons w1 w1.heap.size (Nat.le_refl _) hS).mono ?_
  rintro e w2 ⟨rfl, b2⟩
  have a2 := b1.trans (b2.mono b1.size)
  clear hS b1 b2
  go_wp2_with fail
  go_ret
  exact ⟨rfl, a2⟩
theorem weekdaytext_yes (i : Nat) (w : World) (hi : i < 7) : Calls Tryz.prog 114 #[.int .i64 (i)] w fun e w' => e = .returned (.string (Wd.three Wd.week i)) ∧ Below w.heap.size w w' := by
  obtain ⟨_, _, h9, h3⟩ := Wd.week_back i hi
  unfold Wd.nth at h9 h3
  go_enter Tryz.func114, Tryz.ntmps114
  go_wp2_with fail
  refine (weekdays_any _).mono ?_
  rintro e w1 ⟨rfl, hS, b1⟩
  go_wp2_with fail
  refine (text_yes i _ 7 _ Wd.week w1 hi (by omega) h3 (by omega) hS).mono ?_
  rintro e w' ⟨rfl, rfl⟩
  clear hS h9 h3
  go_wp2_with fail
  go_ret
  exact ⟨rfl, b1⟩
theorem weekdaytext_no (n : Int) (w : World) (h1 : -9223372036854775807 ≤ n) (h2 : n ≤ 9223372036854775807) (h : n < 0 ∨ 6 < n) : Calls Tryz.prog 114 #[.int .i64 n] w fun e w' => e = .returned (.string ⟨#[]⟩) ∧ Below w.heap.size w w' := by
  have hh := Lib.hid h
  clear h
  go_enter Tryz.func114, Tryz.ntmps114
  go_wp2_with fail
  refine (weekdays_any _).mono ?_
  rintro e w1 ⟨rfl, hS, b1⟩
  go_wp2_with fail
  refine (text_no (n) _ 7 _ w1 (by have := hh.out; omega) (by omega)).mono ?_
  rintro e w' ⟨rfl, rfl⟩
  clear hS
  go_wp2_with fail
  go_ret
  exact ⟨rfl, b1⟩
theorem monthtext_yes (i : Nat) (w : World) (hi : i < 12) : Calls Tryz.prog 72 #[.int .i64 (i + 1)] w fun e w' => e = .returned (.string (Wd.three Wd.mons i)) ∧ Below w.heap.size w w' := by
  obtain ⟨_, _, h9, h3⟩ := Wd.mons_back i hi
  unfold Wd.nth at h9 h3
  go_enter Tryz.func72, Tryz.ntmps72
  go_wp2_with fail
  refine (months_any _).mono ?_
  rintro e w1 ⟨rfl, hS, b1⟩
  go_wp2_with fail
  refine (text_yes i _ 12 _ Wd.mons w1 hi (by omega) h3 (by omega) hS).mono ?_
  rintro e w' ⟨rfl, rfl⟩
  clear hS h9 h3
  go_wp2_with fail
  go_ret
  exact ⟨rfl, b1⟩
theorem monthtext_no (n : Int) (w : World) (h1 : -9223372036854775807 ≤ n) (h2 : n ≤ 9223372036854775807) (h : n < 1 ∨ 12 < n) : Calls Tryz.prog 72 #[.int .i64 n] w fun e w' => e = .returned (.string ⟨#[]⟩) ∧ Below w.heap.size w w' := by
  have hh := Lib.hid h
  clear h
  go_enter Tryz.func72, Tryz.ntmps72
  go_wp2_with fail
  refine (months_any _).mono ?_
  rintro e w1 ⟨rfl, hS, b1⟩
  go_wp2_with fail
  refine (text_no (n - 1) _ 12 _ w1 (by have := hh.out; omega) (by omega)).mono ?_
  rintro e w' ⟨rfl, rfl⟩
  clear hS
  go_wp2_with fail
  go_ret
  exact ⟨rfl, b1⟩
theorem monthtext_least (n : Int) (w : World) (h1 : -9223372036854775808 ≤ n) (h2 : n < -9223372036854775807) : Calls Tryz.prog 72 #[.int .i64 n] w fun e w' => e = .returned (.string ⟨#[]⟩) ∧ Below w.heap.size w w' := by
  go_enter Tryz.func72, Tryz.ntmps72
  go_wp2_with fail
  refine (months_any _).mono ?_
  rintro e w1 ⟨rfl, hS, b1⟩
  go_wp2_with fail
  refine (text_no _ _ 12 _ w1 ?_ (by omega)).mono ?_
  · simp only [wrap64]; omega
  rintro e w' ⟨rfl, rfl⟩
  clear hS
  go_wp2_with fail
  go_ret
  exact ⟨rfl, b1⟩
end Go.Proofs.YtkcbmnboccjnnaaGreatDoor
/- Days of a month, as they are told: which are right, their texts, and what a text tells. No program but the names' lists. -/



namespace Go.Proofs.YtkcbmnboccjnnaaGreatDoor
namespace Dy
/-- Is it a right day? k: how it is told; n: the day of the month; d: the day of the week. -/
def right (k n d : Int) : Bool := decide ((k = 0 ∧ 1 ≤ n ∧ n ≤ 31 ∧ d = 0) ∨ (k = 1 ∧ n = 0 ∧ 0 ≤ d ∧ d ≤ 6) ∨ ((k = 2 ∨ k = 3) ∧ 1 ≤ n ∧ n ≤ 31 ∧ 0 ≤ d ∧ d ≤ 6))
theorem right_iff (k n d : Int) : right k n d = true ↔ ((k = 0 ∧ 1 ≤ n ∧ n ≤ 31 ∧ d = 0) ∨ (k = 1 ∧ n = 0 ∧ 0 ≤ d ∧ d ≤ 6) ∨ ((k = 2 ∨ k = 3) ∧ 1 ≤ n ∧ n ≤ 31 ∧ 0 ≤ d ∧ d ≤ 6)) := decide_eq_true_iff
/-- The digits of a number below a hundred. -/
def dig (n : Nat) : List UInt8 := if n < 10 then [UInt8.ofNat (48 + n)] else [UInt8.ofNat (48 + n / 10), UInt8.ofNat (48 + n % 10)]
theorem dig_eq (n : Nat) (h : n < 100) : Lib.decDigits n = dig n := by
  unfold dig
  by_cases h1 : n < 10
  · rw [if_pos h1, Lib.decDigits, dif_pos h1]
  · rw [if_neg h1, Lib.decDigits, dif_neg h1, Lib.decDigits, dif_pos (by omega)]
    rfl
/-- The number of one or two digits. -/
def isd (c : UInt8) : Bool := decide (48 ≤ c.toNat) && decide (c.toNat ≤ 57)
def num : List UInt8 → Option Int
  | [a] => if isd a then some ((a.toNat : Int) - 48) else none
  | [a, b] => if isd a && isd b then some (10 * ((a.toNat : Int) - 48) + ((b.toNat : Int) - 48)) else none
  | _ => none
def lastW : ByteArray := ⟨#[108, 97, 115, 116]⟩
/-- A day of the week, from the day on, or up to it, that digits tell. -/
def beside (k : Int) (a b : ByteArray) : Option (Int × Int × Int) :=
  match num b.data.toList with
  | none => none
  | some n => if 0 ≤ Wd.pick a Wd.week then some (k, n, Wd.pick a Wd.week) else none
def isLast (s : ByteArray) : Bool := decide (4 ≤ s.size) && Wd.one (s.extract 0 4) lastW
/-- What s tells, right or not. -/
def rd (s : ByteArray) : Option (Int × Int × Int) :=
  if isLast s then (if 0 ≤ Wd.pick (s.extract 4 s.size) Wd.week then some (1, 0, Wd.pick (s.extract 4 s.size) Wd.week) else none)
  else if (Lib.cut s.data.toList [62, 61]).2.2 then beside 2 ⟨(Lib.cut s.data.toList [62, 61]).1.toArray⟩ ⟨(Lib.cut s.data.toList [62, 61]).2.1.toArray⟩
  else if (Lib.cut s.data.toList [60, 61]).2.2 then beside 3 ⟨(Lib.cut s.data.toList [60, 61]).1.toArray⟩ ⟨(Lib.cut s.data.toList [60, 61]).2.1.toArray⟩
  else match num s.data.toList with
    | none => none
    | some n => some (0, n, 0)
/-- The right day that s tells. -/
def prs (s : ByteArray) : Option (Int × Int × Int) :=
  match rd s with
  | none => none
  | some (k, n, d) => if right k n d then some (k, n, d) else none
theorem prs_right {s : ByteArray} {k n d : Int} (h : prs s = some (k, n, d)) : right k n d = true := by
  unfold prs at h
  cases hr : rd s with
  | none => rw [hr] at h; cases h
  | some x =>
    obtain ⟨k', n', d'⟩ := x
    rw [hr] at h
    simp only at h
    by_cases hx : right k' n' d' = true
    · rw [if_pos hx] at h
      injection h with h
      injection h with h1 h
      injection h with h2 h3
      rw [← h1, ← h2, ← h3]
      exact hx
    · rw [if_neg hx] at h; cases h
/-- The text of a day. -/
def txt (k n d : Int) : ByteArray :=
  if k = 1 then lastW ++ Wd.three Wd.week d.toNat
  else if k = 2 then Wd.three Wd.week d.toNat ++ ⟨#[62, 61]⟩ ++ ⟨(dig n.toNat).toArray⟩
  else if k = 3 then Wd.three Wd.week d.toNat ++ ⟨#[60, 61]⟩ ++ ⟨(dig n.toNat).toArray⟩
  else ⟨(dig n.toNat).toArray⟩
set_option maxRecDepth 100000 in
theorem back0 : ∀ n, n < 32 → 1 ≤ n → prs (txt 0 (n : Nat) 0) = some ((0 : Int), ((n : Nat) : Int), (0 : Int)) := by decide +kernel
set_option maxRecDepth 100000 in
theorem back1 : ∀ d, d < 7 → prs (txt 1 0 (d : Nat)) = some ((1 : Int), (0 : Int), ((d : Nat) : Int)) := by decide +kernel
def backs (k : Int) : Bool := (List.range 32).all fun n => (List.range 7).all fun d => decide (n = 0) || decide (prs (txt k (n : Nat) (d : Nat)) = some (k, ((n : Nat) : Int), ((d : Nat) : Int)))
set_option maxRecDepth 100000 in
theorem backs2 : backs 2 = true := by decide +kernel
set_option maxRecDepth 100000 in
theorem backs3 : backs 3 = true := by decide +kernel
theorem back_of {k : Int} (h : backs k = true) (n d : Nat) (h1 : n < 32) (h2 : 1 ≤ n) (h3 : d < 7) : prs (txt k (n : Nat) (d : Nat)) = some (k, ((n : Nat) : Int), ((d : Nat) : Int)) := by
  unfold backs at h
  have h4 := List.all_eq_true.1 (List.all_eq_true.1 h n (List.mem_range.2 h1)) d (List.mem_range.2 h3)
  rcases Bool.or_eq_true_iff.1 h4 with h5 | h5
  · have := of_decide_eq_true h5; omega
  · exact of_decide_eq_true h5
set_option maxRecDepth 100000 in
theorem size0 : ∀ n, n < 32 → (txt 0 (n : Nat) 0).size ≤ 20 := by decide +kernel
/-- A right day is read from its text. -/
theorem back {k n d : Int} (h : right k n d = true) : prs (txt k n d) = some (k, n, d) := by
  rw [right_iff] at h
  rcases h with ⟨rfl, h1, h2, rfl⟩ | ⟨rfl, rfl, h1, h2⟩ | ⟨rfl | rfl, h1, h2, h3, h4⟩
  · have := back0 n.toNat (by omega) (by omega)
    rwa [show ((n.toNat : Nat) : Int) = n by omega] at this
  · have := back1 d.toNat (by omega)
    rwa [show ((d.toNat : Nat) : Int) = d by omega] at this
  · have := back_of backs2 n.toNat d.toNat (by omega) (by omega) (by omega)
    rwa [show ((d.toNat : Nat) : Int) = d by omega, show ((n.toNat : Nat) : Int) = n by omega] at this
  · have := back_of backs3 n.toNat d.toNat (by omega) (by omega) (by omega)
    rwa [show ((d.toNat : Nat) : Int) = d by omega, show ((n.toNat : Nat) : Int) = n by omega] at this
theorem dig_len (n : Nat) : (dig n).length ≤ 2 := by
  unfold dig
  split <;> simp
/-- The last day up to x that is the day d of the week. -/
def upto (x d : Int) : Int := x - ((x + 4) % 7 - d) % 7
/-- The number of a right day of a month of so many days that begins on the day b. -/
def find (k n d b len : Int) : Int :=
  if k = 1 then upto (b + len - 1) d else if k = 2 then upto (b + n + 5) d else if k = 3 then upto (b + n - 1) d else b + n - 1
end Dy
end Go.Proofs.YtkcbmnboccjnnaaGreatDoor
/- Contracts of package day: isDay, isWeekday, isRight, Check, number, cutLast, onWeekday, besideDay. -/

namespace Go.Proofs.YtkcbmnboccjnnaaGreatDoor
open Go.RowKit
theorem isDay_yes (n : Int) (w : World) (h1 : 1 ≤ n) (h2 : n ≤ 31) : Calls Tryz.prog 154 #[.int .i64 n] w fun e w' => e = .returned (.bool true) ∧ w = w' := by
  go_enter Tryz.func154, Tryz.ntmps154
  go_wp2
  go_ret
  exact ⟨rfl, rfl⟩
theorem isDay_no (n : Int) (w : World) (h : n < 1 ∨ 31 < n) : Calls Tryz.prog 154 #[.int .i64 n] w fun e w' => e = .returned (.bool false) ∧ w = w' := by
  rcases h with h | h
  · go_enter Tryz.func154, Tryz.ntmps154
    go_wp2
    go_ret
    exact ⟨rfl, rfl⟩
  · have h' : 1 ≤ n := by omega
    have t1 : decide (n ≤ 31) = false := by simp; omega
    go_enter Tryz.func154, Tryz.ntmps154
    go_wp2
    go_ret
    exact ⟨rfl, rfl⟩
theorem isWeekday_yes (n : Int) (w : World) (h1 : 0 ≤ n) (h2 : n ≤ 6) : Calls Tryz.prog 155 #[.int .i64 n] w fun e w' => e = .returned (.bool true) ∧ w = w' := by
  have h3 : n < 7 := by omega
  go_enter Tryz.func155, Tryz.ntmps155
  go_wp2
  go_ret
  exact ⟨rfl, rfl⟩
theorem isWeekday_no (n : Int) (w : World) (h : n < 0 ∨ 6 < n) : Calls Tryz.prog 155 #[.int .i64 n] w fun e w' => e = .returned (.bool false) ∧ w = w' := by
  rcases h with h | h
  · go_enter Tryz.func155, Tryz.ntmps155
    go_wp2
    go_ret
    exact ⟨rfl, rfl⟩
  · have h' : 0 ≤ n := by omega
    have t1 : decide (n < 7) = false := by simp; omega
    go_enter Tryz.func155, Tryz.ntmps155
    go_wp2
    go_ret
    exact ⟨rfl, rfl⟩
theorem dayk (k : Int) (h0 : k ≠ 0) (h1 : k ≠ 1) (h2 : k ≠ 2) (h3 : k ≠ 3) : (k == 0) = false ∧ (k == 1) = false ∧ (k == 2) = false ∧ (k == 3) = false :=
  ⟨by rwa [beq_eq_false_iff_ne], by rwa [beq_eq_false_iff_ne], by rwa [beq_eq_false_iff_ne], by rwa [beq_eq_false_iff_ne]⟩
theorem not_right {k n d : Int} (h : ¬ ((k = 0 ∧ 1 ≤ n ∧ n ≤ 31 ∧ d = 0) ∨ (k = 1 ∧ n = 0 ∧ 0 ≤ d ∧ d ≤ 6) ∨ ((k = 2 ∨ k = 3) ∧ 1 ≤ n ∧ n ≤ 31 ∧ 0 ≤ d ∧ d ≤ 6))) : Dy.right k n d = false := decide_eq_false h
set_option maxHeartbeats 1000000 in
theorem isRight_yes (k n d : Int) (w : World) (h : Dy.right k n d = true) : Calls Tryz.prog 113 #[.agg #[.int .u8 k, .int .i64 n, .int .i64 d]] w fun e w' => e = .returned (.bool true) ∧ Below w.heap.size w w' := by
  rw [Dy.right_iff] at h
  rcases h with ⟨rfl, h1, h2, rfl⟩ | ⟨rfl, rfl, h1, h2⟩ | ⟨rfl | rfl, h1, h2, h3, h4⟩
  · go_enter Tryz.func113, Tryz.ntmps113
    go_wp2_with fail
    refine (isDay_yes _ _ h1 h2).mono ?_
    rintro e w' ⟨rfl, rfl⟩
    go_wp2_with fail
    go_ret
    exact ⟨rfl, (Below.refl _ _).alloc (Nat.le_refl _) _⟩
  · go_enter Tryz.func113, Tryz.ntmps113
    go_wp2_with fail
    refine (isWeekday_yes _ _ h1 h2).mono ?_
    rintro e w' ⟨rfl, rfl⟩
    go_wp2_with fail
    go_ret
    exact ⟨rfl, (Below.refl _ _).alloc (Nat.le_refl _) _⟩
  all_goals
    go_enter Tryz.func113, Tryz.ntmps113
    go_wp2_with fail
    refine (isDay_yes _ _ h1 h2).mono ?_
    rintro e w' ⟨rfl, rfl⟩
    go_wp2_with fail
    refine (isWeekday_yes _ _ h3 h4).mono ?_
    rintro e w' ⟨rfl, rfl⟩
    go_wp2_with fail
    go_ret
    exact ⟨rfl, (Below.refl _ _).alloc (Nat.le_refl _) _⟩
set_option maxHeartbeats 1000000 in
theorem isRight_no (k n d : Int) (w : World) (h : Dy.right k n d = false) : Calls Tryz.prog 113 #[.agg #[.int .u8 k, .int .i64 n, .int .i64 d]] w fun e w' => e = .returned (.bool false) ∧ Below w.heap.size w w' := by
  have h := of_decide_eq_false h
  by_cases k0 : k = 0
  · subst k0
    by_cases hn : 1 ≤ n ∧ n ≤ 31
    · have t1 : (d == 0) = false := by rw [beq_eq_false_iff_ne]; omega
      clear h
      go_enter Tryz.func113, Tryz.ntmps113
      go_wp2_with fail
      refine (isDay_yes _ _ hn.1 hn.2).mono ?_
      rintro e w' ⟨rfl, rfl⟩
      go_wp2_with fail
      go_ret
      exact ⟨rfl, (Below.refl _ _).alloc (Nat.le_refl _) _⟩
    · clear h
      go_enter Tryz.func113, Tryz.ntmps113
      go_wp2_with fail
      refine (isDay_no _ _ (by omega)).mono ?_
      rintro e w' ⟨rfl, rfl⟩
      go_wp2_with fail
      go_ret
      exact ⟨rfl, (Below.refl _ _).alloc (Nat.le_refl _) _⟩
  · by_cases k1 : k = 1
    · subst k1
      by_cases hn : n = 0
      · subst hn
        have hd : d < 0 ∨ 6 < d := by omega
        clear h k0
        go_enter Tryz.func113, Tryz.ntmps113
        go_wp2_with fail
        refine (isWeekday_no _ _ hd).mono ?_
        rintro e w' ⟨rfl, rfl⟩
        go_wp2_with fail
        go_ret
        exact ⟨rfl, (Below.refl _ _).alloc (Nat.le_refl _) _⟩
      · have t1 : (n == 0) = false := by rw [beq_eq_false_iff_ne]; omega
        clear h k0 hn
        go_enter Tryz.func113, Tryz.ntmps113
        go_wp2_with fail
        go_ret
        exact ⟨rfl, (Below.refl _ _).alloc (Nat.le_refl _) _⟩
    · by_cases k23 : k = 2 ∨ k = 3
      · by_cases hn : 1 ≤ n ∧ n ≤ 31
        · have hd : d < 0 ∨ 6 < d := by omega
          clear h k0 k1
          rcases k23 with rfl | rfl
          all_goals
            go_enter Tryz.func113, Tryz.ntmps113
            go_wp2_with fail
            refine (isDay_yes _ _ hn.1 hn.2).mono ?_
            rintro e w' ⟨rfl, rfl⟩
            go_wp2_with fail
            refine (isWeekday_no _ _ hd).mono ?_
            rintro e w' ⟨rfl, rfl⟩
            go_wp2_with fail
            go_ret
            exact ⟨rfl, (Below.refl _ _).alloc (Nat.le_refl _) _⟩
        · clear h k0 k1
          rcases k23 with rfl | rfl
          all_goals
            go_enter Tryz.func113, Tryz.ntmps113
            go_wp2_with fail
            refine (isDay_no _ _ (by omega)).mono ?_
            rintro e w' ⟨rfl, rfl⟩
            go_wp2_with fail
            go_ret
            exact ⟨rfl, (Below.refl _ _).alloc (Nat.le_refl _) _⟩
      · obtain ⟨q0, q1, q2, q3⟩ := dayk k k0 k1 (by omega) (by omega)
        clear h k0 k1 k23
        go_enter Tryz.func113, Tryz.ntmps113
        go_wp2_with fail
        go_ret
        exact ⟨rfl, (Below.refl _ _).alloc (Nat.le_refl _) _⟩
theorem dcheck_yes (k n d : Int) (w : World) (h : Dy.right k n d = true) : Calls Tryz.prog 110 #[.agg #[.int .u8 k, .int .i64 n, .int .i64 d]] w fun e w' => e = .returned (.int .i64 0) ∧ Below w.heap.size w w' := by
  have H := Lib.hid h
  clear h
  go_enter Tryz.func110, Tryz.ntmps110
  go_wp2_with fail
  refine (isRight_yes _ _ _ _ H.out).mono ?_
  rintro e w1 ⟨rfl, b1⟩
  have a1 := ((Below.refl w.heap.size w).alloc (Nat.le_refl _) (.cells #[.int .u8 k, .int .i64 n, .int .i64 d] 43)).trans (b1.mono (by simp))
  go_wp2_with fail
  go_ret
  exact ⟨rfl, a1⟩
theorem dcheck_no (k n d : Int) (w : World) (h : Dy.right k n d = false) : Calls Tryz.prog 110 #[.agg #[.int .u8 k, .int .i64 n, .int .i64 d]] w fun e w' => e = .returned (.int .i64 2) ∧ Below w.heap.size w w' := by
  have H := Lib.hid h
  clear h
  go_enter Tryz.func110, Tryz.ntmps110
  go_wp2_with fail
  refine (isRight_no _ _ _ _ H.out).mono ?_
  rintro e w1 ⟨rfl, b1⟩
  have a1 := ((Below.refl w.heap.size w).alloc (Nat.le_refl _) (.cells #[.int .u8 k, .int .i64 n, .int .i64 d] 43)).trans (b1.mono (by simp))
  go_wp2_with fail
  go_ret
  exact ⟨rfl, a1⟩
theorem same_is (a b : ByteArray) (v : Bool) (w : World) (ha : a.size ≤ 4294967296) (hb : b.size ≤ 4294967296) (hv : Wd.one a b = v) : Calls Tryz.prog 147 #[.string a, .string b] w fun e w' => e = .returned (.bool v) ∧ Below w.heap.size w w' := by
  subst hv
  exact same_any a b w ha hb
theorem isd_cases (c : UInt8) : (Dy.isd c = true ∧ 48 ≤ c.toNat ∧ c.toNat ≤ 57) ∨ (Dy.isd c = false ∧ c.toNat < 48) ∨ (Dy.isd c = false ∧ 48 ≤ c.toNat ∧ 57 < c.toNat) := by
  unfold Dy.isd
  simp
  omega
/-- What number answers. -/
def NumE (o : Option Int) (e : Ending) : Prop := match o with
  | some n => e = .returned (.tuple #[.int .i64 n, .bool true])
  | none => e = .returned (.tuple #[.int .i64 0, .bool false])
theorem idx_c0 (c : UInt8) (W : World) : (Instr.index 9 (.string ⟨#[c]⟩) (.int .i64 0)).run Tryz.prog W = .ok (.int .u8 (c.toNat : Int)) W := idx_str ⟨#[c]⟩ 0 (by simp [ByteArray.size]) W
theorem idx_d0 (c d : UInt8) (W : World) : (Instr.index 9 (.string ⟨#[c, d]⟩) (.int .i64 0)).run Tryz.prog W = .ok (.int .u8 (c.toNat : Int)) W := idx_str ⟨#[c, d]⟩ 0 (by simp [ByteArray.size]) W
theorem idx_d1 (c d : UInt8) (W : World) : (Instr.index 9 (.string ⟨#[c, d]⟩) (.int .i64 1)).run Tryz.prog W = .ok (.int .u8 (d.toNat : Int)) W := idx_str ⟨#[c, d]⟩ 1 (by simp [ByteArray.size]) W
theorem size_c (c : UInt8) : (⟨#[c]⟩ : ByteArray).size = 1 := by simp [ByteArray.size]
theorem size_d (c d : UInt8) : (⟨#[c, d]⟩ : ByteArray).size = 2 := by simp [ByteArray.size]
set_option maxHeartbeats 1000000 in
theorem number_1 (c : UInt8) (w : World) : Calls Tryz.prog 223 #[.string ⟨#[c]⟩] w fun e w' => NumE (Dy.num [c]) e ∧ w = w' := by
  have hi0 := idx_c0 c
  have hz := size_c c
  rcases isd_cases c with ⟨hd, h1, h2⟩ | ⟨hd, h1⟩ | ⟨hd, h1, h2⟩
  · have HE := Lib.hid (show NumE (Dy.num [c]) (.returned (.tuple #[.int .i64 ((c.toNat : Int) - 48), .bool true])) by simp [Dy.num, hd, NumE])
    have t1 : ¬ (c.toNat : Int) < 48 := by omega
    have t2 : ¬ 57 < (c.toNat : Int) := by omega
    generalize (⟨#[c]⟩ : ByteArray) = S at *
    clear hd h1 h2
    go_enter Tryz.func223, Tryz.ntmps223
    go_wp2_with fail
    refine wp_loop_rounds 2 ?_
    rw [rounds_succ]
    go_wp2_with fail
    rw [rounds_succ]
    go_wp2_with fail
    go_ret2
    exact ⟨HE.out, rfl⟩
  · have HE := Lib.hid (show NumE (Dy.num [c]) (.returned (.tuple #[.int .i64 0, .bool false])) by simp [Dy.num, hd, NumE])
    have t1 : (c.toNat : Int) < 48 := by omega
    generalize (⟨#[c]⟩ : ByteArray) = S at *
    clear hd h1
    go_enter Tryz.func223, Tryz.ntmps223
    go_wp2_with fail
    refine wp_loop_rounds 2 ?_
    rw [rounds_succ]
    go_wp2_with fail
    go_ret2
    exact ⟨HE.out, rfl⟩
  · have HE := Lib.hid (show NumE (Dy.num [c]) (.returned (.tuple #[.int .i64 0, .bool false])) by simp [Dy.num, hd, NumE])
    have t1 : ¬ (c.toNat : Int) < 48 := by omega
    have t2 : 57 < (c.toNat : Int) := by omega
    generalize (⟨#[c]⟩ : ByteArray) = S at *
    clear hd h1 h2
    go_enter Tryz.func223, Tryz.ntmps223
    go_wp2_with fail
    refine wp_loop_rounds 2 ?_
    rw [rounds_succ]
    go_wp2_with fail
    go_ret2
    exact ⟨HE.out, rfl⟩
theorem cutLast_yes (s : ByteArray) (w : World) (hs : s.size ≤ 4294967296) (h : Dy.isLast s = true) :
    Calls Tryz.prog 220 #[.string s] w fun e w' => e = .returned (.tuple #[.string (s.extract 4 s.size), .bool true]) ∧ Below w.heap.size w w' := by
  unfold Dy.isLast at h
  rw [Bool.and_eq_true, decide_eq_true_eq] at h
  obtain ⟨h4, h⟩ := h
  have HO := Lib.hid h
  have HT := Lib.hid (Wd.take_size s 4 h4)
  clear h
  go_enter Tryz.func220, Tryz.ntmps220
  go_wp2_with fail
  refine (same_is (s.extract 0 4) Dy.lastW true _ (by have := HT.out; omega) (by decide) HO.out).mono ?_
  rintro e w1 ⟨rfl, b1⟩
  go_wp2_with fail
  go_ret2
  exact ⟨rfl, b1⟩
theorem cutLast_no (s : ByteArray) (w : World) (hs : s.size ≤ 4294967296) (h : Dy.isLast s = false) :
    Calls Tryz.prog 220 #[.string s] w fun e w' => e = .returned (.tuple #[.string ⟨#[]⟩, .bool false]) ∧ Below w.heap.size w w' := by
  by_cases h4 : s.size < 4
  · clear h
    go_enter Tryz.func220, Tryz.ntmps220
    go_wp2_with fail
    go_ret2
    exact ⟨rfl, Below.refl _ _⟩
  · have ho : Wd.one (s.extract 0 4) Dy.lastW = false := by
      unfold Dy.isLast at h
      rwa [show decide (4 ≤ s.size) = true by simp; omega, Bool.true_and] at h
    have HO := Lib.hid ho
    have HT := Lib.hid (Wd.take_size s 4 (by omega))
    clear h ho
    go_enter Tryz.func220, Tryz.ntmps220
    go_wp2_with fail
    refine (same_is (s.extract 0 4) Dy.lastW false _ (by have := HT.out; omega) (by decide) HO.out).mono ?_
    rintro e w1 ⟨rfl, b1⟩
    go_wp2_with fail
    go_ret2
    exact ⟨rfl, b1⟩
set_option maxHeartbeats 1000000 in
theorem number_2 (c d : UInt8) (w : World) : Calls Tryz.prog 223 #[.string ⟨#[c, d]⟩] w fun e w' => NumE (Dy.num [c, d]) e ∧ w = w' := by
  have hi0 := idx_d0 c d
  have hi1 := idx_d1 c d
  have hz := size_d c d
  rcases isd_cases c with ⟨hc, h1, h2⟩ | ⟨hc, h1⟩ | ⟨hc, h1, h2⟩
  · rcases isd_cases d with ⟨hd, g1, g2⟩ | ⟨hd, g1⟩ | ⟨hd, g1, g2⟩
    · have HE := Lib.hid (show NumE (Dy.num [c, d]) (.returned (.tuple #[.int .i64 (10 * ((c.toNat : Int) - 48) + ((d.toNat : Int) - 48)), .bool true])) by simp [Dy.num, hc, hd, NumE])
      have t1 : ¬ (c.toNat : Int) < 48 := by omega
      have t2 : ¬ 57 < (c.toNat : Int) := by omega
      have t3 : ¬ (d.toNat : Int) < 48 := by omega
      have t4 : ¬ 57 < (d.toNat : Int) := by omega
      generalize (⟨#[c, d]⟩ : ByteArray) = S at *
      clear hc hd h1 h2 g1 g2
      go_enter Tryz.func223, Tryz.ntmps223
      go_wp2_with fail
      refine wp_loop_rounds 3 ?_
      rw [rounds_succ]
      go_wp2_with fail
      rw [rounds_succ]
      go_wp2_with fail
      rw [rounds_succ]
      go_wp2_with fail
      go_ret2
      exact ⟨HE.out, rfl⟩
    · have HE := Lib.hid (show NumE (Dy.num [c, d]) (.returned (.tuple #[.int .i64 0, .bool false])) by simp [Dy.num, hc, hd, NumE])
      have t1 : ¬ (c.toNat : Int) < 48 := by omega
      have t2 : ¬ 57 < (c.toNat : Int) := by omega
      have t3 : (d.toNat : Int) < 48 := by omega
      generalize (⟨#[c, d]⟩ : ByteArray) = S at *
      clear hc hd h1 h2 g1
      go_enter Tryz.func223, Tryz.ntmps223
      go_wp2_with fail
      refine wp_loop_rounds 3 ?_
      rw [rounds_succ]
      go_wp2_with fail
      rw [rounds_succ]
      go_wp2_with fail
      go_ret2
      exact ⟨HE.out, rfl⟩
    · have HE := Lib.hid (show NumE (Dy.num [c, d]) (.returned (.tuple #[.int .i64 0, .bool false])) by simp [Dy.num, hc, hd, NumE])
      have t1 : ¬ (c.toNat : Int) < 48 := by omega
      have t2 : ¬ 57 < (c.toNat : Int) := by omega
      have t3 : ¬ (d.toNat : Int) < 48 := by omega
      have t4 : 57 < (d.toNat : Int) := by omega
      generalize (⟨#[c, d]⟩ : ByteArray) = S at *
      clear hc hd h1 h2 g1 g2
      go_enter Tryz.func223, Tryz.ntmps223
      go_wp2_with fail
      refine wp_loop_rounds 3 ?_
      rw [rounds_succ]
      go_wp2_with fail
      rw [rounds_succ]
      go_wp2_with fail
      go_ret2
      exact ⟨HE.out, rfl⟩
  · have HE := Lib.hid (show NumE (Dy.num [c, d]) (.returned (.tuple #[.int .i64 0, .bool false])) by simp [Dy.num, hc, NumE])
    have t1 : (c.toNat : Int) < 48 := by omega
    generalize (⟨#[c, d]⟩ : ByteArray) = S at *
    clear hc h1 hi1
    go_enter Tryz.func223, Tryz.ntmps223
    go_wp2_with fail
    refine wp_loop_rounds 3 ?_
    rw [rounds_succ]
    go_wp2_with fail
    go_ret2
    exact ⟨HE.out, rfl⟩
  · have HE := Lib.hid (show NumE (Dy.num [c, d]) (.returned (.tuple #[.int .i64 0, .bool false])) by simp [Dy.num, hc, NumE])
    have t1 : ¬ (c.toNat : Int) < 48 := by omega
    have t2 : 57 < (c.toNat : Int) := by omega
    generalize (⟨#[c, d]⟩ : ByteArray) = S at *
    clear hc h1 h2 hi1
    go_enter Tryz.func223, Tryz.ntmps223
    go_wp2_with fail
    refine wp_loop_rounds 3 ?_
    rw [rounds_succ]
    go_wp2_with fail
    go_ret2
    exact ⟨HE.out, rfl⟩
theorem number_bad (S : ByteArray) (w : World) (hs : S.size ≤ 4294967296) (h : S.size < 1 ∨ 2 < S.size) : Calls Tryz.prog 223 #[.string S] w fun e w' => e = .returned (.tuple #[.int .i64 0, .bool false]) ∧ w = w' := by
  rcases h with h | h
  · have h0 : S.size = 0 := by omega
    clear h
    go_enter Tryz.func223, Tryz.ntmps223
    go_wp2_with fail
    go_ret2
    exact ⟨rfl, rfl⟩
  · go_enter Tryz.func223, Tryz.ntmps223
    go_wp2_with fail
    go_ret2
    exact ⟨rfl, rfl⟩
theorem dnumber_any (S : ByteArray) (w : World) (hs : S.size ≤ 4294967296) : Calls Tryz.prog 223 #[.string S] w fun e w' => NumE (Dy.num S.data.toList) e ∧ w = w' := by
  obtain ⟨⟨l⟩⟩ := S
  match l with
  | [] => exact (number_bad ⟨#[]⟩ w hs (.inl (by simp [ByteArray.size]))).mono fun e w' ⟨he, hw⟩ => ⟨he, hw⟩
  | [c] => exact number_1 c w
  | [c, d] => exact number_2 c d w
  | a :: b :: c :: r => exact (number_bad ⟨(a :: b :: c :: r).toArray⟩ w hs (.inr (by simp [ByteArray.size]))).mono fun e w' ⟨he, hw⟩ => ⟨he, hw⟩
theorem weekday_is (s : ByteArray) (v : Int) (w : World) (hs : s.size ≤ 4294967296) (hv : Wd.pick s Wd.week = v) : Calls Tryz.prog 231 #[.string s] w fun e w' => e = .returned (.int .i64 v) ∧ Below w.heap.size w w' := by
  subst hv
  exact weekdayWord_any s w hs
theorem onWeekday_yes (k n p : Int) (s : ByteArray) (w : World) (hs : s.size ≤ 4294967296) (hp : Hid (Wd.pick s Wd.week = p)) (h : 0 ≤ p) :
    Calls Tryz.prog 221 #[.int .u8 k, .string s, .int .i64 n] w fun e w' => e = .returned (.tuple #[.agg #[.int .u8 k, .int .i64 n, .int .i64 p], .bool true]) ∧ Below w.heap.size w w' := by
  go_enter Tryz.func221, Tryz.ntmps221
  go_wp2_with fail
  refine (weekday_is s p _ hs hp.out).mono ?_
  rintro e w1 ⟨rfl, b1⟩
  obtain ⟨hc, hf⟩ := bcell b1
  have hz : w.heap.size < w1.heap.size := by have := b1.size; simp at this; omega
  have a1 : Below w.heap.size w w1 := ((Below.refl _ _).alloc (Nat.le_refl _) _).trans (b1.mono (by simp))
  go_wp2_with fail
  refine bodyPost_ret (v := .tuple #[.agg #[.int .u8 k, .int .i64 n, .int .i64 p], .bool true]) (by simp [results, Tryz.results221, go_sem, hc]) rfl ⟨rfl, ?_⟩
  repeat (first | exact Below.refl _ _ | assumption | refine below_drewN ?_ _ | refine Below.drew ?_ | refine Below.setCell ?_ (by first | omega | (simp; done) | (simp; omega)) _ | refine Below.alloc ?_ (by first | omega | (simp; done) | (simp; omega)) _)
theorem onWeekday_no (k n : Int) (s : ByteArray) (w : World) (hs : s.size ≤ 4294967296) (hp : Hid (Wd.pick s Wd.week = -1)) :
    Calls Tryz.prog 221 #[.int .u8 k, .string s, .int .i64 n] w fun e w' => e = .returned (.tuple #[.agg #[.int .u8 k, .int .i64 n, .int .i64 (-1)], .bool false]) ∧ Below w.heap.size w w' := by
  go_enter Tryz.func221, Tryz.ntmps221
  go_wp2_with fail
  refine (weekday_is s (-1) _ hs hp.out).mono ?_
  rintro e w1 ⟨rfl, b1⟩
  obtain ⟨hc, hf⟩ := bcell b1
  have hz : w.heap.size < w1.heap.size := by have := b1.size; simp at this; omega
  have a1 : Below w.heap.size w w1 := ((Below.refl _ _).alloc (Nat.le_refl _) _).trans (b1.mono (by simp))
  go_wp2_with fail
  refine bodyPost_ret (v := .tuple #[.agg #[.int .u8 k, .int .i64 n, .int .i64 (-1)], .bool false]) (by simp [results, Tryz.results221, go_sem, hc]) rfl ⟨rfl, ?_⟩
  repeat (first | exact Below.refl _ _ | assumption | refine below_drewN ?_ _ | refine Below.drew ?_ | refine Below.setCell ?_ (by first | omega | (simp; done) | (simp; omega)) _ | refine Below.alloc ?_ (by first | omega | (simp; done) | (simp; omega)) _)
/-- What a day and a bool answer. -/
def DayE (o : Option (Int × Int × Int)) (e : Ending) : Prop :=
  (∃ k n d : Int, o = some (k, n, d) ∧ 0 ≤ n ∧ n ≤ 99 ∧ 0 ≤ d ∧ d ≤ 6 ∧ e = .returned (.tuple #[.agg #[.int .u8 k, .int .i64 n, .int .i64 d], .bool true])) ∨
  (o = none ∧ ∃ k n d : Int, e = .returned (.tuple #[.agg #[.int .u8 k, .int .i64 n, .int .i64 d], .bool false]))
theorem num_bd {l : List UInt8} {n : Int} (h : Dy.num l = some n) : 0 ≤ n ∧ n ≤ 99 := by
  unfold Dy.num at h
  split at h
  · rename_i a
    rcases isd_cases a with ⟨ha, h1, h2⟩ | ⟨ha, _⟩ | ⟨ha, _⟩
    · rw [if_pos ha] at h
      injection h with h
      omega
    all_goals
      rw [ha] at h
      cases h
  · rename_i a b
    rcases isd_cases a with ⟨ha, h1, h2⟩ | ⟨ha, _⟩ | ⟨ha, _⟩
    · rcases isd_cases b with ⟨hb, h3, h4⟩ | ⟨hb, _⟩ | ⟨hb, _⟩
      · rw [ha, hb] at h
        injection h with h
        omega
      all_goals
        rw [ha, hb] at h
        cases h
    all_goals
      rw [ha] at h
      cases h
  · cases h
theorem pick6 (s : ByteArray) : Wd.pick s Wd.week = -1 ∨ (0 ≤ Wd.pick s Wd.week ∧ Wd.pick s Wd.week ≤ 6) := by
  have h1 := Wd.pick_ge s Wd.week
  have h2 : Wd.pick s Wd.week < 7 := Wd.pick_lt s Wd.week
  omega
theorem besideDay_any (k : Int) (a b : ByteArray) (w : World) (ha : a.size ≤ 4294967296) (hb : b.size ≤ 4294967296) :
    Calls Tryz.prog 222 #[.int .u8 k, .string a, .string b] w fun e w' => DayE (Dy.beside k a b) e ∧ Below w.heap.size w w' := by
  have hnum := dnumber_any b
  cases hn : Dy.num b.data.toList with
  | none =>
    rw [hn] at hnum
    have HE := Lib.hid (show DayE (Dy.beside k a b) (.returned (.tuple #[.agg #[.int .u8 0, .int .i64 0, .int .i64 0], .bool false])) from .inr ⟨by unfold Dy.beside; rw [hn], 0, 0, 0, rfl⟩)
    clear hn
    go_enter Tryz.func222, Tryz.ntmps222
    go_wp2_with fail
    refine (hnum _ hb).mono ?_
    rintro e w' ⟨rfl, rfl⟩
    go_wp2_with fail
    refine bodyPost_ret (v := .tuple #[.agg #[.int .u8 0, .int .i64 0, .int .i64 0], .bool false]) (by simp [results, Tryz.results222, go_sem]) rfl ⟨HE.out, ?_⟩
    repeat (first | exact Below.refl _ _ | assumption | refine below_drewN ?_ _ | refine Below.drew ?_ | refine Below.setCell ?_ (by first | omega | (simp; done) | (simp; omega)) _ | refine Below.alloc ?_ (by first | omega | (simp; done) | (simp; omega)) _)
  | some n =>
    rw [hn] at hnum
    obtain ⟨n1, n2⟩ := num_bd hn
    rcases pick6 a with hp | ⟨p1, p2⟩
    · have HP := Lib.hid hp
      have HE := Lib.hid (show DayE (Dy.beside k a b) (.returned (.tuple #[.agg #[.int .u8 k, .int .i64 n, .int .i64 (-1)], .bool false])) from .inr ⟨by unfold Dy.beside; rw [hn]; simp only; rw [hp, if_neg (by omega)], _, _, _, rfl⟩)
      clear hn hp
      go_enter Tryz.func222, Tryz.ntmps222
      go_wp2_with fail
      refine (hnum _ hb).mono ?_
      rintro e w' ⟨rfl, rfl⟩
      go_wp2_with fail
      refine (onWeekday_no k n a _ ha HP).mono ?_
      rintro e w1 ⟨rfl, b1⟩
      obtain ⟨hc, hf⟩ := bcell b1
      have hz : w.heap.size < w1.heap.size := by have := b1.size; simp at this; omega
      have a1 : Below w.heap.size w w1 := ((Below.refl _ _).alloc (Nat.le_refl _) _).trans (b1.mono (by simp))
      go_wp2_with fail
      refine bodyPost_ret (v := .tuple #[.agg #[.int .u8 k, .int .i64 n, .int .i64 (-1)], .bool false]) (by simp [results, Tryz.results222, go_sem, hc]) rfl ⟨HE.out, ?_⟩
      repeat (first | exact Below.refl _ _ | assumption | refine below_drewN ?_ _ | refine Below.drew ?_ | refine Below.setCell ?_ (by first | omega | (simp; done) | (simp; omega)) _ | refine Below.alloc ?_ (by first | omega | (simp; done) | (simp; omega)) _)
    · obtain ⟨p, hp⟩ : ∃ p, Wd.pick a Wd.week = p := ⟨_, rfl⟩
      have HE := Lib.hid (show DayE (Dy.beside k a b) (.returned (.tuple #[.agg #[.int .u8 k, .int .i64 n, .int .i64 p], .bool true])) from .inl ⟨k, n, p, by unfold Dy.beside; rw [hn]; simp only; rw [if_pos p1, hp], n1, n2, by omega, by omega, rfl⟩)
      rw [hp] at p1 p2
      have HP := Lib.hid hp
      clear hn hp
      go_enter Tryz.func222, Tryz.ntmps222
      go_wp2_with fail
      refine (hnum _ hb).mono ?_
      rintro e w' ⟨rfl, rfl⟩
      go_wp2_with fail
      refine (onWeekday_yes k n p a _ ha HP p1).mono ?_
      rintro e w1 ⟨rfl, b1⟩
      obtain ⟨hc, hf⟩ := bcell b1
      have hz : w.heap.size < w1.heap.size := by have := b1.size; simp at this; omega
      have a1 : Below w.heap.size w w1 := ((Below.refl _ _).alloc (Nat.le_refl _) _).trans (b1.mono (by simp))
      go_wp2_with fail
      refine bodyPost_ret (v := .tuple #[.agg #[.int .u8 k, .int .i64 n, .int .i64 p], .bool true]) (by simp [results, Tryz.results222, go_sem, hc]) rfl ⟨HE.out, ?_⟩
      repeat (first | exact Below.refl _ _ | assumption | refine below_drewN ?_ _ | refine Below.drew ?_ | refine Below.setCell ?_ (by first | omega | (simp; done) | (simp; omega)) _ | refine Below.alloc ?_ (by first | omega | (simp; done) | (simp; omega)) _)
end Go.Proofs.YtkcbmnboccjnnaaGreatDoor
/- Contracts of package day: upto, find, In. -/

namespace Go.Proofs.YtkcbmnboccjnnaaGreatDoor
open Go.RowKit
theorem dupto_bd (x d : Int) : Dy.upto x d ≤ x ∧ x - 6 ≤ Dy.upto x d := by unfold Dy.upto; omega
theorem dfind_bd (k n d b len : Int) (h : Dy.right k n d = true) (h3 : 28 ≤ len) (h4 : len ≤ 31) : b - 7 ≤ Dy.find k n d b len ∧ Dy.find k n d b len ≤ b + 37 := by
  rw [Dy.right_iff] at h
  rcases h with ⟨rfl, g1, g2, rfl⟩ | ⟨rfl, rfl, g1, g2⟩ | ⟨rfl | rfl, g1, g2, g3, g4⟩
  · show b - 7 ≤ b + n - 1 ∧ b + n - 1 ≤ b + 37
    omega
  · have := dupto_bd (b + len - 1) d
    show b - 7 ≤ Dy.upto (b + len - 1) d ∧ Dy.upto (b + len - 1) d ≤ b + 37
    omega
  · have := dupto_bd (b + n + 5) d
    show b - 7 ≤ Dy.upto (b + n + 5) d ∧ Dy.upto (b + n + 5) d ≤ b + 37
    omega
  · have := dupto_bd (b + n - 1) d
    show b - 7 ≤ Dy.upto (b + n - 1) d ∧ Dy.upto (b + n - 1) d ≤ b + 37
    omega
/-- The day that a right day is. -/
def Dy.at_ (k n d y m : Int) : Int := Dy.find k n d (Cal.num y m 1) (Cal.len y m)
theorem valid_one {y m : Int} (y1 : 1 ≤ y) (y2 : y ≤ 9999) (m1 : 1 ≤ m) (m2 : m ≤ 12) : Cal.Valid y m 1 := by
  have := Cal.len_bd y m
  exact ⟨y1, y2, m1, m2, by omega, by omega⟩
end Go.Proofs.YtkcbmnboccjnnaaGreatDoor
/- Contracts of package day: Parse, of what read answers; and of a text that begins with last. -/

namespace Go.Proofs.YtkcbmnboccjnnaaGreatDoor
open Go.RowKit
/-- The right one of what was read. -/
def Dy.sift (o : Option (Int × Int × Int)) : Option (Int × Int × Int) :=
  match o with
  | none => none
  | some (k, n, d) => if Dy.right k n d then some (k, n, d) else none
theorem prs_sift (s : ByteArray) : Dy.prs s = Dy.sift (Dy.rd s) := rfl
/-- What Parse answers. -/
def PrsE (o : Option (Int × Int × Int)) (e : Ending) : Prop :=
  (∃ k n d : Int, o = some (k, n, d) ∧ Dy.right k n d = true ∧ e = .returned (.tuple #[.agg #[.int .u8 k, .int .i64 n, .int .i64 d], .int .i64 0])) ∨
  (o = none ∧ e = .returned (.tuple #[.agg #[.int .u8 0, .int .i64 0, .int .i64 0], .int .i64 4]))
set_option maxHeartbeats 1000000 in
theorem parse_none (s : ByteArray) (w : World) (hread : ∀ W, Below w.heap.size w W → Calls Tryz.prog 204 #[.string s] W fun e w' => DayE none e ∧ Below W.heap.size W w') :
    Calls Tryz.prog 181 #[.string s] w fun e w' => e = .returned (.tuple #[.agg #[.int .u8 0, .int .i64 0, .int .i64 0], .int .i64 4]) ∧ Below w.heap.size w w' := by
  have HR := Lib.hid hread
  clear hread
  go_enter Tryz.func181, Tryz.ntmps181
  go_wp2_with fail
  refine (HR.out _ ((Below.refl _ _).alloc (Nat.le_refl _) _)).mono ?_
  rintro e w1 ⟨⟨_, _, _, ho, _⟩ | ⟨_, k, n, d, rfl⟩, b1⟩
  · cases ho
  obtain ⟨hc, hf⟩ := bcell b1
  have hz : w.heap.size < w1.heap.size := by have := b1.size; simp at this; omega
  have a1 : Below w.heap.size w w1 := ((Below.refl _ _).alloc (Nat.le_refl _) _).trans (b1.mono (by simp))
  go_wp2_with fail
  refine bodyPost_ret (v := .tuple #[.agg #[.int .u8 0, .int .i64 0, .int .i64 0], .int .i64 4]) (by simp [results, Tryz.results181, go_sem, hc, hz]) rfl ⟨rfl, ?_⟩
  repeat (first | exact Below.refl _ _ | assumption | refine below_drewN ?_ _ | refine Below.drew ?_ | refine Below.setCell ?_ (by first | omega | (simp; done) | (simp; omega)) _ | refine Below.alloc ?_ (by first | omega | (simp; done) | (simp; omega)) _)
set_option maxHeartbeats 1000000 in
theorem parse_wrong (s : ByteArray) (w : World) (k n d : Int) (hn : Dy.right k n d = false) (hread : ∀ W, Below w.heap.size w W → Calls Tryz.prog 204 #[.string s] W fun e w' => e = .returned (.tuple #[.agg #[.int .u8 k, .int .i64 n, .int .i64 d], .bool true]) ∧ Below W.heap.size W w') :
    Calls Tryz.prog 181 #[.string s] w fun e w' => e = .returned (.tuple #[.agg #[.int .u8 0, .int .i64 0, .int .i64 0], .int .i64 4]) ∧ Below w.heap.size w w' := by
  have HR := Lib.hid hread
  have HN := Lib.hid hn
  clear hread hn
  go_enter Tryz.func181, Tryz.ntmps181
  go_wp2_with fail
  refine (HR.out _ ((Below.refl _ _).alloc (Nat.le_refl _) _)).mono ?_
  rintro e w1 ⟨rfl, b1⟩
  obtain ⟨hc, hf⟩ := bcell b1
  have hz : w.heap.size < w1.heap.size := by have := b1.size; simp at this; omega
  have a1 : Below w.heap.size w w1 := ((Below.refl _ _).alloc (Nat.le_refl _) _).trans (b1.mono (by simp))
  go_wp2_with fail
  refine (isRight_no k n d _ HN.out).mono ?_
  rintro e w2 ⟨rfl, b2⟩
  obtain ⟨hc2, hf2⟩ := bcell b2
  have hz1 : w1.heap.size < w2.heap.size := by have := b2.size; simp at this; omega
  have hz2 : w.heap.size < w2.heap.size := by omega
  have hz3 : w.heap.size < w1.heap.size + 1 := by omega
  have hz4 : w.heap.size ≠ w1.heap.size := by omega
  have a2 : Below w.heap.size w w2 := by
    refine Below.trans ?_ (b2.mono ?_)
    · repeat (first | exact Below.refl _ _ | assumption | refine below_drewN ?_ _ | refine Below.drew ?_ | refine Below.setCell ?_ (by first | omega | (simp; done) | (simp; omega)) _ | refine Below.alloc ?_ (by first | omega | (simp; done) | (simp; omega)) _)
    · simp; omega
  go_wp2_with fail
  refine bodyPost_ret (v := .tuple #[.agg #[.int .u8 0, .int .i64 0, .int .i64 0], .int .i64 4]) (by simp [results, Tryz.results181, go_sem, hc, hz, hc2, hz3]) rfl ⟨rfl, ?_⟩
  repeat (first | exact Below.refl _ _ | assumption | refine below_drewN ?_ _ | refine Below.drew ?_ | refine Below.setCell ?_ (by first | omega | (simp; done) | (simp; omega)) _ | refine Below.alloc ?_ (by first | omega | (simp; done) | (simp; omega)) _)
set_option maxHeartbeats 1000000 in
theorem parse_some (s : ByteArray) (w : World) (k n d : Int) (hn : Dy.right k n d = true) (hread : ∀ W, Below w.heap.size w W → Calls Tryz.prog 204 #[.string s] W fun e w' => e = .returned (.tuple #[.agg #[.int .u8 k, .int .i64 n, .int .i64 d], .bool true]) ∧ Below W.heap.size W w') :
    Calls Tryz.prog 181 #[.string s] w fun e w' => e = .returned (.tuple #[.agg #[.int .u8 k, .int .i64 n, .int .i64 d], .int .i64 0]) ∧ Below w.heap.size w w' := by
  have HR := Lib.hid hread
  have HN := Lib.hid hn
  clear hread hn
  go_enter Tryz.func181, Tryz.ntmps181
  go_wp2_with fail
  refine (HR.out _ ((Below.refl _ _).alloc (Nat.le_refl _) _)).mono ?_
  rintro e w1 ⟨rfl, b1⟩
  obtain ⟨hc, hf⟩ := bcell b1
  have hz : w.heap.size < w1.heap.size := by have := b1.size; simp at this; omega
  have a1 : Below w.heap.size w w1 := ((Below.refl _ _).alloc (Nat.le_refl _) _).trans (b1.mono (by simp))
  go_wp2_with fail
  refine (isRight_yes k n d _ HN.out).mono ?_
  rintro e w2 ⟨rfl, b2⟩
  obtain ⟨hc2, hf2⟩ := bcell b2
  have hz1 : w1.heap.size < w2.heap.size := by have := b2.size; simp at this; omega
  have hz2 : w.heap.size < w2.heap.size := by omega
  have hz3 : w.heap.size < w1.heap.size + 1 := by omega
  have hz4 : w.heap.size ≠ w1.heap.size := by omega
  have a2 : Below w.heap.size w w2 := by
    refine Below.trans ?_ (b2.mono ?_)
    · repeat (first | exact Below.refl _ _ | assumption | refine below_drewN ?_ _ | refine Below.drew ?_ | refine Below.setCell ?_ (by first | omega | (simp; done) | (simp; omega)) _ | refine Below.alloc ?_ (by first | omega | (simp; done) | (simp; omega)) _)
    · simp; omega
  go_wp2_with fail
  refine bodyPost_ret (v := .tuple #[.agg #[.int .u8 k, .int .i64 n, .int .i64 d], .int .i64 0]) (by simp [results, Tryz.results181, go_sem, hc, hz, hc2, hz3]) rfl ⟨rfl, ?_⟩
  repeat (first | exact Below.refl _ _ | assumption | refine below_drewN ?_ _ | refine Below.drew ?_ | refine Below.setCell ?_ (by first | omega | (simp; done) | (simp; omega)) _ | refine Below.alloc ?_ (by first | omega | (simp; done) | (simp; omega)) _)
theorem drop_size (s : ByteArray) : (s.extract 4 s.size).size ≤ s.size := by
  rw [ByteArray.size_extract]
  omega
theorem rd_last {s : ByteArray} {p : Int} (h : Dy.isLast s = true) (hp : Wd.pick (s.extract 4 s.size) Wd.week = p) (h0 : 0 ≤ p) : Dy.rd s = some (1, 0, p) := by
  unfold Dy.rd
  rw [if_pos h, hp, if_pos h0]
theorem rd_last_no {s : ByteArray} (h : Dy.isLast s = true) (hp : Wd.pick (s.extract 4 s.size) Wd.week = -1) : Dy.rd s = none := by
  unfold Dy.rd
  rw [if_pos h, hp, if_neg (by omega)]
theorem read_last (s : ByteArray) (w : World) (hs : s.size ≤ 4294967296) (h : Hid (Dy.isLast s = true)) :
    Calls Tryz.prog 204 #[.string s] w fun e w' => DayE (Dy.rd s) e ∧ Below w.heap.size w w' := by
  have hd := drop_size s
  rcases pick6 (s.extract 4 s.size) with hp | ⟨p1, p2⟩
  · have HE := Lib.hid (show DayE (Dy.rd s) (.returned (.tuple #[.agg #[.int .u8 1, .int .i64 0, .int .i64 (-1)], .bool false])) from .inr ⟨rd_last_no h.out hp, _, _, _, rfl⟩)
    have HP := Lib.hid hp
    have HD := Lib.hid hd
    clear hp hd
    go_enter Tryz.func204, Tryz.ntmps204
    go_wp2_with fail
    refine (cutLast_yes s _ hs h.out).mono ?_
    rintro e w1 ⟨rfl, b1⟩
    obtain ⟨hc, hf⟩ := bcell b1
    have hz : w.heap.size < w1.heap.size := by have := b1.size; simp at this; omega
    have a1 : Below w.heap.size w w1 := ((Below.refl _ _).alloc (Nat.le_refl _) _).trans (b1.mono (by simp))
    go_wp2_with fail
    refine (onWeekday_no 1 0 (s.extract 4 s.size) _ (by have := HD.out; omega) HP).mono ?_
    rintro e w2 ⟨rfl, b2⟩
    obtain ⟨hc2, hf2⟩ := bcell b2
    have hz2 : w.heap.size < w2.heap.size := by have := b2.size; omega
    have a2 := a1.trans (b2.mono a1.size)
    go_wp2_with fail
    refine bodyPost_ret (v := .tuple #[.agg #[.int .u8 1, .int .i64 0, .int .i64 (-1)], .bool false]) (by simp [results, Tryz.results204, go_sem, hc, hz, hc2]) rfl ⟨HE.out, ?_⟩
    repeat (first | exact Below.refl _ _ | assumption | refine below_drewN ?_ _ | refine Below.drew ?_ | refine Below.setCell ?_ (by first | omega | (simp; done) | (simp; omega)) _ | refine Below.alloc ?_ (by first | omega | (simp; done) | (simp; omega)) _)
  · obtain ⟨p, hp⟩ : ∃ p, Wd.pick (s.extract 4 s.size) Wd.week = p := ⟨_, rfl⟩
    rw [hp] at p1 p2
    have HE := Lib.hid (show DayE (Dy.rd s) (.returned (.tuple #[.agg #[.int .u8 1, .int .i64 0, .int .i64 p], .bool true])) from .inl ⟨1, 0, p, rd_last h.out hp p1, by omega, by omega, p1, p2, rfl⟩)
    have HP := Lib.hid hp
    have HD := Lib.hid hd
    clear hp hd
    go_enter Tryz.func204, Tryz.ntmps204
    go_wp2_with fail
    refine (cutLast_yes s _ hs h.out).mono ?_
    rintro e w1 ⟨rfl, b1⟩
    obtain ⟨hc, hf⟩ := bcell b1
    have hz : w.heap.size < w1.heap.size := by have := b1.size; simp at this; omega
    have a1 : Below w.heap.size w w1 := ((Below.refl _ _).alloc (Nat.le_refl _) _).trans (b1.mono (by simp))
    go_wp2_with fail
    refine (onWeekday_yes 1 0 p (s.extract 4 s.size) _ (by have := HD.out; omega) HP p1).mono ?_
    rintro e w2 ⟨rfl, b2⟩
    obtain ⟨hc2, hf2⟩ := bcell b2
    have hz2 : w.heap.size < w2.heap.size := by have := b2.size; omega
    have a2 := a1.trans (b2.mono a1.size)
    go_wp2_with fail
    refine bodyPost_ret (v := .tuple #[.agg #[.int .u8 1, .int .i64 0, .int .i64 p], .bool true]) (by simp [results, Tryz.results204, go_sem, hc, hz, hc2]) rfl ⟨HE.out, ?_⟩
    repeat (first | exact Below.refl _ _ | assumption | refine below_drewN ?_ _ | refine Below.drew ?_ | refine Below.setCell ?_ (by first | omega | (simp; done) | (simp; omega)) _ | refine Below.alloc ?_ (by first | omega | (simp; done) | (simp; omega)) _)
theorem dayE_some {k n d : Int} {e : Ending} (he : DayE (some (k, n, d)) e) : e = .returned (.tuple #[.agg #[.int .u8 k, .int .i64 n, .int .i64 d], .bool true]) := by
  rcases he with ⟨k', n', d', ho, _, _, _, _, he⟩ | ⟨ho, _⟩
  · injection ho with ho
    injection ho with h1 ho
    injection ho with h2 h3
    rw [h1, h2, h3]
    exact he
  · cases ho
/-- Parse, of what read answers. -/
theorem parse_of (s : ByteArray) (w : World) (hread : ∀ W, Below w.heap.size w W → Calls Tryz.prog 204 #[.string s] W fun e w' => DayE (Dy.rd s) e ∧ Below W.heap.size W w') :
    Calls Tryz.prog 181 #[.string s] w fun e w' => PrsE (Dy.prs s) e ∧ Below w.heap.size w w' := by
  cases hr : Dy.rd s with
  | none =>
    rw [hr] at hread
    refine (parse_none s w hread).mono fun e w' ⟨he, hb⟩ => ⟨.inr ⟨?_, he⟩, hb⟩
    rw [prs_sift, hr]
    rfl
  | some x =>
    obtain ⟨k, n, d⟩ := x
    rw [hr] at hread
    have hread' : ∀ W, Below w.heap.size w W → Calls Tryz.prog 204 #[.string s] W fun e w' => e = .returned (.tuple #[.agg #[.int .u8 k, .int .i64 n, .int .i64 d], .bool true]) ∧ Below W.heap.size W w' := fun W hW => (hread W hW).mono fun e w' ⟨he, hb⟩ => ⟨dayE_some he, hb⟩
    cases hn : Dy.right k n d with
    | false =>
      refine (parse_wrong s w k n d hn hread').mono fun e w' ⟨he, hb⟩ => ⟨.inr ⟨?_, he⟩, hb⟩
      rw [prs_sift, hr]
      show (if Dy.right k n d = true then some (k, n, d) else none) = none
      rw [hn]
      rfl
    | true =>
      refine (parse_some s w k n d hn hread').mono fun e w' ⟨he, hb⟩ => ⟨.inl ⟨k, n, d, ?_, hn, he⟩, hb⟩
      rw [prs_sift, hr]
      show (if Dy.right k n d = true then some (k, n, d) else none) = some (k, n, d)
      rw [hn]
      rfl
theorem prsE_some {o : Option (Int × Int × Int)} {k n d : Int} {e : Ending} (h : PrsE o e) (ho : o = some (k, n, d)) : e = .returned (.tuple #[.agg #[.int .u8 k, .int .i64 n, .int .i64 d], .int .i64 0]) := by
  subst ho
  rcases h with ⟨k', n', d', ho, _, he⟩ | ⟨ho, _⟩
  · injection ho with ho
    injection ho with h1 ho
    injection ho with h2 h3
    rw [h1, h2, h3]
    exact he
  · cases ho
theorem prsE_none {o : Option (Int × Int × Int)} {e : Ending} (h : PrsE o e) (ho : o = none) : e = .returned (.tuple #[.agg #[.int .u8 0, .int .i64 0, .int .i64 0], .int .i64 4]) := by
  subst ho
  rcases h with ⟨k', n', d', ho, _, he⟩ | ⟨_, he⟩
  · cases ho
  · exact he
theorem parse_last (s : ByteArray) (k n d : Int) (w : World) (hs : s.size ≤ 4294967296) (h : Dy.isLast s = true) (hp : Dy.prs s = some (k, n, d)) :
    Calls Tryz.prog 181 #[.string s] w fun e w' => e = .returned (.tuple #[.agg #[.int .u8 k, .int .i64 n, .int .i64 d], .int .i64 0]) ∧ Below w.heap.size w w' :=
  (parse_of s w fun W _ => read_last s W hs (Lib.hid h)).mono fun _ _ ⟨he, hb⟩ => ⟨prsE_some he hp, hb⟩
end Go.Proofs.YtkcbmnboccjnnaaGreatDoor
/- Contracts of package day: read and Parse of any text, Text. -/




namespace Go.Proofs.YtkcbmnboccjnnaaGreatDoor
open Go.RowKit
/-- The length up to which the library looks for a byte by itself is some number. -/
def Mx (w : World) : Prop := ∃ m : Int, w.cell? ⟨1, 0, none⟩ = some (.int .i64 m)
theorem Mx.below {w w' : World} (h : Mx w) (hb : Below w.heap.size w w') : Mx w' := by
  obtain ⟨m, hm⟩ := h
  exact ⟨m, (hb.cell (lt_cell hm)).trans hm⟩
theorem dcut_is (s sep a b : ByteArray) (ok : Bool) (w : World) (hM : Mx w) (hs : s.size < 4294967281) (h1 : (⟨(Lib.cut s.data.toList sep.data.toList).1.toArray⟩ : ByteArray) = a) (h2 : (⟨(Lib.cut s.data.toList sep.data.toList).2.1.toArray⟩ : ByteArray) = b) (h3 : (Lib.cut s.data.toList sep.data.toList).2.2 = ok) :
    Calls Tryz.prog 214 #[.string s, .string sep] w fun e w' => e = .returned (.tuple #[.string a, .string b, .bool ok]) ∧ Below w.heap.size w w' := by
  obtain ⟨m, hm⟩ := hM
  subst h1 h2 h3
  exact (Tryz.strings_Cut s sep m w hs hm).mono fun e w' ⟨he, n, hw⟩ => ⟨he, by rw [hw]; exact below_drewN (Below.refl _ _) n⟩
theorem cut_sizes (l sep : List UInt8) : (Lib.cut l sep).1.length ≤ l.length ∧ (Lib.cut l sep).2.1.length ≤ l.length := by
  unfold Lib.cut
  split
  · simp
    omega
  · simp
theorem cut_size (s : ByteArray) (sep : List UInt8) (M : Nat) (h : s.size ≤ M) : (⟨(Lib.cut s.data.toList sep).1.toArray⟩ : ByteArray).size ≤ M ∧ (⟨(Lib.cut s.data.toList sep).2.1.toArray⟩ : ByteArray).size ≤ M := by
  have hc := cut_sizes s.data.toList sep
  have hl : s.data.toList.length = s.size := by simp
  rw [size_ba, size_ba]
  omega
theorem rd_ge {s : ByteArray} (h : Dy.isLast s = false) (hc : (Lib.cut s.data.toList [62, 61]).2.2 = true) : Dy.rd s = Dy.beside 2 ⟨(Lib.cut s.data.toList [62, 61]).1.toArray⟩ ⟨(Lib.cut s.data.toList [62, 61]).2.1.toArray⟩ := by
  unfold Dy.rd
  rw [h, if_neg Bool.false_ne_true, if_pos hc]
theorem rd_le {s : ByteArray} (h : Dy.isLast s = false) (hc : (Lib.cut s.data.toList [62, 61]).2.2 = false) (hd : (Lib.cut s.data.toList [60, 61]).2.2 = true) : Dy.rd s = Dy.beside 3 ⟨(Lib.cut s.data.toList [60, 61]).1.toArray⟩ ⟨(Lib.cut s.data.toList [60, 61]).2.1.toArray⟩ := by
  unfold Dy.rd
  rw [h, if_neg Bool.false_ne_true, hc, if_neg Bool.false_ne_true, if_pos hd]
theorem rd_num {s : ByteArray} (h : Dy.isLast s = false) (hc : (Lib.cut s.data.toList [62, 61]).2.2 = false) (hd : (Lib.cut s.data.toList [60, 61]).2.2 = false) : Dy.rd s = match Dy.num s.data.toList with | none => none | some n => some (0, n, 0) := by
  unfold Dy.rd
  rw [h, if_neg Bool.false_ne_true, hc, if_neg Bool.false_ne_true, hd, if_neg Bool.false_ne_true]
  all_goals rfl
/-- A day and a bool, as they are returned. -/
theorem dayE_form {o : Option (Int × Int × Int)} {e : Ending} (h : DayE o e) : ∃ (k n d : Int) (ok : Bool), e = .returned (.tuple #[.agg #[.int .u8 k, .int .i64 n, .int .i64 d], .bool ok]) ∧ DayE o (.returned (.tuple #[.agg #[.int .u8 k, .int .i64 n, .int .i64 d], .bool ok])) := by
  rcases h with ⟨k, n, d, h1, h2, h3, h4, h5, rfl⟩ | ⟨h1, k, n, d, rfl⟩
  · exact ⟨k, n, d, true, rfl, .inl ⟨k, n, d, h1, h2, h3, h4, h5, rfl⟩⟩
  · exact ⟨k, n, d, false, rfl, .inr ⟨h1, k, n, d, rfl⟩⟩
set_option maxHeartbeats 2000000 in
theorem read_any (s : ByteArray) (w : World) (hM : Mx w) (hs : s.size < 4294967281) : Calls Tryz.prog 204 #[.string s] w fun e w' => DayE (Dy.rd s) e ∧ Below w.heap.size w w' := by
  cases hl : Dy.isLast s with
  | true => exact read_last s w (by omega) (Lib.hid hl)
  | false =>
    have HL := Lib.hid hl
    have HM := Lib.hid hM
    have HS1 := Lib.hid (cut_size s [62, 61] 4294967296 (by omega))
    have HS2 := Lib.hid (cut_size s [60, 61] 4294967296 (by omega))
    clear hM
    cases hc : (Lib.cut s.data.toList [62, 61]).2.2 with
    | true =>
      have HR := Lib.hid (rd_ge hl hc)
      have HC := Lib.hid hc
      clear hl hc
      obtain ⟨a, ha⟩ : ∃ a, (⟨(Lib.cut s.data.toList [62, 61]).1.toArray⟩ : ByteArray) = a := ⟨_, rfl⟩
      obtain ⟨b, hb⟩ : ∃ b, (⟨(Lib.cut s.data.toList [62, 61]).2.1.toArray⟩ : ByteArray) = b := ⟨_, rfl⟩
      rw [ha, hb] at HS1 HR
      have HA := Lib.hid ha
      have HB := Lib.hid hb
      clear ha hb
      go_enter Tryz.func204, Tryz.ntmps204
      go_wp2_with fail
      refine (cutLast_no s _ (by omega) HL.out).mono ?_
      rintro e w1 ⟨rfl, b1⟩
      have a1 : Below w.heap.size w w1 := ((Below.refl _ _).alloc (Nat.le_refl _) _).trans (b1.mono (by simp))
      obtain ⟨hc, hf⟩ := bcell b1
      have hz : w.heap.size < w1.heap.size := by have := b1.size; simp at this; omega
      go_wp2_with fail
      refine (dcut_is s ⟨#[62, 61]⟩ a b true _ (HM.out.below a1) hs HA.out HB.out HC.out).mono ?_
      rintro e w2 ⟨rfl, b2⟩
      obtain ⟨hc2, hf2⟩ := bcell b2
      have hz2 : w.heap.size < w2.heap.size := by have := b2.size; omega
      have a2 := a1.trans (b2.mono a1.size)
      go_wp2_with fail
      refine (besideDay_any 2 a b _ HS1.out.1 HS1.out.2).mono ?_
      rintro e w3 ⟨hE, b3⟩
      rw [← HR.out] at hE
      obtain ⟨k, n, d, ok, rfl, hE⟩ := dayE_form hE
      have HE := Lib.hid hE
      obtain ⟨hc3, hf3⟩ := bcell b3
      have hz3 : w.heap.size < w3.heap.size := by have := b3.size; omega
      have a3 := a2.trans (b3.mono a2.size)
      clear hE
      go_wp2_with fail
      refine bodyPost_ret (v := .tuple #[.agg #[.int .u8 k, .int .i64 n, .int .i64 d], .bool ok]) (by simp [results, Tryz.results204, go_sem, hc, hz, hc2, hz2, hc3]) rfl ⟨HE.out, ?_⟩
      repeat (first | exact Below.refl _ _ | assumption | refine below_drewN ?_ _ | refine Below.drew ?_ | refine Below.setCell ?_ (by first | omega | (simp; done) | (simp; omega)) _ | refine Below.alloc ?_ (by first | omega | (simp; done) | (simp; omega)) _)
    | false =>
      have HC := Lib.hid hc
      obtain ⟨a0, ha0⟩ : ∃ a, (⟨(Lib.cut s.data.toList [62, 61]).1.toArray⟩ : ByteArray) = a := ⟨_, rfl⟩
      obtain ⟨b0, hb0⟩ : ∃ b, (⟨(Lib.cut s.data.toList [62, 61]).2.1.toArray⟩ : ByteArray) = b := ⟨_, rfl⟩
      have HA0 := Lib.hid ha0
      have HB0 := Lib.hid hb0
      clear ha0 hb0
      cases hd : (Lib.cut s.data.toList [60, 61]).2.2 with
      | true =>
        have HR := Lib.hid (rd_le hl hc hd)
        have HC2 := Lib.hid hd
        clear hl hc hd
        obtain ⟨a, ha⟩ : ∃ a, (⟨(Lib.cut s.data.toList [60, 61]).1.toArray⟩ : ByteArray) = a := ⟨_, rfl⟩
        obtain ⟨b, hb⟩ : ∃ b, (⟨(Lib.cut s.data.toList [60, 61]).2.1.toArray⟩ : ByteArray) = b := ⟨_, rfl⟩
        rw [ha, hb] at HS2 HR
        have HA := Lib.hid ha
        have HB := Lib.hid hb
        clear ha hb
        go_enter Tryz.func204, Tryz.ntmps204
        go_wp2_with fail
        refine (cutLast_no s _ (by omega) HL.out).mono ?_
        rintro e w1 ⟨rfl, b1⟩
        have a1 : Below w.heap.size w w1 := ((Below.refl _ _).alloc (Nat.le_refl _) _).trans (b1.mono (by simp))
        obtain ⟨hc, hf⟩ := bcell b1
        have hz : w.heap.size < w1.heap.size := by have := b1.size; simp at this; omega
        go_wp2_with fail
        refine (dcut_is s ⟨#[62, 61]⟩ a0 b0 false _ (HM.out.below a1) hs HA0.out HB0.out HC.out).mono ?_
        rintro e w2 ⟨rfl, b2⟩
        obtain ⟨hc2, hf2⟩ := bcell b2
        have hz2 : w.heap.size < w2.heap.size := by have := b2.size; omega
        have a2 := a1.trans (b2.mono a1.size)
        go_wp2_with fail
        refine (dcut_is s ⟨#[60, 61]⟩ a b true _ (HM.out.below a2) hs HA.out HB.out HC2.out).mono ?_
        rintro e w4 ⟨rfl, b4⟩
        obtain ⟨hc4, hf4⟩ := bcell b4
        have hz4 : w.heap.size < w4.heap.size := by have := b4.size; omega
        have a4 := a2.trans (b4.mono a2.size)
        go_wp2_with fail
        refine (besideDay_any 3 a b _ HS2.out.1 HS2.out.2).mono ?_
        rintro e w3 ⟨hE, b3⟩
        rw [← HR.out] at hE
        obtain ⟨k, n, d, ok, rfl, hE⟩ := dayE_form hE
        have HE := Lib.hid hE
        obtain ⟨hc3, hf3⟩ := bcell b3
        have hz3 : w.heap.size < w3.heap.size := by have := b3.size; omega
        have a3 := a4.trans (b3.mono a4.size)
        clear hE
        go_wp2_with fail
        refine bodyPost_ret (v := .tuple #[.agg #[.int .u8 k, .int .i64 n, .int .i64 d], .bool ok]) (by simp [results, Tryz.results204, go_sem, hc, hz, hc2, hz2, hc4, hz4, hc3]) rfl ⟨HE.out, ?_⟩
        repeat (first | exact Below.refl _ _ | assumption | refine below_drewN ?_ _ | refine Below.drew ?_ | refine Below.setCell ?_ (by first | omega | (simp; done) | (simp; omega)) _ | refine Below.alloc ?_ (by first | omega | (simp; done) | (simp; omega)) _)
      | false =>
        have hR := rd_num hl hc hd
        have HC2 := Lib.hid hd
        have hnum := dnumber_any s
        have hob : ∃ (n : Int) (ok : Bool), (NumE (Dy.num s.data.toList) (.returned (.tuple #[.int .i64 n, .bool ok]))) ∧ (∀ e, NumE (Dy.num s.data.toList) e → e = .returned (.tuple #[.int .i64 n, .bool ok])) ∧ DayE (Dy.rd s) (.returned (.tuple #[.agg #[.int .u8 0, .int .i64 n, .int .i64 0], .bool ok])) := by
          rw [hR]
          cases hn : Dy.num s.data.toList with
          | none => exact ⟨0, false, rfl, fun e h => h, .inr ⟨rfl, 0, 0, 0, rfl⟩⟩
          | some n =>
            obtain ⟨n1, n2⟩ := num_bd hn
            exact ⟨n, true, rfl, fun e h => h, .inl ⟨0, n, 0, rfl, n1, n2, by omega, by omega, rfl⟩⟩
        obtain ⟨n, ok, _, hN, hE⟩ := hob
        have HN := Lib.hid (show ∀ W : World, Calls Tryz.prog 223 #[.string s] W fun e w' => e = .returned (.tuple #[.int .i64 n, .bool ok]) ∧ W = w' from fun W => (hnum W (by omega)).mono fun e w' ⟨h1, h2⟩ => ⟨hN e h1, h2⟩)
        have HE := Lib.hid hE
        clear hl hc hd hR hnum hN hE
        obtain ⟨a, ha⟩ : ∃ a, (⟨(Lib.cut s.data.toList [60, 61]).1.toArray⟩ : ByteArray) = a := ⟨_, rfl⟩
        obtain ⟨b, hb⟩ : ∃ b, (⟨(Lib.cut s.data.toList [60, 61]).2.1.toArray⟩ : ByteArray) = b := ⟨_, rfl⟩
        have HA := Lib.hid ha
        have HB := Lib.hid hb
        clear ha hb
        go_enter Tryz.func204, Tryz.ntmps204
        go_wp2_with fail
        refine (cutLast_no s _ (by omega) HL.out).mono ?_
        rintro e w1 ⟨rfl, b1⟩
        have a1 : Below w.heap.size w w1 := ((Below.refl _ _).alloc (Nat.le_refl _) _).trans (b1.mono (by simp))
        obtain ⟨hc, hf⟩ := bcell b1
        have hz : w.heap.size < w1.heap.size := by have := b1.size; simp at this; omega
        go_wp2_with fail
        refine (dcut_is s ⟨#[62, 61]⟩ a0 b0 false _ (HM.out.below a1) hs HA0.out HB0.out HC.out).mono ?_
        rintro e w2 ⟨rfl, b2⟩
        obtain ⟨hc2, hf2⟩ := bcell b2
        have hz2 : w.heap.size < w2.heap.size := by have := b2.size; omega
        have a2 := a1.trans (b2.mono a1.size)
        go_wp2_with fail
        refine (dcut_is s ⟨#[60, 61]⟩ a b false _ (HM.out.below a2) hs HA.out HB.out HC2.out).mono ?_
        rintro e w4 ⟨rfl, b4⟩
        obtain ⟨hc4, hf4⟩ := bcell b4
        have hz4 : w.heap.size < w4.heap.size := by have := b4.size; omega
        have a4 := a2.trans (b4.mono a2.size)
        go_wp2_with fail
        refine (HN.out _).mono ?_
        rintro e w' ⟨rfl, rfl⟩
        go_wp2_with fail
        refine bodyPost_ret (v := .tuple #[.agg #[.int .u8 0, .int .i64 n, .int .i64 0], .bool ok]) (by simp [results, Tryz.results204, go_sem, hc, hz, hc2, hz2, hc4]) rfl ⟨HE.out, ?_⟩
        repeat (first | exact Below.refl _ _ | assumption | refine below_drewN ?_ _ | refine Below.drew ?_ | refine Below.setCell ?_ (by first | omega | (simp; done) | (simp; omega)) _ | refine Below.alloc ?_ (by first | omega | (simp; done) | (simp; omega)) _)
theorem dparse_any (s : ByteArray) (w : World) (hM : Mx w) (hs : s.size < 4294967281) : Calls Tryz.prog 181 #[.string s] w fun e w' => PrsE (Dy.prs s) e ∧ Below w.heap.size w w' :=
  parse_of s w fun W hW => read_any s W (hM.below hW) hs
theorem dparse_yes (s : ByteArray) (k n d : Int) (w : World) (hM : Mx w) (hs : s.size < 4294967281) (h : Dy.prs s = some (k, n, d)) : Calls Tryz.prog 181 #[.string s] w fun e w' => e = .returned (.tuple #[.agg #[.int .u8 k, .int .i64 n, .int .i64 d], .int .i64 0]) ∧ Below w.heap.size w w' :=
  (dparse_any s w hM hs).mono fun _ _ ⟨he, hb⟩ => ⟨prsE_some he h, hb⟩
theorem dparse_no (s : ByteArray) (w : World) (hM : Mx w) (hs : s.size < 4294967281) (h : Dy.prs s = none) : Calls Tryz.prog 181 #[.string s] w fun e w' => e = .returned (.tuple #[.agg #[.int .u8 0, .int .i64 0, .int .i64 0], .int .i64 4]) ∧ Below w.heap.size w w' :=
  (dparse_any s w hM hs).mono fun _ _ ⟨he, hb⟩ => ⟨prsE_none he h, hb⟩
end Go.Proofs.YtkcbmnboccjnnaaGreatDoor
/- Contracts of package day: Text. -/

namespace Go.Proofs.YtkcbmnboccjnnaaGreatDoor
open Go.RowKit
theorem itoa_dig (n : Int) (w : World) (h1 : 0 ≤ n) (h2 : n ≤ 31) : Calls Tryz.prog 70 #[.int .i64 n] w fun e w' => e = .returned (.string ⟨(Dy.dig n.toNat).toArray⟩) ∧ Below w.heap.size w w' := by
  obtain ⟨i, rfl⟩ : ∃ i : Nat, n = i := ⟨n.toNat, by omega⟩
  refine (Tryz.strconv_Itoa_small i (by omega) w).mono fun e w' ⟨he, hw⟩ => ⟨?_, by rw [hw]; exact Below.refl _ _⟩
  rw [he, Dy.dig_eq i (by omega)]
  rfl
theorem wtext_d (d : Int) (w : World) (h1 : 0 ≤ d) (h2 : d ≤ 6) : Calls Tryz.prog 114 #[.int .i64 d] w fun e w' => e = .returned (.string (Wd.three Wd.week d.toNat)) ∧ Below w.heap.size w w' := by
  obtain ⟨i, rfl⟩ : ∃ i : Nat, d = i := ⟨d.toNat, by omega⟩
  exact weekdaytext_yes i w (by omega)
theorem three_size (d : Int) (h1 : 0 ≤ d) (h2 : d ≤ 6) : (Wd.three Wd.week d.toNat).size = 3 := (Wd.week_back d.toNat (by omega)).2.1
theorem dig_size (n : Nat) : (⟨(Dy.dig n).toArray⟩ : ByteArray).size ≤ 2 := by
  rw [size_ba]
  exact Dy.dig_len n
theorem txt_size (k n d : Int) (h : Dy.right k n d = true) : (Dy.txt k n d).size ≤ 20 := by
  have hd := dig_size n.toNat
  have h2 : (⟨#[62, 61]⟩ : ByteArray).size = 2 := rfl
  have h3 : (⟨#[60, 61]⟩ : ByteArray).size = 2 := rfl
  have h4 : Dy.lastW.size = 4 := rfl
  rw [Dy.right_iff] at h
  rcases h with ⟨rfl, g1, g2, rfl⟩ | ⟨rfl, rfl, g1, g2⟩ | ⟨rfl | rfl, g1, g2, g3, g4⟩
  · show (⟨(Dy.dig n.toNat).toArray⟩ : ByteArray).size ≤ 20
    omega
  · show (Dy.lastW ++ Wd.three Wd.week d.toNat).size ≤ 20
    rw [ByteArray.size_append, three_size d g1 g2]
    omega
  · show (Wd.three Wd.week d.toNat ++ ⟨#[62, 61]⟩ ++ ⟨(Dy.dig n.toNat).toArray⟩ : ByteArray).size ≤ 20
    rw [ByteArray.size_append, ByteArray.size_append, three_size d g3 g4]
    omega
  · show (Wd.three Wd.week d.toNat ++ ⟨#[60, 61]⟩ ++ ⟨(Dy.dig n.toNat).toArray⟩ : ByteArray).size ≤ 20
    rw [ByteArray.size_append, ByteArray.size_append, three_size d g3 g4]
    omega
theorem keep_day {B b1 : Nat} {w0 w w1 : World} {x1 x2 : Value}
    (h : w.cell? ⟨b1, 1, none⟩ = some x1 ∧ w.cell? ⟨b1, 2, none⟩ = some x2 ∧ b1 < w.heap.size ∧ B ≤ w.heap.size ∧ Below B w0 w) (hb : Below w.heap.size w w1) :
    w1.cell? ⟨b1, 1, none⟩ = some x1 ∧ w1.cell? ⟨b1, 2, none⟩ = some x2 ∧ b1 < w1.heap.size ∧ B ≤ w1.heap.size ∧ Below B w0 w1 := by
  obtain ⟨h1, h2, l1, l4, h0⟩ := h
  obtain ⟨hc, _⟩ := bcell hb
  have := hb.size
  refine ⟨?_, ?_, by omega, by omega, h0.trans (hb.mono l4)⟩
  all_goals (rw [hc _ _ (by assumption)]; assumption)
theorem last_day {B b1 : Nat} {w0 w : World} {x1 x2 : Value} (h : w.cell? ⟨b1, 1, none⟩ = some x1 ∧ w.cell? ⟨b1, 2, none⟩ = some x2 ∧ b1 < w.heap.size ∧ B ≤ w.heap.size ∧ Below B w0 w) : Below B w0 w := by
  obtain ⟨_, _, _, _, h0⟩ := h
  exact h0
theorem dtext_no (k n d : Int) (w : World) (h : Dy.right k n d = false) : Calls Tryz.prog 68 #[.agg #[.int .u8 k, .int .i64 n, .int .i64 d]] w fun e w' => e = .returned (.tuple #[.string ⟨#[]⟩, .int .i64 2]) ∧ Below w.heap.size w w' := by
  have H := Lib.hid h
  clear h
  go_enter Tryz.func68, Tryz.ntmps68
  go_wp2_with fail
  refine (isRight_no _ _ _ _ H.out).mono ?_
  rintro e w1 ⟨rfl, b1⟩
  have a1 := ((Below.refl w.heap.size w).alloc (Nat.le_refl _) (.cells #[.int .u8 k, .int .i64 n, .int .i64 d] 43)).trans (b1.mono (by simp))
  go_wp2_with fail
  go_ret2
  exact ⟨rfl, a1⟩
theorem dtext_0 (n : Int) (w : World) (h1 : 1 ≤ n) (h2 : n ≤ 31) : Calls Tryz.prog 68 #[.agg #[.int .u8 0, .int .i64 n, .int .i64 0]] w fun e w' => e = .returned (.tuple #[.string (Dy.txt 0 n 0), .int .i64 0]) ∧ Below w.heap.size w w' := by
  have H := Lib.hid ((Dy.right_iff 0 n 0).2 (.inl ⟨rfl, h1, h2, rfl⟩))
  go_enter Tryz.func68, Tryz.ntmps68
  go_wp2_with fail
  refine (isRight_yes _ _ _ _ H.out).mono ?_
  rintro e w1 ⟨rfl, b1⟩
  obtain ⟨hc, hf⟩ := bcell b1
  have a1 := ((Below.refl w.heap.size w).alloc (Nat.le_refl _) (.cells #[.int .u8 0, .int .i64 n, .int .i64 0] 43)).trans (b1.mono (by simp))
  go_wp2_with fail
  refine (itoa_dig n _ (by omega) h2).mono ?_
  rintro e w2 ⟨rfl, b2⟩
  have a2 := a1.trans (b2.mono a1.size)
  go_wp2_with fail
  go_ret2
  exact ⟨rfl, a2⟩
theorem dtext_1 (d : Int) (w : World) (h1 : 0 ≤ d) (h2 : d ≤ 6) : Calls Tryz.prog 68 #[.agg #[.int .u8 1, .int .i64 0, .int .i64 d]] w fun e w' => e = .returned (.tuple #[.string (Dy.txt 1 0 d), .int .i64 0]) ∧ Below w.heap.size w w' := by
  have H := Lib.hid ((Dy.right_iff 1 0 d).2 (.inr (.inl ⟨rfl, rfl, h1, h2⟩)))
  have hz := three_size d h1 h2
  go_enter Tryz.func68, Tryz.ntmps68
  go_wp2_with fail
  refine (isRight_yes _ _ _ _ H.out).mono ?_
  rintro e w1 ⟨rfl, b1⟩
  obtain ⟨hc, hf⟩ := bcell b1
  have a1 := ((Below.refl w.heap.size w).alloc (Nat.le_refl _) (.cells #[.int .u8 1, .int .i64 0, .int .i64 d] 43)).trans (b1.mono (by simp))
  go_wp2_with fail
  refine (wtext_d d _ h1 h2).mono ?_
  rintro e w2 ⟨rfl, b2⟩
  have a2 := a1.trans (b2.mono a1.size)
  go_wp2_with fail
  go_ret2
  exact ⟨rfl, a2⟩
set_option maxHeartbeats 2000000 in
theorem dtext_2 (n d : Int) (w : World) (h1 : 1 ≤ n) (h2 : n ≤ 31) (h3 : 0 ≤ d) (h4 : d ≤ 6) : Calls Tryz.prog 68 #[.agg #[.int .u8 2, .int .i64 n, .int .i64 d]] w fun e w' => e = .returned (.tuple #[.string (Dy.txt 2 n d), .int .i64 0]) ∧ Below w.heap.size w w' := by
  have H := Lib.hid ((Dy.right_iff 2 n d).2 (.inr (.inr ⟨.inl rfl, h1, h2, h3, h4⟩)))
  have hz := three_size d h3 h4
  have hy := Dy.dig_len n.toNat
  have q1 : ¬ 9223372036854775807 < 5 + (Dy.dig n.toNat).length := by omega
  have q2 : ¬ 9223372036854775807 < 3 + 2 + (Dy.dig n.toNat).length := by omega
  have q3 : ¬ 9223372036854775807 < (Wd.three Wd.week d.toNat).size + 2 + (Dy.dig n.toNat).length := by omega
  go_enter Tryz.func68, Tryz.ntmps68
  go_wp2_with fail
  refine (isRight_yes _ _ _ _ H.out).mono ?_
  rintro e w1 ⟨rfl, b1⟩
  obtain ⟨hc, hf⟩ := bcell b1
  have a1 := ((Below.refl w.heap.size w).alloc (Nat.le_refl _) (.cells #[.int .u8 2, .int .i64 n, .int .i64 d] 43)).trans (b1.mono (by simp))
  have z1 : w.heap.size < w1.heap.size := by have := b1.size; simp at this; omega
  have S0 : w1.drew.cell? ⟨w.heap.size, 1, none⟩ = some (.int .i64 n) ∧ w1.drew.cell? ⟨w.heap.size, 2, none⟩ = some (.int .i64 d) ∧ w.heap.size < w1.drew.heap.size ∧ w.heap.size ≤ w1.drew.heap.size ∧ Below w.heap.size w w1.drew := by
    refine ⟨?_, ?_, z1, Nat.le_of_lt z1, a1.drew⟩
    · show w1.cell? _ = _; rw [hc _ _ (by simp)]; go_simp
    · show w1.cell? _ = _; rw [hc _ _ (by simp)]; go_simp
  go_wp2_with fail
  clear hc hf b1 a1
  go_region_held3 (fun w' => w'.cell? ⟨w.heap.size, 1, none⟩ = some (.int .i64 n) ∧ w'.cell? ⟨w.heap.size, 2, none⟩ = some (.int .i64 d) ∧ w.heap.size < w'.heap.size ∧ w.heap.size ≤ w'.heap.size ∧ Below w.heap.size w w')
    (first | assumption | exact keep_day (by assumption) (by assumption))
    (first
      | (go_at_call 70; refine (itoa_dig n _ (by omega) h2).mono ?_; rintro e w' ⟨rfl, hb⟩)
      | (go_at_call 114; refine (wtext_d d _ h3 h4).mono ?_; rintro e w' ⟨rfl, hb⟩))
  all_goals go_wp2_with fail
  all_goals
    go_ret2
    exact ⟨rfl, last_day (b1 := w.heap.size) (x1 := .int .i64 n) (x2 := .int .i64 d) (by assumption)⟩
set_option maxHeartbeats 2000000 in
theorem dtext_3 (n d : Int) (w : World) (h1 : 1 ≤ n) (h2 : n ≤ 31) (h3 : 0 ≤ d) (h4 : d ≤ 6) : Calls Tryz.prog 68 #[.agg #[.int .u8 3, .int .i64 n, .int .i64 d]] w fun e w' => e = .returned (.tuple #[.string (Dy.txt 3 n d), .int .i64 0]) ∧ Below w.heap.size w w' := by
  have H := Lib.hid ((Dy.right_iff 3 n d).2 (.inr (.inr ⟨.inr rfl, h1, h2, h3, h4⟩)))
  have hz := three_size d h3 h4
  have hy := Dy.dig_len n.toNat
  have q1 : ¬ 9223372036854775807 < 5 + (Dy.dig n.toNat).length := by omega
  have q2 : ¬ 9223372036854775807 < 3 + 2 + (Dy.dig n.toNat).length := by omega
  have q3 : ¬ 9223372036854775807 < (Wd.three Wd.week d.toNat).size + 2 + (Dy.dig n.toNat).length := by omega
  go_enter Tryz.func68, Tryz.ntmps68
  go_wp2_with fail
  refine (isRight_yes _ _ _ _ H.out).mono ?_
  rintro e w1 ⟨rfl, b1⟩
  obtain ⟨hc, hf⟩ := bcell b1
  have a1 := ((Below.refl w.heap.size w).alloc (Nat.le_refl _) (.cells #[.int .u8 3, .int .i64 n, .int .i64 d] 43)).trans (b1.mono (by simp))
  have z1 : w.heap.size < w1.heap.size := by have := b1.size; simp at this; omega
  have S0 : w1.drew.cell? ⟨w.heap.size, 1, none⟩ = some (.int .i64 n) ∧ w1.drew.cell? ⟨w.heap.size, 2, none⟩ = some (.int .i64 d) ∧ w.heap.size < w1.drew.heap.size ∧ w.heap.size ≤ w1.drew.heap.size ∧ Below w.heap.size w w1.drew := by
    refine ⟨?_, ?_, z1, Nat.le_of_lt z1, a1.drew⟩
    · show w1.cell? _ = _; rw [hc _ _ (by simp)]; go_simp
    · show w1.cell? _ = _; rw [hc _ _ (by simp)]; go_simp
  go_wp2_with fail
  clear hc hf b1 a1
  go_region_held3 (fun w' => w'.cell? ⟨w.heap.size, 1, none⟩ = some (.int .i64 n) ∧ w'.cell? ⟨w.heap.size, 2, none⟩ = some (.int .i64 d) ∧ w.heap.size < w'.heap.size ∧ w.heap.size ≤ w'.heap.size ∧ Below w.heap.size w w')
    (first | assumption | exact keep_day (by assumption) (by assumption))
    (first
      | (go_at_call 70; refine (itoa_dig n _ (by omega) h2).mono ?_; rintro e w' ⟨rfl, hb⟩)
      | (go_at_call 114; refine (wtext_d d _ h3 h4).mono ?_; rintro e w' ⟨rfl, hb⟩))
  all_goals go_wp2_with fail
  all_goals
    go_ret2
    exact ⟨rfl, last_day (b1 := w.heap.size) (x1 := .int .i64 n) (x2 := .int .i64 d) (by assumption)⟩
theorem dtext_yes (k n d : Int) (w : World) (h : Dy.right k n d = true) : Calls Tryz.prog 68 #[.agg #[.int .u8 k, .int .i64 n, .int .i64 d]] w fun e w' => e = .returned (.tuple #[.string (Dy.txt k n d), .int .i64 0]) ∧ Below w.heap.size w w' := by
  rw [Dy.right_iff] at h
  rcases h with ⟨rfl, g1, g2, rfl⟩ | ⟨rfl, rfl, g1, g2⟩ | ⟨rfl | rfl, g1, g2, g3, g4⟩
  · exact dtext_0 n w g1 g2
  · exact dtext_1 d w g1 g2
  · exact dtext_2 n d w g1 g2 g3 g4
  · exact dtext_3 n d w g1 g2 g3 g4
end Go.Proofs.YtkcbmnboccjnnaaGreatDoor
