/- Words: letters alike, beginnings, and which of several names a word means. Imports nothing of the program. -/
import Derived.Lib.Hide
import Derived.Below
namespace Go.Proofs.YtgcgmmdfmcapiaaGreatDoor
namespace Wd
/-- The small letter of a great one. -/
def sm (c : UInt8) : UInt8 := if 65 ≤ c.toNat ∧ c.toNat ≤ 90 then UInt8.ofNat (c.toNat + 32) else c
def lo (s : ByteArray) : List UInt8 := s.data.toList.map sm
/-- x begins with s, letters alike. -/
def beg (x s : ByteArray) : Bool := (lo s).isPrefixOf (lo x)
/-- a and b are one, letters alike. -/
def one (a b : ByteArray) : Bool := decide (lo a = lo b)
theorem lo_len (s : ByteArray) : (lo s).length = s.size := by simp [lo]
theorem lo_at (s : ByteArray) (k : Nat) (h : k < s.size) : (lo s)[k]? = some (sm s[k]) := by
  have : s.data.toList[k]? = some s[k] := by
    rw [List.getElem?_eq_getElem (by simpa using h)]; rfl
  simp [lo, this]
theorem beg_pre (x s : ByteArray) : beg x s = true ↔ lo s <+: lo x := List.isPrefixOf_iff_prefix
theorem beg_short {x s : ByteArray} (h : x.size < s.size) : beg x s = false := by
  cases hb : beg x s with
  | false => rfl
  | true =>
    have := ((beg_pre x s).1 hb).length_le
    rw [lo_len, lo_len] at this
    omega
theorem beg_at {x s : ByteArray} (hb : beg x s = true) (k : Nat) (h : k < s.size) (h' : k < x.size) : sm x[k] = sm s[k] := by
  obtain ⟨t, ht⟩ := (beg_pre x s).1 hb
  have h1 := lo_at x k h'
  rw [← ht, List.getElem?_append_left (by rw [lo_len]; exact h), lo_at s k h] at h1
  injection h1 with h1
  exact h1.symm
theorem beg_of {x s : ByteArray} (hs : s.size ≤ x.size) (h : ∀ k (h : k < s.size) (h' : k < x.size), sm x[k] = sm s[k]) : beg x s = true := by
  rw [beg_pre, List.prefix_iff_eq_take, lo_len]
  apply List.ext_getElem?
  intro k
  by_cases hk : k < s.size
  · rw [List.getElem?_take_of_lt hk, lo_at s k hk, lo_at x k (by omega), h k hk (by omega)]
  · rw [List.getElem?_eq_none (by rw [lo_len]; omega), List.getElem?_eq_none (by simp [lo_len]; omega)]
/-- The first k letters are alike. -/
def Eqto (x s : ByteArray) (k : Nat) : Prop := ∀ j (_ : j < s.size) (_ : j < x.size), j < k → sm x[j] = sm s[j]
theorem eqto_zero (x s : ByteArray) : Eqto x s 0 := fun j _ _ h => absurd h (by omega)
theorem eqto_snoc {x s : ByteArray} {k : Nat} (h : Eqto x s k) (hx : k < x.size) (hs : k < s.size) (e : sm x[k] = sm s[k]) : Eqto x s (k + 1) := by
  intro j h1 h2 h3
  by_cases hjk : j = k
  · subst hjk; exact e
  · exact h j h1 h2 (by omega)
theorem eqto_all {x s : ByteArray} (h : Eqto x s s.size) (hs : s.size ≤ x.size) : beg x s = true := beg_of hs fun j h1 h2 => h j h1 h2 h1
theorem beg_differ {x s : ByteArray} {k : Nat} (hx : k < x.size) (hs : k < s.size) (e : sm x[k] ≠ sm s[k]) : beg x s = false := by
  cases hb : beg x s with
  | false => rfl
  | true => exact absurd (beg_at hb k hs hx) e
theorem one_iff (a b : ByteArray) : one a b = true ↔ a.size = b.size ∧ beg a b = true := by
  unfold one
  rw [decide_eq_true_eq, beg_pre]
  constructor
  · intro h
    have := congrArg List.length h
    rw [lo_len, lo_len] at this
    exact ⟨this, by rw [h]; exact List.prefix_refl _⟩
  · rintro ⟨h, hp⟩
    exact (hp.eq_of_length (by rw [lo_len, lo_len, h])).symm
theorem one_size {a b : ByteArray} (h : a.size ≠ b.size) : one a b = false := by
  cases hb : one a b with
  | false => rfl
  | true => exact absurd ((one_iff a b).1 hb).1 h
theorem one_beg {a b : ByteArray} (h : a.size = b.size) : one a b = beg a b := by
  cases hb : beg a b with
  | true => exact (one_iff a b).2 ⟨h, hb⟩
  | false =>
    cases ho : one a b with
    | false => rfl
    | true => rw [((one_iff a b).1 ho).2] at hb; cases hb
theorem beg_of_one {s x : ByteArray} (h : one s x = true) : beg x s = true := by
  unfold one at h
  rw [decide_eq_true_eq] at h
  rw [beg_pre, h]
  exact List.prefix_refl _
/-- The scan for the name that a word means: the place, the last name so far that begins so, and how many. -/
def go (s : ByteArray) (i : Nat) (f : Int) (c : Nat) : List ByteArray → Int
  | [] => if c = 1 then f else -1
  | x :: r => if one s x = true then (i : Int) else if beg x s = true then go s (i + 1) (i : Int) (c + 1) r else go s (i + 1) f c r
/-- The place of the name that s means, or -1. -/
def pick (s : ByteArray) (l : List ByteArray) : Int := if s.size = 0 then -1 else go s 0 (-1) 0 l
def Ex (s : ByteArray) (l : List ByteArray) (j : Nat) : Prop := ∃ x, l[j]? = some x ∧ one s x = true
def Bg (s : ByteArray) (l : List ByteArray) (j : Nat) : Prop := ∃ x, l[j]? = some x ∧ beg x s = true
def Inv (s : ByteArray) (p : List ByteArray) (f : Int) (c : Nat) : Prop :=
  (∀ j, ¬ Ex s p j) ∧ ((c = 0 ∧ ∀ j, ¬ Bg s p j) ∨ (c = 1 ∧ ∃ k : Nat, f = k ∧ Bg s p k ∧ ∀ j, Bg s p j → j = k) ∨ (2 ≤ c ∧ ∃ j k, j ≠ k ∧ Bg s p j ∧ Bg s p k))
/-- v is the place of the name that s means. -/
def Means (s : ByteArray) (l : List ByteArray) (v : Int) : Prop :=
  (∃ k : Nat, v = k ∧ Ex s l k ∧ ∀ j, j < k → ¬ Ex s l j) ∨ ((∀ j, ¬ Ex s l j) ∧ ((v = -1 ∧ ((∀ j, ¬ Bg s l j) ∨ ∃ j k, j ≠ k ∧ Bg s l j ∧ Bg s l k)) ∨ ∃ k : Nat, v = k ∧ Bg s l k ∧ ∀ j, Bg s l j → j = k))
theorem get_snoc (p : List ByteArray) (x y : ByteArray) (j : Nat) : (p ++ [x])[j]? = some y ↔ p[j]? = some y ∨ (j = p.length ∧ x = y) := by
  rcases Nat.lt_trichotomy j p.length with h | h | h
  · rw [List.getElem?_append_left h]
    exact ⟨.inl, fun h' => h'.elim id fun ⟨e, _⟩ => by omega⟩
  · subst h
    simp
  · rw [List.getElem?_eq_none (by simp; omega), List.getElem?_eq_none (by omega)]
    simp
    omega
theorem ex_snoc (s : ByteArray) (p : List ByteArray) (x : ByteArray) (j : Nat) : Ex s (p ++ [x]) j ↔ Ex s p j ∨ (j = p.length ∧ one s x = true) := by
  unfold Ex
  constructor
  · rintro ⟨y, h, hy⟩
    rcases (get_snoc p x y j).1 h with h | ⟨h2, rfl⟩
    · exact .inl ⟨y, h, hy⟩
    · exact .inr ⟨h2, hy⟩
  · rintro (⟨y, h, hy⟩ | ⟨h, hy⟩)
    · exact ⟨y, (get_snoc p x y j).2 (.inl h), hy⟩
    · exact ⟨x, (get_snoc p x x j).2 (.inr ⟨h, rfl⟩), hy⟩
theorem bg_snoc (s : ByteArray) (p : List ByteArray) (x : ByteArray) (j : Nat) : Bg s (p ++ [x]) j ↔ Bg s p j ∨ (j = p.length ∧ beg x s = true) := by
  unfold Bg
  constructor
  · rintro ⟨y, h, hy⟩
    rcases (get_snoc p x y j).1 h with h | ⟨h2, rfl⟩
    · exact .inl ⟨y, h, hy⟩
    · exact .inr ⟨h2, hy⟩
  · rintro (⟨y, h, hy⟩ | ⟨h, hy⟩)
    · exact ⟨y, (get_snoc p x y j).2 (.inl h), hy⟩
    · exact ⟨x, (get_snoc p x x j).2 (.inr ⟨h, rfl⟩), hy⟩
theorem bg_lt {s : ByteArray} {l : List ByteArray} {j : Nat} (h : Bg s l j) : j < l.length := by
  obtain ⟨x, h, _⟩ := h
  exact (List.getElem?_eq_some_iff.1 h).1
theorem ex_bg {s : ByteArray} {l : List ByteArray} {j : Nat} (h : Ex s l j) : Bg s l j := by
  obtain ⟨x, h, hx⟩ := h
  exact ⟨x, h, beg_of_one hx⟩
theorem ex_left {s : ByteArray} {p r : List ByteArray} {j : Nat} (hj : j < p.length) : Ex s (p ++ r) j ↔ Ex s p j := by
  unfold Ex
  rw [List.getElem?_append_left hj]
theorem inv_nil (s : ByteArray) : Inv s [] (-1) 0 := by
  refine ⟨?_, .inl ⟨rfl, ?_⟩⟩
  · rintro j ⟨x, h, _⟩; simp at h
  · rintro j ⟨x, h, _⟩; simp at h
theorem inv_no {s : ByteArray} {p : List ByteArray} {f : Int} {c : Nat} (h : Inv s p f c) (x : ByteArray) (ho : ¬ one s x = true) (hb : ¬ beg x s = true) : Inv s (p ++ [x]) f c := by
  have hB : ∀ j, Bg s (p ++ [x]) j ↔ Bg s p j := fun j => by rw [bg_snoc]; exact ⟨fun h => h.elim id fun ⟨_, e⟩ => absurd e hb, .inl⟩
  refine ⟨fun j hj => ?_, ?_⟩
  · rcases (ex_snoc s p x j).1 hj with h' | ⟨_, h'⟩
    · exact h.1 j h'
    · exact ho h'
  · simp only [hB]
    exact h.2
theorem inv_yes {s : ByteArray} {p : List ByteArray} {f : Int} {c : Nat} (h : Inv s p f c) (x : ByteArray) (ho : ¬ one s x = true) (hb : beg x s = true) : Inv s (p ++ [x]) (p.length : Int) (c + 1) := by
  have hN : Bg s (p ++ [x]) p.length := (bg_snoc _ _ _ _).2 (.inr ⟨rfl, hb⟩)
  refine ⟨fun j hj => ?_, ?_⟩
  · rcases (ex_snoc s p x j).1 hj with h' | ⟨_, h'⟩
    · exact h.1 j h'
    · exact ho h'
  · rcases h.2 with ⟨rfl, h0⟩ | ⟨rfl, k, _, hk, _⟩ | ⟨hc, j, k, hne, hj, hk⟩
    · refine .inr (.inl ⟨rfl, p.length, rfl, hN, fun j hj => ?_⟩)
      rcases (bg_snoc s p x j).1 hj with h' | ⟨h', _⟩
      · exact absurd h' (h0 j)
      · exact h'
    · have := bg_lt hk
      exact .inr (.inr ⟨by omega, k, p.length, by omega, (bg_snoc _ _ _ _).2 (.inl hk), hN⟩)
    · exact .inr (.inr ⟨by omega, j, k, hne, (bg_snoc _ _ _ _).2 (.inl hj), (bg_snoc _ _ _ _).2 (.inl hk)⟩)
theorem go_means (s : ByteArray) : ∀ (r p : List ByteArray) (f : Int) (c : Nat), Inv s p f c → Means s (p ++ r) (go s p.length f c r) := by
  intro r
  induction r with
  | nil =>
    intro p f c h
    rw [List.append_nil]
    refine .inr ⟨h.1, ?_⟩
    unfold go
    rcases h.2 with ⟨rfl, h0⟩ | ⟨rfl, k, rfl, hk, hu⟩ | ⟨hc, hm⟩
    · exact .inl ⟨rfl, .inl h0⟩
    · exact .inr ⟨k, rfl, hk, hu⟩
    · rw [if_neg (by omega)]
      exact .inl ⟨rfl, .inr hm⟩
  | cons x r ih =>
    intro p f c h
    unfold go
    by_cases ho : one s x = true
    · rw [if_pos ho]
      refine .inl ⟨p.length, rfl, ⟨x, by simp, ho⟩, fun j hj hx => h.1 j ((ex_left hj).1 hx)⟩
    · rw [if_neg ho]
      have e : p ++ x :: r = (p ++ [x]) ++ r := by simp
      have el : p.length + 1 = (p ++ [x]).length := by simp
      by_cases hb : beg x s = true
      · rw [if_pos hb, e, el]
        exact ih _ _ _ (inv_yes h x ho hb)
      · rw [if_neg hb, e, el]
        exact ih _ _ _ (inv_no h x ho hb)
theorem pick_means (s : ByteArray) (l : List ByteArray) (h : s.size ≠ 0) : Means s l (pick s l) := by
  unfold pick
  rw [if_neg h]
  exact go_means s l [] _ _ (inv_nil s)
theorem means_unique {s : ByteArray} {l : List ByteArray} {v v' : Int} (h : Means s l v) (h' : Means s l v') : v = v' := by
  rcases h with ⟨k, rfl, hk, hm⟩ | ⟨hn, h⟩
  · rcases h' with ⟨k', rfl, hk', hm'⟩ | ⟨hn', _⟩
    · rcases Nat.lt_trichotomy k k' with hl | hl | hl
      · exact absurd hk (hm' k hl)
      · rw [hl]
      · exact absurd hk' (hm k' hl)
    · exact absurd hk (hn' k)
  · rcases h' with ⟨k', rfl, hk', hm'⟩ | ⟨_, h'⟩
    · exact absurd hk' (hn k')
    · rcases h with ⟨rfl, h⟩ | ⟨k, rfl, hk, hu⟩
      · rcases h' with ⟨rfl, _⟩ | ⟨k, rfl, hk, hu⟩
        · rfl
        · rcases h with h | ⟨i, j, hne, hi, hj⟩
          · exact absurd hk (h k)
          · exact absurd ((hu i hi).trans (hu j hj).symm) hne
      · rcases h' with ⟨rfl, h⟩ | ⟨k', rfl, hk', hu'⟩
        · rcases h with h | ⟨i, j, hne, hi, hj⟩
          · exact absurd hk (h k)
          · exact absurd ((hu i hi).trans (hu j hj).symm) hne
        · rw [hu k' hk']
theorem pick_eq {s : ByteArray} {l : List ByteArray} {v : Int} (h0 : s.size ≠ 0) (h : Means s l v) : pick s l = v := means_unique (pick_means s l h0) h
theorem pick_place (s : ByteArray) (l : List ByteArray) : pick s l = -1 ∨ (s.size ≠ 0 ∧ ∃ k : Nat, pick s l = k ∧ k < l.length ∧ Bg s l k) := by
  by_cases h0 : s.size = 0
  · left; unfold pick; rw [if_pos h0]
  · rcases pick_means s l h0 with ⟨k, hv, hk, _⟩ | ⟨_, ⟨hv, _⟩ | ⟨k, hv, hk, _⟩⟩
    · exact .inr ⟨h0, k, hv, bg_lt (ex_bg hk), ex_bg hk⟩
    · exact .inl hv
    · exact .inr ⟨h0, k, hv, bg_lt hk, hk⟩
theorem lo_take (x : ByteArray) (n : Nat) : lo (x.extract 0 n) = (lo x).take n := by
  simp [lo, ByteArray.data_extract, List.map_take]
theorem take_size (x : ByteArray) (n : Nat) (h : n ≤ x.size) : (x.extract 0 n).size = n := by
  have := congrArg List.length (lo_take x n)
  rw [lo_len, List.length_take, lo_len] at this
  omega
theorem one_take {x s : ByteArray} (_h : s.size ≤ x.size) : one (x.extract 0 s.size) s = beg x s := by
  have hp : (one (x.extract 0 s.size) s = true) ↔ beg x s = true := by
    unfold one
    rw [decide_eq_true_eq, beg_pre, lo_take, List.prefix_iff_eq_take, lo_len]
    exact eq_comm
  cases hb : beg x s with
  | true => exact hp.2 hb
  | false =>
    cases ho : one (x.extract 0 s.size) s with
    | false => rfl
    | true => rw [hp.1 ho] at hb; cases hb
theorem pre_total {a b c : List UInt8} (h1 : a <+: c) (h2 : b <+: c) (h : a.length ≤ b.length) : a <+: b := List.prefix_of_prefix_length_le h1 h2 h
/-- With a letter more of the one that is meant a word means the same. -/
theorem pick_longer {s x : ByteArray} {l : List ByteArray} {k : Nat} (h0 : s.size ≠ 0) (h : pick s l = k) (hx : l[k]? = some x) (hs : s.size < x.size) : pick (x.extract 0 (s.size + 1)) l = k := by
  have hz := take_size x (s.size + 1) (by omega)
  have hM := pick_means s l h0
  rw [h] at hM
  have hbx : beg x s = true := by
    rcases pick_place s l with h' | ⟨_, k', h', _, y, hy, hb⟩
    · rw [h] at h'; exact absurd h' (by omega)
    · rw [h] at h'
      obtain rfl : k = k' := by omega
      rw [hx] at hy
      injection hy with hy
      rw [hy]; exact hb
  have hu : ∀ j, Bg s l j → j = k := by
    rcases hM with ⟨k', hv, ⟨y, hy, ho⟩, _⟩ | ⟨_, ⟨hv, _⟩ | ⟨k', hv, _, hu⟩⟩
    · exfalso
      obtain rfl : k = k' := by omega
      rw [hx] at hy
      injection hy with hy
      have := ((one_iff s y).1 ho).1
      rw [hy] at hs
      omega
    · exact absurd hv (by omega)
    · obtain rfl : k = k' := by omega
      exact hu
  have hsub : lo s <+: lo (x.extract 0 (s.size + 1)) := by
    refine pre_total ((beg_pre _ _).1 hbx) ?_ (by rw [lo_len, lo_len, hz]; omega)
    rw [lo_take]; exact List.take_prefix _ _
  have hB : ∀ j, Bg (x.extract 0 (s.size + 1)) l j → j = k := by
    rintro j ⟨y, hy, hb⟩
    exact hu j ⟨y, hy, (beg_pre _ _).2 (hsub.trans ((beg_pre _ _).1 hb))⟩
  have hk : Bg (x.extract 0 (s.size + 1)) l k := ⟨x, hx, (beg_pre _ _).2 (by rw [lo_take]; exact List.take_prefix _ _)⟩
  refine pick_eq (by rw [hz]; omega) ?_
  by_cases he : Ex (x.extract 0 (s.size + 1)) l k
  · exact .inl ⟨k, rfl, he, fun j hj hxj => by have := hB j (ex_bg hxj); omega⟩
  · exact .inr ⟨fun j hj => he (by have := hB j (ex_bg hj); rwa [this] at hj), .inr ⟨k, rfl, hk, hB⟩⟩
/-- With a name more that does not begin so a word means the same. -/
theorem pick_more {s m : ByteArray} {l : List ByteArray} {k : Nat} (h0 : s.size ≠ 0) (h : pick s l = k) (hm : beg m s = false) : pick s (l ++ [m]) = k := by
  have hno : ¬ beg m s = true := by rw [hm]; exact Bool.false_ne_true
  have hnx : ¬ one s m = true := fun ho => hno (beg_of_one ho)
  have hE : ∀ j, Ex s (l ++ [m]) j ↔ Ex s l j := fun j => by rw [ex_snoc]; exact ⟨fun h => h.elim id fun ⟨_, e⟩ => absurd e hnx, .inl⟩
  have hB : ∀ j, Bg s (l ++ [m]) j ↔ Bg s l j := fun j => by rw [bg_snoc]; exact ⟨fun h => h.elim id fun ⟨_, e⟩ => absurd e hno, .inl⟩
  have hM := pick_means s l h0
  rw [h] at hM
  refine pick_eq h0 ?_
  unfold Means at hM ⊢
  simp only [hE, hB]
  exact hM
end Wd
end Go.Proofs.YtgcgmmdfmcapiaaGreatDoor
