/- Formats, letters and offsets of package abbr as lists of bytes. No program. -/
import Derived.Lib.IndexMore
import Derived.Lib.Hide
namespace Go.Proofs.YtgcgmmdfmcapiaaDoor
open Go.RowKit
theorem index_split : ∀ (s sub : List UInt8), 0 ≤ Lib.index s sub → s = s.take (Lib.index s sub).toNat ++ sub ++ s.drop ((Lib.index s sub).toNat + sub.length)
  | [], sub, h => by
    unfold Lib.index at *
    split at h
    · rename_i hp
      rw [if_pos hp]
      simp only [List.isEmpty_iff] at hp
      simp [hp]
    · omega
  | c :: s, sub, h => by
    unfold Lib.index at *
    split at h
    · rename_i hp
      rw [if_pos hp]
      obtain ⟨t, ht⟩ := List.isPrefixOf_iff_prefix.1 hp
      rw [← ht]
      simp
    · rename_i hp
      rw [if_neg hp]
      split at h
      · omega
      · rename_i hn
        rw [if_neg hn]
        have hge := Lib.index_ge s sub
        have hne : Lib.index s sub ≠ -1 := by simpa using hn
        have ih := index_split s sub (by omega)
        have e : (Lib.index s sub + 1).toNat = (Lib.index s sub).toNat + 1 := by omega
        rw [e]
        simp only [List.take_succ_cons, List.cons_append, List.cons.injEq, true_and]
        rw [show (Lib.index s sub).toNat + 1 + sub.length = ((Lib.index s sub).toNat + sub.length) + 1 by omega, List.drop_succ_cons]
        exact ih
theorem index_without {s sub : List UInt8} {c : UInt8} {t : List UInt8} (hs : sub = c :: t) (h : ∀ x ∈ s, x ≠ c) : Lib.index s sub = -1 := by
  apply Lib.index_none
  intro j _
  cases ho : Lib.occAt s sub j with
  | false => rfl
  | true =>
    have h1 := Lib.occAt_head hs ho
    exact absurd rfl (h c (List.mem_of_getElem? h1))
namespace Fm
def isd (c : UInt8) : Bool := decide (48 ≤ c.toNat ∧ c.toNat ≤ 57)
def sg (c : UInt8) : Bool := decide ((97 ≤ c.toNat ∧ c.toNat ≤ 122) ∨ (65 ≤ c.toNat ∧ c.toNat ≤ 90) ∨ (48 ≤ c.toNat ∧ c.toNat ≤ 57) ∨ c.toNat = 43 ∨ c.toNat = 45)
def sgs (l : List UInt8) : Bool := l.all sg
/-- What the mark of a format stands for, what is ahead of it, what behind. -/
def cutF (l : List UInt8) : Nat × List UInt8 × List UInt8 :=
  if (Lib.cut l [37, 115]).2.2 = true then (0, (Lib.cut l [37, 115]).1, (Lib.cut l [37, 115]).2.1)
  else if (Lib.cut l [37, 122]).2.2 = true then (1, (Lib.cut l [37, 122]).1, (Lib.cut l [37, 122]).2.1)
  else if (Lib.cut l [47]).2.2 = true then (2, (Lib.cut l [47]).1, (Lib.cut l [47]).2.1) else (3, l, [])
def fits (m : Nat) (a b : List UInt8) : Bool := !(m == 2 && (a.isEmpty || b.isEmpty)) && (sgs a && sgs b)
/-- A format is right. -/
def fmt (l : List UInt8) : Bool := decide (1 ≤ l.length ∧ l.length ≤ 32) && fits (cutF l).1 (cutF l).2.1 (cutF l).2.2
/-- A letter is right. -/
def ltr (l : List UInt8) : Bool := decide (l.length ≤ 32) && (!(l == [45]) && sgs l)
theorem sg_37 : sg 37 = false := by decide
theorem sg_47 : sg 47 = false := by decide
theorem sgs_ne {l : List UInt8} {c : UInt8} (h : sgs l = true) (hc : sg c = false) : ∀ x ∈ l, x ≠ c := by
  intro x hx e
  subst e
  have := List.all_eq_true.1 h x hx
  rw [hc] at this
  cases this
theorem cut_join {l sep : List UInt8} (h : (Lib.cut l sep).2.2 = true) : l = (Lib.cut l sep).1 ++ sep ++ (Lib.cut l sep).2.1 := by
  unfold Lib.cut at *
  split at h
  · rename_i hi
    rw [if_pos hi]
    exact index_split l sep hi
  · cases h
theorem cut_none {l sep : List UInt8} {c : UInt8} {t : List UInt8} (hs : sep = c :: t) (h : ∀ x ∈ l, x ≠ c) : Lib.cut l sep = (l, [], false) := by
  unfold Lib.cut
  rw [index_without hs h, if_neg (by omega)]
/-- How a format lies. -/
theorem cutF_cases (l : List UInt8) : ∃ m a b, cutF l = (m, a, b) ∧ ((m = 0 ∧ l = a ++ [37, 115] ++ b) ∨ (m = 1 ∧ l = a ++ [37, 122] ++ b) ∨ (m = 2 ∧ l = a ++ [47] ++ b) ∨ (m = 3 ∧ l = a ∧ b = [])) := by
  unfold cutF
  by_cases h1 : (Lib.cut l [37, 115]).2.2 = true
  · rw [if_pos h1]
    exact ⟨_, _, _, rfl, .inl ⟨rfl, cut_join h1⟩⟩
  · rw [if_neg h1]
    by_cases h2 : (Lib.cut l [37, 122]).2.2 = true
    · rw [if_pos h2]
      exact ⟨_, _, _, rfl, .inr (.inl ⟨rfl, cut_join h2⟩)⟩
    · rw [if_neg h2]
      by_cases h3 : (Lib.cut l [47]).2.2 = true
      · rw [if_pos h3]
        exact ⟨_, _, _, rfl, .inr (.inr (.inl ⟨rfl, cut_join h3⟩))⟩
      · rw [if_neg h3]
        exact ⟨_, _, _, rfl, .inr (.inr (.inr ⟨rfl, rfl, rfl⟩))⟩
theorem cutF_signs {l : List UInt8} (h : sgs l = true) : cutF l = (3, l, []) := by
  unfold cutF
  rw [cut_none rfl (sgs_ne h sg_37), cut_none rfl (sgs_ne h sg_37), cut_none rfl (sgs_ne h sg_47)]
  rfl
theorem fmt_signs {l : List UInt8} (h : sgs l = true) (h1 : 1 ≤ l.length) (h2 : l.length ≤ 32) : fmt l = true := by
  unfold fmt fits
  rw [cutF_signs h]
  simp [h1, h2, h, sgs]
  exact List.all_eq_true.1 h
def hasP (l : List UInt8) : Bool := l.any fun c => c == 37
def hasS (l : List UInt8) : Bool := l.any fun c => c == 47
theorem no_37 {l : List UInt8} (h : sgs l = true) : hasP l = false := by
  unfold hasP
  rw [List.any_eq_false]
  intro x hx
  have := sgs_ne h sg_37 x hx
  simpa using this
theorem no_47 {l : List UInt8} (h : sgs l = true) : hasS l = false := by
  unfold hasS
  rw [List.any_eq_false]
  intro x hx
  have := sgs_ne h sg_47 x hx
  simpa using this
theorem fits_signs {m : Nat} {a b : List UInt8} (h : fits m a b = true) : sgs a = true ∧ sgs b = true ∧ (m = 2 → a ≠ [] ∧ b ≠ []) := by
  unfold fits at h
  simp only [Bool.and_eq_true, Bool.not_eq_true', Bool.and_eq_false_iff, Bool.or_eq_false_iff, beq_eq_false_iff_ne, List.isEmpty_eq_false_iff] at h
  refine ⟨h.2.1, h.2.2, fun hm => ?_⟩
  rcases h.1 with h1 | h1
  · exact absurd hm h1
  · exact h1
/-- What a right format is. -/
theorem fmt_cases {l : List UInt8} (h : fmt l = true) : 1 ≤ l.length ∧ l.length ≤ 32 ∧ ∃ m a b, cutF l = (m, a, b) ∧ sgs a = true ∧ sgs b = true ∧
    ((m = 0 ∧ l = a ++ [37, 115] ++ b ∧ hasP l = true) ∨ (m = 1 ∧ l = a ++ [37, 122] ++ b ∧ hasP l = true) ∨ (m = 2 ∧ l = a ++ [47] ++ b ∧ hasP l = false ∧ hasS l = true) ∨ (m = 3 ∧ l = a ∧ b = [] ∧ hasP l = false ∧ hasS l = false)) := by
  unfold fmt at h
  rw [Bool.and_eq_true, decide_eq_true_eq] at h
  obtain ⟨⟨h1, h2⟩, h3⟩ := h
  obtain ⟨m, a, b, hc, hw⟩ := cutF_cases l
  rw [hc] at h3
  obtain ⟨ha, hb, _⟩ := fits_signs h3
  refine ⟨h1, h2, m, a, b, hc, ha, hb, ?_⟩
  rcases hw with ⟨rfl, e⟩ | ⟨rfl, e⟩ | ⟨rfl, e⟩ | ⟨rfl, e, e2⟩
  · exact .inl ⟨rfl, e, by rw [e]; simp [hasP]⟩
  · exact .inr (.inl ⟨rfl, e, by rw [e]; simp [hasP]⟩)
  · have pa := no_37 ha
    have pb := no_37 hb
    refine .inr (.inr (.inl ⟨rfl, e, ?_, by rw [e]; simp [hasS]⟩))
    rw [e]
    unfold hasP at *
    rw [List.any_append, List.any_append, pa, pb]
    rfl
  · subst e
    exact .inr (.inr (.inr ⟨rfl, rfl, e2, no_37 ha, no_47 ha⟩))
end Fm
end Go.Proofs.YtgcgmmdfmcapiaaDoor
