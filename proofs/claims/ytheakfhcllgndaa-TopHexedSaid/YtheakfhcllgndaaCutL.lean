/- Plain lists of bytes: how a line is cut into its fields (chapter 4), and that what was joined is cut again. -/
import Derived.Test.YtheakfhcllgndaaJoin
namespace Go.Proofs.Ytheakfhcllgndaa
/-- What cutting a line answers: the fields, each with its column; or a column, and why. -/
abbrev CRes := Sum (List (List UInt8 × Nat)) (Nat × Nat)
/-- Where a line is gone through: between fields; in one, with its text so far and where it began; in quotes, and where they began. -/
abbrev CSt := Option (List UInt8 × Nat × Option Nat)
def cutL : List UInt8 → CSt → List (List UInt8 × Nat) → Nat → CRes
  | [], none, fs, _ => .inl fs
  | [], some (t, b, none), fs, _ => .inl (fs ++ [(t, b + 1)])
  | [], some (_, _, some q), _, _ => .inr (q + 1, 5)
  | c :: r, none, fs, i => if knd c = 1 then cutL r none fs (i + 1) else if knd c = 2 then .inr (i + 1, 4) else if knd c = 4 then .inl fs else if fs.length = 24 then .inr (i + 1, 6) else if knd c = 0 then cutL r (some ([c], i, none)) fs (i + 1) else cutL r (some ([], i, some i)) fs (i + 1)
  | c :: r, some (t, b, none), fs, i => if knd c = 0 then cutL r (some ((t ++ [c]), b, none)) fs (i + 1) else if knd c = 3 then cutL r (some (t, b, some i)) fs (i + 1) else if knd c = 1 then cutL r none (fs ++ [(t, b + 1)]) (i + 1) else if knd c = 2 then .inr (i + 1, 4) else .inl (fs ++ [(t, b + 1)])
  | c :: r, some (t, b, some q), fs, i => if knd c = 2 then .inr (i + 1, 4) else if knd c = 3 then cutL r (some (t, b, none)) fs (i + 1) else cutL r (some ((t ++ [c]), b, some q)) fs (i + 1)
/-- The texts of fields. -/
def texts (r : CRes) : Option (List (List UInt8)) := match r with
  | .inl fs => some (fs.map (·.1))
  | .inr _ => none
theorem knd_kinds (c : UInt8) : knd c = 0 ∨ knd c = 1 ∨ knd c = 2 ∨ knd c = 3 ∨ knd c = 4 := by
  rcases knd_cases c with ⟨h, _⟩ | ⟨h, _⟩ | ⟨h, _⟩ | ⟨h, _⟩ | ⟨h, _⟩ <;> omega
theorem okc_kinds {c : UInt8} (h : okc c = true) : knd c ≠ 2 ∧ knd c ≠ 3 := by
  unfold okc at h
  simpa using h
theorem wantq_no {c : UInt8} (h : wantq c = false) : knd c ≠ 1 ∧ knd c ≠ 4 := by
  unfold wantq at h
  simpa using h
/-- A text that needs no quotes is one field's. -/
theorem cut_plain (s r : List UInt8) : ∀ (t : List UInt8) (b i : Nat) (fs : List (List UInt8 × Nat)), (∀ c ∈ s, knd c = 0) → cutL (s ++ r) (some (t, b, none)) fs i = cutL r (some ((t ++ s), b, none)) fs (i + s.length) := by
  induction s with
  | nil => intro t b i fs _; simp
  | cons c s ih =>
    intro t b i fs h
    rw [List.cons_append]
    conv => lhs; unfold cutL
    rw [if_pos (h c (by simp)), ih _ _ _ _ (fun x hx => h x (by simp [hx]))]
    simp only [List.append_assoc, List.singleton_append, List.length_cons]
    congr 1
    omega
/-- What is within quotes is one field's. -/
theorem cut_quo (s r : List UInt8) : ∀ (t : List UInt8) (b q i : Nat) (fs : List (List UInt8 × Nat)), (∀ c ∈ s, okc c = true) → cutL (s ++ 34 :: r) (some (t, b, some q)) fs i = cutL r (some ((t ++ s), b, none)) fs (i + s.length + 1) := by
  induction s with
  | nil =>
    intro t b q i fs _
    rw [List.nil_append, List.append_nil]
    conv => lhs; unfold cutL
    rw [if_neg (by decide), if_pos (by decide)]
    rfl
  | cons c s ih =>
    intro t b q i fs h
    obtain ⟨h2, h3⟩ := okc_kinds (h c (by simp))
    rw [List.cons_append]
    conv => lhs; unfold cutL
    rw [if_neg h2, if_neg h3, ih _ _ _ _ _ (fun x hx => h x (by simp [hx]))]
    simp only [List.append_assoc, List.singleton_append, List.length_cons]
    congr 1
    omega
/-- A text as it may stand in a line is one field's. -/
theorem cut_qt (s r : List UInt8) (i : Nat) (fs : List (List UInt8 × Nat)) (hs : ∀ c ∈ s, okc c = true) (hf : fs.length < 24) : ∃ i', cutL (qt s ++ r) none fs i = cutL r (some (s, i, none)) fs i' := by
  unfold qt
  split
  · refine ⟨i + 1 + s.length + 1, ?_⟩
    rw [List.cons_append]
    conv => lhs; unfold cutL
    rw [if_neg (by decide), if_neg (by decide), if_neg (by decide), if_neg (by omega), if_neg (by decide), List.append_assoc]
    show cutL (s ++ 34 :: r) (some ([], i, some i)) fs (i + 1) = _
    rw [cut_quo s r _ _ _ _ _ hs]
    rfl
  · rename_i hq
    rw [Bool.not_eq_true, Bool.or_eq_false_iff] at hq
    obtain ⟨he, ha⟩ := hq
    have hk : ∀ c ∈ s, knd c = 0 := fun c hc => by
      have h1 := okc_kinds (hs c hc)
      have h2 : wantq c = false := by
        rw [List.any_eq_false] at ha
        simpa using ha c hc
      have h3 := wantq_no h2
      rcases knd_kinds c with h | h | h | h | h <;> omega
    cases s with
    | nil => cases he
    | cons c s =>
      refine ⟨i + 1 + s.length, ?_⟩
      have h0 := hk c (by simp)
      rw [List.cons_append]
      conv => lhs; unfold cutL
      rw [if_neg (by omega), if_neg (by omega), if_neg (by omega), if_neg (by omega), if_pos h0, cut_plain s r _ _ _ _ (fun x hx => hk x (by simp [hx]))]
      rfl
theorem cut_joined : ∀ (l : List (List UInt8)) (s : List UInt8) (b i : Nat) (fs : List (List UInt8 × Nat)), (∀ x ∈ l, ∀ c ∈ x, okc c = true) → fs.length + 1 + l.length ≤ 24 →
    texts (cutL (Lib.joinTail [32] (l.map qt)) (some (s, b, none)) fs i) = some (fs.map (·.1) ++ s :: l) := by
  intro l
  induction l with
  | nil =>
    intro s b i fs _ _
    show texts (cutL [] (some (s, b, none)) fs i) = _
    unfold cutL
    simp [texts]
  | cons x l ih =>
    intro s b i fs h hn
    have e : Lib.joinTail [32] ((x :: l).map qt) = 32 :: (qt x ++ Lib.joinTail [32] (l.map qt)) := rfl
    rw [e]
    conv => lhs; unfold cutL
    rw [if_neg (by decide), if_neg (by decide), if_pos (by decide)]
    simp only [List.length_cons] at hn
    obtain ⟨i', he⟩ := cut_qt x (Lib.joinTail [32] (l.map qt)) (i + 1) (fs ++ [(s, b + 1)]) (h x (by simp)) (by simp; omega)
    rw [he, ih x _ _ _ (fun y hy => h y (by simp [hy])) (by simp; omega)]
    simp
/-- The fields of what was joined are those that were joined. -/
theorem cut_line (l : List (List UInt8)) (h : ∀ x ∈ l, x.all okc = true) (hn : l.length ≤ 24) : texts (cutL (lineOf l) none [] 0) = some l := by
  have h' : ∀ x ∈ l, ∀ c ∈ x, okc c = true := fun x hx c hc => List.all_eq_true.1 (h x hx) c hc
  cases l with
  | nil => rfl
  | cons x l =>
    unfold lineOf
    rw [List.map_cons, Lib.join_cons]
    obtain ⟨i', he⟩ := cut_qt x (Lib.joinTail [32] (l.map qt)) 0 [] (h' x (by simp)) (by simp)
    rw [he, cut_joined l x _ _ _ (fun y hy => h' y (by simp [hy])) (by simp at hn ⊢; omega)]
    rfl
end Go.Proofs.Ytheakfhcllgndaa
