/- Plain lists of bytes: what a time's text is, and what a text tells, as the document says it. Imports nothing of the program. -/
import Derived.Lib.ItoaNum
import Derived.Lib.Split
namespace Go.Proofs.YtgcgmmdfmcapiaaGreatDoor
namespace Txt
def isD (c : UInt8) : Bool := decide (48 ≤ c.toNat) && decide (c.toNat ≤ 57)
def val (l : List UInt8) : Int := l.foldl (fun n c => 10 * n + ((c.toNat : Int) - 48)) 0
def okDig (l : List UInt8) (least most : Nat) : Bool := decide (least ≤ l.length) && decide (l.length ≤ most) && l.all isD
/-- What a piece tells: the hours (idx 0), or the minutes or seconds. -/
def piece (idx : Nat) (l : List UInt8) : Option Int :=
  if idx = 0 then (if okDig l 1 3 then some (val l) else none) else (if okDig l 2 2 && decide (val l < 60) then some (val l) else none)
theorem val_nil : val [] = 0 := rfl
theorem val_snoc (l : List UInt8) (c : UInt8) : val (l ++ [c]) = 10 * val l + ((c.toNat : Int) - 48) := by unfold val; rw [List.foldl_append]; rfl
theorem val_bd (l : List UInt8) (h : l.all isD = true) : 0 ≤ val l ∧ val l < 10 ^ l.length := by
  have key : ∀ (l : List UInt8) (a : Int) (k : Nat), 0 ≤ a → a < 10 ^ k → l.all isD = true → 0 ≤ l.foldl (fun n c => 10 * n + ((c.toNat : Int) - 48)) a ∧ l.foldl (fun n c => 10 * n + ((c.toNat : Int) - 48)) a < 10 ^ (k + l.length) := by
    intro l
    induction l with
    | nil => intro a k h0 h1 _; exact ⟨h0, h1⟩
    | cons c r ih =>
      intro a k h0 h1 h
      simp only [List.all_cons, Bool.and_eq_true] at h
      have hc := h.1
      unfold isD at hc
      simp only [Bool.and_eq_true, decide_eq_true_eq] at hc
      have := ih (10 * a + ((c.toNat : Int) - 48)) (k + 1) (by omega) (by rw [Int.pow_succ]; omega) h.2
      rw [List.foldl_cons, List.length_cons, show k + (r.length + 1) = k + 1 + r.length by omega]
      exact this
  have := key l 0 0 (by omega) (by decide) h
  rw [Nat.zero_add] at this
  exact this
/-- What pieces tell, from the one numbered idx on, the first of which begins with p. -/
def G (idx : Nat) (p : List UInt8) : List UInt8 → Option (List Int)
  | [] => (piece idx p).map fun v => [v]
  | c :: r => if c = 58 then (if 2 ≤ idx then none else (piece idx p).bind fun v => (G (idx + 1) [] r).map fun vs => v :: vs) else G idx (p ++ [c]) r
theorem piece_none (idx : Nat) (l : List UInt8) (h : l.all isD = false ∨ 3 < l.length) : piece idx l = none := by
  unfold piece okDig
  rcases h with h | h
  · simp [h]
  · have h1 : decide (l.length ≤ 3) = false := by simp; omega
    have h2 : decide (l.length ≤ 2) = false := by simp; omega
    simp [h1, h2]
theorem G_none (s : List UInt8) : ∀ (idx : Nat) (p : List UInt8), (p.all isD = false ∨ 3 < p.length) → G idx p s = none := by
  induction s with
  | nil => intro idx p h; unfold G; rw [piece_none idx p h]; rfl
  | cons c r ih =>
    intro idx p h
    unfold G
    split
    · split
      · rfl
      · rw [piece_none idx p h]; rfl
    · refine ih _ _ ?_
      rcases h with h | h
      · left; simp [h]
      · right; simp; omega
theorem isD_58 : isD 58 = false := by decide
/-- The document's own way: a byte at a time. -/
def R (l : List Int) (n : Int) (d : Nat) : List UInt8 → Option (List Int)
  | [] => if d < 1 ∨ 3 < d ∨ (0 < l.length ∧ (d ≠ 2 ∨ 60 ≤ n)) ∨ l.length = 3 then none else some (l ++ [n])
  | c :: r => if c = 58 then (if d < 1 ∨ 3 < d ∨ (0 < l.length ∧ (d ≠ 2 ∨ 60 ≤ n)) ∨ l.length = 3 then none else R (l ++ [n]) 0 0 r)
      else if c.toNat < 48 ∨ 57 < c.toNat ∨ d = 3 then none else R l (10 * n + ((c.toNat : Int) - 48)) (d + 1) r
theorem piece_some (idx : Nat) (p : List UInt8) (h : p.all isD = true) :
    piece idx p = if p.length < 1 ∨ 3 < p.length ∨ (0 < idx ∧ (p.length ≠ 2 ∨ 60 ≤ val p)) then none else some (val p) := by
  unfold piece okDig
  rw [h]
  by_cases h0 : idx = 0
  · subst h0
    simp only [Bool.and_true, Bool.and_eq_true, decide_eq_true_eq, if_true]
    by_cases hl : 1 ≤ p.length ∧ p.length ≤ 3
    · rw [if_pos hl, if_neg (by omega)]
    · rw [if_neg hl, if_pos (by omega)]
  · rw [if_neg h0]
    simp only [Bool.and_true, Bool.and_eq_true, decide_eq_true_eq]
    by_cases hl : (2 ≤ p.length ∧ p.length ≤ 2) ∧ val p < 60
    · rw [if_pos hl, if_neg (by omega)]
    · rw [if_neg hl, if_pos (by omega)]
theorem R_three (s : List UInt8) : ∀ (l : List Int) (n : Int) (d : Nat), l.length = 3 → R l n d s = none := by
  induction s with
  | nil => intro l n d h; unfold R; rw [if_pos (by omega)]
  | cons c r ih =>
    intro l n d h
    unfold R
    split
    · rw [if_pos (by omega)]
    · split
      · rfl
      · exact ih _ _ _ h
theorem R_eq (s : List UInt8) : ∀ (l : List Int) (p : List UInt8), p.all isD = true → p.length ≤ 3 → l.length ≤ 2 → R l (val p) p.length s = (G l.length p s).map fun vs => l ++ vs := by
  induction s with
  | nil =>
    intro l p hp h3 hl
    unfold R G
    rw [piece_some l.length p hp]
    by_cases hc : p.length < 1 ∨ 3 < p.length ∨ (0 < l.length ∧ (p.length ≠ 2 ∨ 60 ≤ val p))
    · rw [if_pos (by omega), if_pos hc]; rfl
    · rw [if_neg (by omega), if_neg hc]; rfl
  | cons c r ih =>
    intro l p hp h3 hl
    unfold R G
    by_cases hc : c = 58
    · rw [if_pos hc, if_pos hc, piece_some l.length p hp]
      by_cases hb : p.length < 1 ∨ 3 < p.length ∨ (0 < l.length ∧ (p.length ≠ 2 ∨ 60 ≤ val p))
      · rw [if_pos (by omega), if_pos hb]
        split <;> rfl
      · rw [if_neg (by omega), if_neg hb]
        by_cases h2 : 2 ≤ l.length
        · rw [if_pos h2, R_three _ _ _ _ (by simp; omega)]; rfl
        · rw [if_neg h2]
          have := ih (l ++ [val p]) [] rfl (by simp) (by simp; omega)
          rw [val_nil, List.length_nil] at this
          rw [this]
          simp only [List.length_append, List.length_cons, List.length_nil, Nat.zero_add, Option.bind_some, Option.map_map]
          congr 1
          funext vs
          simp
    · rw [if_neg hc, if_neg hc]
      by_cases hd : c.toNat < 48 ∨ 57 < c.toNat
      · rw [if_pos (by omega), G_none]
        · rfl
        · left
          have : isD c = false := by unfold isD; rw [Bool.and_eq_false_iff]; simp; omega
          simp [this]
      · by_cases h4 : p.length = 3
        · rw [if_pos (by omega), G_none]
          · rfl
          · right; simp; omega
        · rw [if_neg (by omega)]
          have hD : isD c = true := by unfold isD; simp; omega
          have := ih l (p ++ [c]) (by simp [hp, hD]) (by simp; omega) hl
          rw [val_snoc] at this
          simp only [List.length_append, List.length_cons, List.length_nil, Nat.zero_add] at this
          exact this
/-- The program's way: pieces, the last of which is not cut. -/
def Q (idx : Nat) : List (List UInt8) → Option (List Int)
  | [] => some []
  | p :: ps => (piece idx p).bind fun v => (Q (idx + 1) ps).map fun vs => v :: vs
theorem G_append (a : List UInt8) (b : List UInt8) : ∀ (idx : Nat) (p : List UInt8), (∀ c ∈ a, c ≠ 58) → G idx p (a ++ b) = G idx (p ++ a) b := by
  induction a with
  | nil => intro idx p _; simp
  | cons c r ih =>
    intro idx p h
    rw [List.cons_append]
    conv => lhs; unfold G
    rw [if_neg (h c (by simp)), ih idx (p ++ [c]) (fun x hx => h x (by simp [hx]))]
    simp
theorem G_plain (a : List UInt8) (idx : Nat) (h : ∀ c ∈ a, c ≠ 58) : G idx [] a = (piece idx a).map fun v => [v] := by
  have := G_append a [] idx [] h
  rw [List.append_nil, List.nil_append] at this
  rw [this]
  rfl
theorem all_false (a b : List UInt8) : (a ++ 58 :: b).all isD = false := by
  rw [List.all_append, List.all_cons, isD_58]
  simp
theorem Q_cut (a b : List UInt8) (idx : Nat) (h : ∀ c ∈ a, c ≠ 58) (hi : idx < 2) : G idx [] (a ++ 58 :: b) = (piece idx a).bind fun v => (G (idx + 1) [] b).map fun vs => v :: vs := by
  rw [G_append a _ idx [] h, List.nil_append]
  conv => lhs; unfold G
  rw [if_pos rfl, if_neg (by omega)]
theorem Q_last (a b : List UInt8) (idx : Nat) (h : ∀ c ∈ a, c ≠ 58) (hi : 2 ≤ idx) : G idx [] (a ++ 58 :: b) = none := by
  rw [G_append a _ idx [] h, List.nil_append]
  conv => lhs; unfold G
  rw [if_pos rfl, if_pos hi]
theorem index58 (s : List UInt8) : (Lib.index s [58] = -1 ∧ ∀ c ∈ s, c ≠ 58) ∨ ∃ a b, s = a ++ 58 :: b ∧ (∀ c ∈ a, c ≠ 58) ∧ Lib.index s [58] = (a.length : Int) := by
  induction s with
  | nil => left; exact ⟨rfl, by simp⟩
  | cons c r ih =>
    by_cases hc : c = 58
    · right
      subst hc
      exact ⟨[], r, rfl, by simp, by simp [Lib.index]⟩
    · have hp : ([58] : List UInt8).isPrefixOf (c :: r) = false := by
        simp [List.isPrefixOf]
        exact fun e => hc e.symm
      unfold Lib.index
      rw [hp]
      rcases ih with ⟨h1, h2⟩ | ⟨a, b, rfl, ha, h1⟩
      · left
        rw [h1]
        exact ⟨rfl, by intro x hx; rcases List.mem_cons.1 hx with rfl | hx; exact hc; exact h2 x hx⟩
      · right
        refine ⟨c :: a, b, rfl, by intro x hx; rcases List.mem_cons.1 hx with rfl | hx; exact hc; exact ha x hx, ?_⟩
        have hn : ((Lib.index (a ++ 58 :: b) [58]) == -1) = false := by rw [h1, beq_eq_false_iff_ne]; omega
        rw [hn, h1]
        simp
theorem split_miss (k : Nat) (s : List UInt8) (h : Lib.index s [58] = -1) : Lib.splitK [58] 0 k s = [s] := by
  cases k with
  | zero => rfl
  | succ k => unfold Lib.splitK; rw [h]; rfl
theorem split_hit (k : Nat) (a b : List UInt8) (h : Lib.index (a ++ 58 :: b) [58] = (a.length : Int)) : Lib.splitK [58] 0 (k + 1) (a ++ 58 :: b) = a :: Lib.splitK [58] 0 k b := by
  have hn : ((a.length : Int) == -1) = false := by rw [beq_eq_false_iff_ne]; omega
  rw [Lib.splitK, h, hn]
  have e1 : ((a.length : Int)).toNat = a.length := by omega
  rw [e1]
  simp
theorem Q_split (k : Nat) : ∀ (idx : Nat) (s : List UInt8), idx + k = 2 → Q idx (Lib.splitK [58] 0 k s) = G idx [] s := by
  induction k with
  | zero =>
    intro idx s h
    show (piece idx s).bind (fun v => (some []).map fun vs => v :: vs) = _
    rcases index58 s with ⟨_, hs⟩ | ⟨a, b, rfl, ha, _⟩
    · rw [G_plain s idx hs]
      cases piece idx s <;> rfl
    · rw [Q_last a b idx ha (by omega), piece_none idx _ (.inl (all_false a b))]
      rfl
  | succ k ih =>
    intro idx s h
    rcases index58 s with ⟨hi, hs⟩ | ⟨a, b, rfl, ha, hi⟩
    · rw [split_miss _ _ hi, G_plain s idx hs]
      show (piece idx s).bind (fun v => (some []).map fun vs => v :: vs) = _
      cases piece idx s <;> rfl
    · rw [split_hit k a b hi, Q_cut a b idx ha (by omega)]
      show (piece idx a).bind (fun v => (Q (idx + 1) (Lib.splitK [58] 0 k b)).map fun vs => v :: vs) = _
      rw [ih (idx + 1) b (by omega)]
theorem split_min (s : List UInt8) : Lib.splitK [58] 0 (min 3 (s.length + 1) - 1) s = Lib.splitK [58] 0 2 s := by
  match s with
  | [] => rfl
  | [c] =>
    show Lib.splitK [58] 0 1 [c] = Lib.splitK [58] 0 2 [c]
    rcases index58 [c] with ⟨hi, _⟩ | ⟨a, b, e, _, hi⟩
    · rw [split_miss _ _ hi, split_miss _ _ hi]
    · rw [e] at hi ⊢
      rw [split_hit 0 a b hi, split_hit 1 a b hi]
      have hb : b = [] := by
        have := congrArg List.length e
        simp at this
        exact List.eq_nil_of_length_eq_zero (by omega)
      subst hb
      rfl
  | c :: d :: r =>
    have : min 3 ((c :: d :: r).length + 1) - 1 = 2 := by simp <;> omega
    rw [this]
theorem split_len (k : Nat) (s : List UInt8) : 1 ≤ (Lib.splitK [58] 0 k s).length ∧ (Lib.splitK [58] 0 k s).length ≤ k + 1 := by
  induction k generalizing s with
  | zero => exact ⟨Nat.le_refl _, Nat.le_refl _⟩
  | succ k ih =>
    rcases index58 s with ⟨hi, _⟩ | ⟨a, b, rfl, _, hi⟩
    · rw [split_miss _ _ hi]; simp
    · rw [split_hit k a b hi]
      have := ih b
      simp only [List.length_cons]
      omega
theorem G_len (s : List UInt8) : ∀ (idx : Nat) (p : List UInt8) (vs : List Int), G idx p s = some vs → idx ≤ 2 → 1 ≤ vs.length ∧ idx + vs.length ≤ 3 := by
  induction s with
  | nil =>
    intro idx p vs h hi
    unfold G at h
    cases hp : piece idx p with
    | none => rw [hp] at h; cases h
    | some v =>
      rw [hp] at h
      cases h
      simp
      omega
  | cons c r ih =>
    intro idx p vs h hi
    unfold G at h
    split at h
    · split at h
      · cases h
      · cases hp : piece idx p with
        | none => rw [hp] at h; cases h
        | some v =>
          rw [hp] at h
          simp only [Option.bind_some] at h
          cases hg : G (idx + 1) [] r with
          | none => rw [hg] at h; cases h
          | some ws =>
            rw [hg] at h
            cases h
            have := ih (idx + 1) [] ws hg (by omega)
            simp only [List.length_cons]
            omega
    · exact ih idx _ vs h hi
end Txt
end Go.Proofs.YtgcgmmdfmcapiaaGreatDoor
