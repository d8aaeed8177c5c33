/- Texts cut at line feeds, and what is read of their lines, as lists. No walk. -/
import Derived.Test.YtkcbmnboccjnnaaGreatDoorMg
import Derived.Lib.Split
namespace Go.Proofs.YtkcbmnboccjnnaaGreatDoor
open Go.RowKit
/-- A text cut at its line feeds. -/
def Ln.cut : List UInt8 → List (List UInt8)
  | [] => [[]]
  | c :: r => if c = 10 then [] :: Ln.cut r else match Ln.cut r with
    | [] => [[c]]
    | x :: l => (c :: x) :: l
theorem lcut_ne : ∀ l, Ln.cut l ≠ []
  | [] => by simp [Ln.cut]
  | c :: r => by
    unfold Ln.cut
    split
    · simp
    · split <;> simp
theorem lcut_lf (r : List UInt8) : Ln.cut (10 :: r) = [] :: Ln.cut r := by
  rw [Ln.cut, if_pos rfl]
theorem lcut_other {c : UInt8} (h : c ≠ 10) {r x : List UInt8} {l : List (List UInt8)} (e : Ln.cut r = x :: l) : Ln.cut (c :: r) = (c :: x) :: l := by
  rw [Ln.cut, if_neg h, e]
theorem lcut_form (r : List UInt8) : ∃ x l, Ln.cut r = x :: l := by
  cases h : Ln.cut r with
  | nil => exact absurd h (lcut_ne r)
  | cons x l => exact ⟨x, l, rfl⟩
/-- A line, a line feed, and what is behind it. -/
theorem lcut_line : ∀ (a r : List UInt8), (∀ c ∈ a, c ≠ 10) → Ln.cut (a ++ 10 :: r) = a :: Ln.cut r
  | [], r, _ => lcut_lf r
  | c :: a, r, h => by
    have ih := lcut_line a r (fun x hx => h x (by simp [hx]))
    rw [List.cons_append, lcut_other (h c (by simp)) ih]
theorem lcut_plain : ∀ (a : List UInt8), (∀ c ∈ a, c ≠ 10) → Ln.cut a = [a]
  | [], _ => rfl
  | c :: a, h => by
    have ih := lcut_plain a (fun x hx => h x (by simp [hx]))
    rw [lcut_other (h c (by simp)) ih]
/-- Two texts, one behind the other. -/
theorem lcut_both (b : List UInt8) : ∀ a, Ln.cut (a ++ 10 :: b) = Ln.cut a ++ Ln.cut b
  | [] => by rw [List.nil_append, lcut_lf]; rfl
  | c :: a => by
    have ih := lcut_both b a
    by_cases hc : c = 10
    · subst hc
      rw [List.cons_append, lcut_lf, lcut_lf, ih]
      rfl
    · obtain ⟨x, l, e⟩ := lcut_form a
      rw [e, List.cons_append] at ih
      rw [List.cons_append, lcut_other hc ih, lcut_other hc e]
      rfl
/-- How long the lines are. -/
def Ln.size (l : List (List UInt8)) : Nat := (l.map fun x => x.length + 1).sum
theorem lcut_size : ∀ l, Ln.size (Ln.cut l) = l.length + 1
  | [] => rfl
  | c :: r => by
    have ih := lcut_size r
    by_cases hc : c = 10
    · subst hc
      rw [lcut_lf]
      show 0 + 1 + Ln.size (Ln.cut r) = _
      rw [ih, List.length_cons]
      omega
    · obtain ⟨x, l, e⟩ := lcut_form r
      rw [lcut_other hc e]
      rw [e] at ih
      have ih : x.length + 1 + Ln.size l = r.length + 1 := ih
      show (x.length + 1) + 1 + Ln.size l = _
      rw [List.length_cons]
      omega
/-- How many line feeds there are. -/
def Ln.lfs (l : List UInt8) : Nat := (l.filter fun c => c == 10).length
theorem lcut_len : ∀ l, (Ln.cut l).length = Ln.lfs l + 1
  | [] => rfl
  | c :: r => by
    have ih := lcut_len r
    by_cases hc : c = 10
    · subst hc
      rw [lcut_lf, List.length_cons, ih]
      rfl
    · obtain ⟨x, l, e⟩ := lcut_form r
      rw [lcut_other hc e]
      rw [e] at ih
      have hn : (c == 10) = false := by simpa using hc
      show (l.length + 1) = _
      unfold Ln.lfs at *
      rw [List.filter_cons, hn]
      exact ih
theorem index_lf (r : List UInt8) : Lib.index (10 :: r) [10] = 0 := by
  unfold Lib.index
  rw [if_pos (by simp)]
theorem index_ne {c : UInt8} (h : c ≠ 10) (r : List UInt8) : Lib.index (c :: r) [10] = if Lib.index r [10] = -1 then -1 else Lib.index r [10] + 1 := by
  conv => lhs; unfold Lib.index
  rw [if_neg (by simpa using fun e => h e.symm)]
  by_cases hi : Lib.index r [10] = -1
  · rw [if_pos hi, if_pos (by rw [hi]; rfl)]
  · rw [if_neg hi, if_neg (by simpa using hi)]
/-- What the library's cutting says. -/
theorem split_lf : ∀ l, Lib.splitK [10] 0 (Lib.count l [10]) l = Ln.cut l
  | [] => rfl
  | c :: r => by
    have ih := split_lf r
    by_cases hc : c = 10
    · subst hc
      rw [lcut_lf, Lib.count_hit (i := 0) (by simp) (index_lf r), Nat.add_comm, Lib.splitK, if_neg (by rw [index_lf]; decide), index_lf]
      show [] :: Lib.splitK [10] 0 (Lib.count r [10]) r = _
      rw [ih]
    · by_cases hi : Lib.index r [10] = -1
      · rw [Lib.count_miss hi] at ih
        have ih : [r] = Ln.cut r := ih
        rw [lcut_other hc ih.symm, Lib.count_miss (by rw [index_ne hc, if_pos hi])]
        rfl
      · have hge := Lib.index_ge r [10]
        obtain ⟨i, hi2⟩ : ∃ i : Nat, Lib.index r [10] = i := ⟨(Lib.index r [10]).toNat, by omega⟩
        have hi3 : Lib.index (c :: r) [10] = ((i + 1 : Nat) : Int) := by
          rw [index_ne hc, if_neg hi, hi2]
          omega
        rw [Lib.count_hit (i := i) (by simp) hi2, Nat.add_comm, Lib.splitK, if_neg (by rw [hi2]; simp), hi2] at ih
        rw [lcut_other hc ih.symm, Lib.count_hit (i := i + 1) (by simp) hi3, Nat.add_comm, Lib.splitK, if_neg (by rw [hi3]; simp; omega), hi3]
        show (c :: r).take ((((i + 1 : Nat) : Int)).toNat + 0) :: _ = _
        rw [show (((i + 1 : Nat) : Int)).toNat + 0 = i + 1 by omega, show ((((i + 1 : Nat) : Int)).toNat + List.length [(10 : UInt8)]) = (i + 1) + 1 by simp, show (((i : Nat) : Int)).toNat + 0 = i by omega, show (((i : Nat) : Int).toNat + List.length [(10 : UInt8)]) = i + 1 by simp]
        show (c :: r.take i) :: Lib.splitK [10] 0 (Lib.count ((c :: r).drop (i + 1 + 1)) [10]) ((c :: r).drop (i + 1 + 1)) = _
        rw [List.drop_succ_cons]
        rfl
/-- The fields of a line, or the column of what is not right, and why. -/
def Ln.fld (l : List UInt8) : CRes := if 2048 < l.length then .inr (2049, 6) else cutL l none [] 0
abbrev LRes := Sum (List (Nat × List (List UInt8 × Nat))) (Nat × Nat × Nat)
/-- The lines that have fields, from a number on; or the number of the first one that is not right, the column, and why. -/
def Ln.scan : Nat → List (List UInt8) → LRes
  | _, [] => .inl []
  | i, l :: ls => match Ln.fld l with
    | .inr p => .inr (i, p.1, p.2)
    | .inl fs => match Ln.scan (i + 1) ls with
      | .inr f => .inr f
      | .inl r => .inl (if fs = [] then r else (i, fs) :: r)
def Ln.join (a : List (Nat × List (List UInt8 × Nat))) : LRes → LRes
  | .inl r => .inl (a ++ r)
  | .inr f => .inr f
theorem ljoin_nil (r : LRes) : Ln.join [] r = r := by cases r <;> rfl
theorem ljoin_join (a b : List (Nat × List (List UInt8 × Nat))) (r : LRes) : Ln.join a (Ln.join b r) = Ln.join (a ++ b) r := by
  cases r with
  | inl r => show Sum.inl _ = Sum.inl _; rw [List.append_assoc]
  | inr f => rfl
theorem lscan_wrong {i : Nat} {l : List UInt8} {ls : List (List UInt8)} {p : Nat × Nat} (h : Ln.fld l = .inr p) : Ln.scan i (l :: ls) = .inr (i, p.1, p.2) := by
  rw [Ln.scan, h]
theorem lscan_none {i : Nat} {l : List UInt8} {ls : List (List UInt8)} (h : Ln.fld l = .inl []) : Ln.scan i (l :: ls) = Ln.scan (i + 1) ls := by
  rw [Ln.scan, h]
  cases Ln.scan (i + 1) ls <;> rfl
theorem lscan_some {i : Nat} {l : List UInt8} {ls : List (List UInt8)} {fs : List (List UInt8 × Nat)} (h : Ln.fld l = .inl fs) (hn : fs ≠ []) : Ln.scan i (l :: ls) = Ln.join [(i, fs)] (Ln.scan (i + 1) ls) := by
  rw [Ln.scan, h]
  cases Ln.scan (i + 1) ls with
  | inl r => show Sum.inl (if fs = [] then r else (i, fs) :: r) = _; rw [if_neg hn]; rfl
  | inr f => rfl
/-- Lines one behind the other. -/
theorem lscan_both : ∀ (a b : List (List UInt8)) (i : Nat), Ln.scan i (a ++ b) = match Ln.scan i a with
    | .inl r => Ln.join r (Ln.scan (i + a.length) b)
    | .inr f => .inr f
  | [], b, i => (ljoin_nil _).symm
  | l :: a, b, i => by
    have ih := lscan_both a b (i + 1)
    rw [List.cons_append]
    have e : i + (l :: a).length = i + 1 + a.length := by rw [List.length_cons]; omega
    rw [e]
    cases h : Ln.fld l with
    | inr p => rw [lscan_wrong h, lscan_wrong h]
    | inl fs =>
      by_cases hn : fs = []
      · subst hn
        rw [lscan_none h, lscan_none h, ih]
      · rw [lscan_some h hn, lscan_some h hn, ih]
        cases Ln.scan (i + 1) a with
        | inr f => rfl
        | inl r => exact ljoin_join _ _ _
/-- Numbers further on. -/
def Ln.on (n : Nat) : LRes → LRes
  | .inl r => .inl (r.map fun x => (x.1 + n, x.2))
  | .inr f => .inr (f.1 + n, f.2)
theorem lscan_on (n : Nat) : ∀ (a : List (List UInt8)) (i : Nat), Ln.scan (i + n) a = Ln.on n (Ln.scan i a)
  | [], i => rfl
  | l :: a, i => by
    have ih := lscan_on n a (i + 1)
    rw [show i + 1 + n = i + n + 1 by omega] at ih
    cases h : Ln.fld l with
    | inr p => rw [lscan_wrong h, lscan_wrong h]; rfl
    | inl fs =>
      by_cases hn : fs = []
      · subst hn
        rw [lscan_none h, lscan_none h, ih]
      · rw [lscan_some h hn, lscan_some h hn, ih]
        cases Ln.scan (i + 1) a <;> rfl
/-- How many fields a line has at most. -/
theorem cut_few : ∀ (l : List UInt8) (st : CSt) (fs : List (List UInt8 × Nat)) (i : Nat) (r : List (List UInt8 × Nat)), cutL l st fs i = .inl r → 2 * r.length ≤ 2 * fs.length + l.length + (if st = none then 1 else 2)
  | [], none, fs, i, r, h => by
    unfold cutL at h
    injection h with h
    subst h
    simp
  | [], some (t, b, none), fs, i, r, h => by
    unfold cutL at h
    injection h with h
    subst h
    simp
    omega
  | [], some (t, b, some q), fs, i, r, h => by
    unfold cutL at h
    cases h
  | c :: l, none, fs, i, r, h => by
    unfold cutL at h
    rw [if_pos rfl, List.length_cons]
    split at h
    · have := cut_few l _ _ _ _ h
      rw [if_pos rfl] at this
      omega
    · split at h
      · cases h
      · split at h
        · injection h with h
          subst h
          omega
        · split at h
          · cases h
          · split at h
            · have := cut_few l _ _ _ _ h
              rw [if_neg (by simp)] at this
              omega
            · have := cut_few l _ _ _ _ h
              rw [if_neg (by simp)] at this
              omega
  | c :: l, some (t, b, none), fs, i, r, h => by
    unfold cutL at h
    rw [if_neg (by simp), List.length_cons]
    split at h
    · have := cut_few l _ _ _ _ h
      rw [if_neg (by simp)] at this
      omega
    · split at h
      · have := cut_few l _ _ _ _ h
        rw [if_neg (by simp)] at this
        omega
      · split at h
        · have := cut_few l _ _ _ _ h
          rw [if_pos rfl, List.length_append] at this
          simp at this
          omega
        · split at h
          · cases h
          · injection h with h
            subst h
            simp
            omega
  | c :: l, some (t, b, some q), fs, i, r, h => by
    unfold cutL at h
    rw [if_neg (by simp), List.length_cons]
    split at h
    · cases h
    · split at h
      · have := cut_few l _ _ _ _ h
        rw [if_neg (by simp)] at this
        omega
      · have := cut_few l _ _ _ _ h
        rw [if_neg (by simp)] at this
        omega
theorem fld_few {l : List UInt8} {fs : List (List UInt8 × Nat)} (h : Ln.fld l = .inl fs) : 2 * fs.length ≤ l.length + 1 := by
  unfold Ln.fld at h
  split at h
  · cases h
  · have := cut_few _ _ _ _ _ h
    rw [if_pos rfl] at this
    simpa using this
/-- What is wrong with a line has a column, and a reason; each field has a column. -/
def colsOk : CRes → Prop
  | .inl r => ∀ f ∈ r, 1 ≤ f.2
  | .inr p => 1 ≤ p.1 ∧ p.2 ≠ 0
theorem colsOk_inr (a b : Nat) (h : b ≠ 0) : colsOk (.inr (a + 1, b)) := ⟨Nat.le_add_left _ _, h⟩
theorem cut_cols : ∀ (l : List UInt8) (st : CSt) (fs : List (List UInt8 × Nat)) (i : Nat), (∀ f ∈ fs, 1 ≤ f.2) → colsOk (cutL l st fs i)
  | [], none, fs, i, h => by
    unfold cutL
    exact h
  | [], some (t, b, none), fs, i, h => by
    unfold cutL
    intro f hf
    rcases List.mem_append.1 hf with hf | hf
    · exact h f hf
    · obtain rfl : f = (t, b + 1) := by simpa using hf
      exact Nat.le_add_left 1 b
  | [], some (t, b, some q), fs, i, h => by
    unfold cutL
    exact colsOk_inr _ _ (by decide)
  | c :: l, none, fs, i, h => by
    unfold cutL
    split
    · exact cut_cols l _ _ _ h
    · split
      · exact colsOk_inr _ _ (by decide)
      · split
        · exact h
        · split
          · exact colsOk_inr _ _ (by decide)
          · split
            · exact cut_cols l _ _ _ h
            · exact cut_cols l _ _ _ h
  | c :: l, some (t, b, none), fs, i, h => by
    have h2 : ∀ f ∈ fs ++ [(t, b + 1)], 1 ≤ f.2 := by
      intro f hf
      rcases List.mem_append.1 hf with hf | hf
      · exact h f hf
      · obtain rfl : f = (t, b + 1) := by simpa using hf
        exact Nat.le_add_left 1 b
    unfold cutL
    split
    · exact cut_cols l _ _ _ h
    · split
      · exact cut_cols l _ _ _ h
      · split
        · exact cut_cols l _ _ _ h2
        · split
          · exact colsOk_inr _ _ (by decide)
          · exact h2
  | c :: l, some (t, b, some q), fs, i, h => by
    unfold cutL
    split
    · exact colsOk_inr _ _ (by decide)
    · split
      · exact cut_cols l _ _ _ h
      · exact cut_cols l _ _ _ h
theorem fld_cols (l : List UInt8) : colsOk (Ln.fld l) := by
  unfold Ln.fld
  split
  · exact colsOk_inr 2048 6 (by decide)
  · exact cut_cols l none [] 0 (fun _ h => by cases h)
end Go.Proofs.YtkcbmnboccjnnaaGreatDoor
