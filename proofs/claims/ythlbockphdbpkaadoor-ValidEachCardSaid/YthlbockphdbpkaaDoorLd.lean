/- Where names lead: names, places, ends. No walk. -/
import Derived.Test.YthlbockphdbpkaaDoorSd0
namespace Go.Proofs.YthlbockphdbpkaaDoor
open Go.RowKit
/-- Where a name stands first. -/
def Ld.ix (x : ByteArray) : List ByteArray → Nat
  | [] => 0
  | y :: l => if y = x then 0 else Ld.ix x l + 1
def Ld.inb (x : ByteArray) (l : List ByteArray) : Bool := l.any fun y => decide (y = x)
theorem inb_iff {x : ByteArray} {l : List ByteArray} : Ld.inb x l = true ↔ x ∈ l := by
  unfold Ld.inb
  rw [List.any_eq_true]
  exact ⟨fun ⟨y, hy, e⟩ => of_decide_eq_true e ▸ hy, fun h => ⟨x, h, decide_eq_true rfl⟩⟩
theorem inb_no {x : ByteArray} {l : List ByteArray} : Ld.inb x l = false ↔ x ∉ l := by
  rw [← inb_iff]
  simp
theorem ix_le (x : ByteArray) : ∀ l : List ByteArray, Ld.ix x l ≤ l.length
  | [] => Nat.le_refl _
  | y :: l => by
    unfold Ld.ix
    by_cases h : y = x
    · rw [if_pos h]; exact Nat.zero_le _
    · rw [if_neg h]; exact Nat.succ_le_succ (ix_le x l)
theorem ix_at {x : ByteArray} : ∀ {l : List ByteArray}, x ∈ l → l[Ld.ix x l]? = some x
  | y :: l, h => by
    unfold Ld.ix
    by_cases e : y = x
    · rw [if_pos e, e]; rfl
    · rw [if_neg e]
      rw [List.getElem?_cons_succ]
      exact ix_at ((List.mem_cons.1 h).resolve_left (fun h' => e h'.symm))
theorem ix_lt {x : ByteArray} {l : List ByteArray} (h : x ∈ l) : Ld.ix x l < l.length := (List.getElem?_eq_some_iff.1 (ix_at h)).1
theorem ix_le_of {x : ByteArray} : ∀ {l : List ByteArray} {i : Nat}, l[i]? = some x → Ld.ix x l ≤ i
  | y :: l, 0, h => by
    unfold Ld.ix
    rw [if_pos (by simpa using h)]
    exact Nat.le_refl _
  | y :: l, i + 1, h => by
    unfold Ld.ix
    by_cases e : y = x
    · rw [if_pos e]; exact Nat.zero_le _
    · rw [if_neg e]; exact Nat.succ_le_succ (ix_le_of (by simpa using h))
  | [], i, h => by simp at h
theorem ix_append_in {x : ByteArray} {b : List ByteArray} : ∀ {a : List ByteArray}, x ∈ a → Ld.ix x (a ++ b) = Ld.ix x a
  | y :: l, h => by
    rw [List.cons_append]
    unfold Ld.ix
    by_cases e : y = x
    · rw [if_pos e, if_pos e]
    · rw [if_neg e, if_neg e, ix_append_in ((List.mem_cons.1 h).resolve_left (fun h' => e h'.symm))]
theorem ix_append_out {x : ByteArray} {b : List ByteArray} : ∀ {a : List ByteArray}, x ∉ a → Ld.ix x (a ++ b) = a.length + Ld.ix x b
  | [], _ => by simp
  | y :: l, h => by
    rw [List.cons_append]
    rw [Ld.ix, if_neg (fun e => h (List.mem_cons.2 (.inl e.symm))), ix_append_out (fun h' => h (List.mem_cons.2 (.inr h'))), List.length_cons]
    omega
/-- The target of the first link of a name. -/
def Ld.look (x : ByteArray) : List Lk → Option ByteArray
  | [] => none
  | k :: l => if k.nm = x then some k.tg else Ld.look x l
/-- The name to which a name leads at once. -/
def Ld.nx (Z : List ByteArray) (K : List Lk) (x : ByteArray) : Option ByteArray := if Ld.inb x Z then none else Ld.look x K
def Ld.st (Z : List ByteArray) (K : List Lk) (x : ByteArray) : ByteArray := (Ld.nx Z K x).getD x
/-- The name to which a name leads in n steps. -/
def Ld.it (Z : List ByteArray) (K : List Lk) : Nat → ByteArray → ByteArray
  | 0, x => x
  | n + 1, x => Ld.st Z K (Ld.it Z K n x)
theorem it_add (Z : List ByteArray) (K : List Lk) (x : ByteArray) (b : Nat) : ∀ a, Ld.it Z K (a + b) x = Ld.it Z K a (Ld.it Z K b x)
  | 0 => by rw [Nat.zero_add]; rfl
  | a + 1 => by
    rw [show a + 1 + b = (a + b) + 1 by omega]
    show Ld.st Z K (Ld.it Z K (a + b) x) = Ld.st Z K (Ld.it Z K a (Ld.it Z K b x))
    rw [it_add Z K x b a]
theorem it_one (Z : List ByteArray) (K : List Lk) (x : ByteArray) : Ld.it Z K 1 x = Ld.st Z K x := rfl
theorem it_succ' (Z : List ByteArray) (K : List Lk) (x : ByteArray) (n : Nat) : Ld.it Z K (n + 1) x = Ld.it Z K n (Ld.st Z K x) := it_add Z K x 1 n
theorem st_none {Z : List ByteArray} {K : List Lk} {x : ByteArray} (h : Ld.nx Z K x = none) : Ld.st Z K x = x := by unfold Ld.st; rw [h]; rfl
theorem st_some {Z : List ByteArray} {K : List Lk} {x y : ByteArray} (h : Ld.nx Z K x = some y) : Ld.st Z K x = y := by unfold Ld.st; rw [h]; rfl
theorem it_stuck {Z : List ByteArray} {K : List Lk} {x : ByteArray} (h : Ld.nx Z K x = none) : ∀ n, Ld.it Z K n x = x
  | 0 => rfl
  | n + 1 => by
    show Ld.st Z K (Ld.it Z K n x) = x
    rw [it_stuck h n, st_none h]
/-- Two ends of one way are one. -/
theorem it_end {Z : List ByteArray} {K : List Lk} {x : ByteArray} {n m : Nat} (h : Ld.nx Z K (Ld.it Z K n x) = none) (h' : Ld.nx Z K (Ld.it Z K m x) = none) : Ld.it Z K n x = Ld.it Z K m x := by
  rcases Nat.le_total n m with hl | hl
  · obtain ⟨d, rfl⟩ := Nat.exists_eq_add_of_le hl
    rw [Nat.add_comm n d, it_add, it_stuck h]
  · obtain ⟨d, rfl⟩ := Nat.exists_eq_add_of_le hl
    rw [Nat.add_comm m d, it_add, it_stuck h']
open Classical in
/-- Where a name leads: the place of a zone, and why there is none. -/
noncomputable def Ld.zn (Z : List ByteArray) (K : List Lk) (x : ByteArray) : Nat × Int :=
  if h : ∃ n, Ld.nx Z K (Ld.it Z K n x) = none then
    (if Ld.inb (Ld.it Z K (Classical.choose h) x) Z then (Ld.ix (Ld.it Z K (Classical.choose h) x) Z, 0) else (0, 3))
  else (0, 9)
theorem zn_end {Z : List ByteArray} {K : List Lk} {x y : ByteArray} {n : Nat} (hn : Ld.it Z K n x = y) (h : Ld.nx Z K y = none) : Ld.zn Z K x = if Ld.inb y Z then (Ld.ix y Z, 0) else (0, 3) := by
  have he : ∃ n, Ld.nx Z K (Ld.it Z K n x) = none := ⟨n, by rw [hn]; exact h⟩
  unfold Ld.zn
  rw [dif_pos he]
  rw [it_end (Classical.choose_spec he) (m := n) (by rw [hn]; exact h), hn]
theorem zn_round {Z : List ByteArray} {K : List Lk} {x : ByteArray} (h : ∀ n, Ld.nx Z K (Ld.it Z K n x) ≠ none) : Ld.zn Z K x = (0, 9) := by
  unfold Ld.zn
  rw [dif_neg (fun he => by obtain ⟨n, hn⟩ := he; exact h n hn)]
theorem zn_cases (Z : List ByteArray) (K : List Lk) (x : ByteArray) : (∃ n y, Ld.it Z K n x = y ∧ Ld.nx Z K y = none) ∨ ∀ n, Ld.nx Z K (Ld.it Z K n x) ≠ none := by
  by_cases h : ∃ n, Ld.nx Z K (Ld.it Z K n x) = none
  · obtain ⟨n, hn⟩ := h
    exact .inl ⟨n, _, rfl, hn⟩
  · exact .inr fun n hn => h ⟨n, hn⟩
theorem zn_step (Z : List ByteArray) (K : List Lk) (x : ByteArray) : Ld.zn Z K (Ld.st Z K x) = Ld.zn Z K x := by
  rcases zn_cases Z K x with ⟨n, y, hn, hy⟩ | h
  · rw [zn_end hn hy, zn_end (n := n) (y := y) (by
      rw [← it_succ']
      show Ld.st Z K (Ld.it Z K n x) = y
      rw [hn, st_none hy]) hy]
  · rw [zn_round h, zn_round (fun n => by rw [← it_succ']; exact h (n + 1))]
theorem zn_it (Z : List ByteArray) (K : List Lk) (x : ByteArray) : ∀ n, Ld.zn Z K (Ld.it Z K n x) = Ld.zn Z K x
  | 0 => rfl
  | n + 1 => (zn_step Z K _).trans (zn_it Z K x n)
theorem zn_why (Z : List ByteArray) (K : List Lk) (x : ByteArray) : (Ld.zn Z K x).2 = 0 ∨ Ld.zn Z K x = (0, 3) ∨ Ld.zn Z K x = (0, 9) := by
  rcases zn_cases Z K x with ⟨n, y, hn, hy⟩ | h
  · rw [zn_end hn hy]
    by_cases hz : Ld.inb y Z = true
    · rw [if_pos hz]; exact .inl rfl
    · rw [if_neg hz]; exact .inr (.inl rfl)
  · exact .inr (.inr (zn_round h))
theorem zn_lt {Z : List ByteArray} {K : List Lk} {x : ByteArray} (h : (Ld.zn Z K x).2 = 0) : ∃ n y, Ld.it Z K n x = y ∧ Ld.nx Z K y = none ∧ y ∈ Z ∧ (Ld.zn Z K x).1 = Ld.ix y Z := by
  rcases zn_cases Z K x with ⟨n, y, hn, hy⟩ | hr
  · rw [zn_end hn hy] at h ⊢
    by_cases hz : Ld.inb y Z = true
    · rw [if_pos hz]; exact ⟨n, y, hn, hy, inb_iff.1 hz, rfl⟩
    · rw [if_neg hz] at h; exact absurd h (by decide)
  · rw [zn_round hr] at h; exact absurd h (by decide)
theorem zn_small {Z : List ByteArray} {K : List Lk} {x : ByteArray} : (Ld.zn Z K x).1 ≤ Z.length := by
  rcases zn_why Z K x with h | h | h
  · obtain ⟨n, y, _, _, hz, e⟩ := zn_lt h
    rw [e]
    exact ix_le _ _
  · rw [h]; exact Nat.zero_le _
  · rw [h]; exact Nat.zero_le _
/-- What comes again goes round. -/
theorem it_again {Z : List ByteArray} {K : List Lk} {x : ByteArray} {k : Nat} (h : Ld.it Z K (k + 1) x = x) : ∀ n, Ld.it Z K ((k + 1) * n) x = x
  | 0 => rfl
  | n + 1 => by
    rw [Nat.mul_succ, Nat.add_comm, it_add, it_again h n, h]
theorem zn_again {Z : List ByteArray} {K : List Lk} {x : ByteArray} {k : Nat} (h : Ld.it Z K (k + 1) x = x) (hx : Ld.nx Z K x ≠ none) : Ld.zn Z K x = (0, 9) :=
  zn_round fun n hn => by
    have h1 := it_again h n
    rw [Nat.succ_mul, it_add, it_again' h hn n] at h1
    exact hx (h1 ▸ hn)
where it_again' {Z : List ByteArray} {K : List Lk} {x : ByteArray} {k : Nat} (_ : Ld.it Z K (k + 1) x = x) {n : Nat} (hn : Ld.nx Z K (Ld.it Z K n x) = none) (_ : Nat) : Ld.it Z K (k * n) (Ld.it Z K n x) = Ld.it Z K n x := it_stuck hn _
end Go.Proofs.YthlbockphdbpkaaDoor
