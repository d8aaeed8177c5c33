/- Two texts, one behind the other: what is read of both; what is wrong with a text has a line and a column. No walk. -/
import Derived.Test.YtkcbmnboccjnnaaGreatDoorPt
namespace Go.Proofs.YtkcbmnboccjnnaaGreatDoor
open Go.RowKit
/-- Lines with numbers further on. -/
def Ln.up (n : Nat) (ls : List LnD) : List LnD := ls.map fun x => (x.1 + n, x.2)
theorem run_up (n : Nat) : ∀ (ls : List LnD) (s : St), So.run s (Ln.up n ls) = match So.run s ls with
    | .inl s' => .inl s'
    | .inr f => .inr (f.1 + n, f.2)
  | [], s => rfl
  | l :: ls, s => by
    show So.run s ((l.1 + n, l.2) :: Ln.up n ls) = _
    cases hr : So.rd s l.texts with
    | inr p =>
      have hr2 : So.rd s (LnD.texts (l.1 + n, l.2)) = .inr p := hr
      rw [run_wrong hr, run_wrong hr2]
      rfl
    | inl s' =>
      have hr2 : So.rd s (LnD.texts (l.1 + n, l.2)) = .inl s' := hr
      rw [run_on hr, run_on hr2]
      exact run_up n ls s'
theorem up_flds (n : Nat) (ls : List LnD) : So.flds (Ln.up n ls) = So.flds ls := by
  unfold So.flds Ln.up
  rw [List.map_map]
  rfl
theorem zero_behind {s : St} (h : s.cur = none) : St.zero.behind s.src = s := by
  obtain ⟨a, b, c, d⟩ := s
  simp only at h
  subst h
  simp [St.behind, St.zero, St.src]
theorem prs_both {a b : List UInt8} {x : Src} (h : So.prs a = .inl x) (hl : a.length + b.length ≤ 8192) : So.prs (a ++ 10 :: b) = match So.prs b with
    | .inl y => .inl (x.with y)
    | .inr f => .inr (f.1 + (Ln.lfs a + 1), f.2) := by
  obtain ⟨_, ls, s, hs, hr, hc, rfl⟩ := prs_inl h
  obtain ⟨_, _, _, hw⟩ := sprs_right h
  unfold So.prs
  rw [if_neg (by rw [List.length_append, List.length_cons]; omega), if_neg (by omega), lcut_both, lscan_both, hs, lcut_len, Nat.add_comm 1 (Ln.lfs a + 1), Nat.add_comm (Ln.lfs a + 1) 1, lscan_on]
  generalize Ln.lfs a + 1 = n
  cases hb : Ln.scan 1 (Ln.cut b) with
  | inr f => rfl
  | inl lb =>
    show So.done (ls ++ Ln.up n lb) (So.run St.zero (ls ++ Ln.up n lb)) = match So.done lb (So.run St.zero lb) with
      | .inl y => .inl (s.src.with y)
      | .inr f => .inr (f.1 + n, f.2)
    have hf := scan_flds _ _ _ hb
    rw [lcut_size] at hf
    have hbe := run_behind s.src hw (N := b.length + 1) (by omega) (Ln.up n lb) St.zero (by rw [up_flds]; show 0 + _ ≤ _; omega)
    rw [zero_behind hc, run_up n lb St.zero] at hbe
    rw [run_both, hr]
    show So.done _ (So.run s (Ln.up n lb)) = _
    rw [hbe]
    cases hz : So.run St.zero lb with
    | inr f => rfl
    | inl y =>
      show So.done (ls ++ Ln.up n lb) (.inl (y.behind s.src)) = match So.done lb (.inl y) with
        | .inl y => .inl (s.src.with y)
        | .inr f => .inr (f.1 + n, f.2)
      unfold So.done
      have e : (y.behind s.src).cur = y.cur := rfl
      simp only [e]
      cases hy : y.cur with
      | none => rfl
      | some z =>
        simp only
        have hne : lb ≠ [] := by
          rintro rfl
          injection hz with hz
          subst hz
          cases hy
        have h1 : (ls ++ Ln.up n lb).getLast? = (Ln.up n lb).getLast? := by
          rw [List.getLast?_append]
          cases hq : (Ln.up n lb).getLast? with
          | none =>
            rw [List.getLast?_eq_none_iff] at hq
            unfold Ln.up at hq
            exact absurd (List.map_eq_nil_iff.1 hq) hne
          | some q => rfl
        have h2 : (Ln.up n lb).getLast? = lb.getLast?.map fun x => (x.1 + n, x.2) := by
          unfold Ln.up
          rw [List.getLast?_map]
        rw [h1, h2]
        cases hq : lb.getLast? with
        | none => exact absurd (List.getLast?_eq_none_iff.1 hq) hne
        | some q => rfl
/-- What is wrong with the texts of a line has a reason. -/
theorem rd_why {s : St} {L : List ByteArray} {p : Nat × Int} (h : So.rd s L = .inr p) : p.2 ≠ 0 := by
  unfold So.rd at h
  cases hc : s.cur with
  | some z =>
    rw [hc] at h
    have h : So.eraL s z L = .inr p := h
    unfold So.eraL at h
    split at h
    · injection h with h; subst h; simp
    · split at h
      · rename_i h2
        injection h with h; subst h; exact h2
      · cases h
  | none =>
    rw [hc] at h
    have h : So.first s L = .inr p := h
    unfold So.first at h
    split at h
    · unfold So.rule at h
      split at h
      · injection h with h; subst h; simp
      · split at h
        · rename_i h2
          injection h with h; subst h; exact h2
        · cases h
    · split at h
      · unfold So.zoneL at h
        split at h
        · injection h with h; subst h; simp
        · split at h
          · injection h with h; subst h; simp
          · split at h
            · rename_i h2
              injection h with h; subst h; exact h2
            · split at h
              · cases h
              · injection h with h; subst h; simp
      · split at h
        · unfold So.linkL at h
          split at h
          · injection h with h; subst h; simp
          · split at h
            · injection h with h; subst h; simp
            · split at h
              · injection h with h; subst h; simp
              · split at h
                · injection h with h; subst h; simp
                · split at h
                  · injection h with h; subst h; simp
                  · cases h
        · injection h with h; subst h; simp
/-- What holds of each line that has fields. -/
structure LnD.ok (l : LnD) : Prop where
  no : 1 ≤ l.1
  some_ : l.2 ≠ []
  cols : ∀ f ∈ l.2, 1 ≤ f.2
theorem scan_lines : ∀ (ls : List (List UInt8)) (i : Nat), 1 ≤ i → match Ln.scan i ls with
    | .inl r => ∀ l ∈ r, LnD.ok l
    | .inr f => 1 ≤ f.1 ∧ 1 ≤ f.2.1 ∧ f.2.2 ≠ 0
  | [], i, _ => fun _ h => by cases h
  | l :: ls, i, hi => by
    have ih := scan_lines ls (i + 1) (by omega)
    have hc := fld_cols l
    cases hf : Ln.fld l with
    | inr p =>
      rw [hf] at hc
      rw [lscan_wrong hf]
      exact ⟨hi, hc.1, hc.2⟩
    | inl fs =>
      rw [hf] at hc
      by_cases hn : fs = []
      · subst hn
        rw [lscan_none hf]
        exact ih
      · rw [lscan_some hf hn]
        cases hs : Ln.scan (i + 1) ls with
        | inr f =>
          rw [hs] at ih
          exact ih
        | inl r =>
          rw [hs] at ih
          show ∀ x ∈ [(i, fs)] ++ r, LnD.ok x
          intro x hx
          rcases List.mem_append.1 hx with hx | hx
          · obtain rfl : x = (i, fs) := by simpa using hx
            exact ⟨hi, hn, hc⟩
          · exact ih x hx
theorem col_ok {l : LnD} (h : l.ok) (k : Nat) : 1 ≤ l.col k := by
  have h0 : 0 < l.2.length := List.length_pos_iff.2 h.some_
  unfold LnD.col
  rw [List.getD_eq_getElem?_getD, List.getElem?_eq_getElem (by omega)]
  exact h.cols _ (List.getElem_mem _)
theorem run_fault : ∀ (ls : List LnD) (s : St) (f : Nat × Nat × Int), So.run s ls = .inr f → (∀ l ∈ ls, l.ok) → 1 ≤ f.1 ∧ 1 ≤ f.2.1 ∧ f.2.2 ≠ 0
  | [], s, f, h, _ => by cases h
  | l :: ls, s, f, h, hl => by
    cases hr : So.rd s l.texts with
    | inr p =>
      rw [run_wrong hr] at h
      injection h with h
      subst h
      exact ⟨(hl l (by simp)).no, col_ok (hl l (by simp)) _, rd_why (p := p) hr⟩
    | inl s' =>
      rw [run_on hr] at h
      exact run_fault ls s' f h (fun x hx => hl x (by simp [hx]))
/-- What is wrong with a text has a line, a column, and a reason. -/
theorem prs_fault {l : List UInt8} {f : Nat × Nat × Int} (h : So.prs l = .inr f) (hl : l.length ≤ 1048576) : 1 ≤ f.1 ∧ 1 ≤ f.2.1 ∧ f.2.2 ≠ 0 := by
  unfold So.prs at h
  rw [if_neg (by omega)] at h
  have hs := scan_lines (Ln.cut l) 1 (by omega)
  cases hq : Ln.scan 1 (Ln.cut l) with
  | inr g =>
    rw [hq] at h hs
    injection h with h
    subst h
    exact ⟨hs.1, hs.2.1, by show ((g.2.2 : Nat) : Int) ≠ 0; have := hs.2.2; omega⟩
  | inl ls =>
    rw [hq] at h hs
    have h : So.done ls (So.run St.zero ls) = .inr f := h
    cases hr : So.run St.zero ls with
    | inr g =>
      rw [hr] at h
      injection h with h
      subst h
      exact run_fault _ _ _ hr hs
    | inl s =>
      rw [hr] at h
      unfold So.done at h
      cases hc : s.cur with
      | none => simp only [hc] at h; cases h
      | some z =>
        simp only [hc] at h
        injection h with h
        subst h
        have hne : ls ≠ [] := by
          rintro rfl
          injection hr with hr
          subst hr
          cases hc
        cases hg : ls.getLast? with
        | none => exact absurd (List.getLast?_eq_none_iff.1 hg) hne
        | some q =>
          have hq := hs q (List.mem_of_getLast? hg)
          exact ⟨hq.no, col_ok hq 0, by show (5 : Int) ≠ 0; decide⟩
end Go.Proofs.YtkcbmnboccjnnaaGreatDoor
