/- Plain lists: lines of digits, and what the walk of TopHexed needs of rows of strings. -/
import Derived.Test.YtheakfhcllgndaaCutA
import Derived.Test.YtheakfhcllgndaaBegins2
namespace Go.Proofs.Ytheakfhcllgndaa
open Go.RowKit
def hexs (l : List ByteArray) : List (List UInt8) := l.map fun z => Hx.hex z.data.toList
def tot : List ByteArray → Nat
  | [] => 0
  | z :: r => 3 * z.size + 3 + tot r
theorem tot_app (a b : List ByteArray) : tot (a ++ b) = tot a + tot b := by
  induction a with
  | nil => simp [tot]
  | cons x r ih => simp only [List.cons_append, tot, ih]; omega
theorem mem_tot (z : ByteArray) (l : List ByteArray) (h : z ∈ l) : z.size ≤ tot l := by
  induction l with
  | nil => cases h
  | cons y r ih =>
    rw [tot]
    rcases List.mem_cons.1 h with rfl | h
    · omega
    · have := ih h; omega
theorem knd_dg : ∀ n, n < 16 → knd (Hx.dg n) = 0 := by decide +kernel
theorem hexC_knd (l : List UInt8) : ∀ c ∈ Hx.hexC l, knd c = 0 := by
  induction l with
  | nil => intro c hc; cases hc
  | cons x r ih =>
    intro c hc
    rw [Hx.hexC_cons] at hc
    simp only [List.mem_cons] at hc
    rcases hc with rfl | rfl | rfl | hc
    · exact knd_dg _ (Hx.div16 _)
    · exact knd_dg _ (by omega)
    · decide
    · exact ih c hc
theorem hex_knd (l : List UInt8) : ∀ c ∈ Hx.hex l, knd c = 0 := fun c hc => hexC_knd l c (List.dropLast_subset _ hc)
theorem hex_ok (l : List UInt8) : (Hx.hex l).all okc = true := by
  rw [List.all_eq_true]
  intro c hc
  have := hex_knd l c hc
  unfold okc
  rw [this]
  rfl
theorem hex_any_no (l : List UInt8) : (Hx.hex l).any wantq = false := by
  rw [List.any_eq_false]
  intro c hc
  have := hex_knd l c hc
  unfold wantq
  rw [this]
  decide
theorem qt_hex_len (z : ByteArray) : (qt (Hx.hex z.data.toList)).length ≤ 3 * z.size + 2 := by
  have hs : z.data.toList.length = z.size := by simp
  have hl := Hx.hex_len z.data.toList
  unfold qt
  rw [hex_any_no, Bool.or_false]
  split
  · rename_i h
    have : Hx.hex z.data.toList = [] := by simpa using h
    rw [this]
    simp
  · omega
theorem tail_len (l : List ByteArray) : (Lib.joinTail [32] ((hexs l).map qt)).length ≤ tot l := by
  induction l with
  | nil => exact Nat.le_refl _
  | cons z r ih =>
    have e : Lib.joinTail [32] ((hexs (z :: r)).map qt) = ([32] ++ qt (Hx.hex z.data.toList)) ++ Lib.joinTail [32] ((hexs r).map qt) := rfl
    have := qt_hex_len z
    rw [e, List.length_append, List.length_append, tot]
    simp only [List.length_cons, List.length_nil]
    omega
theorem line_tot (l : List ByteArray) : (lineOf (hexs l)).length ≤ tot l := by
  cases l with
  | nil => exact Nat.zero_le _
  | cons z r =>
    have e : lineOf (hexs (z :: r)) = Lib.join (qt (Hx.hex z.data.toList) :: (hexs r).map qt) [32] := rfl
    have := qt_hex_len z
    have := tail_len r
    rw [e, Lib.join_cons, List.length_append, tot]
    omega
/-- The cells of a row of strings. -/
def scells (l : List (List UInt8)) : List Value := l.map fun s => .string ⟨s.toArray⟩
theorem scells_app (a b : List (List UInt8)) : scells (a ++ b) = scells a ++ scells b := by simp [scells]
theorem wpList_pushs {w : World} {ops : Array Oper} {rest : List Oper} {o : Oper} {a : Act} {Q : Exit → Act → World → Prop} (hgd : o.guard = none) (s x : Operand)
    (ho : o.op = .call { callee := .builtin .append, args := #[s, x], argTypes := #[45, 45] }) (base : Nat) (v : Value) (l : List (List UInt8)) (hown : w.ownsRow base 9 1 v l.length (scells l)) (hs : a.eval s = v) (g : Nat) (t : List UInt8)
    (hx : a.eval x = .slice (some ⟨g, 0, none⟩) 1 1) (hc : w.cell? ⟨g, 0, none⟩ = some (.string ⟨t.toArray⟩)) (hlen : l.length ≤ 4096) (hbase : base ≤ w.heap.size)
    (h : ∀ v' w', w'.ownsRow base 9 1 v' (l ++ [t]).length (scells (l ++ [t])) → w.grownBy w' v.ownBlock → wpList Try.prog ops Q rest (a.put o.dst v') w') : wpList Try.prog ops Q (o :: rest) a w := by
  obtain ⟨i0, hi, hz0, hz1, hz2⟩ := info_parts str_info
  refine wpList_append_own w hgd s x 45 ho base 9 i0 (.string ⟨#[]⟩) 1 16 Try.underlying45 hi hz0 hz1 hz2 rfl (by omega) v l.length (scells l) hs hown ⟨g, 0, none⟩ 1 1 [.string ⟨t.toArray⟩] hx rfl (fun j u hu => ?_) (fun u hu => ?_) (by unfold maxLen; omega) (by omega) hbase (fun v' w' h1 h2 _ => ?_)
  · match j with
    | 0 => rw [addr_add, hc]; simpa using hu
    | j + 1 => simp at hu
  · simp at hu; subst hu; rfl
  · refine h v' w' ?_ h2
    rw [scells_app, List.length_append]
    exact h1
/-- A row of the call's own, read as a slice of strings. -/
theorem sl_of_own {w : World} {base n c : Nat} {A : Option Addr} {l : List (List UInt8)} (h : w.ownsRow base 9 1 (.slice A n c) l.length (scells l)) : n = l.length ∧ Sl w w.heap.size A n (fun i => .string ⟨(l.getD i []).toArray⟩) := by
  have hc := @World.ownsRow.cells _ _ _ _ _ _ _ h
  have hlt := h.lt
  rcases h.2 with ⟨he, h0⟩ | ⟨g, cap, cur, he, _⟩
  · injection he with h1 h2 h3
    subst h1 h2 h3
    exact ⟨h0.symm, fun hn => absurd hn (by omega)⟩
  · injection he with h1 h2 h3
    subst h1 h2 h3
    refine ⟨rfl, fun hn => ⟨_, rfl, (hlt g rfl).2, fun i hi => ?_⟩⟩
    exact hc rfl i _ (by simp [scells, List.getD_eq_getElem?_getD, List.getElem?_eq_getElem hi])
theorem fcells_at (fs : List (List UInt8 × Nat)) : ∀ i, (h : i < fs.length) → (fcells fs)[i * 2]? = some (.string ⟨fs[i].1.toArray⟩) ∧ (fcells fs)[i * 2 + 1]? = some (.int .i64 (fs[i].2 : Int)) := by
  induction fs with
  | nil => intro i h; simp at h
  | cons x r ih =>
    intro i h
    have e : fcells (x :: r) = .string ⟨x.1.toArray⟩ :: .int .i64 (x.2 : Int) :: fcells r := rfl
    rw [e]
    cases i with
    | zero => exact ⟨rfl, rfl⟩
    | succ i =>
      have := ih i (by simpa using h)
      rw [show (i + 1) * 2 = i * 2 + 1 + 1 by omega, show i * 2 + 1 + 1 + 1 = (i * 2 + 1) + 1 + 1 by omega]
      simp only [List.getElem?_cons_succ, List.getElem_cons_succ]
      exact this
end Go.Proofs.Ytheakfhcllgndaa
