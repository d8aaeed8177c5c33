/- Contracts of package scan: cut, first part: what holds at each jump, and the passes. -/
import Derived.Test.YtheakfhcllgndaaCutL
import Derived.Test.YtheakfhcllgndaaScope
import Derived.WalkMore
import Derived.OwnWalk
import Derived.Outline
import Derived.Lib.BufferRead
namespace Go.Proofs.Ytheakfhcllgndaa
open Go.RowKit
/-- The cells of fields. -/
def fcells (fs : List (List UInt8 × Nat)) : List Value := fs.flatMap fun x => [.string ⟨x.1.toArray⟩, .int .i64 (x.2 : Int)]
theorem fcells_snoc (fs : List (List UInt8 × Nat)) (x : List UInt8 × Nat) : fcells (fs ++ [x]) = fcells fs ++ [.string ⟨x.1.toArray⟩, .int .i64 (x.2 : Int)] := by simp [fcells]
theorem fcells_len (fs : List (List UInt8 × Nat)) : (fcells fs).length = fs.length * 2 := by
  induction fs with
  | nil => rfl
  | cons x r ih => show (.string ⟨x.1.toArray⟩ :: .int .i64 (x.2 : Int) :: fcells r).length = _; simp only [List.length_cons, ih]; omega
def firstScope : Code → Option Code
  | .scope c => some c
  | .seq a b => match firstScope a with
    | some c => some c
    | none => firstScope b
  | _ => none
noncomputable def cutBody : Code := (Try.f31.body.bind firstScope).getD .skip
noncomputable def cutRest (l : Nat) : Code := (findLabel cutBody l).getD .skip
/-- What stands behind a label's mark. -/
def behind : Code → Code
  | .seq .skip x => x
  | .seq a _ => behind a
  | x => x
/-- What holds wherever the run jumps to label l. -/
def CutJ (w0 : World) (S : ByteArray) (R : CRes) (l : Nat) (a : Act) (w : World) : Prop :=
  a.defers = [] ∧ a.tmps.size = 80 ∧ a.tmps.getD 0 undef = .string S ∧ Below w0.heap.size w0 w ∧ ∃ (fs : List (List UInt8 × Nat)) (vf : Value) (i : Nat), i ≤ S.size ∧ a.tmps.getD 7 undef = .int .i64 i ∧ a.tmps.getD 5 undef = vf ∧ w.ownsRow w0.heap.size 51 2 vf fs.length (fcells fs) ∧
    ((l = 0 ∧ fs.length ≤ i ∧ cutL (S.data.toList.drop i) none fs i = R) ∨
     (l = 1 ∧ fs.length + 1 ≤ i ∧ ∃ (t : List UInt8) (vt : Value) (b : Nat), b ≤ i ∧ t.length ≤ i ∧ a.tmps.getD 6 undef = vt ∧ a.tmps.getD 8 undef = .int .i64 b ∧ w.ownsRow w0.heap.size 5 1 vt t.length (Lib.byteCells t) ∧ cutL (S.data.toList.drop i) (some (t, b, none)) fs i = R) ∨
     (l = 2 ∧ fs.length + 1 ≤ i ∧ ∃ (t : List UInt8) (vt : Value) (b q : Nat), b ≤ i ∧ t.length ≤ i ∧ q ≤ i ∧ a.tmps.getD 6 undef = vt ∧ a.tmps.getD 8 undef = .int .i64 b ∧ a.tmps.getD 9 undef = .int .i64 q ∧ w.ownsRow w0.heap.size 5 1 vt t.length (Lib.byteCells t) ∧ cutL (S.data.toList.drop i) (some (t, b, some q)) fs i = R))
def cutM (S : ByteArray) (l : Nat) (a : Act) (_ : World) : Nat := 2 * (S.size - (intOf (a.tmps.getD 7 undef)).toNat) + (if l = 0 then 0 else 1)
/-- What cut answers. -/
def CutE (w0 : World) (R : CRes) (e : Ending) (w : World) : Prop :=
  Below w0.heap.size w0 w ∧ match R with
  | .inl fs => ∃ v, e = .returned (.tuple #[v, .int .i64 0, .int .i64 0]) ∧ w.ownsRow w0.heap.size 51 2 v fs.length (fcells fs)
  | .inr (c, y) => e = .returned (.tuple #[.slice none 0 0, .int .i64 (c : Int), .int .i64 (y : Int)])
theorem frame_cons {n : Nat} {l : List Value} (h : l.length = n + 1) : ∃ x r, l = x :: r ∧ r.length = n := by
  cases l with
  | nil => simp at h
  | cons x r => exact ⟨x, r, rfl, by simpa using h⟩
theorem field_info : (Try.prog.info? 51).map (fun i => (i.zero, i.size, i.bytes)) = some (some (.agg #[.string ⟨#[]⟩, .int .i64 0]), 2, 24) := by kernel_rfl
/-- 'string(b)', b a slice of the call's own. -/
theorem conv_own {w : World} {base : Nat} {v : Value} {l : List UInt8} (h : w.ownsRow base 5 1 v l.length (Lib.byteCells l)) : (convert 60 9 v).run Try.prog w = .ok (.string ⟨l.toArray⟩) w := by
  have hc := @World.ownsRow.cells _ _ _ _ _ _ _ h
  rcases h.2 with ⟨rfl, h0⟩ | ⟨g, cap, cur, rfl, _⟩
  · have : l = [] := List.eq_nil_of_length_eq_zero h0
    subst this
    exact Lib.run_convert_nil_bytes w 60 9 5 0 Try.underlying60 Try.underlying5 Try.underlying9
  · exact conv_blk rfl (fun j hj => by
      have := hc (g := g) rfl j (.int .u8 (l[j].toNat : Int)) (by simp [Lib.byteCells, hj])
      rwa [addr_add] at this)
theorem own_ne {w : World} {b b' : Nat} {e e' : TypeId} {s s' n n' : Nat} {v v' : Value} {xs xs' : List Value} (h : w.ownsRow b e s v n xs) (h' : w.ownsRow b' e' s' v' n' xs') (hne : e ≠ e') : v.ownBlock = none ∨ v.ownBlock ≠ v'.ownBlock := by
  rcases h.2 with ⟨rfl, _⟩ | ⟨g, cap, cur, rfl, _, hg, _⟩
  · exact .inl rfl
  · rcases h'.2 with ⟨rfl, _⟩ | ⟨g', cap', cur', rfl, _, hg', _⟩
    · right; simp [Value.ownBlock]
    · right
      intro he
      have : g = g' := by simpa [Value.ownBlock] using he
      subst this
      rw [hg] at hg'
      injection hg' with hg'
      injection hg' with _ ht
      exact hne ht
theorem own_form {w : World} {b : Nat} {e : TypeId} {s n : Nat} {v : Value} {xs : List Value} (h : w.ownsRow b e s v n xs) : ∃ A c, v = .slice A n c := by
  rcases h.2 with ⟨rfl, rfl⟩ | ⟨g, cap, cur, rfl, _⟩
  · exact ⟨_, _, rfl⟩
  · exact ⟨_, _, rfl⟩
theorem own_base {w : World} {b : Nat} {e : TypeId} {s n : Nat} {v : Value} {xs : List Value} (h : w.ownsRow b e s v n xs) : ∀ k, v.ownBlock = some k → b ≤ k := fun k hk => (h.lt k hk).1
theorem wpList_pushb {w : World} {ops : Array Oper} {rest : List Oper} {o : Oper} {a : Act} {Q : Exit → Act → World → Prop} (hgd : o.guard = none) (s x : Operand)
    (ho : o.op = .call { callee := .builtin .append, args := #[s, x], argTypes := #[60, 60] }) (base : Nat) (v : Value) (t : List UInt8) (hown : w.ownsRow base 5 1 v t.length (Lib.byteCells t)) (hs : a.eval s = v) (g : Nat) (c : UInt8)
    (hx : a.eval x = .slice (some ⟨g, 0, none⟩) 1 1) (hc : w.cell? ⟨g, 0, none⟩ = some (.int .u8 (c.toNat : Int))) (hlen : t.length ≤ 4096) (hbase : base ≤ w.heap.size)
    (h : ∀ v' w', w'.ownsRow base 5 1 v' (t ++ [c]).length (Lib.byteCells (t ++ [c])) → w.grownBy w' v.ownBlock → wpList Try.prog ops Q rest (a.put o.dst v') w') : wpList Try.prog ops Q (o :: rest) a w := by
  obtain ⟨i0, hi, hz0, hz1, hz2⟩ := info_parts u8_info
  refine wpList_append_own w hgd s x 60 ho base 5 i0 (.int .u8 0) 1 1 Try.underlying60 hi hz0 hz1 hz2 rfl (by omega) v t.length (Lib.byteCells t) hs hown ⟨g, 0, none⟩ 1 1 [.int .u8 (c.toNat : Int)] hx rfl (fun j u hu => ?_) (fun u hu => ?_) (by unfold maxLen; omega) (by omega) hbase (fun v' w' h1 h2 _ => ?_)
  · match j with
    | 0 => rw [addr_add, hc]; simpa using hu
    | j + 1 => simp at hu
  · simp at hu; subst hu; rfl
  · refine h v' w' ?_ h2
    rw [Lib.byteCells_append, List.length_append]
    exact h1
theorem wpList_pushf {w : World} {ops : Array Oper} {rest : List Oper} {o : Oper} {a : Act} {Q : Exit → Act → World → Prop} (hgd : o.guard = none) (s x : Operand)
    (ho : o.op = .call { callee := .builtin .append, args := #[s, x], argTypes := #[47, 47] }) (base : Nat) (v : Value) (fs : List (List UInt8 × Nat)) (hown : w.ownsRow base 51 2 v fs.length (fcells fs)) (hs : a.eval s = v) (g : Nat) (t : List UInt8) (b : Nat)
    (hx : a.eval x = .slice (some ⟨g, 0, none⟩) 1 1) (hc0 : w.cell? ⟨g, 0, none⟩ = some (.string ⟨t.toArray⟩)) (hc1 : w.cell? ⟨g, 1, none⟩ = some (.int .i64 (b : Int))) (hlen : fs.length ≤ 4096) (hbase : base ≤ w.heap.size)
    (h : ∀ v' w', w'.ownsRow base 51 2 v' (fs ++ [(t, b)]).length (fcells (fs ++ [(t, b)])) → w.grownBy w' v.ownBlock → wpList Try.prog ops Q rest (a.put o.dst v') w') : wpList Try.prog ops Q (o :: rest) a w := by
  obtain ⟨i0, hi, hz0, hz1, hz2⟩ := info_parts field_info
  refine wpList_append_own w hgd s x 47 ho base 51 i0 (.agg #[.string ⟨#[]⟩, .int .i64 0]) 2 24 Try.underlying47 hi hz0 hz1 hz2 rfl (by omega) v fs.length (fcells fs) hs hown ⟨g, 0, none⟩ 1 1 [.string ⟨t.toArray⟩, .int .i64 (b : Int)] hx rfl (fun j u hu => ?_) (fun u hu => ?_) (by unfold maxLen; omega) (by omega) hbase (fun v' w' h1 h2 _ => ?_)
  · match j with
    | 0 => rw [addr_add, hc0]; simpa using hu
    | 1 => rw [addr_add, hc1]; simpa using hu
    | j + 2 => simp at hu
  · simp at hu
    rcases hu with rfl | rfl <;> rfl
  · refine h v' w' ?_ h2
    rw [fcells_snoc, List.length_append]
    exact h1
end Go.Proofs.Ytheakfhcllgndaa
