/- An argument that is a slice of structs of four one-cell fields, read as cells. -/
import Derived.Test.YtheakfhcllgndaaLittleWrites
import Derived.ChangeArms
import Derived.ChangeSame
import Derived.OpenShut
namespace Go.Proofs.Ytheakfhcllgndaa
open Go.RowKit Go.ChangeShapes Go.WideShapes Go.Deep
section
variable {H : Type} {enc : TypeId × Value → H} {P : Program} {w : World} {base : Nat} {spare : Nat → Bool} {held : Bool}
theorem one_of_four (cs : List Value) (j : Nat) (u : Value) (h : (cs.drop j).take 1 = [u]) : cs[j]? = some u := by
  rw [← List.head?_drop]
  cases hd : cs.drop j with
  | nil => rw [hd] at h; simp at h
  | cons a r => rw [hd] at h; simp at h; rw [h]; rfl
theorem add_add' (a : Addr) (i j : Nat) : (a.add i).add j = a.add (i + j) := by
  unfold Addr.add
  by_cases hi : i = 0 <;> by_cases hj : j = 0 <;> simp [hi, hj, Nat.add_assoc]
theorem open_acts {r : Reach} {b0 : Nat} {t e : TypeId} {f0 f1 f2 f3 : Field} {v : Value} {d : DataW H} {p : List MemPlace} (ht : P.underlying t = some (.slice e)) (he : P.underlying e = some (.struct #[f0, f1, f2, f3])) (hC : P.cellsOf e = 4)
    (o0 : f0.offset = 0) (o1 : f1.offset = 1) (o2 : f2.offset = 2) (o3 : f3.offset = 3) (k0 : P.cellsOf f0.type = 1) (k1 : P.cellsOf f1.type = 1) (k2 : P.cellsOf f2.type = 1) (k3 : P.cellsOf f3.type = 1)
    (u0 : P.underlying f0.type = some (.int .i64)) (u1 : P.underlying f1.type = some (.int .i64)) (u2 : P.underlying f2.type = some (.int .u64)) (u3 : P.underlying f3.type = some .string)
    (hv : Value.okWide P w r b0 t v) (h : DataW.Trod enc P w base spare held t v d p) :
    ∃ (A : Option Addr) (n c : Nat) (x : Nat → Act3), v = .slice A n c ∧ n ≤ maxLen ∧ (∀ i, i < n → (x i).num < 18446744073709551616 ∧ (x i).text.length ≤ 9223372036854775807) ∧ Acts w w.heap.size A n x := by
  obtain ⟨a0, len, cap, rfl⟩ := okWide_slice ht hv
  obtain ⟨fuel, hf⟩ := h
  rcases open_slice ht hf with ⟨hcs, hx⟩ | ⟨a, len', cap', m, n, D, Pl, hcs, _, hl, hm, hmm, hx, hi⟩
  · simp [Value.cells] at hcs
    obtain ⟨rfl, rfl, rfl⟩ := hcs
    exact ⟨none, 0, 0, fun _ => ⟨0, 0, 0, []⟩, rfl, Nat.zero_le _, fun i hi => absurd hi (by omega), fun hn => absurd hn (by omega)⟩
  · simp [Value.cells] at hcs
    obtain ⟨rfl, rfl, rfl⟩ := hcs
    have hle : len ≤ m := by rw [hmm]; split <;> omega
    have each : ∀ i, ∃ x : Act3, i < len → x.num < 18446744073709551616 ∧ x.text.length ≤ 9223372036854775807 ∧
        w.cell? (a.add (i * 4)) = some (.int .i64 x.kind) ∧ w.cell? (a.add (i * 4 + 1)) = some (.int .i64 x.width) ∧ w.cell? (a.add (i * 4 + 2)) = some (.int .u64 (x.num : Int)) ∧ w.cell? (a.add (i * 4 + 3)) = some (.string ⟨x.text.toArray⟩) := by
      intro i
      by_cases hil : i < len
      · obtain ⟨cs', hc, ht'⟩ := hi i (by omega)
        rw [hC] at hc
        obtain ⟨ys, n', _, _, _, hyl, hg⟩ := DataW.trod_struct he ht'
        obtain ⟨_, hcl, hat⟩ := World.cells?_some hc
        have g0 := hg 0 f0 rfl
        have g1 := hg 1 f1 rfl
        have g2 := hg 2 f2 rfl
        have g3 := hg 3 f3 rfl
        rw [o0, k0] at g0
        rw [o1, k1] at g1
        rw [o2, k2] at g2
        rw [o3, k3] at g3
        have hyl' : ys.length = 4 := by simpa using hyl
        have hys : ∀ j, (hj : j < 4) → ys[j]? = some (ys[j]'(by omega)) := fun j hj => List.getElem?_eq_getElem (by omega)
        rw [hys 0 (by omega)] at g0
        rw [hys 1 (by omega)] at g1
        rw [hys 2 (by omega)] at g2
        rw [hys 3 (by omega)] at g3
        obtain ⟨x0, e0, _, _⟩ := DataW.trod_int u0 g0
        obtain ⟨x1, e1, _, _⟩ := DataW.trod_int u1 g1
        obtain ⟨x2, e2, _, b2⟩ := DataW.trod_int u2 g2
        obtain ⟨x3, e3, _, b3⟩ := DataW.trod_string u3 g3
        have hb2 : 0 ≤ x2 ∧ x2 ≤ 18446744073709551615 := bounds_u64 b2
        refine ⟨⟨x0, x1, x2.toNat, x3.data.toList⟩, fun _ => ⟨?_, ?_, ?_, ?_, ?_, ?_⟩⟩
        · show x2.toNat < _; omega
        · show x3.data.toList.length ≤ _
          have : x3.data.toList.length = x3.size := by simp
          unfold maxLen at b3
          omega
        · have := hat 0 (by omega)
          rw [add_add', Nat.add_zero] at this
          rw [this]; exact one_of_four _ _ _ e0
        · have := hat 1 (by omega)
          rw [add_add'] at this
          rw [this]; exact one_of_four _ _ _ e1
        · have := hat 2 (by omega)
          rw [add_add'] at this
          rw [this, one_of_four _ _ _ e2]
          show _ = some (Value.int .u64 ((x2.toNat : Nat) : Int))
          rw [Int.toNat_of_nonneg hb2.1]
        · have := hat 3 (by omega)
          rw [add_add'] at this
          rw [this, one_of_four _ _ _ e3]
      · exact ⟨⟨0, 0, 0, []⟩, fun h => absurd h hil⟩
    obtain ⟨x, hx'⟩ := Classical.axiomOfChoice each
    refine ⟨some a, len, cap, x, rfl, by omega, fun i hi' => ⟨(hx' i hi').1, (hx' i hi').2.1⟩, fun hn => ⟨a, rfl, ?_, fun i hi' => (hx' i hi').2.2⟩⟩
    have := lt_cell (hx' 0 hn).2.2.1
    rwa [block_of_add] at this
end
theorem walkLittleWrites (A : Option Addr) (n c : Nat) (hn : n ≤ maxLen) (v : Nat → Act3) (hv : ∀ k, k < n → (v k).num < 18446744073709551616 ∧ (v k).text.length ≤ 9223372036854775807) (S : ByteArray) (hS : S.size ≤ maxLen) (w : World) (hs : Acts w w.heap.size A n v) :
    Calls Try.prog 3 #[.slice A n c, .string S] w fun e w' => e = .returned (.bool true) ∧ Below w.heap.size w w' := littleWrites_any A n c hn v hv S hS w hs
end Go.Proofs.Ytheakfhcllgndaa
