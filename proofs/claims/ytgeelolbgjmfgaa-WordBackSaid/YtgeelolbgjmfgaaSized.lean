/- An argument that is a slice of strings, with the reach of each of them. -/
import Derived.Test.YtgeelolbgjmfgaaSl
import Derived.SizedLaws
namespace Go.Proofs.Ytgeelolbgjmfgaa
open Go.RowKit Go.ChangeShapes Go.WideShapes Go.Deep
section
variable {H : Type} {enc : TypeId × Value → H} {P : Program} {w : World} {base : Nat} {spare : Nat → Bool} {held : Bool}
theorem weights_strs (e : TypeId) (s : ByteArray) : ∀ l : List ByteArray, s ∈ l → s.data.toList.length ∈ DataW.weightsAll (H := H) P e (strs l)
  | [], h => by cases h
  | x :: r, h => by
    show _ ∈ DataW.weights P e (.lit (.string x.data.toList)) ++ DataW.weightsAll P e (strs r)
    rw [List.mem_append]
    rcases List.mem_cons.1 h with rfl | h
    · left; simp [DataW.weights]
    · exact .inr (weights_strs e s r h)
theorem open_sl_sized {r : Reach} {b0 : Nat} {t e : TypeId} {v : Value} {d : DataW H} {p : List MemPlace} (M : Nat) (ht : P.underlying t = some (.slice e)) (he : P.underlying e = some .string) (hc : P.cellsOf e = 1)
    (hM : ∀ x ∈ d.weights P t, x ≤ M) (hv : Value.okWide P w r b0 t v) (h : DataW.Trod enc P w base spare held t v d p) :
    ∃ (A : Option Addr) (n c : Nat) (ss : List ByteArray), v = .slice A n c ∧ n ≤ maxLen ∧ ss.length = n ∧ (∀ i, i < n → (ss.getD i ByteArray.empty).size ≤ M) ∧ Sl w w.heap.size A n (fun i => .string (ss.getD i ByteArray.empty)) := by
  obtain ⟨a0, len, cap, rfl⟩ := okWide_slice ht hv
  obtain ⟨fuel, hf⟩ := h
  rcases open_strings ht he hc hf with ⟨hcs, hx⟩ | ⟨a, len', cap', zs, hcs, _, hl, hm, hz, hx, hcell, hw⟩
  · simp [Value.cells] at hcs
    obtain ⟨rfl, rfl, rfl⟩ := hcs
    exact ⟨none, 0, 0, [], rfl, Nat.zero_le _, rfl, fun i hi => absurd hi (by omega), fun hn => absurd hn (by omega)⟩
  · simp [Value.cells] at hcs
    obtain ⟨rfl, rfl, rfl⟩ := hcs
    injection hx with hd _
    subst hd
    have hle : len ≤ zs.length := by rw [hz]; split <;> omega
    have hg : ∀ i, i < len → (zs.take len).getD i ByteArray.empty = zs.getD i ByteArray.empty := fun i hi => by simp [List.getD_eq_getElem?_getD, List.getElem?_take_of_lt hi]
    refine ⟨some a, len, cap, zs.take len, rfl, by omega, by simp; omega, fun i hi => ?_, fun hn => ⟨a, rfl, ?_, fun i hi => ?_⟩⟩
    · have hi' : i < (zs.take len).length := by simp; omega
      have hmem : (zs.take len).getD i ByteArray.empty ∈ zs.take len := by rw [List.getD_eq_getElem?_getD, List.getElem?_eq_getElem hi']; exact List.getElem_mem _
      have h1 := weights_strs (H := H) (P := P) e _ _ hmem
      have h2 := hM _ (by
        simp only [DataW.weights, ht, List.mem_cons, List.mem_append]
        exact .inr (.inl h1))
      have h3 : ((zs.take len).getD i ByteArray.empty).data.toList.length = ((zs.take len).getD i ByteArray.empty).size := by simp
      omega
    · have := lt_cell (hcell 0 (by omega))
      rwa [block_of_add] at this
    · show _ = some (Value.string ((zs.take len).getD i ByteArray.empty))
      rw [hg i hi]
      exact hcell i (by omega)
end
end Go.Proofs.Ytgeelolbgjmfgaa
