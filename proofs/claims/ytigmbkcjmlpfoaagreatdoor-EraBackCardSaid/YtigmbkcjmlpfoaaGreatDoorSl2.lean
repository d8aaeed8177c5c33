/- An argument that is a slice of texts, opened, with its capacity. -/
import Derived.Test.YtigmbkcjmlpfoaaGreatDoorMb
namespace Go.Proofs.YtigmbkcjmlpfoaaGreatDoor
open Go.RowKit Go.ChangeShapes Go.WideShapes Go.Deep
section
variable {H : Type} {enc : TypeId × Value → H} {P : Program} {w : World} {base : Nat} {spare : Nat → Bool} {held : Bool}
theorem open_sl_strs2 {r : Reach} {b0 : Nat} {t e : TypeId} {v : Value} {d : DataW H} {p : List MemPlace} (ht : P.underlying t = some (.slice e)) (he : P.underlying e = some .string) (hc : P.cellsOf e = 1)
    (hv : Value.okWide P w r b0 t v) (h : DataW.Trod enc P w base spare held t v d p) :
    ∃ (A : Option Addr) (n c : Nat) (ss : List ByteArray), v = .slice A n c ∧ n ≤ maxLen ∧ n ≤ c ∧ c ≤ maxLen ∧ ss.length = n ∧ (∀ i, i < n → (ss.getD i ByteArray.empty).size ≤ maxLen) ∧ Sl w w.heap.size A n (fun i => .string (ss.getD i ByteArray.empty)) := by
  obtain ⟨a0, len, cap, rfl⟩ := okWide_slice ht hv
  obtain ⟨fuel, hf⟩ := h
  rcases open_strings ht he hc hf with ⟨hcs, hx⟩ | ⟨a, len', cap', zs, hcs, _, hl, hm, hz, hx, hcell, hw⟩
  · simp [Value.cells] at hcs
    obtain ⟨rfl, rfl, rfl⟩ := hcs
    exact ⟨none, 0, 0, [], rfl, Nat.zero_le _, Nat.le_refl _, Nat.zero_le _, rfl, fun i hi => absurd hi (by omega), fun hn => absurd hn (by omega)⟩
  · simp [Value.cells] at hcs
    obtain ⟨rfl, rfl, rfl⟩ := hcs
    have hle : len ≤ zs.length := by rw [hz]; split <;> omega
    have hg : ∀ i, i < len → (zs.take len).getD i ByteArray.empty = zs.getD i ByteArray.empty := fun i hi => by simp [List.getD_eq_getElem?_getD, List.getElem?_take_of_lt hi]
    refine ⟨some a, len, cap, zs.take len, rfl, by omega, by omega, by omega, by simp; omega, fun i hi => ?_, fun hn => ⟨a, rfl, ?_, fun i hi => ?_⟩⟩
    · rw [hg i hi, List.getD_eq_getElem?_getD, List.getElem?_eq_getElem (by omega)]
      exact hw _ (List.getElem_mem _)
    · have := lt_cell (hcell 0 (by omega))
      rwa [block_of_add] at this
    · show _ = some (Value.string ((zs.take len).getD i ByteArray.empty))
      rw [hg i hi]
      exact hcell i (by omega)
end
end Go.Proofs.YtigmbkcjmlpfoaaGreatDoor
