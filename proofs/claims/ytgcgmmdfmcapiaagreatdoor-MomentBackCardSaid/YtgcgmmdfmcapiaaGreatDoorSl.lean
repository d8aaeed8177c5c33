/- Arguments that are slices, read as cells (nil let in). Imports nothing of the program. -/
import Derived.Below
import Derived.ChangeSlices
import Derived.SliceStrings
import Derived.WideShapes
import Derived.Deep.Slices
namespace Go.Proofs.YtgcgmmdfmcapiaaGreatDoor
open Go.RowKit Go.ChangeShapes Go.WideShapes Go.Deep
theorem app_ba (a b : List UInt8) : (⟨a.toArray⟩ : ByteArray) ++ ⟨b.toArray⟩ = ⟨(a ++ b).toArray⟩ := by
  apply ByteArray.ext
  simp
theorem size_ba (l : List UInt8) : (⟨l.toArray⟩ : ByteArray).size = l.length := by simp [ByteArray.size]
/-- A slice that reads as n cells, from below block B; nil let in. -/
def Sl (w : World) (B : Nat) (A : Option Addr) (n : Nat) (v : Nat → Value) : Prop := 0 < n → ∃ ad, A = some ad ∧ ad.block < B ∧ ∀ i, i < n → w.cell? (ad.add i) = some (v i)
theorem block_of_add (a : Addr) (n : Nat) : (a.add n).block = a.block := by unfold Addr.add; split <;> rfl
theorem Sl.below {w w' : World} {B : Nat} {A : Option Addr} {n : Nat} {v : Nat → Value} (h : Sl w B A n v) (hb : Below B w w') : Sl w' B A n v := by
  intro hn
  obtain ⟨ad, e, hl, hc⟩ := h hn
  exact ⟨ad, e, hl, fun i hi => (hb.cell (by rw [block_of_add]; exact hl)).trans (hc i hi)⟩
theorem Sl.at_ {w : World} {B : Nat} {A : Option Addr} {n : Nat} {v : Nat → Value} (h : Sl w B A n v) {k : Nat} (hk : k < n) : ∃ ad, A = some ad ∧ ad.block < B ∧ w.cell? (ad.add k) = some (v k) := by
  obtain ⟨ad, e, hl, hc⟩ := h (by omega)
  exact ⟨ad, e, hl, hc k hk⟩
theorem lt_cell {w : World} {p : Addr} {v : Value} (h : w.cell? p = some v) : p.block < w.heap.size := World.block_lt_of_cell? w p h
section
variable {H : Type} {enc : TypeId × Value → H} {P : Program} {w : World} {base : Nat} {spare : Nat → Bool} {held : Bool}
theorem open_sl_ints {r : Reach} {b0 : Nat} {t e : TypeId} {k : IntKind} {v : Value} {d : DataW H} {p : List MemPlace} (ht : P.underlying t = some (.slice e)) (he : P.underlying e = some (.int k)) (hc : P.cellsOf e = 1)
    (hv : Value.okWide P w r b0 t v) (h : DataW.Trod enc P w base spare held t v d p) :
    ∃ (A : Option Addr) (n c : Nat) (zs : List Int), v = .slice A n c ∧ n ≤ maxLen ∧ zs.length = n ∧ (∀ i, i < n → (Lit.int k (zs.getD i 0)).wf = true) ∧ Sl w w.heap.size A n (fun i => .int k (zs.getD i 0)) := by
  obtain ⟨a0, len, cap, rfl⟩ := okWide_slice ht hv
  obtain ⟨fuel, hf⟩ := h
  rcases open_ints ht he hc hf with ⟨hcs, hx⟩ | ⟨a, len', cap', zs, hcs, _, hl, hm, hz, hx, hcell, hw⟩
  · simp [Value.cells] at hcs
    obtain ⟨rfl, rfl, rfl⟩ := hcs
    exact ⟨none, 0, 0, [], rfl, Nat.zero_le _, rfl, fun i hi => absurd hi (by omega), fun hn => absurd hn (by omega)⟩
  · simp [Value.cells] at hcs
    obtain ⟨rfl, rfl, rfl⟩ := hcs
    have hle : len ≤ zs.length := by rw [hz]; split <;> omega
    have hg : ∀ i, i < len → (zs.take len).getD i 0 = zs.getD i 0 := fun i hi => by simp [List.getD_eq_getElem?_getD, List.getElem?_take_of_lt hi]
    refine ⟨some a, len, cap, zs.take len, rfl, by omega, by simp; omega, fun i hi => ?_, fun hn => ⟨a, rfl, ?_, fun i hi => ?_⟩⟩
    · rw [hg i hi, List.getD_eq_getElem?_getD, List.getElem?_eq_getElem (by omega)]
      exact hw _ (List.getElem_mem _)
    · have := lt_cell (hcell 0 (by omega))
      rwa [block_of_add] at this
    · show _ = some (Value.int k ((zs.take len).getD i 0))
      rw [hg i hi]
      exact hcell i (by omega)
theorem open_sl_strs {r : Reach} {b0 : Nat} {t e : TypeId} {v : Value} {d : DataW H} {p : List MemPlace} (ht : P.underlying t = some (.slice e)) (he : P.underlying e = some .string) (hc : P.cellsOf e = 1)
    (hv : Value.okWide P w r b0 t v) (h : DataW.Trod enc P w base spare held t v d p) :
    ∃ (A : Option Addr) (n c : Nat) (ss : List ByteArray), v = .slice A n c ∧ n ≤ maxLen ∧ ss.length = n ∧ (∀ i, i < n → (ss.getD i ByteArray.empty).size ≤ maxLen) ∧ Sl w w.heap.size A n (fun i => .string (ss.getD i ByteArray.empty)) := by
  obtain ⟨a0, len, cap, rfl⟩ := okWide_slice ht hv
  obtain ⟨fuel, hf⟩ := h
  rcases open_strings ht he hc hf with ⟨hcs, hx⟩ | ⟨a, len', cap', zs, hcs, _, hl, hm, hz, hx, hcell, hw⟩
  · simp [Value.cells] at hcs
    obtain ⟨rfl, rfl, rfl⟩ := hcs
    exact ⟨none, 0, 0, [], rfl, Nat.zero_le _, rfl, fun i hi => absurd hi (by omega), fun hn => absurd hn (by omega)⟩
  · simp [Value.cells] at hcs
    obtain ⟨rfl, rfl, rfl⟩ := hcs
    have hle : len ≤ zs.length := by rw [hz]; split <;> omega
    have hg : ∀ i, i < len → (zs.take len).getD i ByteArray.empty = zs.getD i ByteArray.empty := fun i hi => by simp [List.getD_eq_getElem?_getD, List.getElem?_take_of_lt hi]
    refine ⟨some a, len, cap, zs.take len, rfl, by omega, by simp; omega, fun i hi => ?_, fun hn => ⟨a, rfl, ?_, fun i hi => ?_⟩⟩
    · rw [hg i hi, List.getD_eq_getElem?_getD, List.getElem?_eq_getElem (by omega)]
      exact hw _ (List.getElem_mem _)
    · have := lt_cell (hcell 0 (by omega))
      rwa [block_of_add] at this
    · show _ = some (Value.string ((zs.take len).getD i ByteArray.empty))
      rw [hg i hi]
      exact hcell i (by omega)
end
end Go.Proofs.YtgcgmmdfmcapiaaGreatDoor
