/- Contracts of package word: the names, and their beginnings. -/
import Derived.Test.YtgcgmmdfmcapiaaDoorWord
namespace Go.Proofs.YtgcgmmdfmcapiaaDoor
open Go.RowKit
namespace Wd
/-- The names of the days of the week, and of the months. -/
def week : List ByteArray := [⟨#[83, 117, 110, 100, 97, 121]⟩, ⟨#[77, 111, 110, 100, 97, 121]⟩, ⟨#[84, 117, 101, 115, 100, 97, 121]⟩, ⟨#[87, 101, 100, 110, 101, 115, 100, 97, 121]⟩, ⟨#[84, 104, 117, 114, 115, 100, 97, 121]⟩, ⟨#[70, 114, 105, 100, 97, 121]⟩, ⟨#[83, 97, 116, 117, 114, 100, 97, 121]⟩]
def mons : List ByteArray := [⟨#[74, 97, 110, 117, 97, 114, 121]⟩, ⟨#[70, 101, 98, 114, 117, 97, 114, 121]⟩, ⟨#[77, 97, 114, 99, 104]⟩, ⟨#[65, 112, 114, 105, 108]⟩, ⟨#[77, 97, 121]⟩, ⟨#[74, 117, 110, 101]⟩, ⟨#[74, 117, 108, 121]⟩, ⟨#[65, 117, 103, 117, 115, 116]⟩, ⟨#[83, 101, 112, 116, 101, 109, 98, 101, 114]⟩, ⟨#[79, 99, 116, 111, 98, 101, 114]⟩, ⟨#[78, 111, 118, 101, 109, 98, 101, 114]⟩, ⟨#[68, 101, 99, 101, 109, 98, 101, 114]⟩]
/-- The name at the place i of a list. -/
def nth (l : List ByteArray) (i : Nat) : ByteArray := l.getD i ByteArray.empty
/-- The first three letters of it. -/
def three (l : List ByteArray) (i : Nat) : ByteArray := (nth l i).extract 0 3
theorem week_back : ∀ i, i < 7 → pick (three week i) week = i ∧ (three week i).size = 3 ∧ (nth week i).size ≤ 9 ∧ 3 ≤ (nth week i).size := by decide +kernel
theorem mons_back : ∀ i, i < 12 → pick (three mons i) mons = i ∧ (three mons i).size = 3 ∧ (nth mons i).size ≤ 9 ∧ 3 ≤ (nth mons i).size := by decide +kernel
theorem pick_ge (s : ByteArray) (l : List ByteArray) : -1 ≤ pick s l := by
  rcases pick_place s l with h | ⟨_, k, h, _, _⟩ <;> omega
theorem pick_lt (s : ByteArray) (l : List ByteArray) : pick s l < l.length := by
  rcases pick_place s l with h | ⟨_, k, h, _, _⟩ <;> omega
end Wd
theorem sl_alloc (w : World) (L : List ByteArray) (cs : Array Value) (t : TypeId) (h : cs = (L.map Value.string).toArray) : Sl (w.alloc (.cells cs t)) (w.alloc (.cells cs t)).heap.size (some ⟨w.heap.size, 0, none⟩) L.length (fun i => .string (L.getD i ByteArray.empty)) := by
  subst h
  refine fun _ => ⟨_, rfl, by simp, fun i hi => ?_⟩
  have e : (⟨w.heap.size, 0, none⟩ : Addr).add i = ⟨w.heap.size, i, none⟩ := by unfold Addr.add; split <;> simp_all
  show _ = some (Value.string (L.getD i ByteArray.empty))
  rw [e, World.cell?_alloc_new, List.getD_eq_getElem?_getD, List.getElem?_eq_getElem hi]
  simp [hi]
theorem Sl.drew {w : World} {B : Nat} {A : Option Addr} {n : Nat} {v : Nat → Value} (h : Sl w B A n v) : Sl w.drew B A n v := h
theorem size_week : ∀ i, i < 7 → (Wd.week.getD i ByteArray.empty).size ≤ 4294967296 := fun i h => by have := (Wd.week_back i h).2.2.1; unfold Wd.nth at this; omega
theorem size_mons : ∀ i, i < 12 → (Wd.mons.getD i ByteArray.empty).size ≤ 4294967296 := fun i h => by have := (Wd.mons_back i h).2.2.1; unfold Wd.nth at this; omega

end Go.Proofs.YtgcgmmdfmcapiaaDoor
