/- Arguments that are a rule or a zone, opened. -/
import Derived.Test.YthlbockphdbpkaaDoorOpenS
namespace Go.Proofs.YthlbockphdbpkaaDoor
open Go.RowKit Go.ChangeShapes Go.WideShapes Go.Joins Go.Deep
set_option maxRecDepth 100000
section
variable {H : Type} {enc : TypeId × Value → H} {w : World} {base : Nat} {spare : Nat → Bool} {held : Bool}
theorem open_ru {r : Reach} {b0 : Nat} {v : Value} {d : DataW H} {p : List MemPlace}
    (hv : Value.okWide Tryd.prog w r b0 34 v) (h : DataW.Trod enc Tryd.prog w base spare held 34 v d p) : ∃ q : Ru, v = ruV q ∧ (q.nm.size ≤ 9223372036854775807 ∧ q.lt.size ≤ 9223372036854775807) := by
  obtain ⟨cs, rfl, hsz⟩ := okWide_struct Tryd.underlying34 hv
  have hsz : cs.size = 11 := hsz.trans (by kernel_rfl)
  obtain ⟨l⟩ := cs
  obtain ⟨fuel, hf⟩ := h
  obtain ⟨q, hq, _, h1, h2⟩ := cells_rule (cs := l) hsz hf
  have hm : maxLen ≤ 9223372036854775807 := by unfold maxLen; omega
  exact ⟨q, by rw [hq]; rfl, Nat.le_trans h1 hm, Nat.le_trans h2 hm⟩
theorem open_zone {r : Reach} {b0 : Nat} {v : Value} {d : DataW H} {p : List MemPlace}
    (hv : Value.okWide Tryd.prog w r b0 37 v) (h : DataW.Trod enc Tryd.prog w base spare held 37 v d p) :
    ∃ z : Zd, v = .agg #[.string z.nm, .slice z.A z.es.length z.c] ∧ (z.nm.size ≤ 9223372036854775807 ∧ z.es.length ≤ 9223372036854775807 ∧ ∀ e ∈ z.es, e.ru.size ≤ 9223372036854775807 ∧ e.fm.size ≤ 9223372036854775807) ∧ Rk w w.heap.size z.A (z.es.flatMap ecell) := by
  obtain ⟨cs, rfl, hsz⟩ := okWide_struct Tryd.underlying37 hv
  have hsz : cs.size = 2 := hsz.trans (by kernel_rfl)
  obtain ⟨l⟩ := cs
  obtain ⟨fuel, hf⟩ := h
  obtain ⟨z, hq, h1, h2, h3, h4⟩ := cells_zone (cs := l) hsz hf
  have hm : maxLen ≤ 9223372036854775807 := by unfold maxLen; omega
  exact ⟨z, by rw [hq]; rfl, ⟨Nat.le_trans h1 hm, Nat.le_trans h2 hm, fun e he => ⟨Nat.le_trans (h4 e he).2.1 hm, Nat.le_trans (h4 e he).2.2 hm⟩⟩, h3⟩
end
end Go.Proofs.YthlbockphdbpkaaDoor
