/- A source with one link more has no flaws; no walk. -/
import Derived.Test.YthlbockphdbpkaaDoorVn
import Derived.Test.YthlbockphdbpkaaDoorLz
namespace Go.Proofs.YthlbockphdbpkaaDoor
open Go.RowKit Go.Maps
theorem all_link {d d' : Sd} {x y : ByteArray} (hr : d'.rs = d.rs) (hz : d'.zs = d.zs) (hl : d'.ls = d.ls ++ [⟨x, y⟩]) (h : Vd.all d = []) (hx : x ∈ d.names) (hy : y ∉ d.names) : Vd.all d' = [] := by
  obtain ⟨h1, h2, h3, h4⟩ := all_nil.1 h
  have hn : d'.names = d.names ++ [y] := by unfold Sd.names; rw [hz, hl, List.map_append, List.append_assoc]; rfl
  refine all_nil.2 ⟨?_, ?_, ?_, ?_⟩
  · rw [hn]
    exact List.nodup_append.2 ⟨h1, List.nodup_cons.2 ⟨by simp, List.nodup_nil⟩, fun a ha b hb e => hy (by rw [← List.mem_singleton.1 hb, ← e]; exact ha)⟩
  · rw [hr, hz]; exact h2
  · rw [hz]; exact h3
  · rw [hz, hl]
    intro k hk
    rcases List.mem_append.1 hk with hk | hk
    · rw [zn_more (h4 k hk)]
      exact h4 k hk
    · rw [List.mem_singleton.1 hk]
      show (Ld.zn _ _ x).2 = 0
      rw [zn_more (names_lead h4 hx)]
      exact names_lead h4 hx
/-- A rule more leaves it so. -/
theorem all_rule {d d' : Sd} {r : Ru} (hr : d'.rs = d.rs ++ [r]) (hz : d'.zs = d.zs) (hl : d'.ls = d.ls) (h : Vd.all d = []) : Vd.all d' = [] := by
  obtain ⟨h1, h2, h3, h4⟩ := all_nil.1 h
  refine all_nil.2 ⟨by unfold Sd.names; rw [hz, hl]; exact h1, ?_, by rw [hz]; exact h3, by rw [hz, hl]; exact h4⟩
  rw [hr, hz, List.map_append]
  exact fun z hz e he hk => List.mem_append.2 (.inl (h2 z hz e he hk))
end Go.Proofs.YthlbockphdbpkaaDoor
