/- Aliases, when a link is added; no walk. -/
import Derived.Test.YthlbockphdbpkaaDoorNk
import Derived.Test.YthlbockphdbpkaaDoorVm
namespace Go.Proofs.YthlbockphdbpkaaDoor
open Go.RowKit
theorem ix_nodup {L : List ByteArray} (h : L.Nodup) {k : Nat} (hk : k < L.length) : Ld.ix L[k] L = k := by
  have h1 := ix_at (List.getElem_mem hk)
  have h2 := ix_lt (List.getElem_mem hk)
  rw [List.getElem?_eq_getElem h2] at h1
  injection h1 with h1
  unfold List.Nodup at h
  rw [List.pairwise_iff_getElem] at h
  rcases Nat.lt_trichotomy (Ld.ix L[k] L) k with hh | hh | hh
  · exact absurd h1 (h _ _ h2 hk hh)
  · exact hh
  · exact absurd h1.symm (h _ _ hk h2 hh)
theorem uqk_nodup {L : List ByteArray} (hL : L.Nodup) : ∀ (k : Nat) (h : k ≤ L.length), (uqk L k h).map (·.1) = L.take k
  | 0, _ => by simp [uqk]
  | k + 1, h => by
    unfold uqk
    rw [if_pos (ix_nodup hL h), List.map_append, uqk_nodup hL k (Nat.le_of_succ_le h), List.take_succ_eq_append_getElem h]
    rfl
theorem als_nodup {Z : List ByteArray} {K : List Lk} {x : ByteArray} (h : (Z ++ K.map Lk.nm).Nodup) : Ld.als Z K x = (Z ++ K.map Lk.nm).filter fun y => decide (Ld.zn Z K y = Ld.zn Z K x) := by
  unfold Ld.als Ld.sel
  rw [uqk_nodup h, List.take_length]
/-- One alias more, just where the new name leads to the same zone. -/
theorem als_link {Z : List ByteArray} {K : List Lk} {n y x : ByteArray} (h : (Z ++ K.map Lk.nm).Nodup) (h4 : ∀ k ∈ K, (Ld.zn Z K k.tg).2 = 0) (hn : n ∈ Z ++ K.map Lk.nm) (hy : y ∉ Z ++ K.map Lk.nm) (hx : x ∈ Z ++ K.map Lk.nm) :
    (Ld.als Z (K ++ [⟨n, y⟩]) x).length = (Ld.als Z K x).length + if Ld.zn Z K x = Ld.zn Z K n then 1 else 0 := by
  have e : Z ++ (K ++ [(⟨n, y⟩ : Lk)]).map Lk.nm = (Z ++ K.map Lk.nm) ++ [y] := by rw [List.map_append, List.append_assoc]; rfl
  have hd : (Z ++ (K ++ [(⟨n, y⟩ : Lk)]).map Lk.nm).Nodup := by
    rw [e]
    exact List.nodup_append.2 ⟨h, List.nodup_cons.2 ⟨by simp, List.nodup_nil⟩, fun a ha b hb e => hy (by rw [← List.mem_singleton.1 hb, ← e]; exact ha)⟩
  rw [als_nodup hd, als_nodup h, e, List.filter_append, List.length_append, zn_more (names_lead h4 hx)]
  have hf : (Z ++ K.map Lk.nm).filter (fun u => decide (Ld.zn Z (K ++ [⟨n, y⟩]) u = Ld.zn Z K x)) = (Z ++ K.map Lk.nm).filter (fun u => decide (Ld.zn Z K u = Ld.zn Z K x)) := by
    refine List.filter_congr fun u hu => ?_
    rw [zn_more (names_lead h4 hu)]
  rw [hf]
  have hzy : Ld.zn Z (K ++ [⟨n, y⟩]) y = Ld.zn Z K n := zn_new (names_lead h4 hn) (by rw [List.mem_append, not_or] at hy; exact hy)
  by_cases hxn : Ld.zn Z K x = Ld.zn Z K n
  · rw [if_pos hxn, List.filter_cons, if_pos (by rw [hzy]; exact decide_eq_true hxn.symm)]
    rfl
  · rw [if_neg hxn, List.filter_cons, if_neg (by rw [hzy]; simpa using fun e => hxn e.symm)]
    rfl
end Go.Proofs.YthlbockphdbpkaaDoor
