/- The chain of two names that lead to one another; no walk. -/
import Derived.Test.YthlbockphdbpkaaDoorNl
import Derived.Test.YthlbockphdbpkaaDoorVq
namespace Go.Proofs.YthlbockphdbpkaaDoor
open Go.RowKit
theorem chs_ne {Z : List ByteArray} {K : List Lk} {x : ByteArray} : ∀ {k : Nat}, (Ld.chs Z K x k).Nodup → ∀ i j, i < j → j < k → Ld.it Z K i x ≠ Ld.it Z K j x
  | 0, _, _, _, _, h => absurd h (Nat.not_lt_zero _)
  | k + 1, h, i, j, hij, hj => by
    rw [chs_succ] at h
    obtain ⟨h1, _, h3⟩ := List.nodup_append.1 h
    by_cases hjk : j < k
    · exact chs_ne h1 i j hij hjk
    · obtain rfl : j = k := by omega
      exact h3 _ (chs_mem.2 ⟨i, hij, rfl⟩) _ (List.mem_singleton.2 rfl)
theorem chain_two {Z : List ByteArray} {K : List Lk} {a b : ByteArray} (ha : a ∉ Z ++ K.map Lk.nm) (hb : b ∉ Z ++ K.map Lk.nm) (hab : a ≠ b) {k : Nat} (h : ChainP Z (K ++ [⟨a, b⟩, ⟨b, a⟩]) a k) : k = 2 := by
  obtain ⟨n1, n2⟩ := nx_two ha hb hab
  have i0 : Ld.it Z (K ++ [⟨a, b⟩, ⟨b, a⟩]) 0 a = a := rfl
  have i1 : Ld.it Z (K ++ [⟨a, b⟩, ⟨b, a⟩]) 1 a = b := st_some n1
  have i2 : Ld.it Z (K ++ [⟨a, b⟩, ⟨b, a⟩]) 2 a = a := by
    show Ld.st _ _ (Ld.it _ _ 1 a) = a
    rw [i1, st_some n2]
  obtain ⟨h0, _, hd, _, hl⟩ := h
  rcases Nat.lt_trichotomy k 2 with hk | hk | hk
  · exfalso
    obtain rfl : k = 1 := by omega
    rcases hl with hl | ⟨_, j, hj, e⟩
    · have e : Ld.it Z (K ++ [⟨a, b⟩, ⟨b, a⟩]) (1 - 1) a = a := rfl
      rw [e, n1] at hl
      cases hl
    · obtain rfl : j = 0 := by omega
      rw [i1, i0] at e
      exact hab e.symm
  · exact hk
  · exact absurd (i0.trans i2.symm) (chs_ne hd 0 2 (by omega) hk)
end Go.Proofs.YthlbockphdbpkaaDoor
