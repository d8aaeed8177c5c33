/- When a source has no flaws; no walk. -/
import Derived.Test.YthlbockphdbpkaaDoorVd
namespace Go.Proofs.YthlbockphdbpkaaDoor
open Go.RowKit Go.Maps
theorem upto_all {α : Type} {f : Nat → α → List Fl} {l : List α} : Vd.upto f l l.length = [] ↔ ∀ (k : Nat) (x : α), l[k]? = some x → f k x = [] := by
  rw [upto_nil (Nat.le_refl _)]
  exact ⟨fun h k x hx => h k x (List.getElem?_eq_some_iff.1 hx).1 hx, fun h k x _ hx => h k x hx⟩
theorem upto_mem {α : Type} {f : α → List Fl} {l : List α} : Vd.upto (fun _ x => f x) l l.length = [] ↔ ∀ x ∈ l, f x = [] := by
  rw [upto_all]
  constructor
  · intro h x hx
    obtain ⟨k, hk⟩ := List.getElem?_of_mem hx
    exact h k x hk
  · exact fun h k x hx => h x (List.mem_of_getElem? hx)
theorem tw_nil {L : List ByteArray} : Vd.tw L = [] ↔ L.Nodup := by
  unfold Vd.tw
  rw [upto_all]
  unfold List.Nodup
  rw [List.pairwise_iff_getElem]
  constructor
  · intro h i j hi hj hij e
    have := h j L[j] (List.getElem?_eq_getElem hj)
    unfold Vd.twF at this
    rw [if_pos] at this
    · cases this
    · rw [inb_iff]
      refine List.mem_of_getElem? (i := i) ?_
      rw [List.getElem?_take_of_lt hij, List.getElem?_eq_getElem hi, e]
  · intro h k x hx
    unfold Vd.twF
    rw [if_neg]
    rw [inb_iff]
    intro hm
    obtain ⟨i, hi⟩ := List.getElem?_of_mem hm
    have hik : i < k := by
      rcases Nat.lt_or_ge i k with h' | h'
      · exact h'
      · rw [List.getElem?_eq_none (by rw [List.length_take]; omega)] at hi
        cases hi
    rw [List.getElem?_take_of_lt hik] at hi
    obtain ⟨hi1, hi2⟩ := List.getElem?_eq_some_iff.1 hi
    obtain ⟨hk1, hk2⟩ := List.getElem?_eq_some_iff.1 hx
    exact h i k hi1 hk1 hik (hi2.trans hk2.symm)
theorem rlF_nil {rs : List Ru} {e : Er} : Vd.rlF rs e = [] ↔ (e.k = 2 → e.ru ∈ rs.map Ru.nm) := by
  unfold Vd.rlF
  split
  · next h => exact ⟨fun h' => (by cases h'), fun h' => absurd (h' h.1) (inb_no.1 h.2)⟩
  · next h =>
    refine ⟨fun _ hk => ?_, fun _ => rfl⟩
    rcases hb : Ld.inb e.ru (rs.map Ru.nm) with _ | _
    · exact absurd ⟨hk, hb⟩ h
    · exact inb_iff.1 hb
theorem rl_nil {rs : List Ru} {zs : List Zd} : Vd.rl rs zs zs.length = [] ↔ ∀ z ∈ zs, ∀ e ∈ z.es, e.k = 2 → e.ru ∈ rs.map Ru.nm := by
  unfold Vd.rl
  rw [upto_mem (f := fun z : Zd => Vd.rlZ rs z.es z.es.length)]
  unfold Vd.rlZ
  constructor
  · intro h z hz e he
    exact rlF_nil.1 ((upto_mem (f := Vd.rlF rs)).1 (h z hz) e he)
  · exact fun h z hz => (upto_mem (f := Vd.rlF rs)).2 fun e he => rlF_nil.2 (h z hz e he)
theorem or_nil {zs : List Zd} : Vd.or zs zs.length = [] ↔ ∀ z ∈ zs, Vd.orZ z.nm z.es z.es.length = [] := by
  unfold Vd.or
  exact upto_mem (f := fun z : Zd => Vd.orZ z.nm z.es z.es.length)
theorem ul_nil {Z : List ByteArray} {K : List Lk} : Vd.ul Z K K.length = [] ↔ ∀ k ∈ K, (Ld.zn Z K k.tg).2 = 0 := by
  unfold Vd.ul
  rw [upto_mem (f := Vd.ulF Z K)]
  refine ⟨fun h k hk => ?_, fun h k hk => ?_⟩
  · have := h k hk
    unfold Vd.ulF at this
    split at this
    · next h' => exact h'
    · cases this
  · unfold Vd.ulF
    rw [if_pos (h k hk)]
/-- When there is no flaw at all. -/
theorem all_nil {d : Sd} : Vd.all d = [] ↔ d.names.Nodup ∧ (∀ z ∈ d.zs, ∀ e ∈ z.es, e.k = 2 → e.ru ∈ d.rs.map Ru.nm) ∧ (∀ z ∈ d.zs, Vd.orZ z.nm z.es z.es.length = []) ∧ ∀ k ∈ d.ls, (Ld.zn (d.zs.map Zd.nm) d.ls k.tg).2 = 0 := by
  unfold Vd.all
  rw [List.append_eq_nil_iff, List.append_eq_nil_iff, List.append_eq_nil_iff, tw_nil, rl_nil, or_nil, ul_nil, and_assoc, and_assoc]
end Go.Proofs.YthlbockphdbpkaaDoor
