/- Where names lead when links are added; no walk. -/
import Derived.Test.YthlbockphdbpkaaDoorLp
namespace Go.Proofs.YthlbockphdbpkaaDoor
open Go.RowKit
set_option maxRecDepth 100000
theorem look_more {x t : ByteArray} {L : List Lk} : ∀ {K : List Lk}, Ld.look x K = some t → Ld.look x (K ++ L) = some t
  | [], h => by cases h
  | k :: l, h => by
    rw [List.cons_append]
    unfold Ld.look at h ⊢
    by_cases e : k.nm = x
    · rw [if_pos e] at h ⊢; exact h
    · rw [if_neg e] at h ⊢; exact look_more h
theorem nx_more {Z : List ByteArray} {K L : List Lk} {x t : ByteArray} (h : Ld.nx Z K x = some t) : Ld.nx Z (K ++ L) x = some t := by
  unfold Ld.nx at h ⊢
  by_cases hz : Ld.inb x Z = true
  · rw [if_pos hz] at h; cases h
  · rw [if_neg hz] at h ⊢; exact look_more h
theorem it_more {Z : List ByteArray} {K L : List Lk} {e : ByteArray} : ∀ (n : Nat) (x : ByteArray), Ld.it Z K n x = e → Ld.nx Z K e = none → ∃ m, Ld.it Z (K ++ L) m x = e
  | 0, x, h, _ => ⟨0, h⟩
  | n + 1, x, h, he => by
    rw [it_succ'] at h
    cases hx : Ld.nx Z K x with
    | none =>
      rw [st_none hx, it_stuck hx] at h
      exact ⟨0, h⟩
    | some t =>
      rw [st_some hx] at h
      obtain ⟨m, hm⟩ := it_more n t h he
      exact ⟨m + 1, by rw [it_succ', st_some (nx_more hx)]; exact hm⟩
theorem zn_more {Z : List ByteArray} {K L : List Lk} {x : ByteArray} (h : (Ld.zn Z K x).2 = 0) : Ld.zn Z (K ++ L) x = Ld.zn Z K x := by
  obtain ⟨n, e, hn, he, hz, _⟩ := zn_lt h
  obtain ⟨m, hm⟩ := it_more (L := L) n x hn he
  rw [zn_end hn he, zn_end hm (first_zone hz).2.2]
theorem look_new {x y : ByteArray} : ∀ {K : List Lk}, y ∉ K.map Lk.nm → Ld.look y (K ++ [⟨x, y⟩]) = some x
  | [], _ => by
    show Ld.look y [⟨x, y⟩] = some x
    unfold Ld.look
    rw [if_pos rfl]
  | k :: l, h => by
    rw [List.cons_append]
    unfold Ld.look
    rw [List.map_cons] at h
    rw [if_neg (fun e => h (List.mem_cons.2 (.inl e.symm)))]
    exact look_new (fun h' => h (List.mem_cons.2 (.inr h')))
theorem zn_new {Z : List ByteArray} {K : List Lk} {x y : ByteArray} (hx : (Ld.zn Z K x).2 = 0) (h : y ∉ Z ∧ y ∉ K.map Lk.nm) : Ld.zn Z (K ++ [⟨x, y⟩]) y = Ld.zn Z K x := by
  have hn : Ld.nx Z (K ++ [⟨x, y⟩]) y = some x := by
    unfold Ld.nx
    rw [if_neg (by rw [inb_iff]; exact h.1)]
    exact look_new h.2
  rw [← zn_step, st_some hn, zn_more hx]
theorem in_names {Z : List ByteArray} {K : List Lk} {x : ByteArray} (h : (Ld.zn Z K x).2 = 0) : x ∈ Z ++ K.map Lk.nm := by
  cases hn : Ld.nx Z K x with
  | some t => exact List.mem_append.2 (.inr (nx_link hn).2.1)
  | none =>
    rw [zn_end (n := 0) (y := x) rfl hn] at h
    by_cases hz : Ld.inb x Z = true
    · exact List.mem_append.2 (.inl (inb_iff.1 hz))
    · rw [if_neg hz] at h
      exact absurd h (by decide)
/-- Where all links lead to zones, all names do. -/
theorem names_lead {Z : List ByteArray} {K : List Lk} {x : ByteArray} (h : ∀ k ∈ K, (Ld.zn Z K k.tg).2 = 0) (hx : x ∈ Z ++ K.map Lk.nm) : (Ld.zn Z K x).2 = 0 := by
  cases hn : Ld.nx Z K x with
  | some t =>
    rw [← zn_step, st_some hn]
    obtain ⟨k, hk, rfl⟩ := List.mem_map.1 (nx_link hn).2.2
    exact h k hk
  | none =>
    by_cases hz : x ∈ Z
    · rw [zn_end (n := 0) (y := x) rfl hn, if_pos (inb_iff.2 hz)]
    · obtain ⟨k, _, _, h3, _⟩ := first_link hz ((List.mem_append.1 hx).resolve_left hz)
      rw [hn] at h3
      cases h3
end Go.Proofs.YthlbockphdbpkaaDoor
