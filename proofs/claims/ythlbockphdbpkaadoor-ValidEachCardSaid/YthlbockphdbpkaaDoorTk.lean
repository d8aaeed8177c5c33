/- A source with links more: it stays right, and fits; no walk. -/
import Derived.Test.YthlbockphdbpkaaDoorSd1
import Derived.Test.YthlbockphdbpkaaDoorFr
import Derived.Test.YthlbockphdbpkaaDoorB7
import Derived.Test.YthlbockphdbpkaaDoorVa
import Derived.Test.YthlbockphdbpkaaDoorVc
namespace Go.Proofs.YthlbockphdbpkaaDoor
open Go.RowKit Go.Maps
set_option maxRecDepth 100000
theorem frN_right {m r : Nat} (hm : m < 26) (hr : (frN m r).size ≤ 60) : Rl.name (frN m r).data.toList = true := by
  rw [frN_size] at hr
  have hc : Rl.inn (UInt8.ofNat (97 + m)) = true := List.all_eq_true.1 (show (List.range 26).all (fun m => Rl.inn (UInt8.ofNat (97 + m))) = true by decide +kernel) m (List.mem_range.2 hm)
  have e : (frN m r).data.toList = 113 :: UInt8.ofNat (97 + m) :: List.replicate r 113 := by unfold frN; simp
  rw [e]
  unfold Rl.name
  rw [Bool.and_eq_true, Bool.and_eq_true, decide_eq_true_iff]
  refine ⟨?_, by show Rl.first 113 && true = true; decide +kernel, ?_⟩
  · rw [List.length_cons, List.length_cons, List.length_replicate]
    omega
  · rw [List.all_eq_true]
    intro c hcm
    rcases List.mem_cons.1 hcm with rfl | h
    · decide +kernel
    · rcases List.mem_cons.1 h with rfl | h
      · exact hc
      · rw [(List.mem_replicate.1 h).2]
        decide +kernel
theorem name_right {d : Sd} {x : ByteArray} (h : So.right d.src = true) (hx : x ∈ d.names) : Rl.name x.data.toList = true := by
  obtain ⟨_, _, h2, h3⟩ := so_parts h
  rcases List.mem_append.1 hx with h' | h'
  · obtain ⟨z, hz, rfl⟩ := List.mem_map.1 h'
    exact (zone_parts (h2 z.zn (List.mem_map.2 ⟨z, hz, rfl⟩))).1
  · obtain ⟨k, hk, rfl⟩ := List.mem_map.1 h'
    have := h3 k hk
    unfold So.link at this
    rw [Bool.and_eq_true] at this
    exact this.2
theorem right_links {d d' : Sd} {L : List Lk} (hr : d'.rs = d.rs) (hz : d'.zs = d.zs) (hl : d'.ls = d.ls ++ L) (h : So.right d.src = true) (hn : d.ls.length + L.length ≤ 4096) (hL : ∀ k ∈ L, So.link k = true) : So.right d'.src = true := by
  obtain ⟨h0, h1, h2, h3⟩ := so_parts h
  refine so_of ⟨?_, ?_, ?_⟩ ?_ ?_ ?_
  · show d'.rs.length ≤ _; rw [hr]; exact h0.1
  · show (d'.zs.map Zd.zn).length ≤ _; rw [hz]; exact h0.2.1
  · show d'.ls.length ≤ _; rw [hl, List.length_append]; exact hn
  · show ∀ r ∈ d'.rs, _; rw [hr]; exact h1
  · show ∀ z ∈ d'.zs.map Zd.zn, _; rw [hz]; exact h2
  · show ∀ k ∈ d'.ls, _
    rw [hl]
    intro k hk
    rcases List.mem_append.1 hk with hk | hk
    · exact h3 k hk
    · exact hL k hk
theorem fits_links {d d' : Sd} {L : List Lk} (hr : d'.rs = d.rs) (hz : d'.zs = d.zs) (hl : d'.ls = d.ls ++ L) (h : d.fits) (hn : d.ls.length + L.length ≤ 4096) (hL : ∀ k ∈ L, k.tg.size ≤ 9223372036854775807 ∧ k.nm.size ≤ 9223372036854775807) : d'.fits :=
  ⟨by rw [hr]; exact h.r, by rw [hz]; exact h.z, by rw [hl, List.length_append]; omega, by rw [hr]; exact h.rn, by rw [hz]; exact h.zn, by
    rw [hl]
    intro k hk
    rcases List.mem_append.1 hk with hk | hk
    · exact h.ln k hk
    · exact hL k hk⟩
/-- What is small is not too great for Flaws. -/
theorem fok_small {d : Sd} (hf : d.fits) (h1 : d.rs.length ≤ 40) (h2 : d.zs.length ≤ 12) (h3 : d.ls.length ≤ 22) (h4 : ∀ z ∈ d.zs, z.es.length ≤ 12) : Fok d :=
  ⟨by omega, by omega, fun z hz => Nat.le_trans (h4 z hz) (by decide), hf⟩
theorem bx3_of {W : World} {g : Nat} {a b c : Value} (hl : g < W.heap.size) (h0 : W.cell? ⟨g, 0, none⟩ = some a) (h1 : W.cell? ⟨g, 1, none⟩ = some b) (h2 : W.cell? ⟨g, 2, none⟩ = some c) : Bx W g [a, b, c] :=
  ⟨hl, fun i v hv => by
    rcases i with _ | _ | _ | i
    · rw [h0]; exact hv
    · rw [h1]; exact hv
    · rw [h2]; exact hv
    · simp at hv⟩
/-- Two sources, each in its box, and a row of names, through calls. -/
structure T7 (w : World) (d d' : Sd) (g g' : Nat) (A : Option Addr) (L : List ByteArray) (W : World) : Prop where
  k : K13 w d g W
  k' : K13 w d' g' W
  nm : Sl W W.heap.size A L.length (fun i => .string (L.getD i ByteArray.empty))
  ev : Ev W
theorem T7.on {w W W' : World} {d d' : Sd} {g g' : Nat} {A : Option Addr} {L : List ByteArray} (h : T7 w d d' g g' A L W) (hb : Below W.heap.size W W') : T7 w d d' g g' A L W' :=
  ⟨h.k.on hb, h.k'.on hb, (h.nm.below hb).more hb.size, h.ev.below hb⟩
end Go.Proofs.YthlbockphdbpkaaDoor
