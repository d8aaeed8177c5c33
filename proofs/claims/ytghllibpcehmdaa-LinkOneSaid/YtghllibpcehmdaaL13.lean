/- What is asked ahead of the statements of layer 13; links appended; lists that are alike. -/
import Derived.Test.YtghllibpcehmdaaNk
import Derived.Test.YtghllibpcehmdaaSk1
import Derived.Laws.AppendOwnNone
namespace Go.Proofs.Ytghllibpcehmdaa
open Go.RowKit Go.Maps
set_option maxRecDepth 100000
theorem Sl.more {w : World} {B B' : Nat} {A : Option Addr} {n : Nat} {v : Nat → Value} (h : Sl w B A n v) (hB : B ≤ B') : Sl w B' A n v := fun hn => by
  obtain ⟨ad, e, hl, hc⟩ := h hn
  exact ⟨ad, e, Nat.lt_of_lt_of_le hl hB, hc⟩
theorem sl_of_own {w : World} {B c n : Nat} {A : Option Addr} {L : List ByteArray} (h : w.ownsRow B 9 1 (.slice A n c) n (L.map Value.string)) : Sl w w.heap.size A n (fun i => .string (L.getD i ByteArray.empty)) := fun hn => by
  have hl := h.1
  rw [List.length_map] at hl
  rcases h.2 with ⟨_, h0⟩ | ⟨g, cap, cur, hv, _, hg, _⟩
  · omega
  · injection hv with hA _ _
    subst hA
    refine ⟨⟨g, 0, none⟩, rfl, lt_blk hg, fun i hi => ?_⟩
    have hi' : i < L.length := by omega
    have := h.cells (g := g) rfl i (.string L[i]) (by rw [List.getElem?_map, List.getElem?_eq_getElem hi']; rfl)
    show _ = some (Value.string (L.getD i ByteArray.empty))
    rw [this, List.getD_eq_getElem?_getD, List.getElem?_eq_getElem hi']
    rfl
theorem rowE_sl {w w' : World} {L : List ByteArray} {e : Ending} (h : RowE w w' L e) : ∃ A c, e = .returned (.slice A L.length c) ∧ Sl w' w'.heap.size A L.length (fun i => .string (L.getD i ByteArray.empty)) := by
  obtain ⟨A, c, he, ho⟩ := h
  exact ⟨A, c, he, sl_of_own ho⟩
theorem chain_one {Z : List ByteArray} {K : List Lk} {x : ByteArray} {k k' : Nat} (h : ChainP Z K x k) (h' : ChainP Z K x k') : k ≤ k' := by
  rcases Nat.lt_or_ge k' k with hlt | hge
  · exfalso
    obtain ⟨h1, _, h2, h3, _⟩ := h
    obtain ⟨g1, _, _, _, g5⟩ := h'
    rcases g5 with g | ⟨_, j, hj, e⟩
    · exact h3 (k' - 1) (by omega) g
    · have hn := h2
      rw [List.Nodup, List.pairwise_iff_getElem] at hn
      have := hn j k' (by rw [chs_len]; omega) (by rw [chs_len]; exact hlt) hj
      unfold Ld.chs at this
      rw [List.getElem_map, List.getElem_map, List.getElem_range, List.getElem_range] at this
      exact this e.symm
  · exact hge
theorem chain_is {Z : List ByteArray} {K : List Lk} {x : ByteArray} {k k' : Nat} (h : ChainP Z K x k) (h' : ChainP Z K x k') : k = k' := Nat.le_antisymm (chain_one h h') (chain_one h' h)
def zs13 : List Zd := [⟨⟨#[65]⟩, none, 0, []⟩, ⟨⟨#[66]⟩, none, 0, []⟩]
def ks13 : List Lk := [⟨⟨#[67]⟩, ⟨#[68]⟩⟩, ⟨⟨#[66]⟩, ⟨#[67]⟩⟩, ⟨⟨#[70]⟩, ⟨#[69]⟩⟩, ⟨⟨#[69]⟩, ⟨#[70]⟩⟩, ⟨⟨#[120]⟩, ⟨#[71]⟩⟩]
def s13 (n : Nat) : Sd := ⟨none, 0, [], some ⟨n, 0, none⟩, 2, zs13, some ⟨n + 1, 0, none⟩, 5, ks13⟩
def zn13 : List ByteArray := [⟨#[65]⟩, ⟨#[66]⟩]
theorem s13_Z (n : Nat) : (s13 n).Z = zn13 := rfl
theorem zn_D : Ld.zn zn13 ks13 ⟨#[68]⟩ = (1, 0) := (zn_end (n := 2) (y := ⟨#[66]⟩) (by kernel_rfl) (by kernel_rfl)).trans (by kernel_rfl)
theorem zn_C : Ld.zn zn13 ks13 ⟨#[67]⟩ = (1, 0) := (zn_end (n := 1) (y := ⟨#[66]⟩) (by kernel_rfl) (by kernel_rfl)).trans (by kernel_rfl)
theorem zn_A : Ld.zn zn13 ks13 ⟨#[65]⟩ = (0, 0) := (zn_end (n := 0) (y := ⟨#[65]⟩) (by kernel_rfl) (by kernel_rfl)).trans (by kernel_rfl)
theorem zn_B : Ld.zn zn13 ks13 ⟨#[66]⟩ = (1, 0) := (zn_end (n := 0) (y := ⟨#[66]⟩) (by kernel_rfl) (by kernel_rfl)).trans (by kernel_rfl)
theorem zn_G : Ld.zn zn13 ks13 ⟨#[71]⟩ = (0, 3) := (zn_end (n := 1) (y := ⟨#[120]⟩) (by kernel_rfl) (by kernel_rfl)).trans (by kernel_rfl)
theorem nx_E : Ld.nx zn13 ks13 ⟨#[69]⟩ = some ⟨#[70]⟩ := by kernel_rfl
theorem nx_F : Ld.nx zn13 ks13 ⟨#[70]⟩ = some ⟨#[69]⟩ := by kernel_rfl
theorem zn_E : Ld.zn zn13 ks13 ⟨#[69]⟩ = (0, 9) := zn_again (k := 1) (by kernel_rfl) (by rw [nx_E]; exact fun e => by cases e)
theorem zn_F : Ld.zn zn13 ks13 ⟨#[70]⟩ = (0, 9) := zn_again (k := 1) (by kernel_rfl) (by rw [nx_F]; exact fun e => by cases e)
theorem ch_D : ChainP zn13 ks13 ⟨#[68]⟩ 3 := by
  refine ⟨by decide, by decide, ?_, fun j hj => ?_, .inl (by kernel_rfl)⟩
  · exact of_decide_eq_true (by kernel_rfl)
  · rcases j with _ | _ | j
    · exact fun e => by rw [show Ld.nx zn13 ks13 (Ld.it zn13 ks13 0 ⟨#[68]⟩) = some ⟨#[67]⟩ by kernel_rfl] at e; cases e
    · exact fun e => by rw [show Ld.nx zn13 ks13 (Ld.it zn13 ks13 1 ⟨#[68]⟩) = some ⟨#[66]⟩ by kernel_rfl] at e; cases e
    · omega
theorem ch_E : ChainP zn13 ks13 ⟨#[69]⟩ 2 := by
  refine ⟨by decide, by decide, ?_, fun j hj => ?_, .inr ⟨?_, 0, by decide, by kernel_rfl⟩⟩
  · exact of_decide_eq_true (by kernel_rfl)
  · obtain rfl : j = 0 := by omega
    exact fun e => by rw [show Ld.nx zn13 ks13 (Ld.it zn13 ks13 0 ⟨#[69]⟩) = some ⟨#[70]⟩ by kernel_rfl] at e; cases e
  · exact fun e => by rw [show Ld.nx zn13 ks13 (Ld.it zn13 ks13 1 ⟨#[69]⟩) = some ⟨#[69]⟩ by kernel_rfl] at e; cases e
theorem chs_D : Ld.chs zn13 ks13 ⟨#[68]⟩ 3 = [⟨#[68]⟩, ⟨#[67]⟩, ⟨#[66]⟩] := by kernel_rfl
theorem chs_E : Ld.chs zn13 ks13 ⟨#[69]⟩ 2 = [⟨#[69]⟩, ⟨#[70]⟩] := by kernel_rfl
theorem als_C : Ld.als zn13 ks13 ⟨#[67]⟩ = [⟨#[66]⟩, ⟨#[68]⟩, ⟨#[67]⟩] := by
  unfold Ld.als Ld.sel
  rw [show (uqk (zn13 ++ ks13.map Lk.nm) (zn13 ++ ks13.map Lk.nm).length (Nat.le_refl _)).map (·.1) = [⟨#[65]⟩, ⟨#[66]⟩, ⟨#[68]⟩, ⟨#[67]⟩, ⟨#[69]⟩, ⟨#[70]⟩, ⟨#[71]⟩] by kernel_rfl]
  simp only [List.filter, zn_A, zn_B, zn_C, zn_D, zn_E, zn_F, zn_G]
  rfl
theorem rk_lit {W : World} {g : Nat} {cs : Array Value} {t : TypeId} (h : W.heap[g]? = some (.cells cs t (0, 0))) : Rk W W.heap.size (some ⟨g, 0, none⟩) cs.toList := fun _ =>
  ⟨g, 0, rfl, lt_blk h, fun j u hu => by rw [Nat.zero_add, cell_blk h, ← Array.getElem?_toList]; exact hu⟩
theorem sl_lit {W : World} {L : List ByteArray} {g : Nat} (h : W.heap[g]? = some (.cells (L.map Value.string).toArray 9 (0, 0))) : Sl W W.heap.size (some ⟨g, 0, none⟩) L.length (fun i => .string (L.getD i ByteArray.empty)) := fun _ =>
  ⟨⟨g, 0, none⟩, rfl, lt_blk h, fun i hi => by
    rw [addr_add, cell_blk h, List.getElem?_toArray, List.getElem?_map, List.getElem?_eq_getElem hi]
    show _ = some (Value.string (L.getD i ByteArray.empty))
    rw [List.getD_eq_getElem?_getD, List.getElem?_eq_getElem hi]
    rfl⟩
/-- The source of the first questions, in its box. -/
structure B13 (w W : World) : Prop where
  bx : Bx W (w.heap.size + 1 + 1) [.slice none 0 0, .slice (some ⟨w.heap.size, 0, none⟩) 2 2, .slice (some ⟨w.heap.size + 1, 0, none⟩) 5 5]
  lk : Lok (s13 w.heap.size) W
  bel : Below w.heap.size w W
theorem B13.on {w W W' : World} (h : B13 w W) (hb : Below W.heap.size W W') : B13 w W' := ⟨h.bx.on hb, h.lk.on hb, h.bel.trans (hb.mono h.bel.size)⟩
theorem b13_start (w : World) : B13 w (((w.alloc (.cells #[.string ⟨#[65]⟩, .slice none 0 0, .string ⟨#[66]⟩, .slice none 0 0] 36)).alloc (.cells #[.string ⟨#[67]⟩, .string ⟨#[68]⟩, .string ⟨#[66]⟩, .string ⟨#[67]⟩, .string ⟨#[70]⟩, .string ⟨#[69]⟩, .string ⟨#[69]⟩, .string ⟨#[70]⟩, .string ⟨#[120]⟩, .string ⟨#[71]⟩] 39)).alloc (.cells #[.slice none 0 0, .slice (some ⟨w.heap.size, 0, none⟩) 2 2, .slice (some ⟨w.heap.size + 1, 0, none⟩) 5 5] 26)) := by
  have h1 := heap_alloc_new w (.cells #[.string ⟨#[65]⟩, .slice none 0 0, .string ⟨#[66]⟩, .slice none 0 0] 36)
  have q1 := box_below w (.cells #[.string ⟨#[65]⟩, .slice none 0 0, .string ⟨#[66]⟩, .slice none 0 0] 36)
  have hs1 : (w.alloc (.cells #[.string ⟨#[65]⟩, .slice none 0 0, .string ⟨#[66]⟩, .slice none 0 0] 36)).heap.size = w.heap.size + 1 := by simp
  generalize w.alloc (.cells #[.string ⟨#[65]⟩, .slice none 0 0, .string ⟨#[66]⟩, .slice none 0 0] 36) = w1 at *
  have h2 := heap_alloc_new w1 (.cells #[.string ⟨#[67]⟩, .string ⟨#[68]⟩, .string ⟨#[66]⟩, .string ⟨#[67]⟩, .string ⟨#[70]⟩, .string ⟨#[69]⟩, .string ⟨#[69]⟩, .string ⟨#[70]⟩, .string ⟨#[120]⟩, .string ⟨#[71]⟩] 39)
  have q2 := box_below w1 (.cells #[.string ⟨#[67]⟩, .string ⟨#[68]⟩, .string ⟨#[66]⟩, .string ⟨#[67]⟩, .string ⟨#[70]⟩, .string ⟨#[69]⟩, .string ⟨#[69]⟩, .string ⟨#[70]⟩, .string ⟨#[120]⟩, .string ⟨#[71]⟩] 39)
  have hs2 : (w1.alloc (.cells #[.string ⟨#[67]⟩, .string ⟨#[68]⟩, .string ⟨#[66]⟩, .string ⟨#[67]⟩, .string ⟨#[70]⟩, .string ⟨#[69]⟩, .string ⟨#[69]⟩, .string ⟨#[70]⟩, .string ⟨#[120]⟩, .string ⟨#[71]⟩] 39)).heap.size = w.heap.size + 1 + 1 := by rw [World.size_alloc, hs1]
  generalize w1.alloc (.cells #[.string ⟨#[67]⟩, .string ⟨#[68]⟩, .string ⟨#[66]⟩, .string ⟨#[67]⟩, .string ⟨#[70]⟩, .string ⟨#[69]⟩, .string ⟨#[69]⟩, .string ⟨#[70]⟩, .string ⟨#[120]⟩, .string ⟨#[71]⟩] 39) = w2 at *
  have q3 := box_below w2 (.cells #[.slice none 0 0, .slice (some ⟨w.heap.size, 0, none⟩) 2 2, .slice (some ⟨w.heap.size + 1, 0, none⟩) 5 5] 26)
  have k1 := (q3.block w.heap.size (by omega)).trans ((q2.block w.heap.size (by omega)).trans h1)
  rw [hs1] at h2
  have k2 := (q3.block (w.heap.size + 1) (by omega)).trans h2
  refine ⟨Bx.mk' w2 _ #[.slice none 0 0, .slice (some ⟨w.heap.size, 0, none⟩) 2 2, .slice (some ⟨w.heap.size + 1, 0, none⟩) 5 5] _ (by omega), ⟨⟨Rk.nil, rk_lit k1, fun z hz => ?_, rk_lit k2⟩, (show (2 + 5 : Nat) ≤ 1000 by decide), fun k hk => ?_, fun z hz => ?_⟩, q1.trans ((q2.mono (by omega)).trans (q3.mono (by omega)))⟩
  · have : z.es = [] := by
      rcases List.mem_cons.1 hz with rfl | hz
      · rfl
      · rcases List.mem_cons.1 hz with rfl | hz
        · rfl
        · cases hz
    rw [this]
    exact Rk.nil
  · have := List.all_eq_true.1 (show ks13.all (fun k => decide (k.tg.size ≤ 9223372036854775807 ∧ k.nm.size ≤ 9223372036854775807)) = true by kernel_rfl) k hk
    exact of_decide_eq_true this
  · have := List.all_eq_true.1 (show zs13.all (fun z => decide (z.nm.size ≤ 9223372036854775807)) = true by kernel_rfl) z hz
    exact of_decide_eq_true this
end Go.Proofs.Ytghllibpcehmdaa
