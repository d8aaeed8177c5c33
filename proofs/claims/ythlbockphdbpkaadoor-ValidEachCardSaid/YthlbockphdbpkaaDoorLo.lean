/- What laws of layers 13 and 14 share: a source in its box, blocks of texts, links appended; no walk. -/
import Derived.Test.YthlbockphdbpkaaDoorNk
import Derived.Test.YthlbockphdbpkaaDoorSd0
import Derived.Laws.AppendOwnNone
namespace Go.Proofs.YthlbockphdbpkaaDoor
open Go.RowKit Go.Maps
set_option maxRecDepth 100000
theorem Sl.more {w : World} {B B' : Nat} {A : Option Addr} {n : Nat} {v : Nat → Value} (h : Sl w B A n v) (hB : B ≤ B') : Sl w B' A n v := fun hn => by
  obtain ⟨ad, e, hl, hc⟩ := h hn
  exact ⟨ad, e, Nat.lt_of_lt_of_le hl hB, hc⟩
theorem sl_of_own {w : World} {B c n : Nat} {A : Option Addr} {L : List ByteArray} (h : w.ownsRow B 9 1 (.slice A n c) n (L.map Value.string)) : Sl w w.heap.size A n (fun i => .string (L.getD i ByteArray.empty)) := fun hn => by
  have hl := h.1
  rw [List.length_map] at hl
  rcases h.2 with ⟨_, h0⟩ | ⟨g, cap, cur, hv, _, hg, _⟩
  · omega
  · injection hv with hA _ _
    subst hA
    refine ⟨⟨g, 0, none⟩, rfl, lt_blk hg, fun i hi => ?_⟩
    have hi' : i < L.length := by omega
    have := h.cells (g := g) rfl i (.string L[i]) (by rw [List.getElem?_map, List.getElem?_eq_getElem hi']; rfl)
    show _ = some (Value.string (L.getD i ByteArray.empty))
    rw [this, List.getD_eq_getElem?_getD, List.getElem?_eq_getElem hi']
    rfl
theorem rowE_sl {w w' : World} {L : List ByteArray} {e : Ending} (h : RowE w w' L e) : ∃ A c, e = .returned (.slice A L.length c) ∧ Sl w' w'.heap.size A L.length (fun i => .string (L.getD i ByteArray.empty)) := by
  obtain ⟨A, c, he, ho⟩ := h
  exact ⟨A, c, he, sl_of_own ho⟩
theorem chain_one {Z : List ByteArray} {K : List Lk} {x : ByteArray} {k k' : Nat} (h : ChainP Z K x k) (h' : ChainP Z K x k') : k ≤ k' := by
  rcases Nat.lt_or_ge k' k with hlt | hge
  · exfalso
    obtain ⟨h1, _, h2, h3, _⟩ := h
    obtain ⟨g1, _, _, _, g5⟩ := h'
    rcases g5 with g | ⟨_, j, hj, e⟩
    · exact h3 (k' - 1) (by omega) g
    · have hn := h2
      rw [List.Nodup, List.pairwise_iff_getElem] at hn
      have := hn j k' (by rw [chs_len]; omega) (by rw [chs_len]; exact hlt) hj
      unfold Ld.chs at this
      rw [List.getElem_map, List.getElem_map, List.getElem_range, List.getElem_range] at this
      exact this e.symm
  · exact hge
theorem chain_is {Z : List ByteArray} {K : List Lk} {x : ByteArray} {k k' : Nat} (h : ChainP Z K x k) (h' : ChainP Z K x k') : k = k' := Nat.le_antisymm (chain_one h h') (chain_one h' h)
theorem rk_lit {W : World} {g : Nat} {cs : Array Value} {t : TypeId} (h : W.heap[g]? = some (.cells cs t (0, 0))) : Rk W W.heap.size (some ⟨g, 0, none⟩) cs.toList := fun _ =>
  ⟨g, 0, rfl, lt_blk h, fun j u hu => by rw [Nat.zero_add, cell_blk h, ← Array.getElem?_toList]; exact hu⟩
theorem sl_lit {W : World} {L : List ByteArray} {g : Nat} (h : W.heap[g]? = some (.cells (L.map Value.string).toArray 9 (0, 0))) : Sl W W.heap.size (some ⟨g, 0, none⟩) L.length (fun i => .string (L.getD i ByteArray.empty)) := fun _ =>
  ⟨⟨g, 0, none⟩, rfl, lt_blk h, fun i hi => by
    rw [addr_add, cell_blk h, List.getElem?_toArray, List.getElem?_map, List.getElem?_eq_getElem hi]
    show _ = some (Value.string (L.getD i ByteArray.empty))
    rw [List.getD_eq_getElem?_getD, List.getElem?_eq_getElem hi]
    rfl⟩
/-- The source at hand, in its box. -/
structure K13 (w : World) (d : Sd) (g : Nat) (W : World) : Prop where
  bx : Bx W g [.slice d.rA d.rs.length d.rc, .slice d.zA d.zs.length d.zc, .slice d.lA d.ls.length d.lc]
  lk : Lok d W
  bel : Below w.heap.size w W
theorem K13.on {w W W' : World} {d : Sd} {g : Nat} (h : K13 w d g W) (hb : Below W.heap.size W W') : K13 w d g W' := ⟨h.bx.on hb, h.lk.on hb, h.bel.trans (hb.mono h.bel.size)⟩
/-- A new name. -/
theorem fresh_of {Z : List ByteArray} {K : List Lk} {y : ByteArray} (h : Ld.zn Z K y = (0, 3)) (hc : ChainP Z K y 1) : y ∉ Z ∧ y ∉ K.map Lk.nm := by
  have hn : Ld.nx Z K y = none := by
    rcases hc.2.2.2.2 with h' | ⟨h1, j, hj, e⟩
    · exact h'
    · exfalso
      obtain rfl : j = 0 := by omega
      have := zn_again (Z := Z) (K := K) (x := y) (k := 0) e h1
      rw [h] at this
      exact absurd (congrArg Prod.snd this) (by decide)
  refine ⟨fun hz => ?_, fun hl => ?_⟩
  · rw [zn_end (n := 0) (y := y) rfl hn, if_pos (inb_iff.2 hz)] at h
    exact absurd (congrArg Prod.snd h) (show ¬ (0 : Int) = 3 by decide)
  · by_cases hz : y ∈ Z
    · rw [zn_end (n := 0) (y := y) rfl hn, if_pos (inb_iff.2 hz)] at h
      exact absurd (congrArg Prod.snd h) (show ¬ (0 : Int) = 3 by decide)
    · obtain ⟨k, _, _, h3, _⟩ := first_link hz hl
      rw [hn] at h3
      cases h3
/-- The last name of a chain that leads to a zone is that zone's. -/
theorem chain_last {Z : List ByteArray} {K : List Lk} {x : ByteArray} {k : Nat} (h : ChainP Z K x k) (hz : (Ld.zn Z K x).2 = 0) : Z[(Ld.zn Z K x).1]? = some (Ld.it Z K (k - 1) x) := by
  rcases h.2.2.2.2 with hn | ⟨h1, j, hj, e⟩
  · have hx := zn_end (n := k - 1) rfl hn
    rw [hx] at hz ⊢
    by_cases hi : Ld.inb (Ld.it Z K (k - 1) x) Z = true
    · rw [if_pos hi]
      exact ix_at (inb_iff.1 hi)
    · rw [if_neg hi] at hz
      exact absurd hz (by decide)
  · exfalso
    have hk := h.1
    have hjn : Ld.nx Z K (Ld.it Z K j x) ≠ none := by
      by_cases hjk : j + 1 < k
      · exact h.2.2.2.1 j hjk
      · rw [show j = k - 1 by omega]; exact h1
    have ha : Ld.it Z K (k - j - 1 + 1) (Ld.it Z K j x) = Ld.it Z K j x := by
      rw [← it_add, show k - j - 1 + 1 + j = k by omega, e]
    have := zn_again ha hjn
    rw [zn_it] at this
    rw [this] at hz
    exact absurd hz (by decide)
/-- A block of texts. -/
structure Tw (W : World) (g : Nat) (L : List ByteArray) : Prop where
  lt : g < W.heap.size
  at_ : ∀ j s, L[j]? = some s → W.cell? ⟨g, j, none⟩ = some (.string s)
theorem Tw.on {W W' : World} {g : Nat} {L : List ByteArray} (h : Tw W g L) (hb : Below W.heap.size W W') : Tw W' g L := ⟨Nat.lt_of_lt_of_le h.lt hb.size, fun j s hs => (hb.cell (p := ⟨g, j, none⟩) h.lt).trans (h.at_ j s hs)⟩
theorem Tw.sl {W : World} {g : Nat} {L : List ByteArray} (h : Tw W g L) : Sl W W.heap.size (some ⟨g, 0, none⟩) L.length (fun i => .string (L.getD i ByteArray.empty)) := fun _ =>
  ⟨⟨g, 0, none⟩, rfl, h.lt, fun i hi => by
    rw [addr_add, h.at_ i L[i] (List.getElem?_eq_getElem hi)]
    show _ = some (Value.string (L.getD i ByteArray.empty))
    rw [List.getD_eq_getElem?_getD, List.getElem?_eq_getElem hi]
    rfl⟩
theorem rowE_tw {w w' : World} {L : List ByteArray} {e : Ending} (h : RowE w w' L e) (hl : 0 < L.length) : ∃ g c, e = .returned (.slice (some ⟨g, 0, none⟩) L.length c) ∧ Tw w' g L := by
  obtain ⟨A, c, he, ho⟩ := h
  rcases ho.2 with ⟨_, h0⟩ | ⟨g, cap, cur, hv, _, hg, _⟩
  · omega
  · injection hv with hA _ _
    subst hA
    refine ⟨g, c, he, lt_blk hg, fun j s hs => ?_⟩
    have := ho.cells (g := g) rfl j (.string s) (by rw [List.getElem?_map, hs]; rfl)
    rw [addr_add] at this
    exact this
theorem inb_next {x v : ByteArray} {L : List ByteArray} {j : Nat} (h : L[j]? = some v) : Ld.inb x (L.take (j + 1)) = (Ld.inb x (L.take j) || (v.toList == x.toList)) := by
  obtain ⟨hj, e⟩ := List.getElem?_eq_some_iff.1 h
  have hv : (v.toList == x.toList) = decide (v = x) := by
    rw [Bool.eq_iff_iff, beq_iff_eq, decide_eq_true_iff]
    exact ⟨fun h => by
      have h1 : v.data.toList = x.data.toList := by rw [← ByteArray.toList_eq, ← ByteArray.toList_eq]; exact h
      cases v; cases x
      simpa using h1, fun h => by rw [h]⟩
  rw [hv]
  unfold Ld.inb
  rw [List.take_succ_eq_append_getElem hj, List.any_append, e]
  simp
theorem als_size {d : Sd} {W : World} {x v : ByteArray} (h : Lok d W) (hv : v ∈ Ld.als d.Z d.ls x) : v.size ≤ 9223372036854775807 := by
  rcases List.mem_append.1 (als_mem.1 hv).1 with h1 | h1
  · obtain ⟨z, hz, rfl⟩ := List.mem_map.1 h1
    exact h.zs z hz
  · obtain ⟨k, hk, rfl⟩ := List.mem_map.1 h1
    exact (h.ls k hk).2
theorem als_short {d : Sd} {W : World} {x : ByteArray} (h : Lok d W) : (Ld.als d.Z d.ls x).length ≤ 1000 := by
  unfold Ld.als
  refine Nat.le_trans (sel_len _) (Nat.le_trans (uqk_len _ _ _) ?_)
  have := h.sz
  unfold Sd.Z
  rw [List.length_append, List.length_map, List.length_map]
  exact this
theorem addr_o (b o j : Nat) : (⟨b, o, none⟩ : Addr).add j = ⟨b, o + j, none⟩ := by
  unfold Addr.add
  split <;> simp_all
theorem wpList_lks {w : World} {ops : Array Oper} {rest : List Oper} {o : Oper} {a : Act} {Q : Exit → Act → World → Prop} (hgd : o.guard = none) (s x : Operand)
    (ho : o.op = .call { callee := .builtin .append, args := #[s, x], argTypes := #[24, 24] }) (base : Nat) (v : Value) (L : List Lk) (hown : w.ownsRow base 56 2 v L.length (L.flatMap lcell)) (hs : a.eval s = v) (A : Option Addr) (c : Nat) (M : List Lk)
    (hx : a.eval x = .slice A M.length c) (hA : A = none → c = 0) (hM : Rk w w.heap.size A (M.flatMap lcell)) (hlen : L.length + M.length ≤ 4096) (hbase : base ≤ w.heap.size)
    (h : ∀ v' w', w'.ownsRow base 56 2 v' (L ++ M).length ((L ++ M).flatMap lcell) → w.grownBy w' v.ownBlock → wpList Tryd.prog ops Q rest (a.put o.dst v') w') : wpList Tryd.prog ops Q (o :: rest) a w := by
  obtain ⟨i0, hi, hz0, hz1, hz2⟩ := info_parts link_info
  cases A with
  | none =>
    have hm : M = [] := by
      cases M with
      | nil => rfl
      | cons k l => obtain ⟨b, o, e, _⟩ := hM (by simp [lcell]); cases e
    subst hm
    have hc := hA rfl
    subst hc
    refine wpList_append_own_none hgd s x 24 ho base 56 i0 2 Tryd.underlying24 hi v L.length (L.flatMap lcell) hs hown hx ?_
    exact h v w (by simpa using hown) ⟨rfl, rfl, rfl, Nat.le_refl _, fun _ _ _ => rfl⟩
  | some ad =>
    refine wpList_append_own w hgd s x 24 ho base 56 i0 _ 2 32 Tryd.underlying24 hi hz0 hz1 hz2 rfl (by omega) v L.length (L.flatMap lcell) hs hown ad M.length c (M.flatMap lcell) hx (by rw [flat_len lcell_len]) (fun j u hu => ?_) (fun u hu => ?_) (by unfold maxLen; omega) (by omega) hbase (fun v' w' h1 h2 _ => ?_)
    · have h0 : 0 < (M.flatMap lcell).length := by
        have := (List.getElem?_eq_some_iff.1 hu).1
        omega
      obtain ⟨b, o', e, _, hc⟩ := hM h0
      injection e with e
      subst e
      rw [addr_o]
      exact hc j u hu
    · obtain ⟨k, _, hk⟩ := List.mem_flatMap.1 hu
      simp [lcell] at hk
      rcases hk with rfl | rfl <;> rfl
    · refine h v' w' ?_ h2
      rw [List.flatMap_append, List.length_append]
      exact h1
theorem own_shape {W : World} {base : Nat} {e : TypeId} {size n : Nat} {v : Value} {xs : List Value} (h : W.ownsRow base e size v n xs) (hn : 0 < n) : ∃ g cap, v = .slice (some ⟨g, 0, none⟩) n cap := by
  rcases h.2 with ⟨_, h0⟩ | ⟨g, cap, _, rfl, _⟩
  · omega
  · exact ⟨g, cap, rfl⟩
theorem rk_links {w : World} {B c n : Nat} {A : Option Addr} {xs : List Value} (h : w.ownsRow B 56 2 (.slice A n c) n xs) : Rk w w.heap.size A xs := fun hn => by
  rcases h.2 with ⟨_, h0⟩ | ⟨g, cap, cur, hv, _, hg, _⟩
  · have := h.1
    rw [h0] at this
    omega
  · injection hv with h1 _ _
    subst h1
    refine ⟨g, 0, rfl, lt_blk hg, fun j u hu => ?_⟩
    have := h.cells (g := g) rfl j u hu
    rw [addr_add] at this
    rw [Nat.zero_add]
    exact this
theorem lok_of {d : Sd} {W : World} (hf : d.fits) (hd : d.at_ W W.heap.size) (h1 : d.zs.length ≤ 12) (h2 : d.ls.length ≤ 20) : Lok d W :=
  ⟨hd, by omega, fun k hk => hf.ln k hk, fun z hz => (hf.zn z hz).1⟩
end Go.Proofs.YthlbockphdbpkaaDoor
