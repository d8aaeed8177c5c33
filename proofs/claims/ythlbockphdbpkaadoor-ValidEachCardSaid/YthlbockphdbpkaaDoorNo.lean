/- Names of a source (lead.Of). -/
import Derived.Test.YthlbockphdbpkaaDoorNb
import Derived.Deep.CutBlock
import Derived.Deep.RegionHeld3
namespace Go.Proofs.YthlbockphdbpkaaDoor
open Go.RowKit Go.Maps Go.Shelf
set_option maxRecDepth 100000
attribute [local go_sem] Oper.semAt_some
theorem ofs_on {w W W' : World} {c0 c1 c2 : Value}
    (h : W.cell? ⟨w.heap.size, 0, none⟩ = some c0 ∧ W.cell? ⟨w.heap.size, 1, none⟩ = some c1 ∧ W.cell? ⟨w.heap.size, 2, none⟩ = some c2 ∧ w.heap.size < W.heap.size ∧ Below w.heap.size w W) (hb : Below W.heap.size W W') :
    W'.cell? ⟨w.heap.size, 0, none⟩ = some c0 ∧ W'.cell? ⟨w.heap.size, 1, none⟩ = some c1 ∧ W'.cell? ⟨w.heap.size, 2, none⟩ = some c2 ∧ w.heap.size < W'.heap.size ∧ Below w.heap.size w W' := by
  obtain ⟨a, b, c, d, e⟩ := h
  exact ⟨(hb.cell (p := ⟨w.heap.size, 0, none⟩) d).trans a, (hb.cell (p := ⟨w.heap.size, 1, none⟩) d).trans b, (hb.cell (p := ⟨w.heap.size, 2, none⟩) d).trans c, Nat.lt_of_lt_of_le d hb.size, e.trans (hb.mono e.size)⟩
theorem ofs_a {w W : World} {c0 c1 c2 : Value} (h : W.cell? ⟨w.heap.size, 0, none⟩ = some c0 ∧ W.cell? ⟨w.heap.size, 1, none⟩ = some c1 ∧ W.cell? ⟨w.heap.size, 2, none⟩ = some c2 ∧ w.heap.size < W.heap.size ∧ Below w.heap.size w W) (o : Obj) : (W.alloc o).cell? ⟨w.heap.size, 0, none⟩ = some c0 ∧ (W.alloc o).cell? ⟨w.heap.size, 1, none⟩ = some c1 ∧ (W.alloc o).cell? ⟨w.heap.size, 2, none⟩ = some c2 ∧ w.heap.size < (W.alloc o).heap.size ∧ Below w.heap.size w (W.alloc o) := ofs_on h (box_below _ _)
theorem ofs_d {w W : World} {c0 c1 c2 : Value} (h : W.cell? ⟨w.heap.size, 0, none⟩ = some c0 ∧ W.cell? ⟨w.heap.size, 1, none⟩ = some c1 ∧ W.cell? ⟨w.heap.size, 2, none⟩ = some c2 ∧ w.heap.size < W.heap.size ∧ Below w.heap.size w W) : W.drew.cell? ⟨w.heap.size, 0, none⟩ = some c0 ∧ W.drew.cell? ⟨w.heap.size, 1, none⟩ = some c1 ∧ W.drew.cell? ⟨w.heap.size, 2, none⟩ = some c2 ∧ w.heap.size < W.drew.heap.size ∧ Below w.heap.size w W.drew := ofs_on h (Below.refl _ _).drew
theorem ofs_s {w W : World} {c0 c1 c2 : Value} (h : W.cell? ⟨w.heap.size, 0, none⟩ = some c0 ∧ W.cell? ⟨w.heap.size, 1, none⟩ = some c1 ∧ W.cell? ⟨w.heap.size, 2, none⟩ = some c2 ∧ w.heap.size < W.heap.size ∧ Below w.heap.size w W) {p : Addr} (hp : w.heap.size < p.block) (v : Value) : (W.setCell p v).cell? ⟨w.heap.size, 0, none⟩ = some c0 ∧ (W.setCell p v).cell? ⟨w.heap.size, 1, none⟩ = some c1 ∧ (W.setCell p v).cell? ⟨w.heap.size, 2, none⟩ = some c2 ∧ w.heap.size < (W.setCell p v).heap.size ∧ Below w.heap.size w (W.setCell p v) := by
  obtain ⟨a, b, c, d, e⟩ := h
  have hb : Below (w.heap.size + 1) W (W.setCell p v) := (Below.refl _ _).setCell hp v
  exact ⟨(hb.cell (p := ⟨w.heap.size, 0, none⟩) (Nat.lt_succ_self _)).trans a, (hb.cell (p := ⟨w.heap.size, 1, none⟩) (Nat.lt_succ_self _)).trans b, (hb.cell (p := ⟨w.heap.size, 2, none⟩) (Nat.lt_succ_self _)).trans c, by simpa using d, e.trans (hb.mono (Nat.le_succ _))⟩
theorem own_not_blk' {w : World} {b : Nat} {e t : TypeId} {k n : Nat} {v : Value} {xs : List Value} {g : Nat} {cs : Array Value} (h : w.ownsRow b e k v n xs) (hg : w.heap[g]? = some (.cells cs t (0, 0))) (hne : e ≠ t) : v.ownBlock ≠ some g := by
  rcases h.2 with ⟨rfl, _⟩ | ⟨g', cap, cur, rfl, _, hh, _⟩
  · simp [Value.ownBlock]
  · intro he
    have : g' = g := by simpa [Value.ownBlock] using he
    subst this
    rw [hg] at hh
    injection hh with hh
    injection hh with _ ht
    exact hne ht.symm
/-- What stands behind the first region: the names' block g, the variable's block vb. -/
structure OfR (w W : World) (L : List ByteArray) (z m : Nat) (cl : Value) (g vb : Nat) (A : Option Addr) (c : Nat) : Prop where
  gc : W.heap[g]? = some (.cells #[.slice A L.length c, .int .i64 z, .int .i64 m, .map none, .slice none 0 0] 81 (0, 0))
  vc : W.heap[vb]? = some (.cells #[.pointer (some ⟨g, 0, none⟩)] 66 (0, 0))
  g0 : w.heap.size < g
  v0 : w.heap.size < vb
  own : W.ownsRow (w.heap.size + 1) 9 1 (.slice A L.length c) L.length (L.map Value.string)
  c2 : W.cell? ⟨w.heap.size, 2, none⟩ = some cl
  bel : Below w.heap.size w W
theorem ofr_1 {w X : World} {L : List ByteArray} {z m B c : Nat} {c0 c1 cl : Value} {A : Option Addr} (hO : X.ownsRow B 9 1 (.slice A L.length c) L.length (L.map Value.string)) (hB : w.heap.size < B)
    (h : X.cell? ⟨w.heap.size, 0, none⟩ = some c0 ∧ X.cell? ⟨w.heap.size, 1, none⟩ = some c1 ∧ X.cell? ⟨w.heap.size, 2, none⟩ = some cl ∧ w.heap.size < X.heap.size ∧ Below w.heap.size w X) :
    OfR w ((X.alloc (.cells #[.slice A L.length c, .int .i64 z, .int .i64 m, .map none, .slice none 0 0] 81)).alloc (.cells #[.pointer (some ⟨X.heap.size, 0, none⟩)] 66)) L z m cl X.heap.size (X.heap.size + 1) A c := by
  obtain ⟨_, _, e3, e4, e5⟩ := ofs_a (ofs_a h (.cells #[.slice A L.length c, .int .i64 z, .int .i64 m, .map none, .slice none 0 0] 81)) (.cells #[.pointer (some ⟨X.heap.size, 0, none⟩)] 66)
  refine ⟨((box_below _ _).block _ (by simp)).trans (heap_alloc_new _ _), ?_, h.2.2.2.1, by have := h.2.2.2.1; omega, ((own_mono hO hB).alloc _).alloc _, e3, e5⟩
  have := heap_alloc_new (X.alloc (.cells #[.slice A L.length c, .int .i64 z, .int .i64 m, .map none, .slice none 0 0] 81)) (.cells #[.pointer (some ⟨X.heap.size, 0, none⟩)] 66)
  rw [World.size_alloc] at this
  exact this
theorem ofr_2 {w X : World} {L : List ByteArray} {z m B c : Nat} {c0 c1 cl : Value} {A : Option Addr} (hO : X.ownsRow B 9 1 (.slice A L.length c) L.length (L.map Value.string)) (hB : w.heap.size < B)
    (h : X.cell? ⟨w.heap.size, 0, none⟩ = some c0 ∧ X.cell? ⟨w.heap.size, 1, none⟩ = some c1 ∧ X.cell? ⟨w.heap.size, 2, none⟩ = some cl ∧ w.heap.size < X.heap.size ∧ Below w.heap.size w X) :
    OfR w ((X.alloc (.cells #[.pointer (some ⟨X.heap.size + 1, 0, none⟩)] 66)).alloc (.cells #[.slice A L.length c, .int .i64 z, .int .i64 m, .map none, .slice none 0 0] 81)) L z m cl (X.heap.size + 1) X.heap.size A c := by
  obtain ⟨_, _, e3, e4, e5⟩ := ofs_a (ofs_a h (.cells #[.pointer (some ⟨X.heap.size + 1, 0, none⟩)] 66)) (.cells #[.slice A L.length c, .int .i64 z, .int .i64 m, .map none, .slice none 0 0] 81)
  refine ⟨?_, ((box_below _ _).block _ (by simp)).trans (heap_alloc_new _ _), by have := h.2.2.2.1; omega, h.2.2.2.1, ((own_mono hO hB).alloc _).alloc _, e3, e5⟩
  have := heap_alloc_new (X.alloc (.cells #[.pointer (some ⟨X.heap.size + 1, 0, none⟩)] 66)) (.cells #[.slice A L.length c, .int .i64 z, .int .i64 m, .map none, .slice none 0 0] 81)
  rw [World.size_alloc] at this
  exact this
theorem ofr_3 {w X : World} {L : List ByteArray} {z m B c : Nat} {c0 c1 cl : Value} {A : Option Addr} (hO : X.ownsRow B 9 1 (.slice A L.length c) L.length (L.map Value.string)) (hB : w.heap.size < B)
    (h : X.cell? ⟨w.heap.size, 0, none⟩ = some c0 ∧ X.cell? ⟨w.heap.size, 1, none⟩ = some c1 ∧ X.cell? ⟨w.heap.size, 2, none⟩ = some cl ∧ w.heap.size < X.heap.size ∧ Below w.heap.size w X)
    (hv : X.heap[w.heap.size + 1]? = some (.cells #[.pointer none] 66 (0, 0))) :
    OfR w ((X.setCell ⟨w.heap.size + 1, 0, none⟩ (.pointer (some ⟨X.heap.size, 0, none⟩))).alloc (.cells #[.slice A L.length c, .int .i64 z, .int .i64 m, .map none, .slice none 0 0] 81)) L z m cl X.heap.size (w.heap.size + 1) A c := by
  obtain ⟨_, _, e3, e4, e5⟩ := ofs_a (ofs_s h (p := ⟨w.heap.size + 1, 0, none⟩) (Nat.lt_succ_self _) (.pointer (some ⟨X.heap.size, 0, none⟩))) (.cells #[.slice A L.length c, .int .i64 z, .int .i64 m, .map none, .slice none 0 0] 81)
  refine ⟨?_, ((box_below _ _).block _ (by simp; exact lt_blk hv)).trans (set_blk hv 0 _), h.2.2.2.1, Nat.lt_succ_self _, ((own_mono hO hB).kept (grown_set _ _ _) (.inr (own_not_blk' hO hv (by decide)))).alloc _, e3, e5⟩
  have := heap_alloc_new (X.setCell ⟨w.heap.size + 1, 0, none⟩ (.pointer (some ⟨X.heap.size, 0, none⟩))) (.cells #[.slice A L.length c, .int .i64 z, .int .i64 m, .map none, .slice none 0 0] 81)
  simp only [World.size_setCell] at this
  exact this
theorem make_map (n : Nat) (W : World) : (Instr.makeMap 76 (some (.int .i64 (n : Int)))).run Tryd.prog W = .ok (.map (some W.heap.size)) (W.alloc (.map #[] 0)) := by
  simp [Instr.makeMap, run_underlying Tryd.underlying76, asInt, asIntOf, Result.andThen]
/-- The map that the places from behind make. -/
def paM {L : List ByteArray} (pre : List (Pa L)) : DataW Unit := pre.foldl (fun D x => D.put (mkey x.1.2) (.lit (.int .i64 (x.1.1 : Nat)))) (.map [])
theorem paM_snoc {L : List ByteArray} (pre : List (Pa L)) (x : Pa L) : paM (pre ++ [x]) = (paM pre).put (mkey x.1.2) (.lit (.int .i64 (x.1.1 : Nat))) := by
  unfold paM
  rw [List.foldl_append]
  rfl
theorem paM_map {L : List ByteArray} (pre : List (Pa L)) : IsMap (paM pre) := by
  unfold paM
  suffices h : ∀ (l : List (Pa L)) (D : DataW Unit), IsMap D → IsMap (l.foldl (fun D x => D.put (mkey x.1.2) (.lit (.int .i64 (x.1.1 : Nat)))) D) from h pre _ isMap_empty
  intro l
  induction l with
  | nil => exact fun D h => h
  | cons x l ih => exact fun D h => ih _ (h.put _ _)
theorem fst_bk {L : List ByteArray} (hs : ∀ y ∈ L, y.size ≤ 9223372036854775807) : ∀ (k : Nat) (h : k ≤ L.length), Fst L (L.length - k) (paM (bk L k h))
  | 0, _ => fst_nil L
  | k + 1, h => by
    have ih := fst_bk hs k (by omega)
    show Fst L _ (paM (bk L k _ ++ [_]))
    rw [paM_snoc]
    have e : L.length - k = L.length - (k + 1) + 1 := by omega
    rw [e] at ih
    have hj : L.length - 1 - k < L.length := by omega
    have := fst_put (x := L[L.length - 1 - k]) ih (paM_map _) (by rw [show L.length - (k + 1) = L.length - 1 - k by omega]; exact List.getElem?_eq_getElem hj) (hs _ (List.getElem_mem hj))
    rw [show L.length - (k + 1) = L.length - 1 - k by omega] at this ⊢
    exact this
theorem Full.kept {W W' : World} {Z : List ByteArray} {K : List Lk} {g D : Nat} {d : Nd} (h : Full W Z K g d) (hg : W.grownBy W' (some D)) {o : Obj} (ho : W.heap[D]? = some o) (hc : o.isCells = false) (hm : ∀ es ck, o ≠ .map es ck) : Full W' Z K g d := by
  have hr : ∀ r, some D = some r → ∃ o : Obj, W.heap[r]? = some o ∧ o.isCells = false := fun r e => by cases e; exact ⟨o, ho, hc⟩
  refine ⟨⟨Nat.lt_of_lt_of_le h.nm.gb hg.size, fun i v hv => cell_kept (h.nm.at_ i v hv) hg hr, fun h0 => ?_, Nat.lt_of_lt_of_le h.nm.mb hg.size, World.ownsMap.kept h.nm.mp hg (fun e => ?_), h.nm.fm, h.nm.cp⟩, fun p hp => cell_kept (h.en p hp) hg hr, Nat.lt_of_lt_of_le h.ne hg.size⟩
  · obtain ⟨b, o', e, hb, hcs⟩ := h.nm.tx h0
    exact ⟨b, o', e, Nat.lt_of_lt_of_le hb hg.size, fun j u hu => cell_kept (hcs j u hu) hg hr⟩
  · obtain ⟨es, ck, h1, _⟩ := h.nm.mp
    injection e with e
    rw [e, ho] at h1
    injection h1 with h1
    exact hm es ck h1
theorem rk_own {w : World} {base size n c : Nat} {e : TypeId} {A : Option Addr} {m : Nat} {xs : List Value} (h : w.ownsRow base e size (.slice A m c) n xs) : Rk w w.heap.size A xs := fun hn => by
  rcases h.2 with ⟨_, h0⟩ | ⟨g, cap, cur, hv, _, hg, _⟩
  · have := h.1
    rw [h0, Nat.zero_mul] at this
    omega
  · injection hv with h1 _ _
    subst h1
    refine ⟨g, 0, rfl, lt_blk hg, fun j u hu => ?_⟩
    have := h.cells (g := g) rfl j u hu
    rw [addr_add] at this
    rw [Nat.zero_add]
    exact this
theorem own_cap {w : World} {base c : Nat} {e : TypeId} {A : Option Addr} {m : Nat} {xs : List Value} (h : w.ownsRow base e 1 (.slice A m c) m xs) : m ≤ c := by
  rcases h.2 with ⟨hv, h0⟩ | ⟨g, cap, cur, hv, _, _, hle, _⟩
  · omega
  · injection hv with _ _ hc
    omega
theorem strs_info : (Tryd.prog.info? 9).map (fun i => (i.zero, i.size, i.bytes)) = some (some (.string ⟨#[]⟩), 1, 16) := by kernel_rfl
theorem step_ap_str {w : World} {ops : Array Oper} {o : Oper} {a : Act} {K : Act → World → Prop} {Q : Exit → Act → World → Prop} {E : Prop} (hgd : o.guard = none) (s x : Operand)
    (ho : o.op = .call { callee := .builtin .append, args := #[s, x], argTypes := #[41, 41] }) (base : Nat) (v : Value) (n : Nat) (xs : List Value) (hs : a.eval s = v) (hown : w.ownsRow base 9 1 v n xs)
    (gx cx : Nat) (news : List Value) (hx : a.eval x = .slice (some ⟨gx, 0, none⟩) 1 cx) (hl : news.length = 1) (hc : ∀ j u, news[j]? = some u → w.cell? ⟨gx, j, none⟩ = some u) (h1 : ∀ u ∈ news, u.oneCell' = true) (hn : n ≤ 4294967296) (hbase : base ≤ w.heap.size)
    (h : ∀ g cap w', w'.ownsRow base 9 1 (.slice (some ⟨g, 0, none⟩) (n + 1) cap) (n + 1) (xs ++ news) → w.grownBy w' v.ownBlock → (v.ownBlock = some g ∨ g = w.heap.size) → g < w'.heap.size → K (a.put o.dst (.slice (some ⟨g, 0, none⟩) (n + 1) cap)) w') : if Region.wanted o (yielded ops a.tmps) = true then Oper.wp Tryd.prog o a w K Q else E := by
  obtain ⟨i0, hi, hz0, hz1, hz2⟩ := info_parts strs_info
  exact step_append_lies w hgd s x 41 ho base 9 i0 _ 1 16 Tryd.underlying41 hi hz0 hz1 hz2 rfl (by omega) v n xs hs hown ⟨gx, 0, none⟩ 1 cx news hx (by rw [hl]) (fun j u hu => by rw [addr_add]; exact hc j u hu) h1 (by omega) (by unfold maxLen; omega) (by omega) hbase _ rfl h
/-- A name more behind those of the names' block. -/
theorem OfR.next {w W W' : World} {L : List ByteArray} {z m : Nat} {cl : Value} {g vb : Nat} {A : Option Addr} {c : Nat} {x : ByteArray} {gg cap : Nat} (h : OfR w W L z m cl g vb A c)
    (hg : W.grownBy W' (Value.slice A L.length c).ownBlock) (ho : W'.ownsRow (w.heap.size + 1) 9 1 (.slice (some ⟨gg, 0, none⟩) (L.length + 1) cap) (L.length + 1) (L.map Value.string ++ [.string x])) :
    OfR w (W'.setCell ⟨g, 0, none⟩ (.slice (some ⟨gg, 0, none⟩) (L.length + 1) cap)) (L ++ [x]) z m cl g vb (some ⟨gg, 0, none⟩) cap := by
  have hgc := (hg.block g (lt_blk h.gc) (fun e => own_not_blk' h.own h.gc (by decide) e.symm)).trans h.gc
  have hvc := (hg.block vb (lt_blk h.vc) (fun e => own_not_blk' h.own h.vc (by decide) e.symm)).trans h.vc
  have hne : vb ≠ g := fun e => by
    have h1 := h.vc
    rw [e, h.gc] at h1
    injection h1 with h1
    injection h1 with _ h1
    exact absurd h1 (by decide)
  have hl : (L ++ [x]).length = L.length + 1 := by rw [List.length_append]; rfl
  have hlt : w.heap.size < W.heap.size := Nat.lt_trans h.g0 (lt_blk h.gc)
  have hob : ∀ k, (Value.slice A L.length c).ownBlock = some k → w.heap.size + 1 ≤ k := fun k e => (h.own.lt k e).1
  have hB1 : Below (w.heap.size + 1) W W' := (Below.refl _ _).grown hg hlt hob
  have hB2 : Below (w.heap.size + 1) W (W'.setCell ⟨g, 0, none⟩ (.slice (some ⟨gg, 0, none⟩) (L.length + 1) cap)) := hB1.setCell (p := ⟨g, 0, none⟩) h.g0 _
  refine ⟨?_, ?_, h.g0, h.v0, ?_, (hB2.cell (p := ⟨w.heap.size, 2, none⟩) (Nat.lt_succ_self _)).trans h.c2, h.bel.trans (hB2.mono (Nat.le_succ _))⟩
  · have := set_blk hgc 0 (.slice (some ⟨gg, 0, none⟩) (L.length + 1) cap)
    rw [this, hl]
    rfl
  · exact ((grown_set W' ⟨g, 0, none⟩ _).block vb (lt_blk hvc) (fun e => hne (by injection e))).trans hvc
  · rw [hl, List.map_append]
    exact ho.kept (grown_set _ _ _) (.inr (own_not_blk' ho hgc (by decide)))
theorem OfR.on {w W W' : World} {L : List ByteArray} {z m : Nat} {cl : Value} {g vb : Nat} {A : Option Addr} {c : Nat} (h : OfR w W L z m cl g vb A c) (hb : Below W.heap.size W W') : OfR w W' L z m cl g vb A c :=
  have hlt : w.heap.size < W.heap.size := Nat.lt_trans h.g0 (lt_blk h.gc)
  ⟨(hb.block g (lt_blk h.gc)).trans h.gc, (hb.block vb (lt_blk h.vc)).trans h.vc, h.g0, h.v0, own_on h.own hb, (hb.cell (p := ⟨w.heap.size, 2, none⟩) hlt).trans h.c2, h.bel.trans (hb.mono h.bel.size)⟩
/-- Names' parts lie from block B on. -/
def LoN (B g : Nat) (D : Nd) : Prop := B ≤ g ∧ B ≤ D.b ∧ B ≤ D.eb ∧ ∀ p, D.A = some p → B ≤ p.block
set_option maxHeartbeats 8000000 in
theorem of_lo (d : Sd) (w : World) (hd : d.at_ w w.heap.size) (hz : d.zs.length + d.ls.length ≤ 1000) (hs : ∀ k ∈ d.ls, k.tg.size ≤ 9223372036854775807 ∧ k.nm.size ≤ 9223372036854775807) (hs2 : ∀ z ∈ d.zs, z.nm.size ≤ 9223372036854775807) :
    Calls Tryd.prog 20 #[d.val] w fun e w' => (∃ g D, e = .returned (.pointer (some ⟨g, 0, none⟩)) ∧ Full w' (d.zs.map Zd.nm) d.ls g D ∧ LoN w.heap.size g D) ∧ Below w.heap.size w w' := by
  have hb := box_below w (.cells #[.slice d.rA d.rs.length d.rc, .slice d.zA d.zs.length d.zc, .slice d.lA d.ls.length d.lc] 26)
  have hbx : Bx (w.alloc (.cells #[.slice d.rA d.rs.length d.rc, .slice d.zA d.zs.length d.zc, .slice d.lA d.ls.length d.lc] 26)) w.heap.size [.slice d.rA d.rs.length d.rc, .slice d.zA d.zs.length d.zc, .slice d.lA d.ls.length d.lc] := Bx.mk' w w.heap.size #[.slice d.rA d.rs.length d.rc, .slice d.zA d.zs.length d.zc, .slice d.lA d.ls.length d.lc] _ rfl
  have S0 := And.intro (hbx.at_ 0 _ rfl) (And.intro (hbx.at_ 1 _ rfl) (And.intro (hbx.at_ 2 _ rfl) (And.intro hbx.lt hb)))
  have HN : Hid (∀ W : World, W.cell? ⟨w.heap.size, 0, none⟩ = some (.slice d.rA d.rs.length d.rc) ∧ W.cell? ⟨w.heap.size, 1, none⟩ = some (.slice d.zA d.zs.length d.zc) ∧ W.cell? ⟨w.heap.size, 2, none⟩ = some (.slice d.lA d.ls.length d.lc) ∧ w.heap.size < W.heap.size ∧ Below w.heap.size w W → Calls Tryd.prog 9 #[d.val] W fun e w' => RowE W w' d.names e ∧ w.heap.size < W.heap.size ∧ Below W.heap.size W w' ∧ (w'.cell? ⟨w.heap.size, 0, none⟩ = some (.slice d.rA d.rs.length d.rc) ∧ w'.cell? ⟨w.heap.size, 1, none⟩ = some (.slice d.zA d.zs.length d.zc) ∧ w'.cell? ⟨w.heap.size, 2, none⟩ = some (.slice d.lA d.ls.length d.lc) ∧ w.heap.size < w'.heap.size ∧ Below w.heap.size w w')) := Lib.hid (fun W h => (names_any d W ((hd.below h.2.2.2.2).more h.2.2.2.2.size) (by omega)).mono fun e w' ⟨h1, h2⟩ => ⟨h1, h.2.2.2.1, h2, ofs_on h h2⟩)
  clear hbx hb
  have HD := Lib.hid hd
  clear hd
  refine (callsIn_wide (n := 8)).1 ?_
  refine callsIn_of_wp_marks Tryd.func20 rfl trivial ?_ rfl
  simp only [Tryd.ntmps20, List.size_toArray, List.length_cons, List.length_nil, Nat.reduceAdd, Nat.reduceSub, Array.replicate_succ, Array.replicate_zero, List.push_toArray, List.append_toArray, List.nil_append, List.cons_append]
  refine wpIn_wide.2 ?_
  go_upto_region 1 with fail
  go_cut [1, 2, 3] from 8 to 17 (fun s1 s2 s3 wx => s1 = .pointer (some ⟨w.heap.size, 0, none⟩) ∧ s2 = .pointer none ∧ ∃ g vb A c, s3 = .pointer (some ⟨vb, 0, none⟩) ∧ OfR w wx d.names d.zs.length d.ls.length (.slice d.lA d.ls.length d.lc) g vb A c)
  case first =>
    go_region_held3 (fun w' => w'.cell? ⟨w.heap.size, 0, none⟩ = some (.slice d.rA d.rs.length d.rc) ∧ w'.cell? ⟨w.heap.size, 1, none⟩ = some (.slice d.zA d.zs.length d.zc) ∧ w'.cell? ⟨w.heap.size, 2, none⟩ = some (.slice d.lA d.ls.length d.lc) ∧ w.heap.size < w'.heap.size ∧ Below w.heap.size w w')
      ((repeat (first | assumption | exact (fun hb h => ofs_on h hb) (by assumption) (by assumption) | refine ofs_a ?_ _ | refine ofs_d ?_ | refine ofs_s ?_ (by first | omega | (simp; done) | (simp; omega)) _)))
      (first
        | (go_at_call 9; refine (HN.out _ (by assumption)).mono ?_; rintro e w' ⟨hrow, hlw, hb, hSw⟩; have hzz := hb.size; (first | (have hvc : w'.cell? ⟨w.heap.size + 1, 0, none⟩ = some (.pointer none) := (by rw [(bcell hb).1 _ _ (by simp)]; go_simp); have hvf : w'.frozen? ⟨w.heap.size + 1, 0, none⟩ = false := (by rw [(bcell hb).2 _ _ (by simp)]; go_simp); have hvl : w.heap.size + 1 < w'.heap.size := (by simp at hzz; omega)) | skip); obtain ⟨A, c, rfl, hO⟩ := hrow; have HO := Lib.hid hO; clear hO))
    · go_wp2_with fail
      go_meet
      case rel => exact ⟨rfl, rfl, _, _, A, c, rfl, ofr_1 HO.out hlw hSw⟩
    · go_wp2_with fail
      go_meet
      case rel => exact ⟨rfl, rfl, _, _, A, c, rfl, ofr_2 HO.out hlw hSw⟩
    · go_wp2_with fail
      go_meet
      case rel => exact ⟨rfl, rfl, _, _, A, c, rfl, ofr_3 HO.out hlw hSw ((hb.block _ (by simp)).trans (by have := heap_alloc_new (w.alloc (.cells #[.slice d.rA d.rs.length d.rc, .slice d.zA d.zs.length d.zc, .slice d.lA d.ls.length d.lc] 26)) (.cells #[.pointer none] 66); rw [World.size_alloc] at this; exact this))⟩
  case rest =>
    obtain ⟨rfl, rfl, g, vb, A, c, rfl, hR⟩ := hcut
    have e2 := hR.c2
    have HR := Lib.hid hR
    have hnl : d.ls.length ≤ 1000 := by omega
    have hLn : d.names.length = d.zs.length + d.ls.length := by unfold Sd.names; rw [List.length_append, List.length_map, List.length_map]
    have HLN := Lib.hid hLn
    clear S0 HN hR hLn
    generalize hnn : d.ls.length = nl at *
    generalize hnz : d.zs.length = nz at *
    have HNL := Lib.hid hnn
    have HNZ := Lib.hid hnz
    clear hnn hnz
    go_wp2_with fail
    go_loopw [21] (fun i wr => ∃ j : Nat, j ≤ nl ∧ i = .int .i64 j ∧ Hid (∃ A c, OfR w wr (d.names ++ (d.ls.take j).map Lk.tg) nz nl (.slice d.lA nl d.lc) g vb A c)) (fun i _ => nl - (intOf i).toNat)
    case atStart => exact ⟨0, Nat.zero_le _, rfl, Lib.hid ⟨A, c, by rw [List.take_zero, List.map_nil, List.append_nil]; exact HR.out⟩⟩
    case round =>
      clear e2 HR
      obtain ⟨j, hj, rfl, HE⟩ := hrel
      obtain ⟨A2, c2, hR2⟩ := HE.out
      clear HE
      by_cases hlt : j < nl
      · obtain ⟨x, hx⟩ : ∃ x, d.ls[j]? = some x := ⟨_, List.getElem?_eq_getElem (by rw [HNL.out]; exact hlt)⟩
        obtain ⟨b, o, eA, hb, hc⟩ := (HD.out.l.below hR2.bel).at_ lcell_len (by decide) hx
        have cx0 : wr.cell? ⟨b, o + j * 2, none⟩ = some (Value.string x.tg) := hc 0 _ rfl
        have cx1 : wr.cell? ⟨b, o + j * 2 + 1, none⟩ = some (Value.string x.nm) := hc 1 _ rfl
        rw [eA]
        have HTS := Lib.hid (take_map_snoc Lk.tg d.ls j x hx)
        have q1 := box_below wr (.cells #[.string x.tg, .string x.nm] 56)
        have q2 := box_below (wr.alloc (.cells #[.string x.tg, .string x.nm] 56)) (.cells #[.string x.tg] 9)
        have HR3 := Lib.hid (((hR2.on q1).on q2).on ((Below.refl _ _).drew))
        have HBX := Lib.hid (Bx.mk' (wr.alloc (.cells #[.string x.tg, .string x.nm] 56)) (wr.heap.size + 1) #[.string x.tg] 9 (by simp))
        have r1 := cell_blk hR2.vc 0
        have r2 := cell_blk hR2.gc 0
        have r3 := frozen_blk hR2.gc 0
        have r4 := lt_blk hR2.gc
        have r5 := lt_blk hR2.vc
        change wr.cell? ⟨vb, 0, none⟩ = some (.pointer (some ⟨g, 0, none⟩)) at r1
        change wr.cell? ⟨g, 0, none⟩ = some (.slice A2 _ c2) at r2
        have hlen : (d.names ++ (d.ls.take j).map Lk.tg).length ≤ 4294967296 := by rw [List.length_append, List.length_map, List.length_take, HLN.out, HNL.out]; omega
        have hbw : w.heap.size + 1 ≤ wr.heap.size := Nat.lt_trans hR2.g0 r4
        generalize hQ : d.names ++ (d.ls.take j).map Lk.tg = Q at *
        have HQ := Lib.hid hQ
        clear hc hx q1 q2 hQ hR2
        go_wp2_with fail
        refine wp_region_noPanic ?_
        go_region_law
          ((refine step_ap_str (by rfl) _ _ (by rfl) (w.heap.size + 1) (.slice A2 Q.length c2) Q.length (Q.map Value.string) (by rfl) HR3.out.own (wr.heap.size + 1) 1 [.string x.tg] (by rfl) (by rfl) HBX.out.at_ (by intro u hu; simp at hu; subst hu; rfl) hlen (by simp; omega) ?_; intro gg cap w3 hown3 hgrow hat hlt3; have k0 := (hgrow.block g (lt_blk HR3.out.gc) (fun e => own_not_blk' HR3.out.own HR3.out.gc (by decide) e.symm)).trans HR3.out.gc; have k1 := cell_blk k0 0; have k2 := frozen_blk k0 0; have k3 := cell_blk ((hgrow.block vb (lt_blk HR3.out.vc) (fun e => own_not_blk' HR3.out.own HR3.out.vc (by decide) e.symm)).trans HR3.out.vc) 0; change w3.cell? ⟨vb, 0, none⟩ = some (.pointer (some ⟨g, 0, none⟩)) at k3))
        all_goals
          have HF := Lib.hid (HR3.out.next hgrow hown3)
          clear hgrow hown3 k0 k1 k2 k3
          refine NoPanic.normal ?_
          go_wp2_with fail
          go_roundw
          case rel => exact ⟨j + 1, by omega, by go_num, Lib.hid ⟨_, _, by have hf := HF.out; rw [eA] at hf; rw [HTS.out, ← List.append_assoc, HQ.out]; exact hf⟩⟩
          case measure => simp [intOf]; omega
      · obtain rfl : j = nl := by omega
        have hQ : d.names ++ (d.ls.take j).map Lk.tg = Ld.all (d.zs.map Zd.nm) d.ls := by
          rw [List.take_of_length_le (by rw [HNL.out]; exact Nat.le_refl _)]
          rfl
        rw [hQ] at hR2
        have hN : (Ld.all (d.zs.map Zd.nm) d.ls).length ≤ 4096 := by rw [all_len, List.length_map, HNL.out, HNZ.out]; omega
        have hmk := fun W => make_map (Ld.all (d.zs.map Zd.nm) d.ls).length W
        have r1 := cell_blk hR2.vc 0
        have r2 := cell_blk hR2.gc 0
        have r3 := frozen_blk hR2.gc 3
        have r4 := cell_blk hR2.gc 3
        have r5 := lt_blk hR2.gc
        have r6 := lt_blk hR2.vc
        change wr.cell? ⟨vb, 0, none⟩ = some (.pointer (some ⟨g, 0, none⟩)) at r1
        change wr.cell? ⟨g, 0, none⟩ = some (.slice A2 _ c2) at r2
        change wr.cell? ⟨g, 3, none⟩ = some (.map none) at r4
        have hvg : vb ≠ g := fun e => by
          have h1 := hR2.vc
          rw [e, hR2.gc] at h1
          injection h1 with h1
          injection h1 with _ h1
          exact absurd h1 (by decide)
        have HR := Lib.hid hR2
        clear hR2 hQ
        generalize hall : (Ld.all (d.zs.map Zd.nm) d.ls).length = N at *
        have HALL := Lib.hid hall
        clear hall
        go_wp2_with fail
        go_region
        go_wp2_with (go_at_call 30; refine (back_any A2 N c2 _).mono ?_; rintro e w' ⟨rfl, rfl⟩)
        have hX : (wr.setCell ⟨g, 3, none⟩ (.map (some wr.heap.size))).heap.size = wr.heap.size := by simp
        have gr1 := grown_set wr ⟨g, 3, none⟩ (.map (some wr.heap.size))
        have gc1 := set_blk HR.out.gc 3 (.map (some wr.heap.size))
        have vc1 := ((gr1.block vb r6 (fun e => hvg (by injection e)))).trans HR.out.vc
        have ow1 := HR.out.own.kept gr1 (.inr (own_not_blk' HR.out.own HR.out.gc (by decide)))
        have bl1 : Below w.heap.size w (wr.setCell ⟨g, 3, none⟩ (.map (some wr.heap.size))) := HR.out.bel.setCell (p := ⟨g, 3, none⟩) (Nat.le_of_lt HR.out.g0) _
        have mp2 := World.ownsMap_made (H := Unit) (wr.setCell ⟨g, 3, none⟩ (.map (some wr.heap.size))) Tryd.prog 9 (plainElem Tryd.prog 3)
        have b12 := box_below (wr.setCell ⟨g, 3, none⟩ (.map (some wr.heap.size))) (.map #[] 0)
        generalize hw1 : (wr.setCell ⟨g, 3, none⟩ (.map (some wr.heap.size))) = w1 at *
        have b23 := box_below (w1.alloc (.map #[] 0)) (.cells #[.slice A2 N c2] 41)
        have cB := cell_blk (heap_alloc_new (w1.alloc (.map #[] 0)) (.cells #[.slice A2 N c2] 41)) 0
        have b13 := b12.trans (b23.mono b12.size)
        have gcY : ((w1.alloc (.map #[] 0)).alloc (.cells #[.slice A2 N c2] 41)).drew.heap[g]? = _ := (b13.block g (lt_blk gc1)).trans gc1
        have vcY : ((w1.alloc (.map #[] 0)).alloc (.cells #[.slice A2 N c2] 41)).drew.heap[vb]? = _ := (b13.block vb (lt_blk vc1)).trans vc1
        have owY : ((w1.alloc (.map #[] 0)).alloc (.cells #[.slice A2 N c2] 41)).drew.ownsRow (w.heap.size + 1) 9 1 _ _ _ := own_on ow1 b13.drew
        have mpY : ((w1.alloc (.map #[] 0)).alloc (.cells #[.slice A2 N c2] 41)).drew.ownsMap Tryd.prog 9 (plainElem Tryd.prog 3) wr.heap.size 0 (.map [] : DataW Unit) := by
          rw [← hX]
          exact mp2.alloc _
        have blY : Below w.heap.size w ((w1.alloc (.map #[] 0)).alloc (.cells #[.slice A2 N c2] 41)).drew := (bl1.trans (b13.mono bl1.size)).drew
        have cBY : ((w1.alloc (.map #[] 0)).alloc (.cells #[.slice A2 N c2] 41)).drew.cell? ⟨wr.heap.size + 1, 0, none⟩ = some (.slice A2 N c2) := by
          have : (w1.alloc (.map #[] 0)).heap.size = wr.heap.size + 1 := by rw [World.size_alloc, hX]
          rw [this] at cB
          exact cB
        have szY : ((w1.alloc (.map #[] 0)).alloc (.cells #[.slice A2 N c2] 41)).drew.heap.size = wr.heap.size + 1 + 1 := by
          show ((w1.alloc (.map #[] 0)).alloc (.cells #[.slice A2 N c2] 41)).heap.size = _
          rw [World.size_alloc, World.size_alloc, hX]
        have HG0 := Lib.hid (Nat.le_of_lt HR.out.g0)
        have HWR : Hid (w.heap.size ≤ wr.heap.size) := Lib.hid HR.out.bel.size
        have hsz : ∀ y ∈ Ld.all (d.zs.map Zd.nm) d.ls, y.size ≤ 9223372036854775807 := fun y hy => by
          rcases List.mem_append.1 hy with hy | hy
          · rcases List.mem_append.1 hy with hy | hy
            · obtain ⟨z, hz, rfl⟩ := List.mem_map.1 hy
              exact hs2 z hz
            · obtain ⟨k, hk, rfl⟩ := List.mem_map.1 hy
              exact (hs k hk).2
          · obtain ⟨k, hk, rfl⟩ := List.mem_map.1 hy
            exact (hs k hk).1
        clear gr1 gc1 vc1 ow1 bl1 mp2 b12 b23 cB b13 HR hmk r1 r2 r3 r4
        generalize hYY : ((w1.alloc (.map #[] 0)).alloc (.cells #[.slice A2 N c2] 41)).drew = Y at *
        refine (wpIn_wide (n := 8)).1 ?_
        refine wpIn_rangeFunc_ownG rfl (by omega) (gf := 49) (lb := #[.pointer (some ⟨wr.heap.size + 1, 0, none⟩)]) rfl trivial (enters_of Tryd.func49 (by kernel_rfl) rfl)
          (back_stops 7 (wr.heap.size + 1) Y.heap.size wr.heap.size (by omega) A2 c2 (Ld.all (d.zs.map Zd.nm) d.ls) N HALL.out (by omega) ?hA (by omega) (by omega) Y (Nat.le_refl _) cBY ?hT) (fun h k => KpB.trans h k) (fun W l o o' h _ _ _ => KpB.put W l o' h) (Below.refl _ _) (fun _ => rfl)
          (fun pre W => MapAt W wr.heap.size pre.length (paM pre) ∧ Y.grownBy W (some wr.heap.size)) (fun _ _ _ => False) ?hI (fun _ _ _ _ _ hs _ _ => hs) ⟨mpY, ⟨rfl, rfl, rfl, Nat.le_refl _, fun _ _ _ => rfl⟩⟩ ?a1 ?assign ?body ?done ?stop
        case hA =>
          intro h0
          have hO := owY
          rw [HALL.out] at hO
          rcases hO.2 with ⟨_, h0'⟩ | ⟨gp, cap, cur, hv, _, hgp, _⟩
          · omega
          · injection hv with hv _ _
            refine ⟨gp, 0, hv, lt_blk hgp, fun e => ?_⟩
            obtain ⟨es, ck, h1, _⟩ := mpY
            rw [← e, hgp] at h1
            cases h1
        case hT =>
          intro ab ao e j x hx
          have hO := owY
          rw [HALL.out] at hO
          subst e
          rcases hO.2 with ⟨hv, _⟩ | ⟨gp, cap, cur, hv, _, hgp, _⟩
          · cases hv
          · injection hv with hv _ _
            injection hv with hv
            injection hv with hv1 hv2
            subst hv1 hv2
            have := owY.cells (g := ab) rfl j (.string x) (by rw [List.getElem?_map, hx]; rfl)
            rw [addr_add] at this
            rw [Nat.zero_add]
            exact this
        case hI =>
          intro pre W W' row hs hg hr
          refine ⟨World.ownsMap.kept hs.1 hg (fun e => by have := (hr _ e.symm).1; omega), ?_⟩
          exact ⟨hg.os.trans hs.2.os, hg.tape.trans hs.2.tape, hg.output.trans hs.2.output, Nat.le_trans hs.2.size hg.size, fun k hk hne => (hg.block k (Nat.lt_of_lt_of_le hk hs.2.size) (fun e => by have := (hr _ e.symm).1; omega)).trans (hs.2.block k hk hne)⟩
        case assign =>
          intro l x W K hK
          unfold paVals
          gi_wp2
          exact hK
        case body =>
          rintro l pre x W ⟨hown, hgr⟩ hlt
          have hxm : x.1.2 ∈ Ld.all (d.zs.map Zd.nm) d.ls := List.mem_of_getElem? x.2
          have hxs := hsz _ hxm
          have hxl : x.1.1 < N := by rw [← HALL.out]; exact (List.getElem?_eq_some_iff.1 x.2).1
          have k1 : W.cell? ⟨vb, 0, none⟩ = some (.pointer (some ⟨g, 0, none⟩)) := (World.cell?_of_block (a := ⟨vb, 0, none⟩) (hgr.block vb (lt_blk vcY) (fun e => by injection e; omega))).trans (cell_blk vcY 0)
          have k2 : W.cell? ⟨g, 3, none⟩ = some (.map (some wr.heap.size)) := (World.cell?_of_block (a := ⟨g, 3, none⟩) (hgr.block g (lt_blk gcY) (fun e => by injection e; omega))).trans (cell_blk gcY 3)
          have hYW := hgr.size
          gi_wp2_with (gi_at_mapUpdate; refine wpListIn_mapUpdate_own _ rfl _ _ _ 76 rfl 9 3 str_keyed Tryd.underlying76 _ wr.heap.size pre.length _ rfl hown (by unfold maxLen; omega) _ _ _ rfl rfl (key_of hxs) _ [] (plainElem_int Tryd.underlying3 (WalkArith.wf_i64 (by omega))) ?_; intro w7 hown1 hgrow1)
          exact ⟨KeepsFrom.of_grownBy hgrow1 (fun j e => by cases e; omega), ⟨hgrow1.size, fun k hk hne => hgrow1.block k (by omega) (fun e => hne (by injection e))⟩, by rw [paM_snoc, List.length_append]; exact hown1, grown_then hgr hgrow1⟩
        case done =>
          rintro D ys W hD ⟨hle, rfl⟩ ⟨hown, hgr⟩ hK
          have gcW := (hgr.block g (lt_blk gcY) (fun e => by injection e; omega)).trans gcY
          have vcW := (hgr.block vb (lt_blk vcY) (fun e => by injection e; omega)).trans vcY
          have owW := owY.kept hgr (.inr (fun e => by
            obtain ⟨es, ck, h1, _⟩ := mpY
            rcases owY.2 with ⟨hv, _⟩ | ⟨gp, cap, cur, hv, _, hgp, _⟩
            · rw [hv] at e; simp [Value.ownBlock] at e
            · rw [hv] at e
              have : gp = wr.heap.size := by simpa [Value.ownBlock] using e
              rw [← this, hgp] at h1
              cases h1))
          have hag : ∀ x, A2 = some x → x.block ≠ g := fun x e he => own_not_blk' owW gcW (by decide) (by rw [e]; simp [Value.ownBlock, he])
          have k0 : W.cell? ⟨vb, 0, none⟩ = some (.pointer (some ⟨g, 0, none⟩)) := (cell_blk vcW 0).trans rfl
          have hHC := follow_any (d.zs.map Zd.nm) d.ls g A2 c2 wr.heap.size _ _ W (by have hh := gcW; rw [HALL.out] at hh; rw [HALL.out, List.length_map, HNZ.out, HNL.out]; exact hh) (rk_own owW) hag hown (by have := fst_bk hsz N hle; rw [HALL.out, Nat.sub_self] at this; exact this) (own_cap owW) (by rw [HALL.out]; exact hN) (fun k hk => (hs k hk).1)
          have HC := Lib.hid hHC
          have HBW : Hid (Below w.heap.size w W) := Lib.hid (blY.grown hgr (by have := blY.size; omega) (fun k e => by injection e with e; have := HWR.out; omega))
          have HAB : Hid (∀ p, A2 = some p → w.heap.size ≤ p.block) := Lib.hid fun p e => Nat.le_of_succ_le (owW.lt p.block (by rw [e]; rfl)).1
          clear hHC hag hown owW
          go_wp2_with (go_at_call 31; refine HC.out.mono ?_; rintro r w6 ⟨rfl, hF, hg6⟩; have k1 := cell_blk ((hg6.block vb (lt_blk vcW) (fun e => hvg (by injection e))).trans vcW) 0; change w6.cell? ⟨vb, 0, none⟩ = some (.pointer (some ⟨g, 0, none⟩)) at k1; clear k0; have HF6 := Lib.hid hF; have HG6 := Lib.hid hg6; clear hF hg6)
          have hK6 : w6.heap[D]? = some (.deferred (some [])) := (HG6.out.block D (lt_blk hK) (fun e => by injection e; have := lt_blk gcY; omega)).trans hK
          refine ⟨by simp, .inl ⟨_, _, rfl, run_takeDeferred hK6, ?_⟩⟩
          refine ⟨_, results_tmp rfl _ _ _, ⟨g, _, rfl, HF6.out.kept (grownBy_putObj' w6 D _) hK6 rfl (fun _ _ e => by cases e), HG0.out, by have := HWR.out; show w.heap.size ≤ wr.heap.size; omega, HBW.out.size, HAB.out⟩, ?_⟩
          have hb6 : Below w.heap.size w w6 := HBW.out.grown HG6.out HBW.out.size (fun k e => by injection e with e; have := HG0.out; omega)
          exact hb6.trans (belowK_b (w := w) (Nat.le_refl _) w6 D _ _ (by have := blY.size; omega) hK6 rfl rfl)
        case stop =>
          rintro D c pre W _ _ h _
          exact h.elim
theorem of_any (d : Sd) (w : World) (hd : d.at_ w w.heap.size) (hz : d.zs.length + d.ls.length ≤ 1000) (hs : ∀ k ∈ d.ls, k.tg.size ≤ 9223372036854775807 ∧ k.nm.size ≤ 9223372036854775807) (hs2 : ∀ z ∈ d.zs, z.nm.size ≤ 9223372036854775807) :
    Calls Tryd.prog 20 #[d.val] w fun e w' => (∃ g D, e = .returned (.pointer (some ⟨g, 0, none⟩)) ∧ Full w' (d.zs.map Zd.nm) d.ls g D) ∧ Below w.heap.size w w' :=
  (of_lo d w hd hz hs hs2).mono fun _ _ ⟨⟨g, D, e, h, _⟩, hb⟩ => ⟨⟨g, D, e, h⟩, hb⟩
end Go.Proofs.YthlbockphdbpkaaDoor
