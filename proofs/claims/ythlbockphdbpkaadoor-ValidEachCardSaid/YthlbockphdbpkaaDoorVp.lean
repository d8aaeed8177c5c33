/- A finder at a block, and its put (package valid). -/
import Derived.Test.YthlbockphdbpkaaDoorVd
import Derived.Test.YthlbockphdbpkaaDoorNs
import Derived.Deep.AppendLies
import Derived.Deep.RegionHeld3
import Derived.Deep.RegionLaw
namespace Go.Proofs.YthlbockphdbpkaaDoor
open Go.RowKit Go.Maps
set_option maxRecDepth 100000
theorem flaw_info : (Tryd.prog.info? 62).map (fun i => (i.zero, i.size, i.bytes)) = some (some (.agg #[.int .i64 0, .string ⟨#[]⟩]), 2, 24) := by kernel_rfl
theorem wpList_ap_flaw {w : World} {ops : Array Oper} {rest : List Oper} {o : Oper} {a : Act} {Q : Exit → Act → World → Prop} (hgd : o.guard = none) (s x : Operand)
    (ho : o.op = .call { callee := .builtin .append, args := #[s, x], argTypes := #[59, 59] }) (base : Nat) (v : Value) (n : Nat) (xs : List Value) (hs : a.eval s = v) (hown : w.ownsRow base 62 2 v n xs)
    (gx cx : Nat) (news : List Value) (hx : a.eval x = .slice (some ⟨gx, 0, none⟩) 1 cx) (hl : news.length = 2) (hc : ∀ j u, news[j]? = some u → w.cell? ⟨gx, j, none⟩ = some u) (h1 : ∀ u ∈ news, u.oneCell' = true) (hn : n ≤ 4294967296) (hbase : base ≤ w.heap.size)
    (h : ∀ g cap w', w'.ownsRow base 62 2 (.slice (some ⟨g, 0, none⟩) (n + 1) cap) (n + 1) (xs ++ news) → w.grownBy w' v.ownBlock → (v.ownBlock = some g ∨ g = w.heap.size) → g < w'.heap.size → wpList Tryd.prog ops Q rest (a.put o.dst (.slice (some ⟨g, 0, none⟩) (n + 1) cap)) w') : wpList Tryd.prog ops Q (o :: rest) a w := by
  obtain ⟨i0, hi, hz0, hz1, hz2⟩ := info_parts flaw_info
  exact wpList_append_lies w hgd s x 59 ho base 62 i0 _ 2 24 Tryd.underlying59 hi hz0 hz1 hz2 rfl (by omega) v n xs hs hown ⟨gx, 0, none⟩ 1 cx news hx (by rw [hl]) (fun j u hu => by rw [addr_add]; exact hc j u hu) h1 (by omega) (by unfold maxLen; omega) (by omega) hbase _ rfl h
theorem step_ap_flaw {w : World} {ops : Array Oper} {o : Oper} {a : Act} {K : Act → World → Prop} {Q : Exit → Act → World → Prop} {E : Prop} (hgd : o.guard = none) (s x : Operand)
    (ho : o.op = .call { callee := .builtin .append, args := #[s, x], argTypes := #[59, 59] }) (base : Nat) (v : Value) (n : Nat) (xs : List Value) (hs : a.eval s = v) (hown : w.ownsRow base 62 2 v n xs)
    (gx cx : Nat) (news : List Value) (hx : a.eval x = .slice (some ⟨gx, 0, none⟩) 1 cx) (hl : news.length = 2) (hc : ∀ j u, news[j]? = some u → w.cell? ⟨gx, j, none⟩ = some u) (h1 : ∀ u ∈ news, u.oneCell' = true) (hn : n ≤ 4294967296) (hbase : base ≤ w.heap.size)
    (h : ∀ g cap w', w'.ownsRow base 62 2 (.slice (some ⟨g, 0, none⟩) (n + 1) cap) (n + 1) (xs ++ news) → w.grownBy w' v.ownBlock → (v.ownBlock = some g ∨ g = w.heap.size) → g < w'.heap.size → K (a.put o.dst (.slice (some ⟨g, 0, none⟩) (n + 1) cap)) w') : if Region.wanted o (yielded ops a.tmps) = true then Oper.wp Tryd.prog o a w K Q else E := by
  obtain ⟨i0, hi, hz0, hz1, hz2⟩ := info_parts flaw_info
  exact step_append_lies w hgd s x 59 ho base 62 i0 _ 2 24 Tryd.underlying59 hi hz0 hz1 hz2 rfl (by omega) v n xs hs hown ⟨gx, 0, none⟩ 1 cx news hx (by rw [hl]) (fun j u hu => by rw [addr_add]; exact hc j u hu) h1 (by omega) (by unfold maxLen; omega) (by omega) hbase _ rfl h
/-- A finder at block g: a source that lies below it, and the flaws, in a row of the call's own above it. -/
structure Fnd (W : World) (d : Sd) (g : Nat) (A : Option Addr) (c : Nat) (L : List Fl) : Prop where
  blk : W.heap[g]? = some (.cells #[.slice d.rA d.rs.length d.rc, .slice d.zA d.zs.length d.zc, .slice d.lA d.ls.length d.lc, .slice A L.length c] 75 (0, 0))
  ow : W.ownsRow (g + 1) 62 2 (.slice A L.length c) L.length (L.flatMap fcell)
  sd : d.at_ W g
/-- What was there stays, but for the blocks X; the flaws' row is the one that was, or a new one. -/
structure Kf (X : Nat → Prop) (W W' : World) : Prop where
  os : W'.os = W.os
  tape : W'.tape = W.tape
  output : W'.output = W.output
  size : W.heap.size ≤ W'.heap.size
  block : ∀ k, k < W.heap.size → ¬ X k → W'.heap[k]? = W.heap[k]?
theorem Kf.refl (X : Nat → Prop) (W : World) : Kf X W W := ⟨rfl, rfl, rfl, Nat.le_refl _, fun _ _ _ => rfl⟩
theorem Kf.trans {X Y : Nat → Prop} {a b c : World} (h : Kf X a b) (k : Kf Y b c) (hX : ∀ i, i < a.heap.size → Y i → X i) : Kf X a c :=
  ⟨k.os.trans h.os, k.tape.trans h.tape, k.output.trans h.output, Nat.le_trans h.size k.size, fun i hi hx => (k.block i (Nat.lt_of_lt_of_le hi h.size) (fun hy => hx (hX i hi hy))).trans (h.block i hi hx)⟩
theorem Kf.below {X : Nat → Prop} {a b : World} {B : Nat} (h : Kf X a b) (hB : B ≤ a.heap.size) (hX : ∀ i, X i → B ≤ i) : Below B a b :=
  ⟨h.os, h.tape, h.output, h.size, fun k hk => h.block k (by omega) (fun hx => by have := hX k hx; omega)⟩
theorem Kf.of_below {X : Nat → Prop} {a b : World} (h : Below a.heap.size a b) : Kf X a b := ⟨h.os, h.tape, h.output, h.size, fun k hk _ => h.block k hk⟩
theorem Kf.cell {X : Nat → Prop} {a b : World} (h : Kf X a b) {p : Addr} (hp : p.block < a.heap.size) (hx : ¬ X p.block) : b.cell? p = a.cell? p := World.cell?_of_block (h.block _ hp hx)
/-- The blocks that a finder may write: its own, and its row. -/
def Fx (g : Nat) (A : Option Addr) (n c : Nat) : Nat → Prop := fun k => k = g ∨ (Value.slice A n c).ownBlock = some k
theorem fown_ne {w : World} {b : Nat} {e t : TypeId} {k n : Nat} {v : Value} {xs : List Value} {g : Nat} {cs : Array Value} (h : w.ownsRow b e k v n xs) (hg : w.heap[g]? = some (.cells cs t (0, 0))) (hne : e ≠ t) : v.ownBlock ≠ some g := by
  rcases h.2 with ⟨rfl, _⟩ | ⟨g', cap, cur, rfl, _, hh, _⟩
  · simp [Value.ownBlock]
  · intro he
    have : g' = g := by simpa [Value.ownBlock] using he
    subst this
    rw [hg] at hh
    injection hh with hh
    injection hh with _ hh
    exact hne hh.symm
theorem Fnd.lt {W : World} {d : Sd} {g : Nat} {A : Option Addr} {c : Nat} {L : List Fl} (h : Fnd W d g A c L) : g < W.heap.size := lt_blk h.blk
/-- A finder stays where what is written is another block above it. -/
theorem Fnd.kept {W W' : World} {d : Sd} {g : Nat} {A : Option Addr} {c : Nat} {L : List Fl} {row : Option Nat} (h : Fnd W d g A c L) (hg : W.grownBy W' row) (h1 : ∀ k, row = some k → g < k) (h2 : ∀ k, row = some k → (Value.slice A L.length c).ownBlock ≠ some k) : Fnd W' d g A c L := by
  have hl := h.lt
  refine ⟨(hg.block g hl (fun e => by have := h1 g e.symm; omega)).trans h.blk, h.ow.kept hg ?_, h.sd.below ⟨hg.os, hg.tape, hg.output, hg.size, fun k hk => hg.block k (by omega) (fun e => by have := h1 k e.symm; omega)⟩⟩
  cases hr : row with
  | none =>
    cases ho : (Value.slice A L.length c).ownBlock with
    | none => exact .inl rfl
    | some k => exact .inr (by simp)
  | some k => exact .inr (h2 k hr)
theorem Fnd.on {W W' : World} {d : Sd} {g : Nat} {A : Option Addr} {c : Nat} {L : List Fl} (h : Fnd W d g A c L) (hb : Below W.heap.size W W') : Fnd W' d g A c L :=
  h.kept (grown_of_below hb none) (fun _ e => by cases e) (fun _ e => by cases e)
/-- What a finder's method leaves: more flaws; all else is as it was. -/
def PutE (d : Sd) (g : Nat) (A : Option Addr) (n c : Nat) (L : List Fl) (W W' : World) : Prop :=
  ∃ A' c', Fnd W' d g A' c' L ∧ Kf (Fx g A n c) W W' ∧ ∀ k, (Value.slice A' L.length c').ownBlock = some k → (Value.slice A n c).ownBlock = some k ∨ W.heap.size ≤ k
theorem PutE.refl {W : World} {d : Sd} {g : Nat} {A : Option Addr} {c : Nat} {L : List Fl} (h : Fnd W d g A c L) : PutE d g A L.length c L W W := ⟨A, c, h, Kf.refl _ _, fun _ e => .inl e⟩
set_option maxHeartbeats 4000000 in
theorem put_any (d : Sd) (g : Nat) (A : Option Addr) (c : Nat) (L : List Fl) (z : Int) (x : ByteArray) (W : World) (h : Fnd W d g A c L) (hn : L.length ≤ 4294967296) :
    Calls Tryd.prog 38 #[.pointer (some ⟨g, 0, none⟩), .int .i64 z, .string x] W fun e W' => e = .returned (.tuple #[]) ∧ PutE d g A L.length c (L ++ [⟨z, x⟩]) W W' := by
  have c3 := cell_blk h.blk 3
  change W.cell? ⟨g, 3, none⟩ = some (.slice A L.length c) at c3
  have q3 := frozen_blk h.blk 3
  have hg1 := h.lt
  have ag := fown_ne h.ow h.blk (by decide)
  have ab : (Value.slice A L.length c).ownBlock ≠ some W.heap.size := fun e => by have := (h.ow.lt _ e).2; omega
  have HF2 := Lib.hid (h.on (box_below W (.cells #[.int .i64 z, .string x] 62)))
  have HN := Lib.hid (Bx.mk' W W.heap.size #[.int .i64 z, .string x] 62 rfl)
  go_enter Tryd.func38, Tryd.ntmps38
  go_wp2_with (at_builtin; refine wpList_ap_flaw rfl (.tmp 10) (.tmp 14) rfl (g + 1) _ L.length (L.flatMap fcell) rfl HF2.out.ow W.heap.size 1 (fcell ⟨z, x⟩) rfl rfl HN.out.at_ (by intro u hu; simp [fcell] at hu; rcases hu with rfl | rfl <;> rfl) hn (by simp; omega) ?_; intro gg cap w3 hown3 hgrow hat hlt; have hbk := (hgrow.block g (by simp; omega) (fun e => ag e.symm)).trans HF2.out.blk; have e0 := cell_blk hbk 3; have e1 := frozen_blk hbk 3)
  go_end0
  refine ⟨rfl, some ⟨gg, 0, none⟩, cap, ⟨?_, ?_, ?_⟩, ?_, ?_⟩
  · have := set_blk hbk 3 (.slice (some ⟨gg, 0, none⟩) (L.length + 1) cap)
    rw [List.length_append]
    exact this
  · have hne : (Value.slice (some ⟨gg, 0, none⟩) (L.length + 1) cap).ownBlock ≠ some g := fown_ne hown3 hbk (by decide)
    rw [List.length_append, flat_snoc]
    exact hown3.kept (grown_set _ _ _) (.inr hne)
  · exact (HF2.out.sd.below ⟨hgrow.os, hgrow.tape, hgrow.output, hgrow.size, fun k hk => hgrow.block k (by simp; omega) (fun e => by have := (h.ow.lt k e.symm).1; omega)⟩).below ((Below.refl g w3).setCell (Nat.le_refl _) _)
  · refine ⟨hgrow.os, hgrow.tape, hgrow.output, Nat.le_trans (by simp) (Nat.le_trans hgrow.size (by simp)), fun k hk hx => ?_⟩
    have h1 : k ≠ g := fun e => hx (.inl e)
    have h2 : (Value.slice A L.length c).ownBlock ≠ some k := fun e => hx (.inr e)
    exact (((grown_set w3 ⟨g, 3, none⟩ _).block k (Nat.lt_of_lt_of_le (by simp; omega) hgrow.size) (fun e => h1 (by injection e))).trans (hgrow.block k (by simp; omega) (fun e => h2 e.symm))).trans (heap_alloc_old W _ hk)
  · intro k hk
    have hk : gg = k := by simpa [Value.ownBlock] using hk
    subst hk
    rcases hat with hat | hat
    · exact .inl hat
    · exact .inr (by rw [hat]; simp)
end Go.Proofs.YthlbockphdbpkaaDoor
