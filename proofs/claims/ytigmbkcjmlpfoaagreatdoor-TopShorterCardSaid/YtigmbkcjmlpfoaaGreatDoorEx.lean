/- Package era's Parse, Text and Check at given texts and eras; what is kept through many calls. -/
import Derived.Test.YtigmbkcjmlpfoaaGreatDoorErT
import Derived.Test.YtigmbkcjmlpfoaaGreatDoorBx
namespace Go.Proofs.YtigmbkcjmlpfoaaGreatDoor
open Go.RowKit
/-- What is kept through all calls: the tables, and what was there. -/
structure Cy (w W : World) : Prop where
  env : Ev W
  bel : Below w.heap.size w W
theorem Cy.on {w W W' : World} (h : Cy w W) (hb : Below W.heap.size W W') : Cy w W' := ⟨h.env.below hb, h.bel.trans (hb.mono h.bel.size)⟩
theorem Cy.al {w W : World} (h : Cy w W) (o : Obj) : Cy w (W.alloc o) := h.on ((Below.refl _ _).alloc (Nat.le_refl _) o)
theorem eprs_bx (g n c : Nat) (L L' : List ByteArray) (v : Er) (i : Nat) (z : Int) (w : World) (hE : Ev w) (h : Bx w g (L.map Value.string)) (hn : n ≤ L.length) (hn2 : n ≤ 4096) (hnc : n ≤ c) (hc : c ≤ 9223372036854775807) (hL : L.take n = L') (hs : ∀ t ∈ L', t.size ≤ 4096) (hp : El.prs L' = (v, i, z)) :
    Calls Tryz.prog 15 #[.slice (some ⟨g, 0, none⟩) n c] w fun e w' => e = .returned (.tuple #[.agg #[.int .i64 v.sd, .int .u8 v.k, .int .i64 v.sv, .string v.ru, .string v.fm, .bool v.en, .int .i64 v.u.y, .int .i64 v.u.m, .int .u8 v.u.k, .int .i64 v.u.n, .int .i64 v.u.d, .int .i64 v.u.s, .int .u8 v.u.c], .int .i64 (i : Int), .int .i64 z]) ∧ Below w.heap.size w w' := by
  have hl : L'.length = n := by rw [← hL, List.length_take]; omega
  have hr := eprs_any (some ⟨g, 0, none⟩) n c (min n 3) L' hl (by omega) hnc hc rfl (fun j hj _ => by
    have hj' : j < L'.length := by omega
    rw [List.getD_eq_getElem?_getD, List.getElem?_eq_getElem hj']
    exact hs _ (List.getElem_mem hj')) w hE w.heap.size (Nat.le_refl _) (sl_take h.txs hn hL)
  rw [hp] at hr
  exact hr
theorem etext_bx (e : Er) (L : List ByteArray) (n : Nat) (w : World) (hE : Ev w) (h : El.right e = true) (c0 : 0 ≤ e.u.c) (hs : e.ru.size ≤ 4096) (hL : El.texts e = L) (hn : El.num e = n) :
    Calls Tryz.prog 14 #[.agg #[.int .i64 e.sd, .int .u8 e.k, .int .i64 e.sv, .string e.ru, .string e.fm, .bool e.en, .int .i64 e.u.y, .int .i64 e.u.m, .int .u8 e.u.k, .int .i64 e.u.n, .int .i64 e.u.d, .int .i64 e.u.s, .int .u8 e.u.c]] w fun x w' => (∃ g c, x = .returned (.tuple #[.slice (some ⟨g, 0, none⟩) n c, .int .i64 0]) ∧ n ≤ c ∧ c ≤ 9223372036854775807 ∧ Bx w' g (L.map Value.string)) ∧ Below w.heap.size w w' := by
  subst hL hn
  exact (etext_yes e w hE h c0 (by omega)).mono fun _ _ ⟨⟨g, c, he, h1, h2, ht⟩, hb⟩ => ⟨⟨g, c, he, h1, by unfold maxLen at h2; omega, ht.bx⟩, hb⟩
theorem echeck_yes (e : Er) (w : World) (hE : Ev w) (hs : e.ru.size ≤ 4096) (h : El.right e = true) : Calls Tryz.prog 16 #[.agg #[.int .i64 e.sd, .int .u8 e.k, .int .i64 e.sv, .string e.ru, .string e.fm, .bool e.en, .int .i64 e.u.y, .int .i64 e.u.m, .int .u8 e.u.k, .int .i64 e.u.n, .int .i64 e.u.d, .int .i64 e.u.s, .int .u8 e.u.c]] w fun x w' => x = .returned (.int .i64 0) ∧ Below w.heap.size w w' := echeck_is e true w hE (by omega) h
theorem echeck_no (e : Er) (w : World) (hE : Ev w) (hs : e.ru.size ≤ 4096) (h : El.right e = false) : Calls Tryz.prog 16 #[.agg #[.int .i64 e.sd, .int .u8 e.k, .int .i64 e.sv, .string e.ru, .string e.fm, .bool e.en, .int .i64 e.u.y, .int .i64 e.u.m, .int .u8 e.u.k, .int .i64 e.u.n, .int .i64 e.u.d, .int .i64 e.u.s, .int .u8 e.u.c]] w fun x w' => x = .returned (.int .i64 2) ∧ Below w.heap.size w w' := echeck_is e false w hE (by omega) h
theorem own_lit {e : TypeId} {base : Nat} (w : World) (g : Nat) (hg : g = w.heap.size) (cs : Array Value) (n : Nat) (hb : base ≤ w.heap.size) (hm : n ≤ maxLen) (hs : cs.size = n * 1) : (w.alloc (.cells cs e)).ownsRow base e 1 (.slice (some ⟨g, 0, none⟩) n n) n cs.toList := by
  subst hg
  exact World.ownsRow_lit w cs n hb hm hs
end Go.Proofs.YtigmbkcjmlpfoaaGreatDoor
