/- Boxes and texts that live through many calls; the document's Texts of two lists that are alike; rule.Parse, Text and Check at given texts and rules. -/
import Derived.Test.YtigmbkcjmlpfoaaGreatDoorRuT
import Derived.Deep.QuietTactic
import Derived.BigQuiet
namespace Go.Proofs.YtigmbkcjmlpfoaaGreatDoor
open Go.RowKit
/-- Block g holds these values. -/
structure Bx (W : World) (g : Nat) (cs : List Value) : Prop where
  lt : g < W.heap.size
  at_ : ∀ i v, cs[i]? = some v → W.cell? ⟨g, i, none⟩ = some v
theorem Bx.on {W W' : World} {g : Nat} {cs : List Value} (h : Bx W g cs) (hb : Below W.heap.size W W') : Bx W' g cs := by
  obtain ⟨hc, _⟩ := bcell hb
  exact ⟨Nat.lt_of_lt_of_le h.lt hb.size, fun i v hv => (hc _ _ h.lt).trans (h.at_ i v hv)⟩
theorem Bx.al {W : World} {g : Nat} {cs : List Value} (h : Bx W g cs) (o : Obj) : Bx (W.alloc o) g cs := h.on ((Below.refl _ _).alloc (Nat.le_refl _) o)
theorem Bx.mk' (W : World) (g : Nat) (cs : Array Value) (t : TypeId) (h : g = W.heap.size) : Bx (W.alloc (.cells cs t)) g cs.toList := by
  subst h
  exact ⟨by simp, fun i v hv => by rw [cell_blk (heap_alloc_new _ _)]; simpa using hv⟩
theorem Bx.txs {W : World} {g : Nat} {L : List ByteArray} (h : Bx W g (L.map Value.string)) : Txs W g L :=
  ⟨h.lt, fun i hi => h.at_ i _ (by rw [List.getElem?_map, List.getElem?_eq_getElem hi, List.getD_eq_getElem?_getD, List.getElem?_eq_getElem hi]; rfl)⟩
theorem Txs.bx {W : World} {g : Nat} {L : List ByteArray} (h : Txs W g L) : Bx W g (L.map Value.string) :=
  ⟨h.lt, fun i v hv => by
    rw [List.getElem?_map] at hv
    obtain ⟨x, hx, rfl⟩ := Option.map_eq_some_iff.1 hv
    obtain ⟨hi, e⟩ := List.getElem?_eq_some_iff.1 hx
    rw [h.at_ i hi, List.getD_eq_getElem?_getD, hx]
    rfl⟩
/-- What is kept through all calls: the tables, and what was there. -/
structure Cx (w W : World) : Prop where
  env : Env W
  bel : Below w.heap.size w W
theorem Cx.on {w W W' : World} (h : Cx w W) (hb : Below W.heap.size W W') : Cx w W' := ⟨h.env.below hb, h.bel.trans (hb.mono h.bel.size)⟩
theorem Cx.al {w W : World} (h : Cx w W) (o : Obj) : Cx w (W.alloc o) := h.on ((Below.refl _ _).alloc (Nat.le_refl _) o)
theorem sl_take {W : World} {g : Nat} {L L' : List ByteArray} {n : Nat} (h : Txs W g L) (hn : n ≤ L.length) (hL : L.take n = L') : Sl W W.heap.size (some ⟨g, 0, none⟩) n (fun i => .string (L'.getD i ByteArray.empty)) :=
  h.sl n hn L' fun i hi => by rw [← hL, List.getD_eq_getElem?_getD, List.getElem?_take_of_lt hi, List.getD_eq_getElem?_getD]
set_option maxHeartbeats 1000000 in
theorem texts_eq (A A' : Option Addr) (n c c' : Nat) (L : List ByteArray) (hn : n ≤ 4294967296) (w : World) (hS : Sl w w.heap.size A n (fun i => .string (L.getD i ByteArray.empty))) (hS' : Sl w w.heap.size A' n (fun i => .string (L.getD i ByteArray.empty))) :
    Calls Tryz.prog 19 #[.slice A n c, .slice A' n c'] w fun e w' => e = .returned (.bool true) ∧ Below w.heap.size w w' := by
  have HS := Lib.hid hS
  have HS' := Lib.hid hS'
  clear hS hS'
  go_enter Tryz.func19, Tryz.ntmps19
  go_wp2_with fail
  go_loopw [13] (fun i wr => ∃ k : Nat, k ≤ n ∧ i = .int .i64 k ∧ Below w.heap.size w wr) (fun i _ => n - (intOf i).toNat)
  case atStart => exact ⟨0, Nat.zero_le _, rfl, Below.refl _ _⟩
  case round =>
    obtain ⟨k, hk, rfl, hbw⟩ := hrel
    by_cases hlt : k < n
    · obtain ⟨ad, rfl, hal, hc⟩ := (HS.out.below hbw).at_ hlt
      obtain ⟨ad', rfl, hal', hc'⟩ := (HS'.out.below hbw).at_ hlt
      change wr.cell? (ad.add k) = some (.string (L.getD k ByteArray.empty)) at hc
      change wr.cell? (ad'.add k) = some (.string (L.getD k ByteArray.empty)) at hc'
      generalize L.getD k ByteArray.empty = X at *
      have t1 : (X.toList != X.toList) = false := by simp
      go_wp2_with fail
      go_quiet (fail)
      go_wp2_with fail
      go_roundw
      case rel =>
        refine ⟨k + 1, by omega, by go_num, ?_⟩
        repeat (first | exact Below.refl _ _ | assumption | refine below_drewN ?_ _ | refine Below.drew ?_ | refine Below.setCell ?_ (by first | omega | (simp; done) | (simp; omega)) _ | refine Below.alloc ?_ (by first | omega | (simp; done) | (simp; omega)) _)
      case measure => simp [intOf]; omega
    · go_wp2_with fail
      go_ret
      exact ⟨rfl, hbw⟩
theorem texts_bx (g q n c c' : Nat) (L : List ByteArray) (w : World) (hn : n ≤ 4096) (hl : L.length = n) (h : Bx w g (L.map Value.string)) (h' : Bx w q (L.map Value.string)) :
    Calls Tryz.prog 19 #[.slice (some ⟨g, 0, none⟩) n c, .slice (some ⟨q, 0, none⟩) n c'] w fun e w' => e = .returned (.bool true) ∧ Below w.heap.size w w' :=
  texts_eq _ _ n c c' L (by omega) w (sl_take h.txs (by omega) (List.take_of_length_le (by omega))) (sl_take h'.txs (by omega) (List.take_of_length_le (by omega)))
theorem rprs_bx (g n c : Nat) (L L' : List ByteArray) (v : Ru) (i : Nat) (z : Int) (w : World) (hE : Env w) (h : Bx w g (L.map Value.string)) (hn : n ≤ L.length) (hn2 : n ≤ 4096) (hL : L.take n = L') (hs : ∀ t ∈ L', t.size ≤ 4096) (hp : Rl.prs L' = (v, i, z)) :
    Calls Tryz.prog 10 #[.slice (some ⟨g, 0, none⟩) n c] w fun e w' => e = .returned (.tuple #[.agg #[.string v.nm, .int .i64 v.fr, .int .i64 v.tl, .int .i64 v.m, .int .u8 v.k, .int .i64 v.n, .int .i64 v.d, .int .i64 v.s, .int .u8 v.c, .int .i64 v.sv, .string v.lt], .int .i64 (i : Int), .int .i64 z]) ∧ Below w.heap.size w w' := by
  have hl : L'.length = n := by rw [← hL, List.length_take]; omega
  have hr := rprs_any (some ⟨g, 0, none⟩) n c (min n 9) L' hl (by omega) rfl (fun j hj => by
    have hj' : j < L'.length := by omega
    rw [List.getD_eq_getElem?_getD, List.getElem?_eq_getElem hj']
    exact hs _ (List.getElem_mem hj')) w hE w.heap.size (Nat.le_refl _) (sl_take h.txs hn hL)
  rw [hp] at hr
  exact hr
theorem rtext_bx (r : Ru) (L : List ByteArray) (n : Nat) (w : World) (hE : Env w) (h : Rl.right r = true) (c0 : 0 ≤ r.c) (hL : Rl.texts r = L) (hn : L.length = n) :
    Calls Tryz.prog 9 #[.agg #[.string r.nm, .int .i64 r.fr, .int .i64 r.tl, .int .i64 r.m, .int .u8 r.k, .int .i64 r.n, .int .i64 r.d, .int .i64 r.s, .int .u8 r.c, .int .i64 r.sv, .string r.lt]] w fun e w' => (∃ g, e = .returned (.tuple #[.slice (some ⟨g, 0, none⟩) n n, .int .i64 0]) ∧ Bx w' g (L.map Value.string)) ∧ Below w.heap.size w w' := by
  subst hL hn
  exact (rtext_yes r w hE h c0).mono fun _ _ ⟨⟨g, he, _, ht⟩, hb⟩ => ⟨⟨g, he, ht.bx⟩, hb⟩
theorem rcheck_yes (r : Ru) (w : World) (hs : r.nm.size ≤ 4096) (h : Rl.right r = true) : Calls Tryz.prog 11 #[.agg #[.string r.nm, .int .i64 r.fr, .int .i64 r.tl, .int .i64 r.m, .int .u8 r.k, .int .i64 r.n, .int .i64 r.d, .int .i64 r.s, .int .u8 r.c, .int .i64 r.sv, .string r.lt]] w fun e w' => e = .returned (.int .i64 0) ∧ Below w.heap.size w w' := rcheck_is r true w (by omega) h
theorem rcheck_no (r : Ru) (w : World) (hs : r.nm.size ≤ 4096) (h : Rl.right r = false) : Calls Tryz.prog 11 #[.agg #[.string r.nm, .int .i64 r.fr, .int .i64 r.tl, .int .i64 r.m, .int .u8 r.k, .int .i64 r.n, .int .i64 r.d, .int .i64 r.s, .int .u8 r.c, .int .i64 r.sv, .string r.lt]] w fun e w' => e = .returned (.int .i64 2) ∧ Below w.heap.size w w' := rcheck_is r false w (by omega) h
end Go.Proofs.YtigmbkcjmlpfoaaGreatDoor
