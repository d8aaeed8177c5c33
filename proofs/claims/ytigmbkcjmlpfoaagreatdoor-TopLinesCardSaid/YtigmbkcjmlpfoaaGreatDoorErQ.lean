/- Contract of package era: Parse. -/
import Derived.Test.YtigmbkcjmlpfoaaGreatDoorErP
import Derived.OwnWalk
namespace Go.Proofs.YtigmbkcjmlpfoaaGreatDoor
open Go.RowKit
def EPrsE (r : Er × Nat × Int) (x : Ending) : Prop := x = .returned (.tuple #[erV r.1, .int .i64 (r.2.1 : Nat), .int .i64 r.2.2])
theorem eprsE_of {r : Er × Nat × Int} {e : Er} {i : Nat} {z : Int} (h : r = (e, i, z)) : EPrsE r (.returned (.tuple #[.agg #[.int .i64 e.sd, .int .u8 e.k, .int .i64 e.sv, .string e.ru, .string e.fm, .bool e.en, .int .i64 e.u.y, .int .i64 e.u.m, .int .u8 e.u.k, .int .i64 e.u.n, .int .i64 e.u.d, .int .i64 e.u.s, .int .u8 e.u.c], .int .i64 (i : Int), .int .i64 z])) := by
  subst h
  rfl
theorem eprsE_at {r : Er × Nat × Int} {e : Er} {i : Nat} {z : Int} (h : r = (e, 3 + i, z)) : EPrsE r (.returned (.tuple #[.agg #[.int .i64 e.sd, .int .u8 e.k, .int .i64 e.sv, .string e.ru, .string e.fm, .bool e.en, .int .i64 e.u.y, .int .i64 e.u.m, .int .u8 e.u.k, .int .i64 e.u.n, .int .i64 e.u.d, .int .i64 e.u.s, .int .u8 e.u.c], .int .i64 (3 + (i : Int)), .int .i64 z])) := by
  have h1 := eprsE_of h
  rw [Int.natCast_add] at h1
  exact h1
theorem sl_drop {w : World} {B : Nat} {ad : Addr} {n k : Nat} {L : List ByteArray} (h : Sl w B (some ad) n (fun i => .string (L.getD i ByteArray.empty))) (hk : k < n) : Sl w B (some (ad.add k)) (n - k) (fun i => .string ((L.drop k).getD i ByteArray.empty)) := by
  intro _
  obtain ⟨a, e, hb, hc⟩ := h (by omega)
  injection e with e
  subst e
  refine ⟨_, rfl, by rw [block_of_add]; exact hb, fun i hi => ?_⟩
  have := hc (k + i) (by omega)
  rw [Addr.add_add, this]
  show some (Value.string _) = some (Value.string _)
  rw [List.getD_eq_getElem?_getD, List.getD_eq_getElem?_getD, List.getElem?_drop]
theorem sl_raise {w : World} {B B' : Nat} {A : Option Addr} {n : Nat} {v : Nat → Value} (h : Sl w B A n v) (hB : B ≤ B') : Sl w B' A n v := by
  intro hn
  obtain ⟨ad, e, hl, hc⟩ := h hn
  exact ⟨ad, e, Nat.lt_of_lt_of_le hl hB, hc⟩
theorem En.drew {w : World} {B g : Nat} {e : Er} (h : En w B g e) : En w.drew B g e := ⟨h.base, h.lt, h.c0, h.c1, h.c2, h.c3, h.c4, h.c5, h.c6, h.c7, h.c8, h.c9, h.c10, h.c11, h.c12, h.f0, h.f1, h.f2, h.f3, h.f4, h.f5, h.f6, h.f7, h.f8, h.f9, h.f10, h.f11, h.f12⟩
theorem cell_beside {w : World} {g g2 o i : Nat} {v : Value} (h : g2 ≠ g) : (w.setCell ⟨g2, i, none⟩ v).cell? ⟨g, o, none⟩ = w.cell? ⟨g, o, none⟩ := World.cell?_setCell_other _ _ _ _ (by intro e; injection e with e; exact h e)
theorem En.other {w : World} {B g g2 : Nat} {e : Er} (h : En w B g e) (hg : g2 ≠ g) (i : Nat) (v : Value) : En (w.setCell ⟨g2, i, none⟩ v) B g e := ⟨h.base, by simpa using h.lt, (cell_beside hg).trans h.c0, (cell_beside hg).trans h.c1, (cell_beside hg).trans h.c2, (cell_beside hg).trans h.c3, (cell_beside hg).trans h.c4, (cell_beside hg).trans h.c5, (cell_beside hg).trans h.c6, (cell_beside hg).trans h.c7, (cell_beside hg).trans h.c8, (cell_beside hg).trans h.c9, (cell_beside hg).trans h.c10, (cell_beside hg).trans h.c11, (cell_beside hg).trans h.c12, (World.frozen?_setCell _ _ _ _).trans h.f0, (World.frozen?_setCell _ _ _ _).trans h.f1, (World.frozen?_setCell _ _ _ _).trans h.f2, (World.frozen?_setCell _ _ _ _).trans h.f3, (World.frozen?_setCell _ _ _ _).trans h.f4, (World.frozen?_setCell _ _ _ _).trans h.f5, (World.frozen?_setCell _ _ _ _).trans h.f6, (World.frozen?_setCell _ _ _ _).trans h.f7, (World.frozen?_setCell _ _ _ _).trans h.f8, (World.frozen?_setCell _ _ _ _).trans h.f9, (World.frozen?_setCell _ _ _ _).trans h.f10, (World.frozen?_setCell _ _ _ _).trans h.f11, (World.frozen?_setCell _ _ _ _).trans h.f12⟩
theorem En.set5 {w : World} {B g : Nat} {e : Er} (h : En w B g e) (v : Bool) : En (w.setCell ⟨g, 5, none⟩ (.bool v)) B g { e with en := v } := by
  obtain ⟨hB, hl, c0, c1, c2, c3, c4, c5, c6, c7, c8, c9, c10, c11, c12, f0, f1, f2, f3, f4, f5, f6, f7, f8, f9, f10, f11, f12⟩ := h
  exact ⟨hB, by simpa using hl, by go_simp, by go_simp, by go_simp, by go_simp, by go_simp, by go_simp, by go_simp, by go_simp, by go_simp, by go_simp, by go_simp, by go_simp, by go_simp, by go_simp, by go_simp, by go_simp, by go_simp, by go_simp, by go_simp, by go_simp, by go_simp, by go_simp, by go_simp, by go_simp, by go_simp, by go_simp⟩
theorem En.set6 {w : World} {B g : Nat} {e : Er} (h : En w B g e) (v : Int) : En (w.setCell ⟨g, 6, none⟩ (.int .i64 v)) B g { e with u := { e.u with y := v } } := by
  obtain ⟨hB, hl, c0, c1, c2, c3, c4, c5, c6, c7, c8, c9, c10, c11, c12, f0, f1, f2, f3, f4, f5, f6, f7, f8, f9, f10, f11, f12⟩ := h
  exact ⟨hB, by simpa using hl, by go_simp, by go_simp, by go_simp, by go_simp, by go_simp, by go_simp, by go_simp, by go_simp, by go_simp, by go_simp, by go_simp, by go_simp, by go_simp, by go_simp, by go_simp, by go_simp, by go_simp, by go_simp, by go_simp, by go_simp, by go_simp, by go_simp, by go_simp, by go_simp, by go_simp, by go_simp⟩
theorem En.set7 {w : World} {B g : Nat} {e : Er} (h : En w B g e) (v : Int) : En (w.setCell ⟨g, 7, none⟩ (.int .i64 v)) B g { e with u := { e.u with m := v } } := by
  obtain ⟨hB, hl, c0, c1, c2, c3, c4, c5, c6, c7, c8, c9, c10, c11, c12, f0, f1, f2, f3, f4, f5, f6, f7, f8, f9, f10, f11, f12⟩ := h
  exact ⟨hB, by simpa using hl, by go_simp, by go_simp, by go_simp, by go_simp, by go_simp, by go_simp, by go_simp, by go_simp, by go_simp, by go_simp, by go_simp, by go_simp, by go_simp, by go_simp, by go_simp, by go_simp, by go_simp, by go_simp, by go_simp, by go_simp, by go_simp, by go_simp, by go_simp, by go_simp, by go_simp, by go_simp⟩
theorem En.set8 {w : World} {B g : Nat} {e : Er} (h : En w B g e) (v : Int) : En (w.setCell ⟨g, 8, none⟩ (.int .u8 v)) B g { e with u := { e.u with k := v } } := by
  obtain ⟨hB, hl, c0, c1, c2, c3, c4, c5, c6, c7, c8, c9, c10, c11, c12, f0, f1, f2, f3, f4, f5, f6, f7, f8, f9, f10, f11, f12⟩ := h
  exact ⟨hB, by simpa using hl, by go_simp, by go_simp, by go_simp, by go_simp, by go_simp, by go_simp, by go_simp, by go_simp, by go_simp, by go_simp, by go_simp, by go_simp, by go_simp, by go_simp, by go_simp, by go_simp, by go_simp, by go_simp, by go_simp, by go_simp, by go_simp, by go_simp, by go_simp, by go_simp, by go_simp, by go_simp⟩
theorem En.set9 {w : World} {B g : Nat} {e : Er} (h : En w B g e) (v : Int) : En (w.setCell ⟨g, 9, none⟩ (.int .i64 v)) B g { e with u := { e.u with n := v } } := by
  obtain ⟨hB, hl, c0, c1, c2, c3, c4, c5, c6, c7, c8, c9, c10, c11, c12, f0, f1, f2, f3, f4, f5, f6, f7, f8, f9, f10, f11, f12⟩ := h
  exact ⟨hB, by simpa using hl, by go_simp, by go_simp, by go_simp, by go_simp, by go_simp, by go_simp, by go_simp, by go_simp, by go_simp, by go_simp, by go_simp, by go_simp, by go_simp, by go_simp, by go_simp, by go_simp, by go_simp, by go_simp, by go_simp, by go_simp, by go_simp, by go_simp, by go_simp, by go_simp, by go_simp, by go_simp⟩
theorem En.set10 {w : World} {B g : Nat} {e : Er} (h : En w B g e) (v : Int) : En (w.setCell ⟨g, 10, none⟩ (.int .i64 v)) B g { e with u := { e.u with d := v } } := by
  obtain ⟨hB, hl, c0, c1, c2, c3, c4, c5, c6, c7, c8, c9, c10, c11, c12, f0, f1, f2, f3, f4, f5, f6, f7, f8, f9, f10, f11, f12⟩ := h
  exact ⟨hB, by simpa using hl, by go_simp, by go_simp, by go_simp, by go_simp, by go_simp, by go_simp, by go_simp, by go_simp, by go_simp, by go_simp, by go_simp, by go_simp, by go_simp, by go_simp, by go_simp, by go_simp, by go_simp, by go_simp, by go_simp, by go_simp, by go_simp, by go_simp, by go_simp, by go_simp, by go_simp, by go_simp⟩
theorem En.set11 {w : World} {B g : Nat} {e : Er} (h : En w B g e) (v : Int) : En (w.setCell ⟨g, 11, none⟩ (.int .i64 v)) B g { e with u := { e.u with s := v } } := by
  obtain ⟨hB, hl, c0, c1, c2, c3, c4, c5, c6, c7, c8, c9, c10, c11, c12, f0, f1, f2, f3, f4, f5, f6, f7, f8, f9, f10, f11, f12⟩ := h
  exact ⟨hB, by simpa using hl, by go_simp, by go_simp, by go_simp, by go_simp, by go_simp, by go_simp, by go_simp, by go_simp, by go_simp, by go_simp, by go_simp, by go_simp, by go_simp, by go_simp, by go_simp, by go_simp, by go_simp, by go_simp, by go_simp, by go_simp, by go_simp, by go_simp, by go_simp, by go_simp, by go_simp, by go_simp⟩
theorem En.set12 {w : World} {B g : Nat} {e : Er} (h : En w B g e) (v : Int) : En (w.setCell ⟨g, 12, none⟩ (.int .u8 v)) B g { e with u := { e.u with c := v } } := by
  obtain ⟨hB, hl, c0, c1, c2, c3, c4, c5, c6, c7, c8, c9, c10, c11, c12, f0, f1, f2, f3, f4, f5, f6, f7, f8, f9, f10, f11, f12⟩ := h
  exact ⟨hB, by simpa using hl, by go_simp, by go_simp, by go_simp, by go_simp, by go_simp, by go_simp, by go_simp, by go_simp, by go_simp, by go_simp, by go_simp, by go_simp, by go_simp, by go_simp, by go_simp, by go_simp, by go_simp, by go_simp, by go_simp, by go_simp, by go_simp, by go_simp, by go_simp, by go_simp, by go_simp, by go_simp⟩
set_option maxRecDepth 100000 in
set_option maxHeartbeats 4000000 in
theorem eprs_any (A : Option Addr) (n c M : Nat) (L : List ByteArray) (hl : L.length = n) (hn : n ≤ 4294967296) (hnc : n ≤ c) (hc2 : c ≤ 9223372036854775807) (hM : M = min n 3) (hL : ∀ i, i < n → i < 7 → (L.getD i ByteArray.empty).size ≤ 4096) (w : World) (hE : Ev w) (B : Nat) (hB : B ≤ w.heap.size) (hS : Sl w B A n (fun i => .string (L.getD i ByteArray.empty))) :
    Calls Tryz.prog 15 #[.slice A n c] w fun e w' => EPrsE (El.prs L) e ∧ Below w.heap.size w w' := by
  have tm : min (n : Int) 3 = (M : Int) := by omega
  have hM3 : M ≤ 3 := by omega
  have hMn : M ≤ n := by omega
  have hS' : Sl w w.heap.size A n (fun i => .string (L.getD i ByteArray.empty)) := by
    intro hp
    obtain ⟨ad, e, hb, hc⟩ := hS hp
    exact ⟨ad, e, Nat.lt_of_lt_of_le hb hB, hc⟩
  have HS := Lib.hid hS'
  have HE := Lib.hid hE
  have HL := Lib.hid hL
  have HN := Lib.hid hl
  have HM := Lib.hid hM
  have HT := Lib.hid (show (L.take 3).length = M by rw [List.length_take, hl, hM, Nat.min_comm])
  clear hS hS' hE hL hl hM
  go_enter Tryz.func15, Tryz.ntmps15
  go_wp2_with fail
  clear tm
  go_loopw [14] (fun i wr => ∃ (k : Nat) (u : Er), k ≤ M ∧ i = .int .i64 k ∧ Hid (El.run 0 (L.take 3) Er.zero = El.run k ((L.take 3).drop k) u) ∧ En wr w.heap.size w.heap.size Er.zero ∧ En wr (w.heap.size + 1) (w.heap.size + 1) u ∧ Below w.heap.size w wr) (fun i _ => M - (intOf i).toNat)
  case atStart =>
    refine ⟨0, Er.zero, Nat.zero_le _, rfl, Lib.hid rfl, ⟨Nat.le_refl _, by simp; omega, by go_simp; rfl, by go_simp; rfl, by go_simp; rfl, by go_simp; rfl, by go_simp; rfl, by go_simp; rfl, by go_simp; rfl, by go_simp; rfl, by go_simp; rfl, by go_simp; rfl, by go_simp; rfl, by go_simp; rfl, by go_simp; rfl, by go_simp, by go_simp, by go_simp, by go_simp, by go_simp, by go_simp, by go_simp, by go_simp, by go_simp, by go_simp, by go_simp, by go_simp, by go_simp⟩, ⟨Nat.le_refl _, by simp, by go_simp; rfl, by go_simp; rfl, by go_simp; rfl, by go_simp; rfl, by go_simp; rfl, by go_simp; rfl, by go_simp; rfl, by go_simp; rfl, by go_simp; rfl, by go_simp; rfl, by go_simp; rfl, by go_simp; rfl, by go_simp; rfl, by go_simp, by go_simp, by go_simp, by go_simp, by go_simp, by go_simp, by go_simp, by go_simp, by go_simp, by go_simp, by go_simp, by go_simp, by go_simp⟩, ?_⟩
    repeat (first | exact Below.refl _ _ | assumption | refine below_drewN ?_ _ | refine Below.drew ?_ | refine Below.setCell ?_ (by first | omega | (simp; done) | (simp; omega)) _ | refine Below.alloc ?_ (by first | omega | (simp; done) | (simp; omega)) _)
  case round =>
    obtain ⟨k, u, hk, rfl, hG, hR, hU, hbw⟩ := hrel
    have hEw := HE.out.below hbw
    by_cases hlt : k < M
    · obtain ⟨ad, rfl, hal, hc⟩ := (HS.out.below hbw).at_ (show k < n by omega)
      change wr.cell? (ad.add k) = some (.string (L.getD k ByteArray.empty)) at hc
      have hz := HL.out k (by omega) (by omega)
      have hkn : k < n := by omega
      have hd : (L.take 3).drop k = L.getD k ByteArray.empty :: (L.take 3).drop (k + 1) := by
        have hkl : k < (L.take 3).length := by rw [HT.out]; exact hlt
        rw [List.drop_eq_getElem_cons hkl, List.getD_eq_getElem?_getD, ← List.getElem?_take_of_lt (show k < 3 by omega), List.getElem?_eq_getElem hkl]
        rfl
      have hG2 := hG.out
      rw [hd] at hG2
      generalize L.getD k ByteArray.empty = X at *
      have HP := Lib.hid (fun W (hE : Ev W) (h : En W (w.heap.size + 1) (w.heap.size + 1) u) => epart_any (w.heap.size + 1) (w.heap.size + 1) X u W k (by omega) hE hz h)
      by_cases h0 : (El.step k X u).2 = 0
      · have HG := Lib.hid (show El.run 0 (L.take 3) Er.zero = El.run (k + 1) ((L.take 3).drop (k + 1)) (El.step k X u).1 by rw [hG2, El.run, if_pos h0])
        rw [h0] at HP
        have HEw := Lib.hid hEw
        have HR := Lib.hid hR
        have HU := Lib.hid hU
        clear hd hG hG2 h0 hEw hR hU
        go_wp2_with fail
        refine (HP.out _ HEw.out HU.out).mono ?_
        rintro e w1 ⟨rfl, u1, b1⟩
        have r1 := HR.out.stay b1 (Nat.lt_succ_self _)
        have a1 := hbw.trans (b1.mono (Nat.le_succ _))
        go_wp2_with fail
        go_roundw
        case rel => exact ⟨k + 1, _, by omega, by go_num, HG, r1, u1, a1⟩
        case measure => simp [intOf]; omega
      · have HRE := Lib.hid (eprsE_of (eprs_stop (show El.run 0 (L.take 3) Er.zero = (Er.zero, k, (El.step k X u).2) by rw [hG2, El.run, if_neg h0]) h0))
        have t5 : ((El.step k X u).2 != 0) = true := by rw [bne_iff_ne]; exact h0
        generalize (El.step k X u).2 = z at *
        have HEw := Lib.hid hEw
        have HR := Lib.hid hR
        have HU := Lib.hid hU
        clear hd hG hG2 h0 hEw hR hU
        go_wp2_with fail
        refine (HP.out _ HEw.out HU.out).mono ?_
        rintro e w1 ⟨rfl, u1, b1⟩
        have r1 := HR.out.stay b1 (Nat.lt_succ_self _)
        have a1 := hbw.trans (b1.mono (Nat.le_succ _))
        obtain ⟨_, hl1, c0, c1, c2, c3, c4, c5, c6, c7, c8, c9, c10, c11, c12, f0, f1, f2, f3, f4, f5, f6, f7, f8, f9, f10, f11, f12⟩ := r1
        clear u1 b1
        go_wp2_with fail
        refine bodyPost_ret (v := .tuple #[.agg #[.int .i64 0, .int .u8 0, .int .i64 0, .string ⟨#[]⟩, .string ⟨#[]⟩, .bool false, .int .i64 0, .int .i64 0, .int .u8 0, .int .i64 0, .int .i64 0, .int .i64 0, .int .u8 0], .int .i64 (k : Int), .int .i64 z]) (by simp [results, Tryz.results15, go_sem, c0, c1, c2, c3, c4, c5, c6, c7, c8, c9, c10, c11, c12]) rfl ⟨HRE.out, ?_⟩
        exact (((((((((((((a1).setCell (Nat.le_refl _) _).setCell (Nat.le_refl _) _).setCell (Nat.le_refl _) _).setCell (Nat.le_refl _) _).setCell (Nat.le_refl _) _).setCell (Nat.le_refl _) _).setCell (Nat.le_refl _) _).setCell (Nat.le_refl _) _).setCell (Nat.le_refl _) _).setCell (Nat.le_refl _) _).setCell (Nat.le_refl _) _).setCell (Nat.le_refl _) _).setCell (Nat.le_refl _) _
    · obtain rfl : k = M := by omega
      have hG2 := hG.out
      rw [List.drop_of_length_le (by rw [HT.out]; exact Nat.le_refl _), El.run] at hG2
      by_cases h9 : n < 3
      · have HRE := Lib.hid (eprsE_of (eprs_short hG2 (by rw [HN.out]; exact h9)))
        rw [HN.out] at HRE
        obtain ⟨_, hl1, c0, c1, c2, c3, c4, c5, c6, c7, c8, c9, c10, c11, c12, f0, f1, f2, f3, f4, f5, f6, f7, f8, f9, f10, f11, f12⟩ := hR
        clear hG hG2 hEw hlt hU
        go_wp2_with fail
        refine bodyPost_ret (v := .tuple #[.agg #[.int .i64 0, .int .u8 0, .int .i64 0, .string ⟨#[]⟩, .string ⟨#[]⟩, .bool false, .int .i64 0, .int .i64 0, .int .u8 0, .int .i64 0, .int .i64 0, .int .i64 0, .int .u8 0], .int .i64 (n : Int), .int .i64 5]) (by simp [results, Tryz.results15, go_sem, c0, c1, c2, c3, c4, c5, c6, c7, c8, c9, c10, c11, c12]) rfl ⟨HRE.out, ?_⟩
        exact (((((((((((((hbw).setCell (Nat.le_refl _) _).setCell (Nat.le_refl _) _).setCell (Nat.le_refl _) _).setCell (Nat.le_refl _) _).setCell (Nat.le_refl _) _).setCell (Nat.le_refl _) _).setCell (Nat.le_refl _) _).setCell (Nat.le_refl _) _).setCell (Nat.le_refl _) _).setCell (Nat.le_refl _) _).setCell (Nat.le_refl _) _).setCell (Nat.le_refl _) _).setCell (Nat.le_refl _) _
      · have h3 : k = 3 := by rw [HM.out]; omega
        by_cases h10 : n = 3
        · have HRE := Lib.hid (eprsE_of (eprs_three hG2 (by rw [HN.out]; exact h10)))
          obtain ⟨xd, xk, xv, xr, xf, xe, ⟨xy, xm, xq, xn, xw, xs, xc⟩⟩ := u
          obtain ⟨_, hl1, c0, c1, c2, c3, c4, c5, c6, c7, c8, c9, c10, c11, c12, f0, f1, f2, f3, f4, f5, f6, f7, f8, f9, f10, f11, f12⟩ := hR
          obtain ⟨_, hl2, d0, d1, d2, d3, d4, d5, d6, d7, d8, d9, d10, d11, d12, g0, g1, g2, g3, g4, g5, g6, g7, g8, g9, g10, g11, g12⟩ := hU
          have t3 : ((n : Int) == 3) = true := by rw [beq_iff_eq]; omega
          clear hG hG2 hEw hlt h10 h3
          go_wp2_with fail
          refine bodyPost_ret (v := .tuple #[.agg #[.int .i64 xd, .int .u8 xk, .int .i64 xv, .string xr, .string xf, .bool xe, .int .i64 xy, .int .i64 xm, .int .u8 xq, .int .i64 xn, .int .i64 xw, .int .i64 xs, .int .u8 xc], .int .i64 0, .int .i64 0]) (by simp [results, Tryz.results15, go_sem, c0, c1, c2, c3, c4, c5, c6, c7, c8, c9, c10, c11, c12]) rfl ⟨HRE.out, ?_⟩
          exact (((((((((((((hbw).setCell (Nat.le_refl _) _).setCell (Nat.le_refl _) _).setCell (Nat.le_refl _) _).setCell (Nat.le_refl _) _).setCell (Nat.le_refl _) _).setCell (Nat.le_refl _) _).setCell (Nat.le_refl _) _).setCell (Nat.le_refl _) _).setCell (Nat.le_refl _) _).setCell (Nat.le_refl _) _).setCell (Nat.le_refl _) _).setCell (Nat.le_refl _) _).setCell (Nat.le_refl _) _
        · have t3 : ((n : Int) == 3) = false := by rw [beq_eq_false_iff_ne]; omega
          obtain ⟨ad, rfl, hal, -⟩ := (HS.out.below hbw).at_ (show 0 < n by omega)
          obtain ⟨v, i, z, hp⟩ : ∃ v i z, Mo.prsU (L.drop 3) = (v, i, z) := ⟨_, _, _, rfl⟩
          have hU2 := fun (W : World) (hb : Below wr.heap.size wr W) => uprs_any (some (ad.add 3)) (n - 3) (c - 3) (L.drop 3) (by rw [List.length_drop, HN.out]) (by omega) (fun h4 j hj => by
            have := HL.out (3 + j) (by omega) (by omega)
            rwa [List.getD_eq_getElem?_getD, List.getElem?_drop, ← List.getD_eq_getElem?_getD]) W (hEw.env.below hb) wr.heap.size hb.size (sl_drop (sl_raise (HS.out.below (hbw.trans (hb.mono hbw.size))) hbw.size) (show 3 < n by omega))
          rw [hp] at hU2
          have HU2 := Lib.hid hU2
          obtain ⟨vy, vm, vk, vn, vd, vs, vc⟩ := v
          by_cases hz : z = 0
          · subst hz
            have HRE := Lib.hid (eprsE_of (eprs_ends hG2 (by rw [HN.out]; omega) hp))
            obtain ⟨xd, xk, xv, xr, xf, xe, ⟨xy, xm, xq, xn, xw, xs, xc⟩⟩ := u
            have HR := Lib.hid hR
            have HU := Lib.hid hU
            have h33 : 3 < n := by omega
            have hc3 : 3 < c := by omega
            clear hG hG2 hEw hlt h10 h3 h9 hU2 hp hR hU
            go_wp2_with fail
            refine (HU2.out _ (Below.refl _ _)).mono ?_
            rintro e w2 ⟨rfl, b2⟩
            have r2 := (HR.out.below b2).below ((Below.refl _ _).alloc (Nat.le_refl _) (.cells (#[.int .i64 vy, .int .i64 vm, .int .u8 vk, .int .i64 vn, .int .i64 vd, .int .i64 vs, .int .u8 vc] : Array Value) 42))
            have u2 := (HU.out.below b2).below ((Below.refl _ _).alloc (Nat.le_refl _) (.cells (#[.int .i64 vy, .int .i64 vm, .int .u8 vk, .int .i64 vn, .int .i64 vd, .int .i64 vs, .int .u8 vc] : Array Value) 42))
            have a2 := (hbw.trans (b2.mono hbw.size)).alloc (hbw.trans (b2.mono hbw.size)).size (.cells (#[.int .i64 vy, .int .i64 vm, .int .u8 vk, .int .i64 vn, .int .i64 vd, .int .i64 vs, .int .u8 vc] : Array Value) 42)
            have hx : ∀ i, (w2.alloc (.cells (#[.int .i64 vy, .int .i64 vm, .int .u8 vk, .int .i64 vn, .int .i64 vd, .int .i64 vs, .int .u8 vc] : Array Value) 42)).cell? ⟨w2.heap.size, i, none⟩ = (#[.int .i64 vy, .int .i64 vm, .int .u8 vk, .int .i64 vn, .int .i64 vd, .int .i64 vs, .int .u8 vc] : Array Value)[i]? := fun i => cell_blk (heap_alloc_new _ _) i
            have x0 := hx 0
            have x1 := hx 1
            have x2 := hx 2
            have x3 := hx 3
            have x4 := hx 4
            have x5 := hx 5
            have x6 := hx 6
            have lx : w2.heap.size < (w2.alloc (.cells (#[.int .i64 vy, .int .i64 vm, .int .u8 vk, .int .i64 vn, .int .i64 vd, .int .i64 vs, .int .u8 vc] : Array Value) 42)).heap.size := by simp
            have hg0 := (HU.out.below b2).lt
            have hg1 : ¬ w2.heap.size = w.heap.size + 1 := by omega
            have hg2 : ¬ w.heap.size + 1 = w2.heap.size := by omega
            clear hx HR HU b2
            go_upto_if 47 with fail
            generalize w2.alloc (.cells (#[.int .i64 vy, .int .i64 vm, .int .u8 vk, .int .i64 vn, .int .i64 vd, .int .i64 vs, .int .u8 vc] : Array Value) 42) = w3 at *
            generalize w2.heap.size = gx at *
            have R3 := Lib.hid r2
            have A3 := Lib.hid a2
            have U3 := Lib.hid u2
            obtain ⟨_, hl2, d0, d1, d2, d3, d4, d5, d6, d7, d8, d9, d10, d11, d12, g0, g1, g2, g3, g4, g5, g6, g7, g8, g9, g10, g11, g12⟩ := u2
            clear r2 a2
            go_upto_region 16 with fail
            go_cut [] from 52 to 55 (fun W => En W w.heap.size w.heap.size Er.zero ∧ En W (w.heap.size + 1) (w.heap.size + 1) ⟨xd, xk, xv, xr, xf, true, ⟨vy, vm, vk, vn, vd, vs, vc⟩⟩ ∧ Below w.heap.size w W)
            case first =>
              go_region
              all_goals
                go_wp2_with fail
                go_meet
                case rel =>
                  have a3 := A3.out
                  first
                    | exact ⟨(((((((((((((((((R3.out).other (Nat.succ_ne_self _) 5 _)).other (Nat.succ_ne_self _) 6 _)).other (Nat.succ_ne_self _) 7 _)).other (Nat.succ_ne_self _) 8 _)).other (Nat.succ_ne_self _) 9 _)).other (Nat.succ_ne_self _) 10 _)).other (Nat.succ_ne_self _) 11 _)).other (Nat.succ_ne_self _) 12 _)).drew, (((((((((((((((((U3.out).set5 _)).set6 _)).set7 _)).set8 _)).set9 _)).set10 _)).set11 _)).set12 _)).drew, (((((((((((((((((a3).setCell (Nat.le_succ _) _)).setCell (Nat.le_succ _) _)).setCell (Nat.le_succ _) _)).setCell (Nat.le_succ _) _)).setCell (Nat.le_succ _) _)).setCell (Nat.le_succ _) _)).setCell (Nat.le_succ _) _)).setCell (Nat.le_succ _) _)).drew⟩
                    | exact ⟨(((((((((((((((((R3.out).other (Nat.succ_ne_self _) 6 _)).other (Nat.succ_ne_self _) 7 _)).other (Nat.succ_ne_self _) 8 _)).other (Nat.succ_ne_self _) 9 _)).other (Nat.succ_ne_self _) 10 _)).other (Nat.succ_ne_self _) 11 _)).other (Nat.succ_ne_self _) 12 _)).other (Nat.succ_ne_self _) 5 _)).drew, (((((((((((((((((U3.out).set6 _)).set7 _)).set8 _)).set9 _)).set10 _)).set11 _)).set12 _)).set5 _)).drew, (((((((((((((((((a3).setCell (Nat.le_succ _) _)).setCell (Nat.le_succ _) _)).setCell (Nat.le_succ _) _)).setCell (Nat.le_succ _) _)).setCell (Nat.le_succ _) _)).setCell (Nat.le_succ _) _)).setCell (Nat.le_succ _) _)).setCell (Nat.le_succ _) _)).drew⟩
            case rest =>
            obtain ⟨r4, u4, a4⟩ := hcut
            clear R3 A3 U3 hl2 d0 g0 d1 g1 d2 g2 d3 g3 d4 g4 d5 g5 d6 g6 d7 g7 d8 g8 d9 g9 d10 g10 d11 g11 d12 g12 lx x0 x1 x2 x3 x4 x5 x6
            obtain ⟨_, hl1, c0, c1, c2, c3, c4, c5, c6, c7, c8, c9, c10, c11, c12, f0, f1, f2, f3, f4, f5, f6, f7, f8, f9, f10, f11, f12⟩ := r4
            obtain ⟨_, hl2, d0, d1, d2, d3, d4, d5, d6, d7, d8, d9, d10, d11, d12, g0, g1, g2, g3, g4, g5, g6, g7, g8, g9, g10, g11, g12⟩ := u4
            go_step
            go_step
            go_wp2_with fail
            refine bodyPost_ret (v := .tuple #[.agg #[.int .i64 xd, .int .u8 xk, .int .i64 xv, .string xr, .string xf, .bool true, .int .i64 vy, .int .i64 vm, .int .u8 vk, .int .i64 vn, .int .i64 vd, .int .i64 vs, .int .u8 vc], .int .i64 0, .int .i64 0]) (by simp [results, Tryz.results15, go_sem, c0, c1, c2, c3, c4, c5, c6, c7, c8, c9, c10, c11, c12]) rfl ⟨HRE.out, ?_⟩
            exact (((((((((((((a4).setCell (Nat.le_refl _) _).setCell (Nat.le_refl _) _).setCell (Nat.le_refl _) _).setCell (Nat.le_refl _) _).setCell (Nat.le_refl _) _).setCell (Nat.le_refl _) _).setCell (Nat.le_refl _) _).setCell (Nat.le_refl _) _).setCell (Nat.le_refl _) _).setCell (Nat.le_refl _) _).setCell (Nat.le_refl _) _).setCell (Nat.le_refl _) _).setCell (Nat.le_refl _) _
          · have HRE := Lib.hid (eprsE_at (eprs_wrong hG2 (by rw [HN.out]; omega) hp hz))
            have t5 : (z != 0) = true := by rw [bne_iff_ne]; exact hz
            have hi4 : i ≤ 4 := by
              have ho := prsU_ok (L.drop 3)
              rw [hp] at ho
              exact (ho.2 hz).2.1
            have hi5 : (i : Int) ≤ 4 := by omega
            have HR := Lib.hid hR
            have h33 : 3 < n := by omega
            have hc3 : 3 < c := by omega
            clear hG hG2 hEw hlt h10 h3 h9 hU2 hp hR hU hz
            go_wp2_with fail
            refine (HU2.out _ (Below.refl _ _)).mono ?_
            rintro e w2 ⟨rfl, b2⟩
            have r2 := (HR.out.below b2).below ((Below.refl _ _).alloc (Nat.le_refl _) (.cells (#[.int .i64 vy, .int .i64 vm, .int .u8 vk, .int .i64 vn, .int .i64 vd, .int .i64 vs, .int .u8 vc] : Array Value) 42))
            have a2 := (hbw.trans (b2.mono hbw.size)).alloc (hbw.trans (b2.mono hbw.size)).size (.cells (#[.int .i64 vy, .int .i64 vm, .int .u8 vk, .int .i64 vn, .int .i64 vd, .int .i64 vs, .int .u8 vc] : Array Value) 42)
            clear HR b2
            go_upto_if 47 with fail
            generalize w2.alloc (.cells (#[.int .i64 vy, .int .i64 vm, .int .u8 vk, .int .i64 vn, .int .i64 vd, .int .i64 vs, .int .u8 vc] : Array Value) 42) = w3 at *
            obtain ⟨_, hl1, c0, c1, c2, c3, c4, c5, c6, c7, c8, c9, c10, c11, c12, f0, f1, f2, f3, f4, f5, f6, f7, f8, f9, f10, f11, f12⟩ := r2
            go_wp2_with fail
            refine bodyPost_ret (v := .tuple #[.agg #[.int .i64 0, .int .u8 0, .int .i64 0, .string ⟨#[]⟩, .string ⟨#[]⟩, .bool false, .int .i64 0, .int .i64 0, .int .u8 0, .int .i64 0, .int .i64 0, .int .i64 0, .int .u8 0], .int .i64 (3 + (i : Int)), .int .i64 z]) (by simp [results, Tryz.results15, go_sem, c0, c1, c2, c3, c4, c5, c6, c7, c8, c9, c10, c11, c12]) rfl ⟨HRE.out, ?_⟩
            exact (((((((((((((a2).setCell (Nat.le_refl _) _).setCell (Nat.le_refl _) _).setCell (Nat.le_refl _) _).setCell (Nat.le_refl _) _).setCell (Nat.le_refl _) _).setCell (Nat.le_refl _) _).setCell (Nat.le_refl _) _).setCell (Nat.le_refl _) _).setCell (Nat.le_refl _) _).setCell (Nat.le_refl _) _).setCell (Nat.le_refl _) _).setCell (Nat.le_refl _) _).setCell (Nat.le_refl _) _
end Go.Proofs.YtigmbkcjmlpfoaaGreatDoor
