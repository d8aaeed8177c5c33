/- Contract of package moment: ParseUntil. -/
import Derived.Test.YtgcgmmdfmcapiaaGreatDoorMoV
namespace Go.Proofs.YtgcgmmdfmcapiaaGreatDoor
open Go.RowKit
def Ut.zero : Ut := ⟨0, 0, 0, 0, 0, 0, 0⟩
def Ut.first : Ut := ⟨0, 1, 0, 1, 0, 0, 0⟩
/-- What texts from a place on make of an until: it, or the place of what makes none, and why. -/
def Mo.run : Nat → List ByteArray → Ut → Ut × Nat × Int
  | _, [], u => (u, 0, 0)
  | i, t :: l, u => if (Mo.step i t u).2 = 0 then Mo.run (i + 1) l (Mo.step i t u).1 else (Ut.zero, i, (Mo.step i t u).2)
/-- The until that texts tell, or the place of what tells none, and why. -/
def Mo.prsU (L : List ByteArray) : Ut × Nat × Int := if L = [] then (Ut.zero, 0, 5) else if 4 < L.length then (Ut.zero, 4, 6) else Mo.run 0 L Ut.first
def UPrsE (r : Ut × Nat × Int) (e : Ending) : Prop := e = .returned (.tuple #[utV r.1, .int .i64 (r.2.1 : Nat), .int .i64 r.2.2])
theorem uprsE_of {r : Ut × Nat × Int} {u : Ut} {i : Nat} {z : Int} (h : r = (u, i, z)) : UPrsE r (.returned (.tuple #[.agg #[.int .i64 u.y, .int .i64 u.m, .int .u8 u.k, .int .i64 u.n, .int .i64 u.d, .int .i64 u.s, .int .u8 u.c], .int .i64 (i : Int), .int .i64 z])) := by
  subst h
  rfl
theorem Un.stay {w w' : World} {B B' g : Nat} {u : Ut} (h : Un w B g u) (hb : Below B' w w') (hg : g < B') : Un w' B g u := by
  have hc : ∀ o, w'.cell? ⟨g, o, none⟩ = w.cell? ⟨g, o, none⟩ := fun o => hb.cell (p := ⟨g, o, none⟩) hg
  have hf : ∀ o, w'.frozen? ⟨g, o, none⟩ = w.frozen? ⟨g, o, none⟩ := fun o => hb.frozen (p := ⟨g, o, none⟩) hg
  exact ⟨h.base, Nat.lt_of_lt_of_le h.lt hb.size, (hc _).trans h.c0, (hc _).trans h.c1, (hc _).trans h.c2, (hc _).trans h.c3, (hc _).trans h.c4, (hc _).trans h.c5, (hc _).trans h.c6,
    (hf _).trans h.f0, (hf _).trans h.f1, (hf _).trans h.f2, (hf _).trans h.f3, (hf _).trans h.f4, (hf _).trans h.f5, (hf _).trans h.f6⟩
theorem uprs_none (A : Option Addr) (c : Nat) (w : World) : Calls Tryz.prog 14 #[.slice A 0 c] w fun e w' => UPrsE (Mo.prsU []) e ∧ Below w.heap.size w w' := by
  go_enter Tryz.func14, Tryz.ntmps14
  go_wp2_with fail
  refine bodyPost_ret (v := .tuple #[.agg #[.int .i64 0, .int .i64 0, .int .u8 0, .int .i64 0, .int .i64 0, .int .i64 0, .int .u8 0], .int .i64 0, .int .i64 5]) (by simp [results, Tryz.results14, go_sem]) rfl ⟨rfl, ?_⟩
  repeat (first | exact Below.refl _ _ | assumption | refine below_drewN ?_ _ | refine Below.drew ?_ | refine Below.setCell ?_ (by first | omega | (simp; done) | (simp; omega)) _ | refine Below.alloc ?_ (by first | omega | (simp; done) | (simp; omega)) _)
theorem uprs_long (A : Option Addr) (n c : Nat) (L : List ByteArray) (w : World) (h : 4 < n) (hn : n ≤ 4294967296) (hl : Hid (L.length = n)) : Calls Tryz.prog 14 #[.slice A n c] w fun e w' => UPrsE (Mo.prsU L) e ∧ Below w.heap.size w w' := by
  have HE := Lib.hid (uprsE_of (show Mo.prsU L = (Ut.zero, 4, 6) by
    unfold Mo.prsU
    rw [if_neg (by intro e; rw [e] at hl; have := hl.out; simp at this; omega), if_pos (by rw [hl.out]; exact h)]))
  have t0 : ((n : Int) == 0) = false := by rw [beq_eq_false_iff_ne]; omega
  go_enter Tryz.func14, Tryz.ntmps14
  go_wp2_with fail
  refine bodyPost_ret (v := .tuple #[.agg #[.int .i64 0, .int .i64 0, .int .u8 0, .int .i64 0, .int .i64 0, .int .i64 0, .int .u8 0], .int .i64 4, .int .i64 6]) (by simp [results, Tryz.results14, go_sem]) rfl ⟨HE.out, ?_⟩
  repeat (first | exact Below.refl _ _ | assumption | refine below_drewN ?_ _ | refine Below.drew ?_ | refine Below.setCell ?_ (by first | omega | (simp; done) | (simp; omega)) _ | refine Below.alloc ?_ (by first | omega | (simp; done) | (simp; omega)) _)
set_option maxRecDepth 100000 in
set_option maxHeartbeats 2000000 in
theorem uprs_run (A : Option Addr) (n c : Nat) (L : List ByteArray) (hl : Hid (L.length = n)) (n1 : 1 ≤ n) (n4 : n ≤ 4) (hL : Hid (∀ i, i < n → (L.getD i ByteArray.empty).size ≤ 4096)) (w : World) (HE : Hid (Env w)) (hS : Hid (Sl w w.heap.size A n (fun i => .string (L.getD i ByteArray.empty)))) :
    Calls Tryz.prog 14 #[.slice A n c] w fun e w' => UPrsE (Mo.run 0 L Ut.first) e ∧ Below w.heap.size w w' := by
  have t0 : ((n : Int) == 0) = false := by rw [beq_eq_false_iff_ne]; omega
  have t1 : decide (4 < n) = false := by simp; omega
  go_enter Tryz.func14, Tryz.ntmps14
  go_wp2_with fail
  go_loopw [21] (fun i wr => ∃ (k : Nat) (u : Ut), k ≤ n ∧ i = .int .i64 k ∧ Hid (Mo.run 0 L Ut.first = Mo.run k (L.drop k) u) ∧ Un wr w.heap.size w.heap.size Ut.zero ∧ Un wr (w.heap.size + 1) (w.heap.size + 1) u ∧ Below w.heap.size w wr) (fun i _ => n - (intOf i).toNat)
  case atStart =>
    refine ⟨0, Ut.first, Nat.zero_le _, rfl, Lib.hid rfl, ⟨Nat.le_refl _, by simp; omega, by go_simp; rfl, by go_simp; rfl, by go_simp; rfl, by go_simp; rfl, by go_simp; rfl, by go_simp; rfl, by go_simp; rfl, by go_simp, by go_simp, by go_simp, by go_simp, by go_simp, by go_simp, by go_simp⟩, ⟨Nat.le_refl _, by simp, by go_simp; rfl, by go_simp; rfl, by go_simp; rfl, by go_simp; rfl, by go_simp; rfl, by go_simp; rfl, by go_simp; rfl, by go_simp, by go_simp, by go_simp, by go_simp, by go_simp, by go_simp, by go_simp⟩, ?_⟩
    repeat (first | exact Below.refl _ _ | assumption | refine below_drewN ?_ _ | refine Below.drew ?_ | refine Below.setCell ?_ (by first | omega | (simp; done) | (simp; omega)) _ | refine Below.alloc ?_ (by first | omega | (simp; done) | (simp; omega)) _)
  case round =>
    obtain ⟨k, u, hk, rfl, hG, hR, hU, hbw⟩ := hrel
    have hEw := HE.out.below hbw
    by_cases hlt : k < n
    · obtain ⟨ad, rfl, hal, hc⟩ := (hS.out.below hbw).at_ hlt
      change wr.cell? (ad.add k) = some (.string (L.getD k ByteArray.empty)) at hc
      have hz := hL.out k hlt
      have hd : L.drop k = L.getD k ByteArray.empty :: L.drop (k + 1) := by
        have hkl : k < L.length := by rw [hl.out]; exact hlt
        rw [List.drop_eq_getElem_cons hkl, List.getD_eq_getElem?_getD, List.getElem?_eq_getElem hkl]
        rfl
      have hG2 := hG.out
      rw [hd] at hG2
      generalize L.getD k ByteArray.empty = X at *
      have HP := Lib.hid (fun W (hE : Env W) (h : Un W (w.heap.size + 1) (w.heap.size + 1) u) => part_any (w.heap.size + 1) (w.heap.size + 1) X u W k (by omega) hE hz h)
      by_cases h0 : (Mo.step k X u).2 = 0
      · have HG := Lib.hid (show Mo.run 0 L Ut.first = Mo.run (k + 1) (L.drop (k + 1)) (Mo.step k X u).1 by rw [hG2, Mo.run, if_pos h0])
        rw [h0] at HP
        have HEw := Lib.hid hEw
        have HR := Lib.hid hR
        have HU := Lib.hid hU
        clear hd hG hG2 h0 hEw hR hU
        go_wp2_with fail
        refine (HP.out _ HEw.out HU.out).mono ?_
        rintro e w1 ⟨rfl, u1, b1⟩
        have r1 := HR.out.stay b1 (Nat.lt_succ_self _)
        have a1 := hbw.trans (b1.mono (Nat.le_succ _))
        go_wp2_with fail
        go_roundw
        case rel => exact ⟨k + 1, _, by omega, by go_num, HG, r1, u1, a1⟩
        case measure => simp [intOf]; omega
      · have HRE := Lib.hid (uprsE_of (show Mo.run 0 L Ut.first = (Ut.zero, k, (Mo.step k X u).2) by rw [hG2, Mo.run, if_neg h0]))
        have t5 : ((Mo.step k X u).2 != 0) = true := by rw [bne_iff_ne]; exact h0
        generalize (Mo.step k X u).2 = z at *
        have HEw := Lib.hid hEw
        have HR := Lib.hid hR
        have HU := Lib.hid hU
        clear hd hG hG2 h0 hEw hR hU
        go_wp2_with fail
        refine (HP.out _ HEw.out HU.out).mono ?_
        rintro e w1 ⟨rfl, u1, b1⟩
        have r1 := HR.out.stay b1 (Nat.lt_succ_self _)
        have a1 := hbw.trans (b1.mono (Nat.le_succ _))
        obtain ⟨_, hl1, c0, c1, c2, c3, c4, c5, c6, f0, f1, f2, f3, f4, f5, f6⟩ := r1
        clear u1 b1
        go_wp2_with fail
        refine bodyPost_ret (v := .tuple #[.agg #[.int .i64 0, .int .i64 0, .int .u8 0, .int .i64 0, .int .i64 0, .int .i64 0, .int .u8 0], .int .i64 (k : Int), .int .i64 z]) (by simp [results, Tryz.results14, go_sem, c0, c1, c2, c3, c4, c5, c6]) rfl ⟨HRE.out, ?_⟩
        exact (((((((a1).setCell (Nat.le_refl _) _).setCell (Nat.le_refl _) _).setCell (Nat.le_refl _) _).setCell (Nat.le_refl _) _).setCell (Nat.le_refl _) _).setCell (Nat.le_refl _) _).setCell (Nat.le_refl _) _
    · obtain rfl : k = n := by omega
      have hG2 := hG.out
      rw [List.drop_of_length_le (by rw [hl.out]; exact Nat.le_refl _), Mo.run] at hG2
      have HRE := Lib.hid (uprsE_of hG2)
      obtain ⟨uy, um, uk, un, ud, us, uc⟩ := u
      obtain ⟨_, hl1, c0, c1, c2, c3, c4, c5, c6, f0, f1, f2, f3, f4, f5, f6⟩ := hR
      obtain ⟨_, hl2, d0, d1, d2, d3, d4, d5, d6, _, _, _, _, _, _, _⟩ := hU
      clear hG hG2 hEw hlt
      go_wp2_with fail
      refine bodyPost_ret (v := .tuple #[.agg #[.int .i64 uy, .int .i64 um, .int .u8 uk, .int .i64 un, .int .i64 ud, .int .i64 us, .int .u8 uc], .int .i64 0, .int .i64 0]) (by simp [results, Tryz.results14, go_sem, c0, c1, c2, c3, c4, c5, c6]) rfl ⟨HRE.out, ?_⟩
      exact (((((((hbw).setCell (Nat.le_refl _) _).setCell (Nat.le_refl _) _).setCell (Nat.le_refl _) _).setCell (Nat.le_refl _) _).setCell (Nat.le_refl _) _).setCell (Nat.le_refl _) _).setCell (Nat.le_refl _) _
theorem uprs_any (A : Option Addr) (n c : Nat) (L : List ByteArray) (hl : L.length = n) (hn : n ≤ 4294967296) (hL : n ≤ 4 → ∀ i, i < n → (L.getD i ByteArray.empty).size ≤ 4096) (w : World) (hE : Env w) (B : Nat) (hB : B ≤ w.heap.size) (hS : Sl w B A n (fun i => .string (L.getD i ByteArray.empty))) :
    Calls Tryz.prog 14 #[.slice A n c] w fun e w' => UPrsE (Mo.prsU L) e ∧ Below w.heap.size w w' := by
  by_cases h0 : n = 0
  · subst h0
    obtain rfl := List.eq_nil_of_length_eq_zero hl
    exact uprs_none A c w
  · by_cases h4 : 4 < n
    · exact uprs_long A n c L w h4 hn (Lib.hid hl)
    · rw [show Mo.prsU L = Mo.run 0 L Ut.first by
        unfold Mo.prsU
        rw [if_neg (by intro e; rw [e] at hl; simp at hl; omega), if_neg (by omega)]]
      have hS' : Sl w w.heap.size A n (fun i => .string (L.getD i ByteArray.empty)) := by
        intro hp
        obtain ⟨ad, e, hb, hc⟩ := hS hp
        exact ⟨ad, e, Nat.lt_of_lt_of_le hb hB, hc⟩
      exact uprs_run A n c L (Lib.hid hl) (by omega) (by omega) (Lib.hid (hL (by omega))) w (Lib.hid hE) (Lib.hid hS')
end Go.Proofs.YtgcgmmdfmcapiaaGreatDoor
