/- Contract of package rule: Parse. -/
import Derived.Test.YtigmbkcjmlpfoaaGreatDoorRuP
import Derived.OwnWalk
namespace Go.Proofs.YtigmbkcjmlpfoaaGreatDoor
open Go.RowKit
def RPrsE (r : Ru × Nat × Int) (e : Ending) : Prop := e = .returned (.tuple #[ruV r.1, .int .i64 (r.2.1 : Nat), .int .i64 r.2.2])
theorem rprsE_of {r : Ru × Nat × Int} {v : Ru} {i : Nat} {z : Int} (h : r = (v, i, z)) : RPrsE r (.returned (.tuple #[.agg #[.string v.nm, .int .i64 v.fr, .int .i64 v.tl, .int .i64 v.m, .int .u8 v.k, .int .i64 v.n, .int .i64 v.d, .int .i64 v.s, .int .u8 v.c, .int .i64 v.sv, .string v.lt], .int .i64 (i : Int), .int .i64 z])) := by
  subst h
  rfl
/-- What is answered of the first texts that are read: they make a rule, or do not. -/
theorem rprs_stop {L : List ByteArray} {k : Nat} {z : Int} (h : Rl.run 0 (L.take 9) Ru.zero = (Ru.zero, k, z)) (hz : z ≠ 0) : Rl.prs L = (Ru.zero, k, z) := by
  unfold Rl.prs
  rw [h, if_pos hz]
theorem rprs_short {L : List ByteArray} {r : Ru} (h : Rl.run 0 (L.take 9) Ru.zero = (r, 0, 0)) (hl : L.length < 9) : Rl.prs L = (Ru.zero, L.length, 5) := by
  unfold Rl.prs
  rw [h, if_neg (fun h => h rfl), if_pos hl]
theorem rprs_long {L : List ByteArray} {r : Ru} (h : Rl.run 0 (L.take 9) Ru.zero = (r, 0, 0)) (hl : 9 < L.length) : Rl.prs L = (Ru.zero, 9, 6) := by
  unfold Rl.prs
  rw [h, if_neg (fun h => h rfl), if_neg (by omega), if_pos hl]
theorem rprs_nine {L : List ByteArray} {r : Ru} (h : Rl.run 0 (L.take 9) Ru.zero = (r, 0, 0)) (hl : L.length = 9) : Rl.prs L = (r, 0, 0) := by
  unfold Rl.prs
  rw [h, if_neg (fun h => h rfl), if_neg (by omega), if_neg (by omega)]
set_option maxRecDepth 100000 in
set_option maxHeartbeats 2000000 in
theorem rprs_any (A : Option Addr) (n c M : Nat) (L : List ByteArray) (hl : L.length = n) (hn : n ≤ 4294967296) (hM : M = min n 9) (hL : ∀ i, i < M → (L.getD i ByteArray.empty).size ≤ 4096) (w : World) (hE : Env w) (B : Nat) (hB : B ≤ w.heap.size) (hS : Sl w B A n (fun i => .string (L.getD i ByteArray.empty))) :
    Calls Tryz.prog 10 #[.slice A n c] w fun e w' => RPrsE (Rl.prs L) e ∧ Below w.heap.size w w' := by
  have tm : min (n : Int) 9 = (M : Int) := by omega
  have hM9 : M ≤ 9 := by omega
  have hMn : M ≤ n := by omega
  have hS' : Sl w w.heap.size A n (fun i => .string (L.getD i ByteArray.empty)) := by
    intro hp
    obtain ⟨ad, e, hb, hc⟩ := hS hp
    exact ⟨ad, e, Nat.lt_of_lt_of_le hb hB, hc⟩
  have HS := Lib.hid hS'
  have HE := Lib.hid hE
  have HL := Lib.hid hL
  have HN := Lib.hid hl
  have HM := Lib.hid hM
  have HT := Lib.hid (show (L.take 9).length = M by rw [List.length_take, hl, hM, Nat.min_comm])
  clear hS hS' hE hL hl hM
  go_enter Tryz.func10, Tryz.ntmps10
  go_wp2_with fail
  clear tm
  go_loopw [11] (fun i wr => ∃ (k : Nat) (u : Ru), k ≤ M ∧ i = .int .i64 k ∧ Hid (Rl.run 0 (L.take 9) Ru.zero = Rl.run k ((L.take 9).drop k) u) ∧ Rn wr w.heap.size w.heap.size Ru.zero ∧ Rn wr (w.heap.size + 1) (w.heap.size + 1) u ∧ Below w.heap.size w wr) (fun i _ => M - (intOf i).toNat)
  case atStart =>
    refine ⟨0, Ru.zero, Nat.zero_le _, rfl, Lib.hid rfl, ⟨Nat.le_refl _, by simp; omega, by go_simp; rfl, by go_simp; rfl, by go_simp; rfl, by go_simp; rfl, by go_simp; rfl, by go_simp; rfl, by go_simp; rfl, by go_simp; rfl, by go_simp; rfl, by go_simp; rfl, by go_simp; rfl, by go_simp, by go_simp, by go_simp, by go_simp, by go_simp, by go_simp, by go_simp, by go_simp, by go_simp, by go_simp, by go_simp⟩, ⟨Nat.le_refl _, by simp, by go_simp; rfl, by go_simp; rfl, by go_simp; rfl, by go_simp; rfl, by go_simp; rfl, by go_simp; rfl, by go_simp; rfl, by go_simp; rfl, by go_simp; rfl, by go_simp; rfl, by go_simp; rfl, by go_simp, by go_simp, by go_simp, by go_simp, by go_simp, by go_simp, by go_simp, by go_simp, by go_simp, by go_simp, by go_simp⟩, ?_⟩
    repeat (first | exact Below.refl _ _ | assumption | refine below_drewN ?_ _ | refine Below.drew ?_ | refine Below.setCell ?_ (by first | omega | (simp; done) | (simp; omega)) _ | refine Below.alloc ?_ (by first | omega | (simp; done) | (simp; omega)) _)
  case round =>
    obtain ⟨k, u, hk, rfl, hG, hR, hU, hbw⟩ := hrel
    have hEw := HE.out.below hbw
    by_cases hlt : k < M
    · obtain ⟨ad, rfl, hal, hc⟩ := (HS.out.below hbw).at_ (show k < n by omega)
      change wr.cell? (ad.add k) = some (.string (L.getD k ByteArray.empty)) at hc
      have hz := HL.out k hlt
      have hkn : k < n := by omega
      have hd : (L.take 9).drop k = L.getD k ByteArray.empty :: (L.take 9).drop (k + 1) := by
        have hkl : k < (L.take 9).length := by rw [HT.out]; exact hlt
        rw [List.drop_eq_getElem_cons hkl, List.getD_eq_getElem?_getD, ← List.getElem?_take_of_lt (show k < 9 by omega), List.getElem?_eq_getElem hkl]
        rfl
      have hG2 := hG.out
      rw [hd] at hG2
      generalize L.getD k ByteArray.empty = X at *
      have HP := Lib.hid (fun W (hE : Env W) (h : Rn W (w.heap.size + 1) (w.heap.size + 1) u) => rpart_any (w.heap.size + 1) (w.heap.size + 1) X u W k (by omega) hE hz h)
      by_cases h0 : (Rl.step k X u).2 = 0
      · have HG := Lib.hid (show Rl.run 0 (L.take 9) Ru.zero = Rl.run (k + 1) ((L.take 9).drop (k + 1)) (Rl.step k X u).1 by rw [hG2, Rl.run, if_pos h0])
        rw [h0] at HP
        have HEw := Lib.hid hEw
        have HR := Lib.hid hR
        have HU := Lib.hid hU
        clear hd hG hG2 h0 hEw hR hU
        go_wp2_with fail
        refine (HP.out _ HEw.out HU.out).mono ?_
        rintro e w1 ⟨rfl, u1, b1⟩
        have r1 := HR.out.stay b1 (Nat.lt_succ_self _)
        have a1 := hbw.trans (b1.mono (Nat.le_succ _))
        go_wp2_with fail
        go_roundw
        case rel => exact ⟨k + 1, _, by omega, by go_num, HG, r1, u1, a1⟩
        case measure => simp [intOf]; omega
      · have HRE := Lib.hid (rprsE_of (rprs_stop (show Rl.run 0 (L.take 9) Ru.zero = (Ru.zero, k, (Rl.step k X u).2) by rw [hG2, Rl.run, if_neg h0]) h0))
        have t5 : ((Rl.step k X u).2 != 0) = true := by rw [bne_iff_ne]; exact h0
        generalize (Rl.step k X u).2 = z at *
        have HEw := Lib.hid hEw
        have HR := Lib.hid hR
        have HU := Lib.hid hU
        clear hd hG hG2 h0 hEw hR hU
        go_wp2_with fail
        refine (HP.out _ HEw.out HU.out).mono ?_
        rintro e w1 ⟨rfl, u1, b1⟩
        have r1 := HR.out.stay b1 (Nat.lt_succ_self _)
        have a1 := hbw.trans (b1.mono (Nat.le_succ _))
        obtain ⟨_, hl1, c0, c1, c2, c3, c4, c5, c6, c7, c8, c9, c10, f0, f1, f2, f3, f4, f5, f6, f7, f8, f9, f10⟩ := r1
        clear u1 b1
        go_wp2_with fail
        refine bodyPost_ret (v := .tuple #[.agg #[.string ⟨#[]⟩, .int .i64 0, .int .i64 0, .int .i64 0, .int .u8 0, .int .i64 0, .int .i64 0, .int .i64 0, .int .u8 0, .int .i64 0, .string ⟨#[]⟩], .int .i64 (k : Int), .int .i64 z]) (by simp [results, Tryz.results10, go_sem, c0, c1, c2, c3, c4, c5, c6, c7, c8, c9, c10]) rfl ⟨HRE.out, ?_⟩
        exact (((((((((((a1).setCell (Nat.le_refl _) _).setCell (Nat.le_refl _) _).setCell (Nat.le_refl _) _).setCell (Nat.le_refl _) _).setCell (Nat.le_refl _) _).setCell (Nat.le_refl _) _).setCell (Nat.le_refl _) _).setCell (Nat.le_refl _) _).setCell (Nat.le_refl _) _).setCell (Nat.le_refl _) _).setCell (Nat.le_refl _) _
    · obtain rfl : k = M := by omega
      have hG2 := hG.out
      rw [List.drop_of_length_le (by rw [HT.out]; exact Nat.le_refl _), Rl.run] at hG2
      obtain ⟨_, hl1, c0, c1, c2, c3, c4, c5, c6, c7, c8, c9, c10, f0, f1, f2, f3, f4, f5, f6, f7, f8, f9, f10⟩ := hR
      by_cases h9 : n < 9
      · have HRE := Lib.hid (rprsE_of (rprs_short hG2 (by rw [HN.out]; exact h9)))
        rw [HN.out] at HRE
        clear hG hG2 hEw hlt hU
        go_wp2_with fail
        refine bodyPost_ret (v := .tuple #[.agg #[.string ⟨#[]⟩, .int .i64 0, .int .i64 0, .int .i64 0, .int .u8 0, .int .i64 0, .int .i64 0, .int .i64 0, .int .u8 0, .int .i64 0, .string ⟨#[]⟩], .int .i64 (n : Int), .int .i64 5]) (by simp [results, Tryz.results10, go_sem, c0, c1, c2, c3, c4, c5, c6, c7, c8, c9, c10]) rfl ⟨HRE.out, ?_⟩
        exact (((((((((((hbw).setCell (Nat.le_refl _) _).setCell (Nat.le_refl _) _).setCell (Nat.le_refl _) _).setCell (Nat.le_refl _) _).setCell (Nat.le_refl _) _).setCell (Nat.le_refl _) _).setCell (Nat.le_refl _) _).setCell (Nat.le_refl _) _).setCell (Nat.le_refl _) _).setCell (Nat.le_refl _) _).setCell (Nat.le_refl _) _
      · by_cases h10 : 9 < n
        · have HRE := Lib.hid (rprsE_of (rprs_long hG2 (by rw [HN.out]; exact h10)))
          clear hG hG2 hEw hlt hU
          go_wp2_with fail
          refine bodyPost_ret (v := .tuple #[.agg #[.string ⟨#[]⟩, .int .i64 0, .int .i64 0, .int .i64 0, .int .u8 0, .int .i64 0, .int .i64 0, .int .i64 0, .int .u8 0, .int .i64 0, .string ⟨#[]⟩], .int .i64 9, .int .i64 6]) (by simp [results, Tryz.results10, go_sem, c0, c1, c2, c3, c4, c5, c6, c7, c8, c9, c10]) rfl ⟨HRE.out, ?_⟩
          exact (((((((((((hbw).setCell (Nat.le_refl _) _).setCell (Nat.le_refl _) _).setCell (Nat.le_refl _) _).setCell (Nat.le_refl _) _).setCell (Nat.le_refl _) _).setCell (Nat.le_refl _) _).setCell (Nat.le_refl _) _).setCell (Nat.le_refl _) _).setCell (Nat.le_refl _) _).setCell (Nat.le_refl _) _).setCell (Nat.le_refl _) _
        · obtain rfl : n = 9 := by omega
          have HRE := Lib.hid (rprsE_of (rprs_nine hG2 HN.out))
          obtain ⟨um, uf, ut, uo, uk, un, ud, us, uc, uv, ul⟩ := u
          obtain ⟨_, hl2, d0, d1, d2, d3, d4, d5, d6, d7, d8, d9, d10, _, _, _, _, _, _, _, _, _, _, _⟩ := hU
          clear hG hG2 hEw hlt
          go_wp2_with fail
          refine bodyPost_ret (v := .tuple #[.agg #[.string um, .int .i64 uf, .int .i64 ut, .int .i64 uo, .int .u8 uk, .int .i64 un, .int .i64 ud, .int .i64 us, .int .u8 uc, .int .i64 uv, .string ul], .int .i64 0, .int .i64 0]) (by simp [results, Tryz.results10, go_sem, c0, c1, c2, c3, c4, c5, c6, c7, c8, c9, c10]) rfl ⟨HRE.out, ?_⟩
          exact (((((((((((hbw).setCell (Nat.le_refl _) _).setCell (Nat.le_refl _) _).setCell (Nat.le_refl _) _).setCell (Nat.le_refl _) _).setCell (Nat.le_refl _) _).setCell (Nat.le_refl _) _).setCell (Nat.le_refl _) _).setCell (Nat.le_refl _) _).setCell (Nat.le_refl _) _).setCell (Nat.le_refl _) _).setCell (Nat.le_refl _) _
end Go.Proofs.YtigmbkcjmlpfoaaGreatDoor
