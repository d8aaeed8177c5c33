/- Contract of package source: readEra. -/
import Derived.Test.YtkcbmnboccjnnaaGreatDoorRdB
import Derived.Laws.OwnMore
namespace Go.Proofs.YtkcbmnboccjnnaaGreatDoor
open Go.RowKit Go.Shelf
set_option maxRecDepth 100000 in
set_option maxHeartbeats 8000000 in
theorem readEra_any (g B gt n : Nat) (s : St) (zc : Zn) (L : List ByteArray) (W : World) (hE : Ev W) (hR : Rdr W B g s) (hcur : s.cur = some zc) (hL : Bx W gt (L.map Value.string)) (hl : L.length = n) (h1 : 1 ≤ n) (hn : n ≤ 24) (hs : ∀ t ∈ L, t.size ≤ 2048) (h96 : s.zs.length ≤ 1024) (h64 : zc.es.length ≤ 64) :
    Calls Tryz.prog 47 #[.pointer (some ⟨g, 0, none⟩), .slice (some ⟨gt, 0, none⟩) n n] W fun e w' => ReadE (So.eraL s zc L) B g e w' ∧ ReadB (So.eraL s zc L) B W w' := by
  obtain ⟨lim, vr, vz, vl, zd, cz, R⟩ := hR
  obtain ⟨d, rfl, hd⟩ : ∃ d : Zd, cz = some d ∧ d.zn = zc := by
    have := R.cn
    rw [hcur] at this
    cases cz with
    | none => cases this
    | some d =>
      injection this with e
      exact ⟨d, rfl, e⟩
  have hel : d.es.length ≤ 64 := by rw [← hd] at h64; exact h64
  have hzl : zd.length ≤ 1024 := by
    have := congrArg List.length R.zn
    rw [List.length_map] at this
    omega
  have e0 : (zd ++ (some d).toList).length = zd.length + 1 := by simp
  have Rz := R.z
  rw [e0] at Rz
  obtain ⟨gz, cz', hvz, hgzB, hgzW⟩ := Rz.form (by omega)
  subst hvz
  have hBW : B ≤ W.heap.size := Nat.le_trans R.limB R.limW
  have c0 := cell_blk R.blk 1
  change W.cell? ⟨g, 1, none⟩ = some (.slice (some ⟨gz, 0, none⟩) (zd.length + 1) cz') at c0
  have hfl : (zd.flatMap zcell).length = zd.length * 2 := flat_len zcell_len zd
  have hz1 : ((zd ++ (some d).toList).flatMap zcell)[zd.length * 2 + 1]? = some (.slice d.A d.es.length d.c) := by
    simp only [Option.toList_some]
    rw [flat_snoc, List.getElem?_append_right (by omega), hfl, show zd.length * 2 + 1 - zd.length * 2 = 1 by omega]
    rfl
  have c1 : W.cell? ⟨gz, zd.length * 2 + 1, none⟩ = some (.slice d.A d.es.length d.c) := by
    rw [Rz.cellAt _ (by omega)]
    exact hz1
  have hzg : gz ≠ g := by
    rintro rfl
    exact own_not_blk Rz R.blk (by decide) rfl
  have hera : So.eraL s zc L = if d.es.length = 64 then .inr (0, 6) else if (El.prs L).2.2 ≠ 0 then .inr ((El.prs L).2.1, (El.prs L).2.2) else .inl (s.put ⟨d.nm, d.es ++ [(El.prs L).1]⟩ (El.prs L).1.en) := by
    rw [← hd]
    rfl
  generalize hM : zd.length = M at *
  have HM := Lib.hid hM
  have HR0 := Lib.hid R
  have HBL := Lib.hid hL
  have HRZ0 := Lib.hid Rz
  have ti : ((M : Int) + 1 - 1).toNat = M := by omega
  have tk : (0 : Int) ≤ (M : Int) := by omega
  by_cases hfull : d.es.length = 64
  · have HR := Lib.hid (show So.eraL s zc L = .inr (0, 6) by rw [hera, if_pos hfull])
    rw [hfull] at c1
    clear hera hz1 hfl e0 hd hM R Rz hE hL
    go_enter Tryz.func47, Tryz.ntmps47
    go_wp2_with fail
    go_quiet (fail)
    go_wp2_with fail
    go_ret2
    exact ⟨readE_no HR.out, readB_no HR.out (below_drewN (Below.refl _ _) _)⟩
  · obtain ⟨x, i, z, hp⟩ : ∃ x i z, El.prs L = (x, i, z) := ⟨_, _, _, rfl⟩
    rw [if_neg hfull, hp] at hera
    have HRU := Lib.hid hera
    have HC := Lib.hid (fun W (hE : Ev W) hL => eparse_at gt 0 n L W hE hL (by omega) (by omega) hs)
    rw [List.drop_zero, hp] at HC
    have HE := Lib.hid hE
    clear hera hz1 hfl e0 hd hM R Rz hE hL hp hs
    go_enter Tryz.func47, Tryz.ntmps47
    go_wp2_with fail
    go_quiet (fail)
    go_wp2_with fail
    have bd : Below W.heap.size W (W.drewN nq) := below_drewN (Below.refl _ _) nq
    obtain ⟨W1, hW1⟩ : ∃ W1, W1 = W.drewN nq := ⟨_, rfl⟩
    rw [← hW1] at bd ⊢
    clear hW1
    have HRa := Lib.hid (HR0.out.on bd)
    have HC := Lib.hid (HC.out W1 (HE.out.below bd) (HBL.out.on bd))
    have hBW1 : B ≤ W1.heap.size := Nat.le_trans hBW bd.size
    have HBa := Lib.hid ((Below.refl B W).trans (bd.mono hBW))
    have hW01 := bd.size
    have HBd := Lib.hid bd
    clear bd c0 c1 HR0 HE HBL HRZ0
    by_cases hz : z = 0
    · subst hz
      have HRU := Lib.hid (show So.eraL s zc L = .inl (s.put ⟨d.nm, d.es ++ [x]⟩ x.en) by rw [HRU.out]; rfl)
      refine HC.out.mono ?_
      rintro e w1 ⟨rfl, b1⟩
      have R1 := HRa.out.on b1
      have hz1 := b1.size
      have hce := R1.ce d rfl
      have ee : (zd ++ (some d).toList).length = M + 1 := by simp [HM.out]
      have Rz := R1.z
      rw [ee] at Rz
      have hfl : (zd.flatMap zcell).length = M * 2 := by rw [flat_len zcell_len zd, HM.out]
      have hzc : ((zd ++ (some d).toList).flatMap zcell)[M * 2 + 1]? = some (.slice d.A d.es.length d.c) := by
        simp only [Option.toList_some]
        rw [flat_snoc, List.getElem?_append_right (by omega), hfl, show M * 2 + 1 - M * 2 = 1 by omega]
        rfl
      have c1 : w1.cell? ⟨gz, M * 2 + 1, none⟩ = some (.slice d.A d.es.length d.c) := by
        rw [Rz.cellAt _ (by omega)]
        exact hzc
      have hg1 := lt_blk R1.blk
      have hgz1 : gz < w1.heap.size := by omega
      have hg2 : g < w1.heap.size + 1 := by omega
      have hgz2 : gz < w1.heap.size + 1 := by omega
      have ag := own_not_blk hce R1.blk (by decide)
      have ab : (Value.slice d.A d.es.length d.c).ownBlock ≠ some w1.heap.size := fun e => by have := (hce.lt _ e).2; omega
      have hbel := ((box_below w1 (.cells #[.int .i64 x.sd, .int .u8 x.k, .int .i64 x.sv, .string x.ru, .string x.fm, .bool x.en, .int .i64 x.u.y, .int .i64 x.u.m, .int .u8 x.u.k, .int .i64 x.u.n, .int .i64 x.u.d, .int .i64 x.u.s, .int .u8 x.u.c] 65)).alloc (by simp) (.cells #[.int .i64 x.sd, .int .u8 x.k, .int .i64 x.sv, .string x.ru, .string x.fm, .bool x.en, .int .i64 x.u.y, .int .i64 x.u.m, .int .u8 x.u.k, .int .i64 x.u.n, .int .i64 x.u.d, .int .i64 x.u.s, .int .u8 x.u.c] 65)).drew
      have HR2 := Lib.hid (R1.on hbel)
      have HRZ := Lib.hid (own_on Rz hbel)
      have HBe := Lib.hid ((HBa.out.trans (b1.mono hBW1)).trans (hbel.mono (Nat.le_trans hBW1 hz1)))
      have Be := Bx.mk' w1 w1.heap.size #[.int .i64 x.sd, .int .u8 x.k, .int .i64 x.sv, .string x.ru, .string x.fm, .bool x.en, .int .i64 x.u.y, .int .i64 x.u.m, .int .u8 x.u.k, .int .i64 x.u.n, .int .i64 x.u.d, .int .i64 x.u.s, .int .u8 x.u.c] 65 rfl
      have HB5 := Lib.hid ((Be.al (.cells #[.int .i64 x.sd, .int .u8 x.k, .int .i64 x.sv, .string x.ru, .string x.fm, .bool x.en, .int .i64 x.u.y, .int .i64 x.u.m, .int .u8 x.u.k, .int .i64 x.u.n, .int .i64 x.u.d, .int .i64 x.u.s, .int .u8 x.u.c] 65)).at_ 5 _ rfl)
      have HN := Lib.hid (Bx.mk' (w1.alloc (.cells #[.int .i64 x.sd, .int .u8 x.k, .int .i64 x.sv, .string x.ru, .string x.fm, .bool x.en, .int .i64 x.u.y, .int .i64 x.u.m, .int .u8 x.u.k, .int .i64 x.u.n, .int .i64 x.u.d, .int .i64 x.u.s, .int .u8 x.u.c] 65)) (w1.heap.size + 1) #[.int .i64 x.sd, .int .u8 x.k, .int .i64 x.sv, .string x.ru, .string x.fm, .bool x.en, .int .i64 x.u.y, .int .i64 x.u.m, .int .u8 x.u.k, .int .i64 x.u.n, .int .i64 x.u.d, .int .i64 x.u.s, .int .u8 x.u.c] 65 (by simp))
      have HZC := Lib.hid hzc
      have hlim : lim ≤ w1.heap.size := R1.limW
      have hgzb : gz ≠ w1.heap.size := by omega
      have hgb : g ≠ w1.heap.size := by omega
      clear R1 b1 HC Rz hbel Be hce ee hfl hzc HRa HBa
      go_wp2_with fail
      go_region_law
        ((refine step_ap_era (by rfl) _ _ (by rfl) lim (.slice d.A d.es.length d.c) d.es.length (d.es.flatMap ecell) (by rfl) (HR2.out.ce d rfl) (w1.heap.size + 1) 1 (ecell x) (by rfl) (by rfl) HN.out.at_ (by intro u hu; simp [ecell] at hu; rcases hu with rfl | rfl | rfl | rfl | rfl | rfl | rfl | rfl | rfl | rfl | rfl | rfl | rfl <;> rfl) (by omega) (by simp; omega) ?_; intro gg cap w3 hown3 hgrow hat hlt; have hbk := set_grown hgrow HR2.out.blk ag; have hzk := HRZ.out.kept hgrow (own_apart HRZ.out (HR2.out.ce d rfl) (by decide)); have e0 := (hzk.cellAt (M * 2 + 1) (by omega)).trans HZC.out; have e1 := hzk.frozenAt (M * 2 + 1); have e2 := cell_blk hbk 3; have e3 := frozen_blk hbk 3; have e5 := (hgrow.cell_far ⟨w1.heap.size, 5, none⟩ (by simp; omega) (Ne.symm ab)).trans HB5.out))
      all_goals
        have hf := HR2.out.era (x := x) hgrow (by rw [HM.out]) hown3
        rw [HM.out] at hf
        have HF := Lib.hid hf
        have hb3 : Below B W ((w3.setCell ⟨gz, M * 2 + 1, none⟩ (.slice (some ⟨gg, 0, none⟩) (d.es.length + 1) cap)).setCell ⟨g, 3, none⟩ (.bool x.en)) := ((HBe.out.grown hgrow (by simp; omega) (fun k hk => Nat.le_trans HR2.out.limB ((HR2.out.ce d rfl).lt k hk).1)).setCell hgzB _).setCell HR2.out.base _
        clear hf hgrow hown3 HR2 HBe hbk HN HRZ hzk
        go_wp2_with fail
        go_ret2
        exact ⟨readE_yes HRU.out HF.out, readB_yes HRU.out hb3⟩
    · have tz : (z != 0) = true := by rw [bne_iff_ne]; exact hz
      have hzz : So.eraL s zc L = .inr (i, z) := by rw [HRU.out, if_pos hz]
      have HRU := Lib.hid hzz
      clear hzz hz
      refine HC.out.mono ?_
      rintro e w1 ⟨rfl, b1⟩
      go_wp2_with fail
      go_ret2
      exact ⟨readE_no (i := i) HRU.out, readB_no (i := i) HRU.out ((HBd.out.trans (b1.mono HBd.out.size)).alloc (Nat.le_trans HBd.out.size b1.size) _)⟩
end Go.Proofs.YtkcbmnboccjnnaaGreatDoor
