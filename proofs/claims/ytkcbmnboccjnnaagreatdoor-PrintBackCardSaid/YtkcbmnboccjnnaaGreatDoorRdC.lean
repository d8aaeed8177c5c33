/- Contracts of package source: readZone, readEra. -/
import Derived.Test.YtkcbmnboccjnnaaGreatDoorRdB
import Derived.Laws.OwnMore
namespace Go.Proofs.YtkcbmnboccjnnaaGreatDoor
open Go.RowKit Go.Shelf
set_option maxRecDepth 100000 in
set_option maxHeartbeats 8000000 in
theorem readZone_any (g B gt n : Nat) (s : St) (L : List ByteArray) (W : World) (hE : Ev W) (hR : Rdr W B g s) (hcur : s.cur = none) (hL : Bx W gt (L.map Value.string)) (hl : L.length = n) (h1 : 1 ≤ n) (hn : n ≤ 24) (hs : ∀ t ∈ L, t.size ≤ 2048) (h96 : s.zs.length ≤ 1024) :
    Calls Tryz.prog 50 #[.pointer (some ⟨g, 0, none⟩), .slice (some ⟨gt, 0, none⟩) n n] W fun e w' => ReadE (So.zoneL s L) B g e w' ∧ ReadB (So.zoneL s L) B W w' := by
  obtain ⟨lim, vr, vz, vl, zd, cz, R⟩ := hR
  obtain rfl : cz = none := by
    have := R.cn
    rw [hcur] at this
    cases cz with
    | none => rfl
    | some d => cases this
  have hzl : zd.length = s.zs.length := by rw [← R.zn, List.length_map]
  have Rz := R.z
  simp only [Option.toList_none, List.append_nil] at Rz
  obtain ⟨Az, cz', hvz⟩ := own_form2 Rz
  subst hvz
  have hBW : B ≤ W.heap.size := Nat.le_trans R.limB R.limW
  have c0 := cell_blk R.blk 1
  change W.cell? ⟨g, 1, none⟩ = some (.slice Az zd.length cz') at c0
  by_cases hfull : s.zs.length = 1024
  · have HR := Lib.hid (show So.zoneL s L = .inr (0, 6) by unfold So.zoneL; rw [if_pos hfull])
    rw [hzl, hfull] at c0
    clear R Rz hE hL
    go_enter Tryz.func50, Tryz.ntmps50
    go_wp2_with fail
    go_ret2
    exact ⟨readE_no HR.out, readB_no HR.out (Below.refl _ _)⟩
  · have hfull2 : ¬ zd.length = 1024 := by omega
    have HZL := Lib.hid hzl
    have h24 : zd.length ≤ 1024 := by omega
    clear hzl
    by_cases hn1 : n = 1
    · subst hn1
      have HR := Lib.hid (show So.zoneL s L = .inr (1, 5) by unfold So.zoneL; rw [if_neg hfull, if_pos hl])
      clear R Rz hE hL
      go_enter Tryz.func50, Tryz.ntmps50
      go_wp2_with fail
      go_ret2
      exact ⟨readE_no (i := 1) HR.out, readB_no (i := 1) HR.out (Below.refl _ _)⟩
    · obtain ⟨x, i, z, hp⟩ : ∃ x i z, El.prs (L.drop 2) = (x, i, z) := ⟨_, _, _, rfl⟩
      have hzone : So.zoneL s L = if z ≠ 0 then .inr (2 + i, z) else if So.isN (So.at_ L 1) = true then .inl (s.put ⟨So.at_ L 1, [x]⟩ x.en) else .inr (1, 7) := by
        unfold So.zoneL
        rw [if_neg hfull, if_neg (by omega), hp]
      have HRU := Lib.hid hzone
      have HRR := Lib.hid R
      have HBL := Lib.hid hL
      have hi9 : i ≤ 7 := by
        have := eprs_ok (L.drop 2)
        rw [hp] at this
        by_cases h0 : z = 0
        · have := (this.1 h0).1
          simp only at this
          omega
        · exact (this.2 h0).2.1
      by_cases hn2 : n = 2
      · subst hn2
        have hd : L.drop 2 = [] := List.drop_of_length_le (by omega)
        rw [hd] at hp
        have hz : z = 5 ∧ i = 0 := by
          have h0 : El.prs [] = (Er.zero, 0, 5) := rfl
          rw [h0] at hp
          injection hp with _ hp
          injection hp with e1 e2
          exact ⟨e2.symm, e1.symm⟩
        obtain ⟨rfl, rfl⟩ := hz
        have HC := Lib.hid (fun A => eparse_none A W hE)
        rw [hp] at HC
        clear R Rz hE hL hzone hd hp
        go_enter Tryz.func50, Tryz.ntmps50
        go_wp2_with fail
        refine (HC.out _).mono ?_
        rintro e w1 ⟨rfl, b1⟩
        go_wp2_with fail
        go_ret2
        exact ⟨readE_no (i := 2) (by rw [HRU.out]; rfl), readB_no (i := 2) (by rw [HRU.out]; rfl) (b1.alloc b1.size _)⟩
      · have HC := Lib.hid (eparse_at gt 2 (n - 2) L W hE hL (by omega) (by omega) hs)
        rw [hp] at HC
        clear R Rz hE hL hzone hp
        by_cases hz : z = 0
        · subst hz
          obtain ⟨nm, hnm⟩ : ∃ nm, So.at_ L 1 = nm := ⟨_, rfl⟩
          have hL1 : (L.map Value.string)[1]? = some (.string nm) := by
            rw [List.getElem?_map, List.getElem?_eq_getElem (by omega), ← hnm]
            show some (Value.string L[1]) = some (Value.string (L.getD 1 ByteArray.empty))
            rw [List.getD_eq_getElem?_getD, List.getElem?_eq_getElem (by omega)]
            rfl
          have hnz : nm.size ≤ 2048 := by rw [← hnm]; exact getD_small hs 1
          rw [hnm] at HRU
          have HNM := Lib.hid (fun W v (h : So.isN nm = v) => rname_is nm v W (by omega) h)
          have HL1 := Lib.hid hL1
          clear hL1 hnm hs
          cases hq : So.isN nm with
          | false =>
            have HNM := Lib.hid (fun W => HNM.out W _ hq)
            rw [hq] at HRU
            clear hq
            go_enter Tryz.func50, Tryz.ntmps50
            go_wp2_with fail
            refine HC.out.mono ?_
            rintro e w1 ⟨rfl, b1⟩
            have B1 := HBL.out.on b1
            have d1 : w1.cell? ⟨gt, 1, none⟩ = some (.string nm) := B1.at_ 1 _ HL1.out
            have hgt1 := B1.lt
            have HB := Lib.hid (b1.alloc b1.size (.cells #[.int .i64 x.sd, .int .u8 x.k, .int .i64 x.sv, .string x.ru, .string x.fm, .bool x.en, .int .i64 x.u.y, .int .i64 x.u.m, .int .u8 x.u.k, .int .i64 x.u.n, .int .i64 x.u.d, .int .i64 x.u.s, .int .u8 x.u.c] 65))
            clear b1 B1 c0
            go_wp2_with fail
            refine (HNM.out _).mono ?_
            rintro e w' ⟨rfl, rfl⟩
            go_wp2_with fail
            go_ret2
            exact ⟨readE_no (i := 1) (by rw [HRU.out]; rfl), readB_no (i := 1) (by rw [HRU.out]; rfl) HB.out⟩
          | true =>
            have HNM := Lib.hid (fun W => HNM.out W _ hq)
            rw [hq] at HRU
            clear hq
            go_enter Tryz.func50, Tryz.ntmps50
            go_wp2_with fail
            refine HC.out.mono ?_
            rintro e w1 ⟨rfl, b1⟩
            have R1 := HRR.out.on b1
            have B1 := HBL.out.on b1
            have hz1 := b1.size
            have d0 := cell_blk R1.blk 1
            change w1.cell? ⟨g, 1, none⟩ = some (.slice Az zd.length cz') at d0
            have d1 : w1.cell? ⟨gt, 1, none⟩ = some (.string nm) := B1.at_ 1 _ HL1.out
            have hg1 := lt_blk R1.blk
            have hgt1 := B1.lt
            have Rz := R1.z
            simp only [Option.toList_none, List.append_nil] at Rz
            have ag := own_not_blk Rz R1.blk (by decide)
            have ab : (Value.slice Az zd.length cz').ownBlock ≠ some w1.heap.size := fun e => by have := (Rz.lt _ e).2; omega
            have hbel := (((box_below w1 (.cells #[.int .i64 x.sd, .int .u8 x.k, .int .i64 x.sv, .string x.ru, .string x.fm, .bool x.en, .int .i64 x.u.y, .int .i64 x.u.m, .int .u8 x.u.k, .int .i64 x.u.n, .int .i64 x.u.d, .int .i64 x.u.s, .int .u8 x.u.c] 65)).alloc (by simp) (.cells #[.int .i64 x.sd, .int .u8 x.k, .int .i64 x.sv, .string x.ru, .string x.fm, .bool x.en, .int .i64 x.u.y, .int .i64 x.u.m, .int .u8 x.u.k, .int .i64 x.u.n, .int .i64 x.u.d, .int .i64 x.u.s, .int .u8 x.u.c] 65)).alloc (by simp; omega) (.cells #[.string nm, .slice (some ⟨w1.heap.size + 1, 0, none⟩) 1 1] 52)).drew
            have HR2 := Lib.hid (R1.on hbel)
            have HBe := Lib.hid (((Below.refl B W).trans (b1.mono hBW)).trans (hbel.mono (Nat.le_trans hBW hz1)))
            have Rz2 := (R1.on hbel).z
            simp only [Option.toList_none, List.append_nil] at Rz2
            have HRZ := Lib.hid Rz2
            have Be := Bx.mk' w1 w1.heap.size #[.int .i64 x.sd, .int .u8 x.k, .int .i64 x.sv, .string x.ru, .string x.fm, .bool x.en, .int .i64 x.u.y, .int .i64 x.u.m, .int .u8 x.u.k, .int .i64 x.u.n, .int .i64 x.u.d, .int .i64 x.u.s, .int .u8 x.u.c] 65 rfl
            have HB5 := Lib.hid (((Be.al (.cells #[.int .i64 x.sd, .int .u8 x.k, .int .i64 x.sv, .string x.ru, .string x.fm, .bool x.en, .int .i64 x.u.y, .int .i64 x.u.m, .int .u8 x.u.k, .int .i64 x.u.n, .int .i64 x.u.d, .int .i64 x.u.s, .int .u8 x.u.c] 65)).al (.cells #[.string nm, .slice (some ⟨w1.heap.size + 1, 0, none⟩) 1 1] 52)).at_ 5 _ rfl)
            have HER : Hid ((((w1.alloc (.cells #[.int .i64 x.sd, .int .u8 x.k, .int .i64 x.sv, .string x.ru, .string x.fm, .bool x.en, .int .i64 x.u.y, .int .i64 x.u.m, .int .u8 x.u.k, .int .i64 x.u.n, .int .i64 x.u.d, .int .i64 x.u.s, .int .u8 x.u.c] 65)).alloc (.cells #[.int .i64 x.sd, .int .u8 x.k, .int .i64 x.sv, .string x.ru, .string x.fm, .bool x.en, .int .i64 x.u.y, .int .i64 x.u.m, .int .u8 x.u.k, .int .i64 x.u.n, .int .i64 x.u.d, .int .i64 x.u.s, .int .u8 x.u.c] 65)).alloc (.cells #[.string nm, .slice (some ⟨w1.heap.size + 1, 0, none⟩) 1 1] 52)).drew.ownsRow (w1.heap.size + 1) 65 13 (.slice (some ⟨w1.heap.size + 1, 0, none⟩) 1 1) 1 (ecell x)) := Lib.hid (by
              have h0 := World.ownsRow_lit (e := 65) (size := 13) (base := w1.heap.size + 1) (w1.alloc (.cells #[.int .i64 x.sd, .int .u8 x.k, .int .i64 x.sv, .string x.ru, .string x.fm, .bool x.en, .int .i64 x.u.y, .int .i64 x.u.m, .int .u8 x.u.k, .int .i64 x.u.n, .int .i64 x.u.d, .int .i64 x.u.s, .int .u8 x.u.c] 65)) #[.int .i64 x.sd, .int .u8 x.k, .int .i64 x.sv, .string x.ru, .string x.fm, .bool x.en, .int .i64 x.u.y, .int .i64 x.u.m, .int .u8 x.u.k, .int .i64 x.u.n, .int .i64 x.u.d, .int .i64 x.u.s, .int .u8 x.u.c] 1 (by simp) (by decide) rfl
              have hzz : (w1.alloc (.cells #[.int .i64 x.sd, .int .u8 x.k, .int .i64 x.sv, .string x.ru, .string x.fm, .bool x.en, .int .i64 x.u.y, .int .i64 x.u.m, .int .u8 x.u.k, .int .i64 x.u.n, .int .i64 x.u.d, .int .i64 x.u.s, .int .u8 x.u.c] 65)).heap.size = w1.heap.size + 1 := by simp
              rw [hzz] at h0
              exact (h0.alloc _).drew)
            have HN := Lib.hid (Bx.mk' ((w1.alloc (.cells #[.int .i64 x.sd, .int .u8 x.k, .int .i64 x.sv, .string x.ru, .string x.fm, .bool x.en, .int .i64 x.u.y, .int .i64 x.u.m, .int .u8 x.u.k, .int .i64 x.u.n, .int .i64 x.u.d, .int .i64 x.u.s, .int .u8 x.u.c] 65)).alloc (.cells #[.int .i64 x.sd, .int .u8 x.k, .int .i64 x.sv, .string x.ru, .string x.fm, .bool x.en, .int .i64 x.u.y, .int .i64 x.u.m, .int .u8 x.u.k, .int .i64 x.u.n, .int .i64 x.u.d, .int .i64 x.u.s, .int .u8 x.u.c] 65)) (w1.heap.size + 2) #[.string nm, .slice (some ⟨w1.heap.size + 1, 0, none⟩) 1 1] 52 (by simp))
            have hlim : lim ≤ w1.heap.size := R1.limW
            have tn1 : (1 : Int) < (n : Int) := by omega
            have hg2 : g < w1.heap.size + 1 := by omega
            have hg3 : g < w1.heap.size + 1 + 1 := by omega
            have hgt2 : gt < w1.heap.size + 1 := by omega
            have hgt3 : gt < w1.heap.size + 1 + 1 := by omega
            clear R1 b1 B1 c0 HC Rz Rz2 hbel Be
            go_wp2_with fail
            refine (HNM.out _).mono ?_
            rintro e w' ⟨rfl, rfl⟩
            clear HNM
            go_wp2_with fail
            go_region_law
              ((refine step_ap_zone (by rfl) _ _ (by rfl) B (.slice Az zd.length cz') zd.length (zd.flatMap zcell) (by rfl) HRZ.out (w1.heap.size + 2) 1 (zcell ⟨nm, some ⟨w1.heap.size + 1, 0, none⟩, 1, [x]⟩) (by rfl) (by rfl) HN.out.at_ (by intro u hu; simp [zcell] at hu; rcases hu with rfl | rfl <;> rfl) (by omega) (by simp; omega) ?_; intro gg cap w3 hown3 hgrow hat hlt; have hbk := set_grown hgrow HR2.out.blk ag; have e0 := cell_blk hbk 1; have e1 := frozen_blk hbk 1; have e2 := cell_blk hbk 3; have e3 := frozen_blk hbk 3; have e5 := (hgrow.cell_far ⟨w1.heap.size, 5, none⟩ (by simp; omega) (Ne.symm ab)).trans HB5.out))
            all_goals
              have HF := Lib.hid (HR2.out.zone (x := x) hgrow HER.out (by omega) (by simp) hown3)
              have hb3 : Below B W ((w3.setCell ⟨g, 1, none⟩ (.slice (some ⟨gg, 0, none⟩) (zd.length + 1) cap)).setCell ⟨g, 3, none⟩ (.bool x.en)) := ((HBe.out.grown hgrow (by simp; omega) (fun k hk => (HRZ.out.lt k hk).1)).setCell HR2.out.base _).setCell HR2.out.base _
              have hgx : g ≠ w1.heap.size := by omega
              clear hgrow hown3 HR2 HBe hbk HN HRZ HER
              go_wp2_with fail
              go_ret2
              exact ⟨readE_yes HRU.out HF.out, readB_yes HRU.out hb3⟩
        · have tz : (z != 0) = true := by rw [bne_iff_ne]; exact hz
          have hzz : So.zoneL s L = .inr (2 + i, z) := by rw [HRU.out, if_pos hz]
          have HRU := Lib.hid hzz
          clear hzz hz
          go_enter Tryz.func50, Tryz.ntmps50
          go_wp2_with fail
          refine HC.out.mono ?_
          rintro e w1 ⟨rfl, b1⟩
          go_wp2_with fail
          go_ret2
          exact ⟨readE_no (i := 2 + i) (by rw [HRU.out]), readB_no (i := 2 + i) (by rw [HRU.out]) (b1.alloc b1.size _)⟩
end Go.Proofs.YtkcbmnboccjnnaaGreatDoor
