/- The law PrintBack: there and back of a source's text. -/
import Derived.Test.YtkcbmnboccjnnaaGreatDoorTopNoted
import Derived.Test.YtkcbmnboccjnnaaGreatDoorB12
namespace Go.Proofs.YtkcbmnboccjnnaaGreatDoor
open Go.RowKit
set_option maxRecDepth 100000
set_option maxHeartbeats 8000000 in
theorem printback_any (d : Sd) (N : ByteArray) (w : World) (hE : Ev w) (hf : d.fits) (hd : d.at_ w w.heap.size) (hn : So.nn d.src) (hN : N.size ≤ 9223372036854775807) :
    Calls Tryz.prog 5 #[d.val, .string N] w fun e w' => e = .returned (.bool true) ∧ Below w.heap.size w w' := by
  have hb := box_below w (.cells #[.slice d.rA d.rs.length d.rc, .slice d.zA d.zs.length d.zc, .slice d.lA d.ls.length d.lc] 27)
  have hbx : Bx (w.alloc (.cells #[.slice d.rA d.rs.length d.rc, .slice d.zA d.zs.length d.zc, .slice d.lA d.ls.length d.lc] 27)) w.heap.size [.slice d.rA d.rs.length d.rc, .slice d.zA d.zs.length d.zc, .slice d.lA d.ls.length d.lc] := Bx.mk' w w.heap.size #[.slice d.rA d.rs.length d.rc, .slice d.zA d.zs.length d.zc, .slice d.lA d.ls.length d.lc] _ rfl
  have H6 := Lib.hid (lives12_true _ (hE.below hb))
  have HE := Lib.hid hE
  have HD := Lib.hid hd
  have HF := Lib.hid hf
  have HN := Lib.hid hn
  have HB := Lib.hid hb
  have HX := Lib.hid hbx
  clear hb hbx hE hd hf hn
  go_enter Tryz.func5, Tryz.ntmps5
  go_wp2_with fail
  refine H6.out.mono ?_
  rintro e w2 ⟨rfl, b2⟩
  have a2 := HB.out.trans (b2.mono HB.out.size)
  have hx2 := HX.out.on b2
  have c0 := hx2.at_ 0 _ rfl
  have c1 := hx2.at_ 1 _ rfl
  have c2 := hx2.at_ 2 _ rfl
  have HS := Lib.hid (ssmall_any d w2 HF.out (HD.out.on a2))
  have HX2 := Lib.hid hx2
  clear H6 HB HX b2 hx2
  go_wp2_with fail
  refine HS.out.mono ?_
  rintro e w3 ⟨hsm, b3⟩
  have a3 := a2.trans (b3.mono a2.size)
  have hx3 := HX2.out.on b3
  have d0 := hx3.at_ 0 _ rfl
  have d1 := hx3.at_ 1 _ rfl
  have d2 := hx3.at_ 2 _ rfl
  have HX3 := Lib.hid hx3
  clear HS HX2 b3 hx3 c0 c1 c2
  rcases hsm with rfl | ⟨rfl, m1, m2, m3, m4⟩
  · go_wp2_with fail
    go_ret
    exact ⟨rfl, a3⟩
  · have hcnt := small_cnt d m1 m2 m3 m4
    clear m1 m2 m3 m4
    by_cases hN2 : N.size ≤ 16384
    · have u1 : ¬ (16384 : Int) < (N.size : Int) := by omega
      cases hr : So.right d.src with
      | false =>
        have HT := Lib.hid (ptext_no d w3 (HE.out.below a3) HF.out (HD.out.on a3) hr)
        go_wp2_with fail
        refine HT.out.mono ?_
        rintro e w4 ⟨rfl, b4⟩
        have a4 := a3.trans (b4.mono a3.size)
        have hx4 := HX3.out.on b4
        have e0 := hx4.at_ 0 _ rfl
        have e1 := hx4.at_ 1 _ rfl
        have e2 := hx4.at_ 2 _ rfl
        have HCK := Lib.hid (scheck_any d w4 (HE.out.below a4) HF.out (HD.out.on a4) false hr)
        clear HT b4 hx4 d0 d1 d2
        unfold tup
        go_wp2_with fail
        refine HCK.out.mono ?_
        rintro e wa ⟨rfl, b5⟩
        have aa := a4.trans (b5.mono a4.size)
        clear HCK b5 e0 e1 e2
        -- the tail
        have HPT := Lib.hid (sparse_any N wa hN (HE.out.below aa))
        cases hpr : So.prs N.data.toList with
        | inr f =>
          rw [hpr] at HPT
          have hfw : ¬ f.2.2 = 0 := (prs_fault hpr (by rw [ba_size]; omega)).2.2
          have hfb : (f.2.2 == 0) = false := by simpa using hfw
          go_wp2_with fail
          refine HPT.out.mono ?_
          rintro e wb ⟨rfl, bb⟩
          have ab := aa.trans (bb.mono aa.size)
          clear HPT bb
          go_wp2_with fail
          go_ret
          exact ⟨rfl, (ab.alloc ab.size _).alloc (by have := ab.size; simp; omega) _⟩
        | inl x =>
          rw [hpr] at HPT
          obtain ⟨r1, r2, r3, _⟩ := sprs_right hpr
          have hlen : (Pt.text x).length ≤ 1048576 := by
            have h1 := ptext_len r1
            rw [ba_size] at r3
            omega
          have HR1 := Lib.hid r1
          have HR2 := Lib.hid r2
          have HLN := Lib.hid hlen
          clear r1 r2 r3 hlen hpr
          go_wp2_with fail
          refine HPT.out.mono ?_
          rintro e wb ⟨⟨d2, hd2, hf2, ha2, rfl⟩, bb⟩
          have ab := aa.trans (bb.mono aa.size)
          have k1 := box_below wb (.cells #[.slice d2.rA d2.rs.length d2.rc, .slice d2.zA d2.zs.length d2.zc, .slice d2.lA d2.ls.length d2.lc] 27)
          have k2 := k1.trans ((box_below (wb.alloc (.cells #[.slice d2.rA d2.rs.length d2.rc, .slice d2.zA d2.zs.length d2.zc, .slice d2.lA d2.ls.length d2.lc] 27)) (.cells #[.int .i64 0, .int .i64 0, .int .i64 0] 30)).mono k1.size)
          have hX2 := (Bx.mk' wb wb.heap.size #[.slice d2.rA d2.rs.length d2.rc, .slice d2.zA d2.zs.length d2.zc, .slice d2.lA d2.ls.length d2.lc] 27 rfl).al (.cells #[.int .i64 0, .int .i64 0, .int .i64 0] 30)
          have hF2 := Bx.mk' (wb.alloc (.cells #[.slice d2.rA d2.rs.length d2.rc, .slice d2.zA d2.zs.length d2.zc, .slice d2.lA d2.ls.length d2.lc] 27)) (wb.heap.size + 1) #[.int .i64 0, .int .i64 0, .int .i64 0] 30 (by simp)
          have HT2 := Lib.hid (ptext_yes d2 _ ((HE.out.below ab).below k2) hf2 (ha2.on k2) (by rw [hd2]; exact HR1.out) (by rw [hd2]; exact HR2.out) (by rw [hd2]; exact HLN.out))
          rw [hd2] at HT2
          have ac := Lib.hid (ab.trans (k2.mono ab.size))
          have HX2 := Lib.hid hX2
          have HA2 := Lib.hid (ha2.on k2)
          clear HPT bb hX2 hF2 k1 k2 ha2
          go_wp2_with fail
          refine HT2.out.mono ?_
          rintro e wc ⟨rfl, bc⟩
          have ad := ac.out.trans (bc.mono ac.out.size)
          have HX2c := Lib.hid (HX2.out.on bc)
          have HA2c := Lib.hid (HA2.out.on bc)
          have hPT3 := sparse_any ⟨(Pt.text x).toArray⟩ wc (by rw [size_ba]; have := HLN.out; omega) (HE.out.below ad)
          have hpx : So.prs (⟨(Pt.text x).toArray⟩ : ByteArray).data.toList = .inl x := prs_text HR1.out HR2.out HLN.out
          rw [hpx] at hPT3
          have HPT3 := Lib.hid hPT3
          clear HT2 ac HX2 HA2 bc hPT3 hpx
          unfold tup
          go_wp2_with fail
          refine HPT3.out.mono ?_
          rintro e wd ⟨⟨d3, hd3, hf3, ha3, rfl⟩, bd⟩
          have ae := ad.trans (bd.mono ad.size)
          have k1 := box_below wd (.cells #[.slice d3.rA d3.rs.length d3.rc, .slice d3.zA d3.zs.length d3.zc, .slice d3.lA d3.ls.length d3.lc] 27)
          have k2 := k1.trans ((box_below (wd.alloc (.cells #[.slice d3.rA d3.rs.length d3.rc, .slice d3.zA d3.zs.length d3.zc, .slice d3.lA d3.ls.length d3.lc] 27)) (.cells #[.int .i64 0, .int .i64 0, .int .i64 0] 30)).mono k1.size)
          have hX3 := (Bx.mk' wd wd.heap.size #[.slice d3.rA d3.rs.length d3.rc, .slice d3.zA d3.zs.length d3.zc, .slice d3.lA d3.ls.length d3.lc] 27 rfl).al (.cells #[.int .i64 0, .int .i64 0, .int .i64 0] 30)
          have hF3 := Bx.mk' (wd.alloc (.cells #[.slice d3.rA d3.rs.length d3.rc, .slice d3.zA d3.zs.length d3.zc, .slice d3.lA d3.ls.length d3.lc] 27)) (wd.heap.size + 1) #[.int .i64 0, .int .i64 0, .int .i64 0] 30 (by simp)
          have HT3 := Lib.hid (ptext_yes d3 _ ((HE.out.below ae).below k2) hf3 (ha3.on k2) (by rw [hd3]; exact HR1.out) (by rw [hd3]; exact HR2.out) (by rw [hd3]; exact HLN.out))
          rw [hd3] at HT3
          have af := Lib.hid (ae.trans (k2.mono ae.size))
          have HX3 := Lib.hid hX3
          have HF3 := Lib.hid hF3
          have HA3 := Lib.hid (ha3.on k2)
          have HX2d := Lib.hid ((HX2c.out.on bd).on k2)
          have HA2d := Lib.hid ((HA2c.out.on bd).on k2)
          clear HPT3 bd hX3 hF3 k1 k2 ha3 HX2c HA2c
          go_wp2_with fail
          refine HT3.out.mono ?_
          rintro e we ⟨rfl, be⟩
          have ag := af.out.trans (be.mono af.out.size)
          have hX3e := HX3.out.on be
          have hF3e := HF3.out.on be
          have hX2e := HX2d.out.on be
          have u0 := hX3e.at_ 0 _ rfl
          have u1 := hX3e.at_ 1 _ rfl
          have u2 := hX3e.at_ 2 _ rfl
          have v0 := hX2e.at_ 0 _ rfl
          have v1 := hX2e.at_ 1 _ rfl
          have v2 := hX2e.at_ 2 _ rfl
          have f2 := hF3e.at_ 2 _ rfl
          have HSM := Lib.hid (ssame_any d2 d3 we hf2 hf3 (HA2d.out.on be) (HA3.out.on be) true ((srcB_iff _ _).2 (hd2.trans hd3.symm)))
          clear HT3 af HX3 HF3 HA3 HX2d HA2d be hX3e hF3e hX2e
          unfold tup
          generalize (⟨(Pt.text x).toArray⟩ : ByteArray) = LY at *
          go_wp2_with fail
          refine HSM.out.mono ?_
          rintro e wf ⟨rfl, bf⟩
          have ah := ag.trans (bf.mono ag.size)
          clear HSM bf
          go_wp2_with fail
          go_ret
          exact ⟨rfl, ah⟩
      | true =>
        have hlen0 : (Pt.text d.src).length ≤ 1048576 := by
          have := ptext_len hr
          omega
        have HT := Lib.hid (ptext_yes d w3 (HE.out.below a3) HF.out (HD.out.on a3) hr HN.out hlen0)
        go_wp2_with fail
        refine HT.out.mono ?_
        rintro e w4 ⟨rfl, b4⟩
        have a4 := a3.trans (b4.mono a3.size)
        have hx4 := HX3.out.on b4
        have e0 := hx4.at_ 0 _ rfl
        have e1 := hx4.at_ 1 _ rfl
        have e2 := hx4.at_ 2 _ rfl
        have HX4 := Lib.hid hx4
        have HCK := Lib.hid (scheck_any d w4 (HE.out.below a4) HF.out (HD.out.on a4) true hr)
        clear HT b4 hx4 d0 d1 d2
        unfold tup
        go_wp2_with fail
        refine HCK.out.mono ?_
        rintro e w5 ⟨rfl, b5⟩
        have a5 := a4.trans (b5.mono a4.size)
        have HX5 := Lib.hid (HX4.out.on b5)
        have hPA := sparse_any ⟨(Pt.text d.src).toArray⟩ w5 (by rw [size_ba]; omega) (HE.out.below a5)
        have hpx : So.prs (⟨(Pt.text d.src).toArray⟩ : ByteArray).data.toList = .inl d.src := prs_text hr HN.out hlen0
        rw [hpx] at hPA
        have HPA := Lib.hid hPA
        clear HCK b5 e0 e1 e2 hPA hpx HX4
        go_wp2_with fail
        refine HPA.out.mono ?_
        rintro e w6 ⟨⟨q, hq, hqf, hqa, rfl⟩, b6⟩
        have a6 := a5.trans (b6.mono a5.size)
        have hx6 := HX5.out.on b6
        have g0 := hx6.at_ 0 _ rfl
        have g1 := hx6.at_ 1 _ rfl
        have g2 := hx6.at_ 2 _ rfl
        have hl5 := hx6.lt
        have hl6 : w.heap.size < w6.heap.size + 1 := by omega
        have k1 := box_below w6 (.cells #[.slice q.rA q.rs.length q.rc, .slice q.zA q.zs.length q.zc, .slice q.lA q.ls.length q.lc] 27)
        have k2 := k1.trans ((box_below (w6.alloc (.cells #[.slice q.rA q.rs.length q.rc, .slice q.zA q.zs.length q.zc, .slice q.lA q.ls.length q.lc] 27)) (.cells #[.int .i64 0, .int .i64 0, .int .i64 0] 30)).mono k1.size)
        have hXq := (Bx.mk' w6 w6.heap.size #[.slice q.rA q.rs.length q.rc, .slice q.zA q.zs.length q.zc, .slice q.lA q.ls.length q.lc] 27 rfl).al (.cells #[.int .i64 0, .int .i64 0, .int .i64 0] 30)
        have hFq := Bx.mk' (w6.alloc (.cells #[.slice q.rA q.rs.length q.rc, .slice q.zA q.zs.length q.zc, .slice q.lA q.ls.length q.lc] 27)) (w6.heap.size + 1) #[.int .i64 0, .int .i64 0, .int .i64 0] 30 (by simp)
        have HSM := Lib.hid (ssame_any q d _ hqf HF.out (hqa.on k2) ((HD.out.on a6).on k2) true ((srcB_iff _ _).2 hq))
        have HQ := Lib.hid (a6.trans (k2.mono a6.size))
        clear HPA b6 hx6 k1 k2 hXq hFq hqa hqf hq a6
        go_wp2_with fail
        refine HSM.out.mono ?_
        rintro e wa ⟨rfl, b7⟩
        have aa := HQ.out.trans (b7.mono HQ.out.size)
        clear HSM HQ b7 g0 g1 g2 hl5 hl6 HX5
        -- the tail
        have HPT := Lib.hid (sparse_any N wa hN (HE.out.below aa))
        cases hpr : So.prs N.data.toList with
        | inr f =>
          rw [hpr] at HPT
          have hfw : ¬ f.2.2 = 0 := (prs_fault hpr (by rw [ba_size]; omega)).2.2
          have hfb : (f.2.2 == 0) = false := by simpa using hfw
          go_wp2_with fail
          refine HPT.out.mono ?_
          rintro e wb ⟨rfl, bb⟩
          have ab := aa.trans (bb.mono aa.size)
          clear HPT bb
          go_wp2_with fail
          go_ret
          exact ⟨rfl, (ab.alloc ab.size _).alloc (by have := ab.size; simp; omega) _⟩
        | inl x =>
          rw [hpr] at HPT
          obtain ⟨r1, r2, r3, _⟩ := sprs_right hpr
          have hlen : (Pt.text x).length ≤ 1048576 := by
            have h1 := ptext_len r1
            rw [ba_size] at r3
            omega
          have HR1 := Lib.hid r1
          have HR2 := Lib.hid r2
          have HLN := Lib.hid hlen
          clear r1 r2 r3 hlen hpr
          go_wp2_with fail
          refine HPT.out.mono ?_
          rintro e wb ⟨⟨d2, hd2, hf2, ha2, rfl⟩, bb⟩
          have ab := aa.trans (bb.mono aa.size)
          have k1 := box_below wb (.cells #[.slice d2.rA d2.rs.length d2.rc, .slice d2.zA d2.zs.length d2.zc, .slice d2.lA d2.ls.length d2.lc] 27)
          have k2 := k1.trans ((box_below (wb.alloc (.cells #[.slice d2.rA d2.rs.length d2.rc, .slice d2.zA d2.zs.length d2.zc, .slice d2.lA d2.ls.length d2.lc] 27)) (.cells #[.int .i64 0, .int .i64 0, .int .i64 0] 30)).mono k1.size)
          have hX2 := (Bx.mk' wb wb.heap.size #[.slice d2.rA d2.rs.length d2.rc, .slice d2.zA d2.zs.length d2.zc, .slice d2.lA d2.ls.length d2.lc] 27 rfl).al (.cells #[.int .i64 0, .int .i64 0, .int .i64 0] 30)
          have hF2 := Bx.mk' (wb.alloc (.cells #[.slice d2.rA d2.rs.length d2.rc, .slice d2.zA d2.zs.length d2.zc, .slice d2.lA d2.ls.length d2.lc] 27)) (wb.heap.size + 1) #[.int .i64 0, .int .i64 0, .int .i64 0] 30 (by simp)
          have HT2 := Lib.hid (ptext_yes d2 _ ((HE.out.below ab).below k2) hf2 (ha2.on k2) (by rw [hd2]; exact HR1.out) (by rw [hd2]; exact HR2.out) (by rw [hd2]; exact HLN.out))
          rw [hd2] at HT2
          have ac := Lib.hid (ab.trans (k2.mono ab.size))
          have HX2 := Lib.hid hX2
          have HA2 := Lib.hid (ha2.on k2)
          clear HPT bb hX2 hF2 k1 k2 ha2
          go_wp2_with fail
          refine HT2.out.mono ?_
          rintro e wc ⟨rfl, bc⟩
          have ad := ac.out.trans (bc.mono ac.out.size)
          have HX2c := Lib.hid (HX2.out.on bc)
          have HA2c := Lib.hid (HA2.out.on bc)
          have hPT3 := sparse_any ⟨(Pt.text x).toArray⟩ wc (by rw [size_ba]; have := HLN.out; omega) (HE.out.below ad)
          have hpx : So.prs (⟨(Pt.text x).toArray⟩ : ByteArray).data.toList = .inl x := prs_text HR1.out HR2.out HLN.out
          rw [hpx] at hPT3
          have HPT3 := Lib.hid hPT3
          clear HT2 ac HX2 HA2 bc hPT3 hpx
          unfold tup
          go_wp2_with fail
          refine HPT3.out.mono ?_
          rintro e wd ⟨⟨d3, hd3, hf3, ha3, rfl⟩, bd⟩
          have ae := ad.trans (bd.mono ad.size)
          have k1 := box_below wd (.cells #[.slice d3.rA d3.rs.length d3.rc, .slice d3.zA d3.zs.length d3.zc, .slice d3.lA d3.ls.length d3.lc] 27)
          have k2 := k1.trans ((box_below (wd.alloc (.cells #[.slice d3.rA d3.rs.length d3.rc, .slice d3.zA d3.zs.length d3.zc, .slice d3.lA d3.ls.length d3.lc] 27)) (.cells #[.int .i64 0, .int .i64 0, .int .i64 0] 30)).mono k1.size)
          have hX3 := (Bx.mk' wd wd.heap.size #[.slice d3.rA d3.rs.length d3.rc, .slice d3.zA d3.zs.length d3.zc, .slice d3.lA d3.ls.length d3.lc] 27 rfl).al (.cells #[.int .i64 0, .int .i64 0, .int .i64 0] 30)
          have hF3 := Bx.mk' (wd.alloc (.cells #[.slice d3.rA d3.rs.length d3.rc, .slice d3.zA d3.zs.length d3.zc, .slice d3.lA d3.ls.length d3.lc] 27)) (wd.heap.size + 1) #[.int .i64 0, .int .i64 0, .int .i64 0] 30 (by simp)
          have HT3 := Lib.hid (ptext_yes d3 _ ((HE.out.below ae).below k2) hf3 (ha3.on k2) (by rw [hd3]; exact HR1.out) (by rw [hd3]; exact HR2.out) (by rw [hd3]; exact HLN.out))
          rw [hd3] at HT3
          have af := Lib.hid (ae.trans (k2.mono ae.size))
          have HX3 := Lib.hid hX3
          have HF3 := Lib.hid hF3
          have HA3 := Lib.hid (ha3.on k2)
          have HX2d := Lib.hid ((HX2c.out.on bd).on k2)
          have HA2d := Lib.hid ((HA2c.out.on bd).on k2)
          clear HPT3 bd hX3 hF3 k1 k2 ha3 HX2c HA2c
          go_wp2_with fail
          refine HT3.out.mono ?_
          rintro e we ⟨rfl, be⟩
          have ag := af.out.trans (be.mono af.out.size)
          have hX3e := HX3.out.on be
          have hF3e := HF3.out.on be
          have hX2e := HX2d.out.on be
          have u0 := hX3e.at_ 0 _ rfl
          have u1 := hX3e.at_ 1 _ rfl
          have u2 := hX3e.at_ 2 _ rfl
          have v0 := hX2e.at_ 0 _ rfl
          have v1 := hX2e.at_ 1 _ rfl
          have v2 := hX2e.at_ 2 _ rfl
          have f2 := hF3e.at_ 2 _ rfl
          have HSM := Lib.hid (ssame_any d2 d3 we hf2 hf3 (HA2d.out.on be) (HA3.out.on be) true ((srcB_iff _ _).2 (hd2.trans hd3.symm)))
          clear HT3 af HX3 HF3 HA3 HX2d HA2d be hX3e hF3e hX2e
          unfold tup
          generalize (⟨(Pt.text x).toArray⟩ : ByteArray) = LY at *
          go_wp2_with fail
          refine HSM.out.mono ?_
          rintro e wf ⟨rfl, bf⟩
          have ah := ag.trans (bf.mono ag.size)
          clear HSM bf
          go_wp2_with fail
          go_ret
          exact ⟨rfl, ah⟩
    · have u1 : (16384 : Int) < (N.size : Int) := by omega
      go_wp2_with fail
      go_ret
      exact ⟨rfl, a3⟩
theorem walkPrintBack (d : Sd) (hf : d.fits) (hn : So.nn d.src) (N : ByteArray) (hN : N.size ≤ maxLen) (w : World) (hd : d.at_ w w.heap.size) (hE : Env w) (hK : Marks w) :
    Calls Tryz.prog 5 #[d.val, .string N] w fun e w' => e = .returned (.bool true) ∧ Below w.heap.size w w' := printback_any d N w ⟨hE, hK⟩ hf hd hn (by unfold maxLen at hN; omega)
end Go.Proofs.YtkcbmnboccjnnaaGreatDoor
