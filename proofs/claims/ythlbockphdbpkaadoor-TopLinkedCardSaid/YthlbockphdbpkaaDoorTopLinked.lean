/- TopLinked. -/
import Derived.Test.YthlbockphdbpkaaDoorTk
import Derived.Test.YthlbockphdbpkaaDoorNmB
import Derived.Test.YthlbockphdbpkaaDoorSm
namespace Go.Proofs.YthlbockphdbpkaaDoor
open Go.RowKit Go.Maps
set_option maxRecDepth 100000
theorem rowE_sl2 {w w' : World} {L : List ByteArray} {e : Ending} (h : RowE w w' L e) : ∃ A c, e = .returned (.slice A L.length c) ∧ Sl w' w'.heap.size A L.length (fun i => .string (L.getD i ByteArray.empty)) := rowE_sl h
/-- What a drawn region of TopLinked keeps: a source in its box, and its names. -/
structure Q6 (w : World) (d : Sd) (g : Nat) (A : Option Addr) (W : World) : Prop where
  k : K13 w d g W
  nm : Sl W W.heap.size A d.names.length (fun i => .string (d.names.getD i ByteArray.empty))
  ev : Ev W
theorem Q6.on {w W W' : World} {d : Sd} {g : Nat} {A : Option Addr} (h : Q6 w d g A W) (hb : Below W.heap.size W W') : Q6 w d g A W' :=
  ⟨h.k.on hb, (h.nm.below hb).more hb.size, h.ev.below hb⟩
theorem s6_on {w W W' : World} {d : Sd} {g : Nat} {ad : Addr} {j : Nat} {x : ByteArray} {v0 v1 v2 : Value}
    (h : W.cell? ⟨g, 0, none⟩ = some v0 ∧ W.cell? ⟨g, 1, none⟩ = some v1 ∧ W.cell? ⟨g, 2, none⟩ = some v2 ∧ W.cell? (ad.add j) = some (.string x) ∧ g < W.heap.size ∧ ad.block < W.heap.size ∧ Q6 w d g (some ad) W) (hb : Below W.heap.size W W') :
    W'.cell? ⟨g, 0, none⟩ = some v0 ∧ W'.cell? ⟨g, 1, none⟩ = some v1 ∧ W'.cell? ⟨g, 2, none⟩ = some v2 ∧ W'.cell? (ad.add j) = some (.string x) ∧ g < W'.heap.size ∧ ad.block < W'.heap.size ∧ Q6 w d g (some ad) W' := by
  obtain ⟨h0, h1, h2, h3, h4, h5, h6⟩ := h
  exact ⟨(hb.cell (p := ⟨g, 0, none⟩) h4).trans h0, (hb.cell (p := ⟨g, 1, none⟩) h4).trans h1, (hb.cell (p := ⟨g, 2, none⟩) h4).trans h2, (hb.cell (by rw [block_of_add]; exact h5)).trans h3, Nat.lt_of_lt_of_le h4 hb.size, Nat.lt_of_lt_of_le h5 hb.size, h6.on hb⟩
theorem s19_on {w W W' : World} {d d' : Sd} {g g' : Nat} {A : Option Addr} {L : List ByteArray} {a0 a1 a2 b0 b1 b2 : Value}
    (h : W.cell? ⟨g', 0, none⟩ = some b0 ∧ W.cell? ⟨g', 1, none⟩ = some b1 ∧ W.cell? ⟨g', 2, none⟩ = some b2 ∧ W.cell? ⟨g, 0, none⟩ = some a0 ∧ W.cell? ⟨g, 1, none⟩ = some a1 ∧ W.cell? ⟨g, 2, none⟩ = some a2 ∧ T7 w d d' g g' A L W) (hb : Below W.heap.size W W') :
    W'.cell? ⟨g', 0, none⟩ = some b0 ∧ W'.cell? ⟨g', 1, none⟩ = some b1 ∧ W'.cell? ⟨g', 2, none⟩ = some b2 ∧ W'.cell? ⟨g, 0, none⟩ = some a0 ∧ W'.cell? ⟨g, 1, none⟩ = some a1 ∧ W'.cell? ⟨g, 2, none⟩ = some a2 ∧ T7 w d d' g g' A L W' := by
  obtain ⟨h0, h1, h2, h3, h4, h5, h6⟩ := h
  have l := h6.k.bx.lt
  have l' := h6.k'.bx.lt
  exact ⟨(hb.cell (p := ⟨g', 0, none⟩) l').trans h0, (hb.cell (p := ⟨g', 1, none⟩) l').trans h1, (hb.cell (p := ⟨g', 2, none⟩) l').trans h2, (hb.cell (p := ⟨g, 0, none⟩) l).trans h3, (hb.cell (p := ⟨g, 1, none⟩) l).trans h4, (hb.cell (p := ⟨g, 2, none⟩) l).trans h5, h6.on hb⟩
theorem well_yes {e : Ending} (h : e = .returned (.bool (true && ([] : List Fl).isEmpty))) : e = .returned (.bool true) := h
theorem lead_all {d : Sd} (h : Vd.all d = []) {v : ByteArray} (hv : v ∈ d.names) : (Ld.zn d.Z d.ls v).2 = 0 := names_lead (all_nil.1 h).2.2.2 hv
theorem pair_zero {p : Nat × Int} (h : p.2 = 0) : ∃ a, p = (a, 0) := ⟨p.1, by cases p; simpa using h⟩
set_option maxHeartbeats 16000000 in
theorem walkTopLinked (d : Sd) (hf : d.fits) (hnil : d.lA = none → d.lc = 0) (hroom : (d.zs.length + d.ls.length) * 16 ≤ 140737488355328) (k : Nat) (hk : k ≤ 255) (n : Nat) (hn : n ≤ 255) (w : World) (hd : d.at_ w w.heap.size) (hE : Ev w) :
    Calls Tryd.prog 4 #[d.val, .int .u8 k, .int .u8 n] w fun e w' => e = .returned (.bool true) ∧ Below w.heap.size w w' := by
  have hb := box_below w (.cells #[.slice d.rA d.rs.length d.rc, .slice d.zA d.zs.length d.zc, .slice d.lA d.ls.length d.lc] 26)
  have hbx : Bx (w.alloc (.cells #[.slice d.rA d.rs.length d.rc, .slice d.zA d.zs.length d.zc, .slice d.lA d.ls.length d.lc] 26)) w.heap.size [.slice d.rA d.rs.length d.rc, .slice d.zA d.zs.length d.zc, .slice d.lA d.ls.length d.lc] := Bx.mk' w w.heap.size #[.slice d.rA d.rs.length d.rc, .slice d.zA d.zs.length d.zc, .slice d.lA d.ls.length d.lc] _ rfl
  have HE := Lib.hid (hE.below hb)
  have HL := Lib.hid (begins7_true _ HE.out)
  have HN := Lib.hid hnil
  have HF := Lib.hid hf
  clear hnil hE
  go_enter Tryd.func4, Tryd.ntmps4
  go_wp2_with fail
  refine HL.out.mono ?_
  rintro e w1 ⟨rfl, b1⟩
  have hx1 := hbx.on b1
  have d1 := (hd.on hb).on b1
  have bl1 := hb.trans (b1.mono hb.size)
  have HE1 := Lib.hid (HE.out.below b1)
  have c0 := hx1.at_ 0 _ rfl
  have c1 := hx1.at_ 1 _ rfl
  have c2 := hx1.at_ 2 _ rfl
  have KN := Lib.hid (names_big d w1 d1 hroom)
  clear hbx hb HL b1 HE
  go_wp2_with fail
  refine KN.out.mono ?_
  rintro e w2 ⟨hrow, b2⟩
  obtain ⟨A, qc, rfl, s2⟩ := rowE_sl hrow
  have hx2 := hx1.on b2
  have d2 := d1.on b2
  have bl2 := bl1.trans (b2.mono bl1.size)
  have HE2 := Lib.hid (HE1.out.below b2)
  have HA2 := Lib.hid s2
  clear c0 c1 c2 KN hrow b2 hx1 d1 bl1 HE1 s2
  have c0 := hx2.at_ 0 _ rfl
  have c1 := hx2.at_ 1 _ rfl
  have c2 := hx2.at_ 2 _ rfl
  have HS := Lib.hid (ssmall_any d w2 hf d2)
  generalize hnn : d.names.length = nn at *
  have HNN := Lib.hid hnn
  clear hnn
  go_wp2_with fail
  refine HS.out.mono ?_
  rintro e w3 ⟨hse, b3⟩
  rcases hse with rfl | ⟨rfl, g1, g2, g3, g4⟩
  · have bl3 := bl2.trans (b3.mono bl2.size)
    clear c0 c1 c2 HS b3 hx2 d2 bl2 hf hd
    go_wp2_with fail
    go_ret
    exact ⟨rfl, bl3⟩
  · have H3 : Hid (Q6 w d w.heap.size A w3) := Lib.hid ⟨⟨hx2.on b3, lok_of hf (d2.on b3) g2 g3, bl2.trans (b3.mono bl2.size)⟩, by rw [HNN.out]; exact (HA2.out.below b3).more b3.size, HE2.out.below b3⟩
    clear c0 c1 c2 HS b3 hx2 d2 bl2 HA2 HE2 hf hd
    have HG := Lib.hid (And.intro g1 (And.intro g2 (And.intro g3 g4)))
    have HOK := Lib.hid (fok_small HF.out g1 g2 (Nat.le_trans g3 (by decide)) g4)
    have hll : d.ls.length ≤ 20 := g3
    clear g1 g2 g3 g4
    have c30 := H3.out.k.bx.at_ 0 _ rfl
    have c31 := H3.out.k.bx.at_ 1 _ rfl
    have c32 := H3.out.k.bx.at_ 2 _ rfl
    obtain ⟨v, hv⟩ : ∃ v, So.right d.src = v := ⟨_, rfl⟩
    obtain ⟨L, hL⟩ : ∃ L, Vd.all d = L := ⟨_, rfl⟩
    have KW := Lib.hid (well_any d w3 H3.out.ev H3.out.k.lk.at_ HOK.out v hv L hL)
    have HV := Lib.hid hv
    have HVL := Lib.hid hL
    clear hv hL
    go_wp2_with fail
    refine KW.out.mono ?_
    rintro e w4 ⟨rfl, b4⟩
    have H4 := Lib.hid (H3.out.on b4)
    clear KW b4 c30 c31 c32 H3
    obtain ⟨vb, hvb⟩ : ∃ vb, (v && L.isEmpty) = vb := ⟨_, rfl⟩
    have HVB := Lib.hid hvb
    rw [hvb]
    clear hvb
    cases vb with
    | false =>
      go_wp2_with fail
      go_ret
      exact ⟨rfl, H4.out.k.bel⟩
    | true =>
      by_cases h0 : nn = 0
      · have t0 : ((nn : Int) == 0) = true := by rw [beq_iff_eq]; omega
        go_wp2_with fail
        go_ret
        exact ⟨rfl, H4.out.k.bel⟩
      · have t0 : ((nn : Int) == 0) = false := by rw [beq_eq_false_iff_ne]; omega
        have HH : Hid (v = true ∧ L = []) := Lib.hid (by
          have := HVB.out
          rw [Bool.and_eq_true] at this
          exact ⟨this.1, List.isEmpty_iff.1 this.2⟩)
        have HR : Hid (So.right d.src = true) := Lib.hid (HV.out.trans HH.out.1)
        have HALL : Hid (Vd.all d = []) := Lib.hid (HVL.out.trans HH.out.2)
        clear HV HVL HVB HH
        have hn0 : 0 < nn := Nat.pos_of_ne_zero h0
        obtain ⟨kk, hkk⟩ : ∃ kk, k % nn = kk := ⟨_, rfl⟩
        have hk5 : kk ≤ 255 := by rw [← hkk]; exact Nat.le_trans (Nat.mod_le _ _) hk
        have hkn : kk < nn := by rw [← hkk]; exact Nat.mod_lt _ hn0
        obtain ⟨x, hx⟩ : ∃ x, d.names[kk]? = some x := ⟨_, List.getElem?_eq_getElem (by rw [HNN.out]; exact hkn)⟩
        have HX := Lib.hid hx
        obtain ⟨ad, rfl, had, hac⟩ := H4.out.nm (by rw [HNN.out]; exact hn0)
        have hxc : w4.cell? (ad.add kk) = some (.string x) := by
          have h2 := hac kk (by rw [HNN.out]; exact hkn)
          change _ = some (Value.string (d.names.getD kk ByteArray.empty)) at h2
          rw [List.getD_eq_getElem?_getD, hx] at h2
          exact h2
        have HFR : Hid (∀ W : World, W.cell? ⟨w.heap.size, 0, none⟩ = some (.slice d.rA d.rs.length d.rc) ∧ W.cell? ⟨w.heap.size, 1, none⟩ = some (.slice d.zA d.zs.length d.zc) ∧ W.cell? ⟨w.heap.size, 2, none⟩ = some (.slice d.lA d.ls.length d.lc) ∧ W.cell? (ad.add kk) = some (.string x) ∧ w.heap.size < W.heap.size ∧ ad.block < W.heap.size ∧ Q6 w d w.heap.size (some ad) W → Calls Tryd.prog 14 #[d.val, .int .i64 n] W fun e w' => FrE d (n % 26) e ∧ Below W.heap.size W w' ∧ Q6 w d w.heap.size (some ad) w') := Lib.hid (fun W h => (fresh7_any d n W h.2.2.2.2.2.2.k.lk (by omega)).mono fun e w' q => ⟨q.1, q.2, h.2.2.2.2.2.2.on q.2⟩)
        have S0 : w4.drew.cell? ⟨w.heap.size, 0, none⟩ = some (.slice d.rA d.rs.length d.rc) ∧ w4.drew.cell? ⟨w.heap.size, 1, none⟩ = some (.slice d.zA d.zs.length d.zc) ∧ w4.drew.cell? ⟨w.heap.size, 2, none⟩ = some (.slice d.lA d.ls.length d.lc) ∧ w4.drew.cell? (ad.add kk) = some (.string x) ∧ w.heap.size < w4.drew.heap.size ∧ ad.block < w4.drew.heap.size ∧ Q6 w d w.heap.size (some ad) w4.drew :=
          s6_on ⟨H4.out.k.bx.at_ 0 _ rfl, H4.out.k.bx.at_ 1 _ rfl, H4.out.k.bx.at_ 2 _ rfl, hxc, H4.out.k.bx.lt, had, H4.out⟩ (Below.refl _ _).drew
        have t1 : ((k : Int).tmod (nn : Int)) = (kk : Int) := by rw [Int.tmod_eq_emod_of_nonneg (by omega), ← hkk]; exact (Int.natCast_emod k nn).symm
        have t8 : ¬ (nn : Int) = 0 := by omega
        have t9 : ¬ nn = 0 := by omega
        have t6 : IntKind.i64.wrap (k : Int) = (k : Int) := IntWalk.i64_in _ (by omega)
        have t7 : IntKind.i64.wrap (n : Int) = (n : Int) := IntWalk.i64_in _ (by omega)
        have t2 : IntKind.i64.wrap (kk : Int) = (kk : Int) := IntWalk.i64_in _ (by omega)
        have t3 : (0 : Int) ≤ (kk : Int) := by omega
        have t4 : (kk : Int) < (nn : Int) := by omega
        have t5 : ((kk : Int)).toNat = kk := by omega
        have HN0 := Lib.hid hn0
        clear hx hac hxc h0 hkk
        go_wp2_with fail
        go_region_held3 (fun w' => w'.cell? ⟨w.heap.size, 0, none⟩ = some (.slice d.rA d.rs.length d.rc) ∧ w'.cell? ⟨w.heap.size, 1, none⟩ = some (.slice d.zA d.zs.length d.zc) ∧ w'.cell? ⟨w.heap.size, 2, none⟩ = some (.slice d.lA d.ls.length d.lc) ∧ w'.cell? (ad.add kk) = some (.string x) ∧ w.heap.size < w'.heap.size ∧ ad.block < w'.heap.size ∧ Q6 w d w.heap.size (some ad) w')
          (first | assumption | exact s6_on (by assumption) (by assumption))
          (first
            | (go_at_call 14; refine (HFR.out _ (by assumption)).mono ?_; rintro e w5 ⟨hfr, hb, hq5⟩; obtain ⟨r, hr, rfl, hfr⟩ := hfr))
        have H5 := Lib.hid hq5
        clear t1 t2 t3 t4 t5 t6 t7 t8 t9 t0 hb hq5 HFR S0 H4
        have hxm : x ∈ d.names := List.mem_of_getElem? HX.out
        have hxs := names_sz HF.out x hxm
        have hxm := Lib.hid hxm
        obtain ⟨f, hf⟩ : ∃ f, frN (n % 26) r = f := ⟨_, rfl⟩
        have HFN : Hid (f.size ≤ 60 → Rl.name f.data.toList = true) := Lib.hid (by rw [← hf]; exact frN_right (Nat.mod_lt _ (by decide)))
        have hfs : f.size ≤ 9223372036854775807 := by rw [← hf, frN_size]; omega
        rw [hf] at hfr ⊢
        have HFM := Lib.hid hfr
        clear hf hfr hr
        have bS := box_below w5 (.cells #[.slice d.rA d.rs.length d.rc, .slice d.zA d.zs.length d.zc, .slice d.lA d.ls.length d.lc] 26)
        have hS := heap_alloc_new w5 (.cells #[.slice d.rA d.rs.length d.rc, .slice d.zA d.zs.length d.zc, .slice d.lA d.ls.length d.lc] 26)
        have bE := box_below (w5.alloc (.cells #[.slice d.rA d.rs.length d.rc, .slice d.zA d.zs.length d.zc, .slice d.lA d.ls.length d.lc] 26)) (.cells #[] 56)
        have oE := World.ownsRow_lit (base := w5.heap.size + 1) (e := 56) (size := 2) (w5.alloc (.cells #[.slice d.rA d.rs.length d.rc, .slice d.zA d.zs.length d.zc, .slice d.lA d.ls.length d.lc] 26)) #[] 0 (by simp) (by decide) rfl
        have rE := ((H5.out.k.lk.at_.l.below bS).below (bE.mono (by simp)))
        have HOE : Hid (((w5.alloc (.cells #[.slice d.rA d.rs.length d.rc, .slice d.zA d.zs.length d.zc, .slice d.lA d.ls.length d.lc] 26)).alloc (.cells #[] 56)).ownsRow (w5.heap.size + 1) 56 2 (.slice (some ⟨w5.heap.size + 1, 0, none⟩) 0 0) ([] : List Lk).length (([] : List Lk).flatMap lcell)) := Lib.hid (by
          have := oE
          rw [World.size_alloc] at this
          exact this)
        have HRE := Lib.hid (rE.more (B' := ((w5.alloc (.cells #[.slice d.rA d.rs.length d.rc, .slice d.zA d.zs.length d.zc, .slice d.lA d.ls.length d.lc] 26)).alloc (.cells #[] 56)).heap.size) (by simp; omega))
        have HBX := Lib.hid (bS.trans (bE.mono (by simp)))
        have HSB := Lib.hid ((bE.block w5.heap.size (by simp)).trans hS)
        have hlw := H5.out.k.bx.lt
        clear bS hS bE oE rE
        go_upto_region 9 with (first
          | (at_builtin; refine wpList_lks rfl (.tmp 52) (.tmp 54) rfl (w5.heap.size + 1) _ [] HOE.out rfl d.lA d.lc d.ls rfl HN.out HRE.out (by first | omega | (simp; done) | (simp; omega)) (by first | omega | (simp; done) | (simp; omega)) ?_; intro v1 Y1 hown1 hg1; have hb1 : Below (w5.heap.size + 1) ((w5.alloc (.cells #[.slice d.rA d.rs.length d.rc, .slice d.zA d.zs.length d.zc, .slice d.lA d.ls.length d.lc] 26)).alloc (.cells #[] 56)) Y1 := (Below.refl _ _).grown hg1 (by first | omega | (simp; done) | (simp; omega)) (fun k e => (HOE.out.lt k e).1); have HB1 := Lib.hid hb1; have hz1 := hb1.size; simp only [World.size_alloc] at hz1; have HO1 : Hid ((Y1.alloc (.cells #[.string x, .string f] 56)).ownsRow (w5.heap.size + 1) 56 2 v1 d.ls.length (d.ls.flatMap lcell)) := Lib.hid (World.ownsRow.alloc hown1 _); have HR1 : Hid (Rk (Y1.alloc (.cells #[.string x, .string f] 56)) (Y1.alloc (.cells #[.string x, .string f] 56)).heap.size (some ⟨Y1.heap.size, 0, none⟩) (([⟨x, f⟩] : List Lk).flatMap lcell)) := Lib.hid (rk_lit (heap_alloc_new Y1 (.cells #[.string x, .string f] 56))); clear hown1 hg1 hb1)
          | (at_builtin; refine wpList_lks rfl (.tmp 55) (.tmp 59) rfl (w5.heap.size + 1) _ d.ls HO1.out rfl (some ⟨Y1.heap.size, 0, none⟩) 1 [⟨x, f⟩] rfl (fun e => by cases e) HR1.out (by first | omega | (simp; done) | (simp; omega)) (by first | omega | (simp; done) | (simp; omega)) ?_; intro v2 Y2 hown2 hg2; obtain ⟨gg, cap, rfl⟩ := own_shape hown2 (by first | omega | (simp; done) | (simp; omega)); have hb2 : Below (w5.heap.size + 1) (Y1.alloc (.cells #[.string x, .string f] 56)) Y2 := (Below.refl _ _).grown hg2 (by first | omega | (simp; done) | (simp; omega)) (fun k e => (HO1.out.lt k e).1); have hbX := HB1.out.trans (((box_below Y1 (.cells #[.string x, .string f] 56)).mono (by omega)).trans hb2); have hS2 := (hbX.block w5.heap.size (Nat.lt_succ_self _)).trans HSB.out; have k0 := cell_blk hS2 0; have k1 := cell_blk hS2 1; have k2' := cell_blk hS2 2; have kf := frozen_blk hS2 2; change Y2.cell? ⟨w5.heap.size, 0, none⟩ = some (.slice d.rA d.rs.length d.rc) at k0; change Y2.cell? ⟨w5.heap.size, 1, none⟩ = some (.slice d.zA d.zs.length d.zc) at k1; change Y2.cell? ⟨w5.heap.size, 2, none⟩ = some (.slice d.lA d.ls.length d.lc) at k2'; have HO2 := Lib.hid hown2; have HBXX := Lib.hid hbX; have HS2 := Lib.hid hS2; clear hown2 hg2 hb2 hbX hS2))
        have hBw : Below w5.heap.size w5 Y2 := HBX.out.trans (HBXX.out.mono (Nat.le_succ _))
        have hZ0 : Below w5.heap.size w5 (Y2.setCell ⟨w5.heap.size, 2, none⟩ (.slice (some ⟨gg, 0, none⟩) (d.ls ++ [Lk.mk x f]).length cap)) := hBw.setCell (p := ⟨w5.heap.size, 2, none⟩) (Nat.le_refl _) _
        have hO3 : (Y2.setCell ⟨w5.heap.size, 2, none⟩ (.slice (some ⟨gg, 0, none⟩) (d.ls ++ [Lk.mk x f]).length cap)).ownsRow (w5.heap.size + 1) 56 2 (.slice (some ⟨gg, 0, none⟩) (d.ls ++ [Lk.mk x f]).length cap) (d.ls ++ [Lk.mk x f]).length ((d.ls ++ [Lk.mk x f]).flatMap lcell) := HO2.out.kept (grown_set _ _ _) (.inr (own_not_blk' HO2.out HS2.out (by decide)))
        have hLok : Lok (⟨d.rA, d.rc, d.rs, d.zA, d.zc, d.zs, some ⟨gg, 0, none⟩, cap, d.ls ++ [Lk.mk x f]⟩ : Sd) (Y2.setCell ⟨w5.heap.size, 2, none⟩ (.slice (some ⟨gg, 0, none⟩) (d.ls ++ [Lk.mk x f]).length cap)) := by
          have hd' := (H5.out.k.lk.at_.below hZ0).more hZ0.size
          refine ⟨⟨hd'.r, hd'.z, hd'.e, rk_links hO3⟩, ?_, fun q hq => ?_, H5.out.k.lk.zs⟩
          · show d.zs.length + (d.ls ++ [Lk.mk x f]).length ≤ 1000
            have hsz := H5.out.k.lk.sz
            have hg := HG.out.2.1
            rw [List.length_append, List.length_singleton]
            omega
          · rcases List.mem_append.1 hq with hq | hq
            · exact H5.out.k.lk.ls q hq
            · rw [List.mem_singleton.1 hq]
              exact ⟨hxs, hfs⟩
        have hlen : (d.ls ++ [Lk.mk x f]).length = d.ls.length + 1 := by rw [List.length_append]; rfl
        have hT : T7 w d (⟨d.rA, d.rc, d.rs, d.zA, d.zc, d.zs, some ⟨gg, 0, none⟩, cap, d.ls ++ [Lk.mk x f]⟩ : Sd) w.heap.size w5.heap.size (some ad) d.names (Y2.setCell ⟨w5.heap.size, 2, none⟩ (.slice (some ⟨gg, 0, none⟩) (d.ls ++ [Lk.mk x f]).length cap)) := by
          have hq := H5.out.on hZ0
          have hz1 := HBXX.out.size
          simp only [World.size_alloc] at hz1
          refine ⟨hq.k, ⟨bx3_of (by simp; omega) ?_ ?_ ?_, hLok, hq.k.bel⟩, hq.nm, hq.ev⟩
          · go_simp
          · go_simp
          · go_simp
        rw [hlen] at hT
        obtain ⟨d', e1, e2, e3, hT⟩ : ∃ d' : Sd, d'.rs = d.rs ∧ d'.zs = d.zs ∧ d'.ls = d.ls ++ [Lk.mk x f] ∧ T7 w d d' w.heap.size w5.heap.size (some ad) d.names (Y2.setCell ⟨w5.heap.size, 2, none⟩ (.slice (some ⟨gg, 0, none⟩) (d.ls.length + 1) cap)) := ⟨⟨d.rA, d.rc, d.rs, d.zA, d.zc, d.zs, some ⟨gg, 0, none⟩, cap, d.ls ++ [Lk.mk x f]⟩, rfl, rfl, rfl, hT⟩
        generalize Y2.setCell ⟨w5.heap.size, 2, none⟩ (.slice (some ⟨gg, 0, none⟩) (d.ls.length + 1) cap) = w6 at *
        have H6 := Lib.hid hT
        have HE1 := Lib.hid e1
        have HE2 := Lib.hid e2
        have HE3 := Lib.hid e3
        clear hT e1 e2 e3 hBw hZ0 hO3 hLok hlen HO2 HBXX HS2 k0 k1 k2' kf
        have hZ' : d'.Z = d.Z := by unfold Sd.Z; rw [HE2.out]
        have HZ' := Lib.hid hZ'
        obtain ⟨a, ha⟩ := pair_zero (lead_all HALL.out hxm.out)
        have HA := Lib.hid ha
        clear ha hZ'
        have c0 := H6.out.k.bx.at_ 0 _ rfl
        have c1 := H6.out.k.bx.at_ 1 _ rfl
        have c2 := H6.out.k.bx.at_ 2 _ rfl
        have KZ := Lib.hid (lzone_any d x w6 H6.out.k.lk hxs)
        rw [HA.out] at KZ
        go_wp2_with fail
        refine KZ.out.mono ?_
        rintro e w7 ⟨rfl, b7⟩
        have H7 := Lib.hid (H6.out.on b7)
        clear KZ b7 c0 c1 c2 H6
        by_cases h60 : f.size ≤ 60
        case neg =>
          have t60 : (60 : Int) < (f.size : Int) := by omega
          have hfin := H7.out.k.bel
          go_wp2_with fail
          go_ret
          exact ⟨rfl, hfin⟩
        have t60 : ¬ (60 : Int) < (f.size : Int) := by omega
        have HFU : Hid (f ∉ d.names) := Lib.hid (by
          rcases HFM.out with h | h
          · omega
          · exact h.1)
        have HSO : Hid (∀ q ∈ [Lk.mk x f], So.link q = true) := Lib.hid (mem_one (by
          show (Rl.name x.data.toList && Rl.name f.data.toList) = true
          rw [name_right HR.out hxm.out, HFN.out h60]
          rfl))
        have HR' := Lib.hid (right_links HE1.out HE2.out HE3.out HR.out (by simp; omega) HSO.out)
        have HF' := Lib.hid (fits_links HE1.out HE2.out HE3.out HF.out (by simp; omega) (mem_one ⟨hxs, hfs⟩))
        have HOK' := Lib.hid (fok_small HF'.out (by rw [HE1.out]; exact HG.out.1) (by rw [HE2.out]; exact HG.out.2.1) (by rw [HE3.out, List.length_append]; simp; omega) (by rw [HE2.out]; exact HG.out.2.2.2))
        have HALL' := Lib.hid (all_link HE1.out HE2.out HE3.out HALL.out hxm.out HFU.out)
        have KW := Lib.hid (well_any d' w7 H7.out.ev H7.out.k'.lk.at_ HOK'.out true HR'.out [] HALL'.out)
        have c0 := H7.out.k'.bx.at_ 0 _ rfl
        have c1 := H7.out.k'.bx.at_ 1 _ rfl
        have c2 := H7.out.k'.bx.at_ 2 _ rfl
        go_wp2_with fail
        refine KW.out.mono ?_
        rintro e w8 ⟨he, b8⟩
        obtain rfl := well_yes he
        have H8 := Lib.hid (H7.out.on b8)
        clear KW b8 c0 c1 c2 H7 he
        have hnb : nn ≤ 1000 := by
          have h1 := HG.out.2.1
          have h2 := HG.out.2.2.1
          rw [← HNN.out]
          unfold Sd.names
          rw [List.length_append, List.length_map, List.length_map]
          omega
        go_wp2_with fail
        go_loopw [80] (fun i wr => ∃ j : Nat, j ≤ nn ∧ i = .int .i64 j ∧ Hid (T7 w d d' w.heap.size w5.heap.size (some ad) d.names wr)) (fun i _ => nn - (intOf i).toNat)
        case atStart => exact ⟨0, Nat.zero_le _, rfl, H8⟩
        case round =>
          clear H8
          obtain ⟨j, hj, rfl, H8⟩ := hrel
          by_cases hlt : j < nn
          · obtain ⟨y, hy⟩ : ∃ y, d.names[j]? = some y := ⟨_, List.getElem?_eq_getElem (by rw [HNN.out]; exact hlt)⟩
            have hym : y ∈ d.names := List.mem_of_getElem? hy
            have hys := names_sz HF.out y hym
            have hyc : wr.cell? (ad.add j) = some (.string y) := by
              obtain ⟨ad2, e2, _, hac⟩ := H8.out.nm (by rw [HNN.out]; exact HN0.out)
              injection e2 with e2
              subst e2
              have h2 := hac j (by rw [HNN.out]; exact hlt)
              change _ = some (Value.string (d.names.getD j ByteArray.empty)) at h2
              rw [List.getD_eq_getElem?_getD, hy] at h2
              exact h2
            obtain ⟨b, hb⟩ := pair_zero (lead_all HALL.out hym)
            have HB := Lib.hid hb
            have HB' : Hid (Ld.zn d'.Z d'.ls y = (b, 0)) := Lib.hid (by rw [HZ'.out, HE3.out, zn_more (lead_all HALL.out hym), HB.out])
            have HYM := Lib.hid hym
            have HLT := Lib.hid hlt
            clear hy hym hb
            have KZ := Lib.hid (lzone_any d' y wr H8.out.k'.lk hys)
            rw [HB'.out] at KZ
            have c0 := H8.out.k'.bx.at_ 0 _ rfl
            have c1 := H8.out.k'.bx.at_ 1 _ rfl
            have c2 := H8.out.k'.bx.at_ 2 _ rfl
            go_wp2_with fail
            refine KZ.out.mono ?_
            rintro e w9 ⟨rfl, b9⟩
            have H9 := Lib.hid (H8.out.on b9)
            clear KZ b9 c0 c1 c2 H8 hyc
            have KZ := Lib.hid (lzone_any d y w9 H9.out.k.lk hys)
            rw [HB.out] at KZ
            have c0 := H9.out.k.bx.at_ 0 _ rfl
            have c1 := H9.out.k.bx.at_ 1 _ rfl
            have c2 := H9.out.k.bx.at_ 2 _ rfl
            go_wp2_with fail
            refine KZ.out.mono ?_
            rintro e w10 ⟨rfl, b10⟩
            have H10 := Lib.hid (H9.out.on b10)
            clear KZ b10 c0 c1 c2 H9
            obtain ⟨m, hm⟩ : ∃ m, (Ld.als d.Z d.ls y).length = m := ⟨_, rfl⟩
            have hm1 : m ≤ 1000 := by rw [← hm]; exact als_short H10.out.k.lk
            have HM := Lib.hid hm
            obtain ⟨q, hq⟩ : ∃ q : Nat, (Ld.als d'.Z d'.ls y).length = m + q ∧ ((b = a ∧ q = 1) ∨ (b ≠ a ∧ q = 0)) := by
              have h := als_link (all_nil.1 HALL.out).1 (all_nil.1 HALL.out).2.2.2 hxm.out HFU.out HYM.out (x := y)
              have h1 : (Ld.als d'.Z d'.ls y).length = m + if Ld.zn d.Z d.ls y = Ld.zn d.Z d.ls x then 1 else 0 := by rw [← hm, HZ'.out, HE3.out]; exact h
              rw [HA.out, HB.out] at h1
              by_cases hab : b = a
              · exact ⟨1, by rw [h1, if_pos (by rw [hab])], .inl ⟨hab, rfl⟩⟩
              · exact ⟨0, by rw [h1, if_neg (fun e => hab (congrArg Prod.fst e))], .inr ⟨hab, rfl⟩⟩
            have HM' := Lib.hid hq.1
            have hq2 := hq.2
            clear hm hq
            have HA1 : Hid (∀ W : World, W.cell? ⟨w5.heap.size, 0, none⟩ = some (.slice d'.rA d'.rs.length d'.rc) ∧ W.cell? ⟨w5.heap.size, 1, none⟩ = some (.slice d'.zA d'.zs.length d'.zc) ∧ W.cell? ⟨w5.heap.size, 2, none⟩ = some (.slice d'.lA d'.ls.length d'.lc) ∧ W.cell? ⟨w.heap.size, 0, none⟩ = some (.slice d.rA d.rs.length d.rc) ∧ W.cell? ⟨w.heap.size, 1, none⟩ = some (.slice d.zA d.zs.length d.zc) ∧ W.cell? ⟨w.heap.size, 2, none⟩ = some (.slice d.lA d.ls.length d.lc) ∧ T7 w d d' w.heap.size w5.heap.size (some ad) d.names W → Calls Tryd.prog 15 #[d'.val, .string y] W fun e w' => (∃ A c, e = .returned (.slice A (m + q) c)) ∧ Below W.heap.size W w' ∧ T7 w d d' w.heap.size w5.heap.size (some ad) d.names w') := Lib.hid (fun W h => (lalias_yes d' y W h.2.2.2.2.2.2.k'.lk hys (by rw [HB'.out])).mono fun e w' h2 => ⟨by
              obtain ⟨A, c, he, _⟩ := h2.1
              rw [HM'.out] at he
              exact ⟨A, c, he⟩, h2.2, h.2.2.2.2.2.2.on h2.2⟩)
            have HA2 : Hid (∀ W : World, W.cell? ⟨w5.heap.size, 0, none⟩ = some (.slice d'.rA d'.rs.length d'.rc) ∧ W.cell? ⟨w5.heap.size, 1, none⟩ = some (.slice d'.zA d'.zs.length d'.zc) ∧ W.cell? ⟨w5.heap.size, 2, none⟩ = some (.slice d'.lA d'.ls.length d'.lc) ∧ W.cell? ⟨w.heap.size, 0, none⟩ = some (.slice d.rA d.rs.length d.rc) ∧ W.cell? ⟨w.heap.size, 1, none⟩ = some (.slice d.zA d.zs.length d.zc) ∧ W.cell? ⟨w.heap.size, 2, none⟩ = some (.slice d.lA d.ls.length d.lc) ∧ T7 w d d' w.heap.size w5.heap.size (some ad) d.names W → Calls Tryd.prog 15 #[d.val, .string y] W fun e w' => (∃ A c, e = .returned (.slice A m c)) ∧ Below W.heap.size W w' ∧ T7 w d d' w.heap.size w5.heap.size (some ad) d.names w') := Lib.hid (fun W h => (lalias_yes d y W h.2.2.2.2.2.2.k.lk hys (by rw [HB.out])).mono fun e w' h2 => ⟨by
              obtain ⟨A, c, he, _⟩ := h2.1
              rw [HM.out] at he
              exact ⟨A, c, he⟩, h2.2, h.2.2.2.2.2.2.on h2.2⟩)
            have S0 : w10.drew.cell? ⟨w5.heap.size, 0, none⟩ = some (.slice d'.rA d'.rs.length d'.rc) ∧ w10.drew.cell? ⟨w5.heap.size, 1, none⟩ = some (.slice d'.zA d'.zs.length d'.zc) ∧ w10.drew.cell? ⟨w5.heap.size, 2, none⟩ = some (.slice d'.lA d'.ls.length d'.lc) ∧ w10.drew.cell? ⟨w.heap.size, 0, none⟩ = some (.slice d.rA d.rs.length d.rc) ∧ w10.drew.cell? ⟨w.heap.size, 1, none⟩ = some (.slice d.zA d.zs.length d.zc) ∧ w10.drew.cell? ⟨w.heap.size, 2, none⟩ = some (.slice d.lA d.ls.length d.lc) ∧ T7 w d d' w.heap.size w5.heap.size (some ad) d.names w10.drew := s19_on ⟨H10.out.k'.bx.at_ 0 _ rfl, H10.out.k'.bx.at_ 1 _ rfl, H10.out.k'.bx.at_ 2 _ rfl, H10.out.k.bx.at_ 0 _ rfl, H10.out.k.bx.at_ 1 _ rfl, H10.out.k.bx.at_ 2 _ rfl, H10.out⟩ (Below.refl _ _).drew
            rcases hq2 with ⟨rfl, rfl⟩ | ⟨hab, rfl⟩
            · have t1 : IntKind.i64.wrap (((m + 1 : Nat) : Int) - (m : Int)) = 1 := by
                rw [show ((m + 1 : Nat) : Int) - (m : Int) = 1 by omega]
                rfl
              have t2 : IntKind.i64.wrap ((m : Int) + 1 - (m : Int)) = 1 := by
                rw [show (m : Int) + 1 - (m : Int) = 1 by omega]
                rfl
              have t3 : ((b : Int) != (b : Int)) = false := by simp
              have t4 : ((b : Int) == (b : Int)) = true := by simp
              go_wp2_with fail
              go_region_held3 (fun w' => w'.cell? ⟨w5.heap.size, 0, none⟩ = some (.slice d'.rA d'.rs.length d'.rc) ∧ w'.cell? ⟨w5.heap.size, 1, none⟩ = some (.slice d'.zA d'.zs.length d'.zc) ∧ w'.cell? ⟨w5.heap.size, 2, none⟩ = some (.slice d'.lA d'.ls.length d'.lc) ∧ w'.cell? ⟨w.heap.size, 0, none⟩ = some (.slice d.rA d.rs.length d.rc) ∧ w'.cell? ⟨w.heap.size, 1, none⟩ = some (.slice d.zA d.zs.length d.zc) ∧ w'.cell? ⟨w.heap.size, 2, none⟩ = some (.slice d.lA d.ls.length d.lc) ∧ T7 w d d' w.heap.size w5.heap.size (some ad) d.names w')
                (first | assumption | exact s19_on (by assumption) (by assumption))
                (first
                  | (go_at_call 15; (with_reducible refine (HA1.out _ (by assumption)).mono ?_); rintro e w11 ⟨⟨A1, q1, rfl⟩, hb1, hq1⟩)
                  | (go_at_call 15; (with_reducible refine (HA2.out _ (by assumption)).mono ?_); rintro e w12 ⟨⟨A2, q2, rfl⟩, hb2, hq2⟩))
              have H12 := Lib.hid hq2
              clear hb1 hb2 hq1 hq2
              go_wp2_with fail
              go_roundw
              case rel => exact ⟨j + 1, HLT.out, by go_num, H12⟩
              case measure =>
                have := HLT.out
                simp [intOf]; omega
            · simp only [Nat.add_zero] at HA1
              have t1 : IntKind.i64.wrap ((m : Int) - (m : Int)) = 0 := by
                rw [Int.sub_self]
                rfl
              have t3 : ((b : Int) != (b : Int)) = false := by simp
              have t4 : ((b : Int) == (a : Int)) = false := by rw [beq_eq_false_iff_ne]; omega
              go_wp2_with fail
              go_region_held3 (fun w' => w'.cell? ⟨w5.heap.size, 0, none⟩ = some (.slice d'.rA d'.rs.length d'.rc) ∧ w'.cell? ⟨w5.heap.size, 1, none⟩ = some (.slice d'.zA d'.zs.length d'.zc) ∧ w'.cell? ⟨w5.heap.size, 2, none⟩ = some (.slice d'.lA d'.ls.length d'.lc) ∧ w'.cell? ⟨w.heap.size, 0, none⟩ = some (.slice d.rA d.rs.length d.rc) ∧ w'.cell? ⟨w.heap.size, 1, none⟩ = some (.slice d.zA d.zs.length d.zc) ∧ w'.cell? ⟨w.heap.size, 2, none⟩ = some (.slice d.lA d.ls.length d.lc) ∧ T7 w d d' w.heap.size w5.heap.size (some ad) d.names w')
                (first | assumption | exact s19_on (by assumption) (by assumption))
                (first
                  | (go_at_call 15; (with_reducible refine (HA1.out _ (by assumption)).mono ?_); rintro e w11 ⟨⟨A1, q1, rfl⟩, hb1, hq1⟩)
                  | (go_at_call 15; (with_reducible refine (HA2.out _ (by assumption)).mono ?_); rintro e w12 ⟨⟨A2, q2, rfl⟩, hb2, hq2⟩))
              have H12 := Lib.hid hq2
              clear hb1 hb2 hq1 hq2
              go_wp2_with fail
              go_roundw
              case rel => exact ⟨j + 1, HLT.out, by go_num, H12⟩
              case measure =>
                have := HLT.out
                simp [intOf]; omega
          · obtain rfl : j = nn := by omega
            have KZ := Lib.hid (lzone_any d' f wr H8.out.k'.lk hfs)
            rw [HZ'.out, HE3.out, zn_new (lead_all HALL.out hxm.out) ⟨fun h => HFU.out (List.mem_append.2 (.inl h)), fun h => HFU.out (List.mem_append.2 (.inr h))⟩, HA.out] at KZ
            have c0 := H8.out.k'.bx.at_ 0 _ rfl
            have c1 := H8.out.k'.bx.at_ 1 _ rfl
            have c2 := H8.out.k'.bx.at_ 2 _ rfl
            have t4 : ((a : Int) == (a : Int)) = true := by simp
            go_wp2_with fail
            refine KZ.out.mono ?_
            rintro e w9 ⟨rfl, b9⟩
            have H9 := Lib.hid (H8.out.on b9)
            clear KZ b9 c0 c1 c2 H8
            have hfin := H9.out.k.bel
            go_wp2_with fail
            go_ret
            exact ⟨rfl, hfin⟩
end Go.Proofs.YthlbockphdbpkaaDoor
