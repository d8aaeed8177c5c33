/- TopRound. -/
import Derived.Test.YthlbockphdbpkaaDoorTk
import Derived.Test.YthlbockphdbpkaaDoorSm
namespace Go.Proofs.YthlbockphdbpkaaDoor
open Go.RowKit Go.Maps
set_option maxRecDepth 100000
/-- What a drawn region of TopRound keeps: a source in its box. -/
structure Q5 (w : World) (d : Sd) (g : Nat) (W : World) : Prop where
  k : K13 w d g W
  ev : Ev W
theorem Q5.on {w W W' : World} {d : Sd} {g : Nat} (h : Q5 w d g W) (hb : Below W.heap.size W W') : Q5 w d g W' := ⟨h.k.on hb, h.ev.below hb⟩
theorem s5_on {w W W' : World} {d : Sd} {g : Nat} {v0 v1 v2 : Value}
    (h : W.cell? ⟨g, 0, none⟩ = some v0 ∧ W.cell? ⟨g, 1, none⟩ = some v1 ∧ W.cell? ⟨g, 2, none⟩ = some v2 ∧ Q5 w d g W) (hb : Below W.heap.size W W') :
    W'.cell? ⟨g, 0, none⟩ = some v0 ∧ W'.cell? ⟨g, 1, none⟩ = some v1 ∧ W'.cell? ⟨g, 2, none⟩ = some v2 ∧ Q5 w d g W' := by
  obtain ⟨h0, h1, h2, h6⟩ := h
  have h4 := h6.k.bx.lt
  exact ⟨(hb.cell (p := ⟨g, 0, none⟩) h4).trans h0, (hb.cell (p := ⟨g, 1, none⟩) h4).trans h1, (hb.cell (p := ⟨g, 2, none⟩) h4).trans h2, h6.on hb⟩
theorem fresh7_int (d : Sd) (n : Nat) (i : Int) (hi : i = (n : Int)) (w : World) (h : Lok d w) (hn : n ≤ 4096) :
    Calls Tryd.prog 14 #[d.val, .int .i64 i] w fun e w' => FrE d (n % 26) e ∧ Below w.heap.size w w' := by
  subst hi
  exact fresh7_any d n w h hn
/-- A source in its box through calls. -/
structure R7 (w : World) (d : Sd) (g : Nat) (W : World) : Prop where
  k : K13 w d g W
  ev : Ev W
theorem R7.on {w W W' : World} {d : Sd} {g : Nat} (h : R7 w d g W) (hb : Below W.heap.size W W') : R7 w d g W' := ⟨h.k.on hb, h.ev.below hb⟩
theorem row_blk {w w' : World} {L : List Fl} {e : Ending} (h : FlE w w' L e) (h0 : 0 < L.length) : ∃ g c, e = .returned (.slice (some ⟨g, 0, none⟩) L.length c) ∧ Bx w' g (L.flatMap fcell) := by
  obtain ⟨A, c, he, ho⟩ := h
  rcases ho.2 with ⟨_, h1⟩ | ⟨g, cap, cur, hv, _, hg, _⟩
  · omega
  · injection hv with hA _ _
    subst hA
    exact ⟨g, c, he, lt_blk hg, fun i v hv => by
      have := ho.cells (g := g) rfl i v hv
      rw [addr_add] at this
      exact this⟩
theorem wr_yes {e : Ending} {p q : Fl} (h : e = .returned (.bool (true && [p, q].isEmpty))) : e = .returned (.bool false) := h
set_option maxHeartbeats 16000000 in
theorem walkTopRound (d : Sd) (hf : d.fits) (hnil : d.lA = none → d.lc = 0) (_hroom : (d.zs.length + d.ls.length) * 16 ≤ 140737488355328) (n : Nat) (hn : n ≤ 255) (w : World) (hd : d.at_ w w.heap.size) (hE : Ev w) :
    Calls Tryd.prog 5 #[d.val, .int .u8 n] w fun e w' => e = .returned (.bool true) ∧ Below w.heap.size w w' := by
  have hb := box_below w (.cells #[.slice d.rA d.rs.length d.rc, .slice d.zA d.zs.length d.zc, .slice d.lA d.ls.length d.lc] 26)
  have hbx : Bx (w.alloc (.cells #[.slice d.rA d.rs.length d.rc, .slice d.zA d.zs.length d.zc, .slice d.lA d.ls.length d.lc] 26)) w.heap.size [.slice d.rA d.rs.length d.rc, .slice d.zA d.zs.length d.zc, .slice d.lA d.ls.length d.lc] := Bx.mk' w w.heap.size #[.slice d.rA d.rs.length d.rc, .slice d.zA d.zs.length d.zc, .slice d.lA d.ls.length d.lc] _ rfl
  have HE := Lib.hid (hE.below hb)
  have HL := Lib.hid (begins7_true _ HE.out)
  have HN := Lib.hid hnil
  have HF := Lib.hid hf
  clear hnil hE
  go_enter Tryd.func5, Tryd.ntmps5
  go_wp2_with fail
  refine HL.out.mono ?_
  rintro e w2 ⟨rfl, b1⟩
  have hx2 := hbx.on b1
  have d2 := (hd.on hb).on b1
  have bl2 := hb.trans (b1.mono hb.size)
  have HE2 := Lib.hid (HE.out.below b1)
  clear hbx hb HL b1 HE
  have c0 := hx2.at_ 0 _ rfl
  have c1 := hx2.at_ 1 _ rfl
  have c2 := hx2.at_ 2 _ rfl
  have HS := Lib.hid (ssmall_any d w2 hf d2)
  go_wp2_with fail
  refine HS.out.mono ?_
  rintro e w3 ⟨hse, b3⟩
  rcases hse with rfl | ⟨rfl, g1, g2, g3, g4⟩
  · have bl3 := bl2.trans (b3.mono bl2.size)
    clear c0 c1 c2 HS b3 hx2 d2 bl2 hf hd
    go_wp2_with fail
    go_ret
    exact ⟨rfl, bl3⟩
  · have H3 : Hid (Q5 w d w.heap.size w3) := Lib.hid ⟨⟨hx2.on b3, lok_of hf (d2.on b3) g2 g3, bl2.trans (b3.mono bl2.size)⟩, HE2.out.below b3⟩
    clear c0 c1 c2 HS b3 hx2 d2 bl2 HE2 hf hd
    have HG := Lib.hid (And.intro g1 (And.intro g2 (And.intro g3 g4)))
    have HOK := Lib.hid (fok_small HF.out g1 g2 (Nat.le_trans g3 (by decide)) g4)
    have hll : d.ls.length ≤ 20 := g3
    clear g1 g2 g3 g4
    have c30 := H3.out.k.bx.at_ 0 _ rfl
    have c31 := H3.out.k.bx.at_ 1 _ rfl
    have c32 := H3.out.k.bx.at_ 2 _ rfl
    obtain ⟨v, hv⟩ : ∃ v, So.right d.src = v := ⟨_, rfl⟩
    obtain ⟨L, hL⟩ : ∃ L, Vd.all d = L := ⟨_, rfl⟩
    have KW := Lib.hid (well_any d w3 H3.out.ev H3.out.k.lk.at_ HOK.out v hv L hL)
    have HV := Lib.hid hv
    have HVL := Lib.hid hL
    clear hv hL
    go_wp2_with fail
    refine KW.out.mono ?_
    rintro e w4 ⟨rfl, b4⟩
    have H4 := Lib.hid (H3.out.on b4)
    clear KW b4 c30 c31 c32 H3
    obtain ⟨vb, hvb⟩ : ∃ vb, (v && L.isEmpty) = vb := ⟨_, rfl⟩
    have HVB := Lib.hid hvb
    rw [hvb]
    clear hvb
    cases vb with
    | false =>
      go_wp2_with fail
      go_ret
      exact ⟨rfl, H4.out.k.bel⟩
    | true =>
      have HH : Hid (v = true ∧ L = []) := Lib.hid (by
        have := HVB.out
        rw [Bool.and_eq_true] at this
        exact ⟨this.1, List.isEmpty_iff.1 this.2⟩)
      have HR : Hid (So.right d.src = true) := Lib.hid (HV.out.trans HH.out.1)
      have HALL : Hid (Vd.all d = []) := Lib.hid (HVL.out.trans HH.out.2)
      clear HV HVL HVB HH
      have HFR : Hid (∀ (W : World) (q : Nat) (i : Int), i = (q : Int) → q ≤ 256 → W.cell? ⟨w.heap.size, 0, none⟩ = some (.slice d.rA d.rs.length d.rc) ∧ W.cell? ⟨w.heap.size, 1, none⟩ = some (.slice d.zA d.zs.length d.zc) ∧ W.cell? ⟨w.heap.size, 2, none⟩ = some (.slice d.lA d.ls.length d.lc) ∧ Q5 w d w.heap.size W → Calls Tryd.prog 14 #[d.val, .int .i64 i] W fun e w' => FrE d (q % 26) e ∧ Below W.heap.size W w' ∧ Q5 w d w.heap.size w') := Lib.hid (fun W q i hi hq h => (fresh7_int d q i hi W h.2.2.2.k.lk (by omega)).mono fun e w' g => ⟨g.1, g.2, h.2.2.2.on g.2⟩)
      have S0 : w4.drew.cell? ⟨w.heap.size, 0, none⟩ = some (.slice d.rA d.rs.length d.rc) ∧ w4.drew.cell? ⟨w.heap.size, 1, none⟩ = some (.slice d.zA d.zs.length d.zc) ∧ w4.drew.cell? ⟨w.heap.size, 2, none⟩ = some (.slice d.lA d.ls.length d.lc) ∧ Q5 w d w.heap.size w4.drew :=
        s5_on ⟨H4.out.k.bx.at_ 0 _ rfl, H4.out.k.bx.at_ 1 _ rfl, H4.out.k.bx.at_ 2 _ rfl, H4.out⟩ (Below.refl _ _).drew
      have t6 : IntKind.i64.wrap (n : Int) = (n : Int) := IntWalk.i64_in _ (by omega)
      have t7 : IntKind.i64.wrap ((n : Int) + 1) = (n : Int) + 1 := IntWalk.i64_in _ (by omega)
      go_wp2_with fail
      go_region_held3 (fun w' => w'.cell? ⟨w.heap.size, 0, none⟩ = some (.slice d.rA d.rs.length d.rc) ∧ w'.cell? ⟨w.heap.size, 1, none⟩ = some (.slice d.zA d.zs.length d.zc) ∧ w'.cell? ⟨w.heap.size, 2, none⟩ = some (.slice d.lA d.ls.length d.lc) ∧ Q5 w d w.heap.size w')
        (first | assumption | exact s5_on (by assumption) (by assumption))
        (first
          | (go_at_call 14; (with_reducible refine (HFR.out _ n _ rfl (by omega) (by assumption)).mono ?_); rintro e w5 ⟨hfr, hb, hq5⟩; obtain ⟨r, hr, rfl, hfr⟩ := hfr)
          | (go_at_call 14; (with_reducible refine (HFR.out _ (n + 1) ((n : Int) + 1) (by omega) (by omega) (by assumption)).mono ?_); rintro e w6 ⟨hfr2, hb2, hq6⟩; obtain ⟨r2, hr2, rfl, hfr2⟩ := hfr2))
      have H6 := Lib.hid hq6
      clear t6 t7 hb hb2 hq5 hq6 HFR S0 H4
      obtain ⟨x, hx⟩ : ∃ x, frN (n % 26) r = x := ⟨_, rfl⟩
      obtain ⟨f, hf⟩ : ∃ f, frN ((n + 1) % 26) r2 = f := ⟨_, rfl⟩
      have HXN : Hid (x.size ≤ 60 → Rl.name x.data.toList = true) := Lib.hid (by rw [← hx]; exact frN_right (Nat.mod_lt _ (by decide)))
      have HFN : Hid (f.size ≤ 60 → Rl.name f.data.toList = true) := Lib.hid (by rw [← hf]; exact frN_right (Nat.mod_lt _ (by decide)))
      have hxs : x.size ≤ 9223372036854775807 := by rw [← hx, frN_size]; omega
      have hfs : f.size ≤ 9223372036854775807 := by rw [← hf, frN_size]; omega
      rw [hx] at hfr
      rw [hf] at hfr2
      rw [hx, hf]
      have HXM := Lib.hid hfr
      have HFM := Lib.hid hfr2
      clear hx hf hfr hfr2 hr hr2
      have hbel := H6.out.k.bel
      by_cases hxf : x = f
      case pos =>
        subst hxf
        have t1 : (x.toList == x.toList) = true := by simp
        go_wp2_with fail
        go_ret
        exact ⟨rfl, hbel⟩
      have hne : ¬ x.toList = f.toList := fun e => hxf (ba_ext (by rw [← ByteArray.toList_eq, ← ByteArray.toList_eq]; exact e))
      have t1 : (x.toList == f.toList) = false := by simpa using hne
      by_cases h60 : x.size ≤ 60
      case neg =>
        have t2 : (60 : Int) < (x.size : Int) := by omega
        go_wp2_with fail
        go_ret
        exact ⟨rfl, hbel⟩
      have t2 : ¬ (60 : Int) < (x.size : Int) := by omega
      by_cases h61 : f.size ≤ 60
      case neg =>
        have t3 : (60 : Int) < (f.size : Int) := by omega
        go_wp2_with fail
        go_ret
        exact ⟨rfl, hbel⟩
      have t3 : ¬ (60 : Int) < (f.size : Int) := by omega
      have HXF := Lib.hid hxf
      clear hbel hxf
      have bS := box_below w6 (.cells #[.slice d.rA d.rs.length d.rc, .slice d.zA d.zs.length d.zc, .slice d.lA d.ls.length d.lc] 26)
      have hS := heap_alloc_new w6 (.cells #[.slice d.rA d.rs.length d.rc, .slice d.zA d.zs.length d.zc, .slice d.lA d.ls.length d.lc] 26)
      have bE := box_below (w6.alloc (.cells #[.slice d.rA d.rs.length d.rc, .slice d.zA d.zs.length d.zc, .slice d.lA d.ls.length d.lc] 26)) (.cells #[] 56)
      have oE := World.ownsRow_lit (base := w6.heap.size + 1) (e := 56) (size := 2) (w6.alloc (.cells #[.slice d.rA d.rs.length d.rc, .slice d.zA d.zs.length d.zc, .slice d.lA d.ls.length d.lc] 26)) #[] 0 (by simp) (by decide) rfl
      have rE := ((H6.out.k.lk.at_.l.below bS).below (bE.mono (by simp)))
      have HOE : Hid (((w6.alloc (.cells #[.slice d.rA d.rs.length d.rc, .slice d.zA d.zs.length d.zc, .slice d.lA d.ls.length d.lc] 26)).alloc (.cells #[] 56)).ownsRow (w6.heap.size + 1) 56 2 (.slice (some ⟨w6.heap.size + 1, 0, none⟩) 0 0) ([] : List Lk).length (([] : List Lk).flatMap lcell)) := Lib.hid (by
        have := oE
        rw [World.size_alloc] at this
        exact this)
      have HRE := Lib.hid (rE.more (B' := ((w6.alloc (.cells #[.slice d.rA d.rs.length d.rc, .slice d.zA d.zs.length d.zc, .slice d.lA d.ls.length d.lc] 26)).alloc (.cells #[] 56)).heap.size) (by simp; omega))
      have HBX := Lib.hid (bS.trans (bE.mono (by simp)))
      have HSB := Lib.hid ((bE.block w6.heap.size (by simp)).trans hS)
      have hlw := H6.out.k.bx.lt
      clear bS hS bE oE rE
      go_upto_region 10 with (first
        | (at_builtin; refine wpList_lks rfl (.tmp 46) (.tmp 48) rfl (w6.heap.size + 1) _ [] HOE.out rfl d.lA d.lc d.ls rfl HN.out HRE.out (by first | omega | (simp; done) | (simp; omega)) (by first | omega | (simp; done) | (simp; omega)) ?_; intro v1 Y1 hown1 hg1; have hb1 : Below (w6.heap.size + 1) ((w6.alloc (.cells #[.slice d.rA d.rs.length d.rc, .slice d.zA d.zs.length d.zc, .slice d.lA d.ls.length d.lc] 26)).alloc (.cells #[] 56)) Y1 := (Below.refl _ _).grown hg1 (by first | omega | (simp; done) | (simp; omega)) (fun k e => (HOE.out.lt k e).1); have HB1 := Lib.hid hb1; have hz1 := hb1.size; simp only [World.size_alloc] at hz1; have HO1 : Hid ((Y1.alloc (.cells #[.string x, .string f, .string f, .string x] 56)).ownsRow (w6.heap.size + 1) 56 2 v1 d.ls.length (d.ls.flatMap lcell)) := Lib.hid (World.ownsRow.alloc hown1 _); have HR1 : Hid (Rk (Y1.alloc (.cells #[.string x, .string f, .string f, .string x] 56)) (Y1.alloc (.cells #[.string x, .string f, .string f, .string x] 56)).heap.size (some ⟨Y1.heap.size, 0, none⟩) (([⟨x, f⟩, ⟨f, x⟩] : List Lk).flatMap lcell)) := Lib.hid (rk_lit (heap_alloc_new Y1 (.cells #[.string x, .string f, .string f, .string x] 56))); clear hown1 hg1 hb1)
        | (at_builtin; refine wpList_lks rfl (.tmp 49) (.tmp 56) rfl (w6.heap.size + 1) _ d.ls HO1.out rfl (some ⟨Y1.heap.size, 0, none⟩) 2 [⟨x, f⟩, ⟨f, x⟩] rfl (fun e => by cases e) HR1.out (by first | omega | (simp; done) | (simp; omega)) (by first | omega | (simp; done) | (simp; omega)) ?_; intro v2 Y2 hown2 hg2; obtain ⟨gg, cap, rfl⟩ := own_shape hown2 (by first | omega | (simp; done) | (simp; omega)); have hb2 : Below (w6.heap.size + 1) (Y1.alloc (.cells #[.string x, .string f, .string f, .string x] 56)) Y2 := (Below.refl _ _).grown hg2 (by first | omega | (simp; done) | (simp; omega)) (fun k e => (HO1.out.lt k e).1); have hbX := HB1.out.trans (((box_below Y1 (.cells #[.string x, .string f, .string f, .string x] 56)).mono (by omega)).trans hb2); have hS2 := (hbX.block w6.heap.size (Nat.lt_succ_self _)).trans HSB.out; have k0 := cell_blk hS2 0; have k1 := cell_blk hS2 1; have k2' := cell_blk hS2 2; have kf := frozen_blk hS2 2; change Y2.cell? ⟨w6.heap.size, 0, none⟩ = some (.slice d.rA d.rs.length d.rc) at k0; change Y2.cell? ⟨w6.heap.size, 1, none⟩ = some (.slice d.zA d.zs.length d.zc) at k1; change Y2.cell? ⟨w6.heap.size, 2, none⟩ = some (.slice d.lA d.ls.length d.lc) at k2'; have HO2 := Lib.hid hown2; have HBXX := Lib.hid hbX; have HS2 := Lib.hid hS2; clear hown2 hg2 hb2 hbX hS2))
      have hBw : Below w6.heap.size w6 Y2 := HBX.out.trans (HBXX.out.mono (Nat.le_succ _))
      have hZ0 : Below w6.heap.size w6 (Y2.setCell ⟨w6.heap.size, 2, none⟩ (.slice (some ⟨gg, 0, none⟩) (d.ls ++ [Lk.mk x f, Lk.mk f x]).length cap)) := hBw.setCell (p := ⟨w6.heap.size, 2, none⟩) (Nat.le_refl _) _
      have hO3 : (Y2.setCell ⟨w6.heap.size, 2, none⟩ (.slice (some ⟨gg, 0, none⟩) (d.ls ++ [Lk.mk x f, Lk.mk f x]).length cap)).ownsRow (w6.heap.size + 1) 56 2 (.slice (some ⟨gg, 0, none⟩) (d.ls ++ [Lk.mk x f, Lk.mk f x]).length cap) (d.ls ++ [Lk.mk x f, Lk.mk f x]).length ((d.ls ++ [Lk.mk x f, Lk.mk f x]).flatMap lcell) := HO2.out.kept (grown_set _ _ _) (.inr (own_not_blk' HO2.out HS2.out (by decide)))
      have hLok : Lok (⟨d.rA, d.rc, d.rs, d.zA, d.zc, d.zs, some ⟨gg, 0, none⟩, cap, d.ls ++ [Lk.mk x f, Lk.mk f x]⟩ : Sd) (Y2.setCell ⟨w6.heap.size, 2, none⟩ (.slice (some ⟨gg, 0, none⟩) (d.ls ++ [Lk.mk x f, Lk.mk f x]).length cap)) := by
        have hd' := (H6.out.k.lk.at_.below hZ0).more hZ0.size
        refine ⟨⟨hd'.r, hd'.z, hd'.e, rk_links hO3⟩, ?_, fun q hq => ?_, H6.out.k.lk.zs⟩
        · show d.zs.length + (d.ls ++ [Lk.mk x f, Lk.mk f x]).length ≤ 1000
          have hsz := H6.out.k.lk.sz
          have hg := HG.out.2.1
          rw [List.length_append]
          show d.zs.length + (d.ls.length + 2) ≤ 1000
          omega
        · rcases List.mem_append.1 hq with hq | hq
          · exact H6.out.k.lk.ls q hq
          · rcases List.mem_cons.1 hq with rfl | hq
            · exact ⟨hxs, hfs⟩
            · rw [List.mem_singleton.1 hq]
              exact ⟨hfs, hxs⟩
      have hlen : (d.ls ++ [Lk.mk x f, Lk.mk f x]).length = d.ls.length + 2 := by rw [List.length_append]; rfl
      have hT : R7 w (⟨d.rA, d.rc, d.rs, d.zA, d.zc, d.zs, some ⟨gg, 0, none⟩, cap, d.ls ++ [Lk.mk x f, Lk.mk f x]⟩ : Sd) w6.heap.size (Y2.setCell ⟨w6.heap.size, 2, none⟩ (.slice (some ⟨gg, 0, none⟩) (d.ls ++ [Lk.mk x f, Lk.mk f x]).length cap)) := by
        have hq := H6.out.on hZ0
        have hz1 := HBXX.out.size
        simp only [World.size_alloc] at hz1
        refine ⟨⟨bx3_of (by simp; omega) ?_ ?_ ?_, hLok, hq.k.bel⟩, hq.ev⟩
        · go_simp
        · go_simp
        · go_simp
      rw [hlen] at hT
      obtain ⟨d', e1, e2, e3, hT⟩ : ∃ d' : Sd, d'.rs = d.rs ∧ d'.zs = d.zs ∧ d'.ls = d.ls ++ [Lk.mk x f, Lk.mk f x] ∧ R7 w d' w6.heap.size (Y2.setCell ⟨w6.heap.size, 2, none⟩ (.slice (some ⟨gg, 0, none⟩) (d.ls.length + 2) cap)) := ⟨⟨d.rA, d.rc, d.rs, d.zA, d.zc, d.zs, some ⟨gg, 0, none⟩, cap, d.ls ++ [Lk.mk x f, Lk.mk f x]⟩, rfl, rfl, rfl, hT⟩
      generalize Y2.setCell ⟨w6.heap.size, 2, none⟩ (.slice (some ⟨gg, 0, none⟩) (d.ls.length + 2) cap) = w7 at *
      have H7 := Lib.hid hT
      have HE1 := Lib.hid e1
      have HE2 := Lib.hid e2
      have HE3 := Lib.hid e3
      clear hT e1 e2 e3 hBw hZ0 hO3 hLok hlen HO2 HBXX HS2 k0 k1 k2' kf H6
      have hZ' : d'.Z = d.Z := by unfold Sd.Z; rw [HE2.out]
      have HZ' := Lib.hid hZ'
      clear hZ'
      have HXU : Hid (x ∉ d.names) := Lib.hid (by
        rcases HXM.out with h | h
        · omega
        · exact h.1)
      have HFU : Hid (f ∉ d.names) := Lib.hid (by
        rcases HFM.out with h | h
        · omega
        · exact h.1)
      have HSO : Hid (∀ q ∈ [Lk.mk x f, Lk.mk f x], So.link q = true) := Lib.hid (fun q hq => by
        rcases List.mem_cons.1 hq with rfl | hq
        · show (Rl.name x.data.toList && Rl.name f.data.toList) = true
          rw [HXN.out h60, HFN.out h61]
          rfl
        · rw [List.mem_singleton.1 hq]
          show (Rl.name f.data.toList && Rl.name x.data.toList) = true
          rw [HXN.out h60, HFN.out h61]
          rfl)
      have HR' := Lib.hid (right_links HE1.out HE2.out HE3.out HR.out (by simp; omega) HSO.out)
      have HF' := Lib.hid (fits_links HE1.out HE2.out HE3.out HF.out (by simp; omega) (fun q hq => by
        rcases List.mem_cons.1 hq with rfl | hq
        · exact ⟨hxs, hfs⟩
        · rw [List.mem_singleton.1 hq]
          exact ⟨hfs, hxs⟩))
      have HOK' := Lib.hid (fok_small HF'.out (by rw [HE1.out]; exact HG.out.1) (by rw [HE2.out]; exact HG.out.2.1) (by rw [HE3.out, List.length_append]; simp; omega) (by rw [HE2.out]; exact HG.out.2.2.2))
      have HALL' := Lib.hid (all_round HE1.out HE2.out HE3.out HALL.out HXU.out HFU.out HXF.out)
      have HZN : Hid (Ld.zn d'.Z d'.ls x = (0, 9) ∧ Ld.zn d'.Z d'.ls f = (0, 9)) := Lib.hid (by rw [HZ'.out, HE3.out]; exact zn_two HXU.out HFU.out HXF.out)
      have KF := flaws_any d' w7 H7.out.k.lk.at_ HOK'.out
      rw [HALL'.out] at KF
      have KF := Lib.hid KF
      have c0 := H7.out.k.bx.at_ 0 _ rfl
      have c1 := H7.out.k.bx.at_ 1 _ rfl
      have c2 := H7.out.k.bx.at_ 2 _ rfl
      go_wp2_with fail
      refine KF.out.mono ?_
      rintro e w8 ⟨hfl, b8⟩
      obtain ⟨gl, ql, rfl, hbl⟩ := row_blk hfl (Nat.zero_lt_succ _)
      have H8 := Lib.hid (H7.out.on b8)
      have HB8 := Lib.hid hbl
      clear KF b8 c0 c1 c2 hfl hbl H7
      have KZ := Lib.hid (lzone_any d' x w8 H8.out.k.lk hxs)
      rw [HZN.out.1] at KZ
      have c0 := H8.out.k.bx.at_ 0 _ rfl
      have c1 := H8.out.k.bx.at_ 1 _ rfl
      have c2 := H8.out.k.bx.at_ 2 _ rfl
      go_wp2_with fail
      refine KZ.out.mono ?_
      rintro e w9 ⟨rfl, b9⟩
      have H9 := Lib.hid (H8.out.on b9)
      have HB9 := Lib.hid (HB8.out.on b9)
      clear KZ b9 c0 c1 c2 H8 HB8
      have KZ := Lib.hid (lzone_any d' f w9 H9.out.k.lk hfs)
      rw [HZN.out.2] at KZ
      have c0 := H9.out.k.bx.at_ 0 _ rfl
      have c1 := H9.out.k.bx.at_ 1 _ rfl
      have c2 := H9.out.k.bx.at_ 2 _ rfl
      go_wp2_with fail
      refine KZ.out.mono ?_
      rintro e w10 ⟨rfl, b10⟩
      have H10 := Lib.hid (H9.out.on b10)
      have HB10 := Lib.hid (HB9.out.on b10)
      clear KZ b10 c0 c1 c2 H9 HB9
      have c0 := H10.out.k.bx.at_ 0 _ rfl
      have c1 := H10.out.k.bx.at_ 1 _ rfl
      have c2 := H10.out.k.bx.at_ 2 _ rfl
      have f0 : w10.cell? ⟨gl, 0, none⟩ = some (.int .i64 9) := HB10.out.at_ 0 _ rfl
      have f1 : w10.cell? ⟨gl, 1, none⟩ = some (.string f) := HB10.out.at_ 1 _ rfl
      have f2 : w10.cell? ⟨gl, 2, none⟩ = some (.int .i64 9) := HB10.out.at_ 2 _ rfl
      have f3 : w10.cell? ⟨gl, 3, none⟩ = some (.string x) := HB10.out.at_ 3 _ rfl
      have tf : (f.toList == f.toList) = true := by simp
      have tx : (x.toList == x.toList) = true := by simp
      have hgl := HB10.out.lt
      have KC := Lib.hid (lchain_any d' x w10 H10.out.k.lk hxs)
      go_wp2_with fail
      refine KC.out.mono ?_
      rintro e w11 ⟨⟨k, hch, hrow⟩, b11⟩
      obtain ⟨A11, q11, rfl, _⟩ := rowE_sl hrow
      have H11 := Lib.hid (H10.out.on b11)
      have hk2 := chs_len d'.Z d'.ls x k
      rw [hk2]
      rw [HZ'.out, HE3.out] at hch
      obtain rfl := chain_two HXU.out HFU.out HXF.out hch
      clear KC b11 c0 c1 c2 hch hrow hk2 H10 HB10 f0 f1 f2 f3 hgl
      have KW := Lib.hid (well_any d' w11 H11.out.ev H11.out.k.lk.at_ HOK'.out true HR'.out _ HALL'.out)
      have c0 := H11.out.k.bx.at_ 0 _ rfl
      have c1 := H11.out.k.bx.at_ 1 _ rfl
      have c2 := H11.out.k.bx.at_ 2 _ rfl
      go_wp2_with fail
      refine KW.out.mono ?_
      rintro e w12 ⟨he, b12⟩
      obtain rfl := wr_yes he
      have H12 := Lib.hid (H11.out.on b12)
      clear KW b12 c0 c1 c2 H11 he
      have KS := scheck_any d' w12 H12.out.ev HF'.out H12.out.k.lk.at_ true HR'.out
      rw [if_pos rfl] at KS
      have KS := Lib.hid KS
      have c0 := H12.out.k.bx.at_ 0 _ rfl
      have c1 := H12.out.k.bx.at_ 1 _ rfl
      have c2 := H12.out.k.bx.at_ 2 _ rfl
      go_wp2_with fail
      refine KS.out.mono ?_
      rintro e w13 ⟨rfl, b13⟩
      have H13 := Lib.hid (H12.out.on b13)
      clear KS b13 c0 c1 c2 H12
      have hfin := H13.out.k.bel
      go_wp2_with fail
      go_ret
      exact ⟨rfl, hfin⟩
end Go.Proofs.YthlbockphdbpkaaDoor
