/- ValidEach. (By program: genve.py.) -/
import Derived.Test.YthlbockphdbpkaaDoorVg
import Derived.Test.YthlbockphdbpkaaDoorL14
import Derived.Test.YthlbockphdbpkaaDoorSm
namespace Go.Proofs.YthlbockphdbpkaaDoor
open Go.RowKit Go.Maps
set_option maxRecDepth 100000
theorem v0_start (w : World) (d : Sd) (r : Ru) (z : Zd) (hd : d.at_ w w.heap.size) (hz : Rk w w.heap.size z.A (z.es.flatMap ecell)) (hE : Ev w) : V0 w d r z (allocs w [.cells #[.slice d.rA d.rs.length d.rc, .slice d.zA d.zs.length d.zc, .slice d.lA d.ls.length d.lc] 26, .cells #[.string r.nm, .int .i64 r.fr, .int .i64 r.tl, .int .i64 r.m, .int .u8 r.k, .int .i64 r.n, .int .i64 r.d, .int .i64 r.s, .int .u8 r.c, .int .i64 r.sv, .string r.lt] 34, .cells #[.string z.nm, .slice z.A z.es.length z.c] 37]) := by
  have hb := allocs_below [.cells #[.slice d.rA d.rs.length d.rc, .slice d.zA d.zs.length d.zc, .slice d.lA d.ls.length d.lc] 26, .cells #[.string r.nm, .int .i64 r.fr, .int .i64 r.tl, .int .i64 r.m, .int .u8 r.k, .int .i64 r.n, .int .i64 r.d, .int .i64 r.s, .int .u8 r.c, .int .i64 r.sv, .string r.lt] 34, .cells #[.string z.nm, .slice z.A z.es.length z.c] 37] w
  have h0 := allocs_at [.cells #[.slice d.rA d.rs.length d.rc, .slice d.zA d.zs.length d.zc, .slice d.lA d.ls.length d.lc] 26, .cells #[.string r.nm, .int .i64 r.fr, .int .i64 r.tl, .int .i64 r.m, .int .u8 r.k, .int .i64 r.n, .int .i64 r.d, .int .i64 r.s, .int .u8 r.c, .int .i64 r.sv, .string r.lt] 34, .cells #[.string z.nm, .slice z.A z.es.length z.c] 37] w 0 _ rfl
  have h1 := allocs_at [.cells #[.slice d.rA d.rs.length d.rc, .slice d.zA d.zs.length d.zc, .slice d.lA d.ls.length d.lc] 26, .cells #[.string r.nm, .int .i64 r.fr, .int .i64 r.tl, .int .i64 r.m, .int .u8 r.k, .int .i64 r.n, .int .i64 r.d, .int .i64 r.s, .int .u8 r.c, .int .i64 r.sv, .string r.lt] 34, .cells #[.string z.nm, .slice z.A z.es.length z.c] 37] w 1 _ rfl
  have h2 := allocs_at [.cells #[.slice d.rA d.rs.length d.rc, .slice d.zA d.zs.length d.zc, .slice d.lA d.ls.length d.lc] 26, .cells #[.string r.nm, .int .i64 r.fr, .int .i64 r.tl, .int .i64 r.m, .int .u8 r.k, .int .i64 r.n, .int .i64 r.d, .int .i64 r.s, .int .u8 r.c, .int .i64 r.sv, .string r.lt] 34, .cells #[.string z.nm, .slice z.A z.es.length z.c] 37] w 2 _ rfl
  exact ⟨Bx.blk h0, Bx.blk h1, Bx.blk h2, hd.on hb, hz.on hb, hE.below hb, hb⟩
/-- The rules and the zone alone. -/
def one8 (n : Nat) (d : Sd) (z : Zd) : Sd := ⟨d.rA, d.rc, d.rs, some ⟨n, 0, none⟩, 1, [z], none, 0, []⟩
def two8 (n : Nat) (r : Ru) (z : Zd) : Sd := ⟨some ⟨n, 0, none⟩, 1, [r], some ⟨n + 1, 0, none⟩, 1, [z], none, 0, []⟩
theorem own_room {W : World} {B T k n c : Nat} {A : Option Addr} {xs : List Value} (h : W.ownsRow B T k (.slice A n c) n xs) : n ≤ c := by
  rcases h.2 with ⟨_, h0⟩ | ⟨g, cap, cur, hv, _, _, hc, _⟩
  · omega
  · injection hv with _ _ hc'
    omega
theorem of_pos {d : Sd} {N : ByteArray} (h : N ∈ d.rs.map Ru.nm) : 0 < (d.of N).length := by
  obtain ⟨q, hq, rfl⟩ := List.mem_map.1 h
  exact List.length_pos_of_mem (List.mem_filter.2 ⟨hq, by simp⟩)
set_option maxHeartbeats 16000000 in
theorem walkValidEach (d : Sd) (hf : d.fits) (hn0 : d.rA = none → d.rc = 0) (hn1 : d.zA = none → d.zc = 0) (r : Ru) (hr : r.nm.size ≤ 9223372036854775807 ∧ r.lt.size ≤ 9223372036854775807) (z : Zd) (hz : z.nm.size ≤ 9223372036854775807 ∧ z.es.length ≤ 9223372036854775807 ∧ ∀ e ∈ z.es, e.ru.size ≤ 9223372036854775807 ∧ e.fm.size ≤ 9223372036854775807)
    (w : World) (hd : d.at_ w w.heap.size) (hze : Rk w w.heap.size z.A (z.es.flatMap ecell)) (hE : Ev w) :
    Calls Tryd.prog 3 #[d.val, ruV r, .agg #[.string z.nm, .slice z.A z.es.length z.c]] w fun e w' => e = .returned (.bool true) ∧ Below w.heap.size w w' := by
  have H0 : Hid (V0 w d r z (((w.alloc (.cells #[.slice d.rA d.rs.length d.rc, .slice d.zA d.zs.length d.zc, .slice d.lA d.ls.length d.lc] 26)).alloc (.cells #[.string r.nm, .int .i64 r.fr, .int .i64 r.tl, .int .i64 r.m, .int .u8 r.k, .int .i64 r.n, .int .i64 r.d, .int .i64 r.s, .int .u8 r.c, .int .i64 r.sv, .string r.lt] 34)).alloc (.cells #[.string z.nm, .slice z.A z.es.length z.c] 37))) := Lib.hid (v0_start w d r z hd hze hE)
  have HL := Lib.hid (lives14_true _ H0.out.ev)
  have HF := Lib.hid hf
  have HN0 := Lib.hid hn0
  have HN1 := Lib.hid hn1
  have HRS := Lib.hid hr
  have HZS := Lib.hid hz
  have HD0 := Lib.hid hd
  have HZ0 := Lib.hid hze
  have HE0 := Lib.hid hE
  clear hE hd hze hn0 hn1 hr hz hf
  go_enter Tryd.func3, Tryd.ntmps3
  go_wp2_with fail
  refine HL.out.mono ?_
  rintro e w1 ⟨rfl, b1⟩
  have H1 := Lib.hid (H0.out.on b1)
  clear HL b1 H0
  have c0 := H1.out.bx.at_ 0 _ rfl
  have c1 := H1.out.bx.at_ 1 _ rfl
  have c2 := H1.out.bx.at_ 2 _ rfl
  have HS := Lib.hid (ssmall_any d w1 HF.out H1.out.at_)
  go_wp2_with fail
  refine HS.out.mono ?_
  rintro e w2 ⟨hse, b2⟩
  have H2 := Lib.hid (H1.out.on b2)
  clear HS b2 c0 c1 c2 H1
  rcases hse with rfl | ⟨rfl, g1, g2, g3, g4⟩
  · have hfin := H2.out.bel
    go_wp2_with fail
    go_ret
    exact ⟨rfl, hfin⟩
  have HG := Lib.hid (And.intro g1 (And.intro g2 (And.intro g3 g4)))
  have HOK := Lib.hid (fok_small HF.out g1 g2 (Nat.le_trans g3 (by decide)) g4)
  clear g1 g2 g3 g4
  have r0 := H2.out.br.at_ 0 _ rfl
  have r1 := H2.out.br.at_ 1 _ rfl
  have r2 := H2.out.br.at_ 2 _ rfl
  have r3 := H2.out.br.at_ 3 _ rfl
  have r4 := H2.out.br.at_ 4 _ rfl
  have r5 := H2.out.br.at_ 5 _ rfl
  have r6 := H2.out.br.at_ 6 _ rfl
  have r7 := H2.out.br.at_ 7 _ rfl
  have r8 := H2.out.br.at_ 8 _ rfl
  have r9 := H2.out.br.at_ 9 _ rfl
  have r10 := H2.out.br.at_ 10 _ rfl
  have z0 := H2.out.bz.at_ 0 _ rfl
  have z1 := H2.out.bz.at_ 1 _ rfl
  have hzl := H2.out.bz.lt
  have hzl2 : w.heap.size + 1 < w2.heap.size := by omega
  have hzl3 : w.heap.size < w2.heap.size := by omega
  have HB2 := Lib.hid (allocs_below [.cells #[.string r.nm, .int .i64 r.fr, .int .i64 r.tl, .int .i64 r.m, .int .u8 r.k, .int .i64 r.n, .int .i64 r.d, .int .i64 r.s, .int .u8 r.c, .int .i64 r.sv, .string r.lt] 34, .cells #[.string z.nm, .slice z.A z.es.length z.c] 37] w2)
  have H3 : Hid (V0 w d r z ((w2.alloc (.cells #[.string r.nm, .int .i64 r.fr, .int .i64 r.tl, .int .i64 r.m, .int .u8 r.k, .int .i64 r.n, .int .i64 r.d, .int .i64 r.s, .int .u8 r.c, .int .i64 r.sv, .string r.lt] 34)).alloc (.cells #[.string z.nm, .slice z.A z.es.length z.c] 37))) := Lib.hid (H2.out.on HB2.out)
  have q0 := allocs_at [.cells #[.string r.nm, .int .i64 r.fr, .int .i64 r.tl, .int .i64 r.m, .int .u8 r.k, .int .i64 r.n, .int .i64 r.d, .int .i64 r.s, .int .u8 r.c, .int .i64 r.sv, .string r.lt] 34, .cells #[.string z.nm, .slice z.A z.es.length z.c] 37] w2 0 _ rfl
  have q1 := allocs_at [.cells #[.string r.nm, .int .i64 r.fr, .int .i64 r.tl, .int .i64 r.m, .int .u8 r.k, .int .i64 r.n, .int .i64 r.d, .int .i64 r.s, .int .u8 r.c, .int .i64 r.sv, .string r.lt] 34, .cells #[.string z.nm, .slice z.A z.es.length z.c] 37] w2 1 _ rfl
  have HT : Hid ((two8 w2.heap.size r z).at_ ((w2.alloc (.cells #[.string r.nm, .int .i64 r.fr, .int .i64 r.tl, .int .i64 r.m, .int .u8 r.k, .int .i64 r.n, .int .i64 r.d, .int .i64 r.s, .int .u8 r.c, .int .i64 r.sv, .string r.lt] 34)).alloc (.cells #[.string z.nm, .slice z.A z.es.length z.c] 37)) ((w2.alloc (.cells #[.string r.nm, .int .i64 r.fr, .int .i64 r.tl, .int .i64 r.m, .int .u8 r.k, .int .i64 r.n, .int .i64 r.d, .int .i64 r.s, .int .u8 r.c, .int .i64 r.sv, .string r.lt] 34)).alloc (.cells #[.string z.nm, .slice z.A z.es.length z.c] 37)).heap.size) := Lib.hid ⟨rk_lit q0, rk_lit q1, mem_one H3.out.ze, Rk.nil⟩
  have HTF : Hid ((two8 w2.heap.size r z).fits) := Lib.hid ⟨(by decide : (1 : Nat) ≤ 9223372036854775807), (by decide : (1 : Nat) ≤ 9223372036854775807), (by decide : (0 : Nat) ≤ 9223372036854775807), mem_one HRS.out, mem_one HZS.out, fun _ h => by cases h⟩
  have HS := Lib.hid (ssmall_any (two8 w2.heap.size r z) _ HTF.out HT.out)
  clear q0 q1
  go_wp2_with fail
  refine HS.out.mono ?_
  rintro e w4 ⟨hse, b4⟩
  have H4 := Lib.hid (H3.out.on b4)
  clear HS b4 H3 H2 HB2 HT HTF z0 z1 r0 r1 r2 r3 r4 r5 r6 r7 r8 r9 r10
  rcases hse with rfl | ⟨rfl, _, _, _, g4⟩
  · have hfin := H4.out.bel
    go_wp2_with fail
    go_ret
    exact ⟨rfl, hfin⟩
  have HZ12 : Hid (z.es.length ≤ 12) := Lib.hid (g4 z (List.mem_singleton.2 rfl))
  clear g4
  have c0 := H4.out.bx.at_ 0 _ rfl
  have c1 := H4.out.bx.at_ 1 _ rfl
  have c2 := H4.out.bx.at_ 2 _ rfl
  obtain ⟨v, hv⟩ : ∃ v, So.right d.src = v := ⟨_, rfl⟩
  obtain ⟨L, hL⟩ : ∃ L, Vd.all d = L := ⟨_, rfl⟩
  have KW := Lib.hid (well_any d w4 H4.out.ev H4.out.at_ HOK.out v hv L hL)
  have HV := Lib.hid hv
  have HVL := Lib.hid hL
  clear hv hL
  go_wp2_with fail
  refine KW.out.mono ?_
  rintro e w5 ⟨rfl, b5⟩
  have H5 := Lib.hid (H4.out.on b5)
  clear KW b5 c0 c1 c2 H4
  obtain ⟨vb, hvb⟩ : ∃ vb, (v && L.isEmpty) = vb := ⟨_, rfl⟩
  have HVB := Lib.hid hvb
  rw [hvb]
  clear hvb
  cases vb with
  | false =>
    have hfin := H5.out.bel
    go_wp2_with fail
    go_ret
    exact ⟨rfl, hfin⟩
  | true =>
  have HH : Hid (v = true ∧ L = []) := Lib.hid (by
    have := HVB.out
    rw [Bool.and_eq_true] at this
    exact ⟨this.1, List.isEmpty_iff.1 this.2⟩)
  have HR : Hid (So.right d.src = true) := Lib.hid (HV.out.trans HH.out.1)
  have HALL : Hid (Vd.all d = []) := Lib.hid (HVL.out.trans HH.out.2)
  clear HV HVL HVB HH
  have c0 := H5.out.bx.at_ 0 _ rfl
  have c1 := H5.out.bx.at_ 1 _ rfl
  have c2 := H5.out.bx.at_ 2 _ rfl
  have hnn : d.names.length ≤ 1000 := by
    have h1 := HG.out.2.1
    have h2 := HG.out.2.2.1
    unfold Sd.names
    rw [List.length_append, List.length_map, List.length_map]
    omega
  have KN := Lib.hid (names_any d w5 H5.out.at_ (by have h1 := HG.out.2.1; have h2 := HG.out.2.2.1; omega))
  go_wp2_with fail
  refine KN.out.mono ?_
  rintro e w6 ⟨hrow, b6⟩
  have hcap : ∃ A c, e = .returned (.slice A d.names.length c) ∧ Sl w6 w6.heap.size A d.names.length (fun i => .string (d.names.getD i ByteArray.empty)) ∧ d.names.length ≤ c := by
    obtain ⟨A, c, he, ho⟩ := hrow
    exact ⟨A, c, he, sl_of_own ho, own_room ho⟩
  obtain ⟨A, qc, rfl, s6, hqc⟩ := hcap
  have H6 := Lib.hid (H5.out.on b6)
  have HA := Lib.hid s6
  clear KN hrow b6 c0 c1 c2 H5 s6
  generalize hL : d.names.length = nn at *
  have HNN := Lib.hid hL
  clear hL
  have HNOD := Lib.hid (all_nil.1 HALL.out).1
  go_wp2_with fail
  go_loopw [43] (fun i wr => ∃ j : Nat, j ≤ nn ∧ i = .int .i64 j ∧ Hid (V0 w d r z wr) ∧ Hid (Sl wr wr.heap.size A nn (fun i => .string (d.names.getD i ByteArray.empty))) ∧ Hid (∀ i x, i < j → d.names[i]? = some x → x ≠ z.nm)) (fun i _ => nn - (intOf i).toNat)
  case atStart => exact ⟨0, Nat.zero_le _, rfl, H6, HA, Lib.hid (fun i x h => absurd h (Nat.not_lt_zero _))⟩
  case round =>
    clear H6 HA
    obtain ⟨j, hj, rfl, H6, HA, HNE⟩ := hrel
    by_cases hlt : j < nn
    · obtain ⟨y, hy⟩ : ∃ y, d.names[j]? = some y := ⟨_, List.getElem?_eq_getElem (by rw [HNN.out]; exact hlt)⟩
      have HY := Lib.hid hy
      have hym : y ∈ d.names := List.mem_of_getElem? hy
      have hys := names_sz HF.out y hym
      obtain ⟨b, hb⟩ : ∃ b, Ld.zn d.Z d.ls y = (b, 0) := by
        have h := names_lead (all_nil.1 HALL.out).2.2.2 hym
        exact ⟨(Ld.zn d.Z d.ls y).1, Prod.ext rfl h⟩
      obtain ⟨ad, rfl, hal, hac⟩ := HA.out (by omega)
      have hyc : wr.cell? (ad.add j) = some (.string y) := by
        have h2 := hac j hlt
        change _ = some (Value.string (d.names.getD j ByteArray.empty)) at h2
        rw [List.getD_eq_getElem?_getD, hy] at h2
        exact h2
      have KZ := lzone_any d y wr (lok_of HF.out H6.out.at_ HG.out.2.1 HG.out.2.2.1) hys
      rw [hb] at KZ
      have KZ := Lib.hid KZ
      have c0 := H6.out.bx.at_ 0 _ rfl
      have c1 := H6.out.bx.at_ 1 _ rfl
      have c2 := H6.out.bx.at_ 2 _ rfl
      clear hy hym hb hac hal
      go_wp2_with fail
      refine KZ.out.mono ?_
      rintro e w7 ⟨rfl, b7⟩
      have H7 := Lib.hid (H6.out.on b7)
      have HA7 := Lib.hid ((HA.out.below b7).more b7.size)
      clear KZ b7 c0 c1 c2 H6 HA hyc
      have z0 := H7.out.bz.at_ 0 _ rfl
      by_cases hyz : y = z.nm
      case pos =>
        have t1 : y.toList = z.nm.toList := by rw [hyz]
        have t2 : (y.toList == z.nm.toList) = true := by rw [hyz]; simp
        clear hyz
        have hfin := H7.out.bel
        go_wp2_with fail
        go_ret
        exact ⟨rfl, hfin⟩
      have t1 : ¬ y.toList = z.nm.toList := fun e => hyz (ba_ext (by rw [← ByteArray.toList_eq, ← ByteArray.toList_eq]; exact e))
      have t2 : (y.toList == z.nm.toList) = false := by simpa using t1
      have HYZ := Lib.hid hyz
      have HLT := Lib.hid hlt
      clear hyz
      have t3 : decide (qc < j) = false := decide_eq_false (by omega)
      have t4 : ¬ qc < j := by omega
      go_wp2_with fail
      go_loop [68] (fun i => ∃ m : Nat, m ≤ j ∧ i = .int .i64 m) (fun i => j - (intOf i).toNat)
      case atStart => exact ⟨0, Nat.zero_le _, rfl⟩
      case round =>
        obtain ⟨m, hm, rfl⟩ := hrel
        by_cases hlt2 : m < j
        · obtain ⟨x, hx⟩ : ∃ x, d.names[m]? = some x := ⟨_, List.getElem?_eq_getElem (by rw [HNN.out]; have := HLT.out; omega)⟩
          have hxc : w7.cell? (ad.add m) = some (.string x) := by
            obtain ⟨ad2, e2, _, hac⟩ := HA7.out (by have := HLT.out; omega)
            injection e2 with e2
            subst e2
            have h2 := hac m (by have := HLT.out; omega)
            change _ = some (Value.string (d.names.getD m ByteArray.empty)) at h2
            rw [List.getD_eq_getElem?_getD, hx] at h2
            exact h2
          have hxy : ¬ x = y := fun e => by
            have h1 := HNOD.out
            rw [List.Nodup, List.pairwise_iff_getElem] at h1
            obtain ⟨hi, ei⟩ := List.getElem?_eq_some_iff.1 hx
            obtain ⟨hk, ek⟩ := List.getElem?_eq_some_iff.1 HY.out
            exact h1 m j hi hk hlt2 (by rw [ei, ek, e])
          have t5 : ¬ x.toList = y.toList := fun e => hxy (ba_ext (by rw [← ByteArray.toList_eq, ← ByteArray.toList_eq]; exact e))
          have t6 : (x.toList == y.toList) = false := by simpa using t5
          clear hx hxy
          go_wp2_with fail
          go_round
          case rel => exact ⟨m + 1, by omega, by go_num⟩
          case measure => simp [intOf]; omega
        · obtain rfl : m = j := by omega
          go_wp2_with fail
          go_roundw
          case rel =>
            exact ⟨m + 1, by have := HLT.out; omega, by go_num, H7, HA7, Lib.hid (fun i x hi hx => by
              rcases Nat.lt_or_ge i m with h | h
              · exact HNE.out i x h hx
              · obtain rfl : i = m := by omega
                rw [HY.out] at hx
                injection hx with hx
                rw [← hx]
                exact HYZ.out)⟩
          case measure =>
            have := HLT.out
            simp [intOf]; omega
    · obtain rfl : j = nn := by omega
      have HZN : Hid (z.nm ∉ d.names) := Lib.hid (fun h => by
        obtain ⟨i, hi⟩ := List.getElem?_of_mem h
        obtain ⟨hl, _⟩ := List.getElem?_eq_some_iff.1 hi
        rw [HNN.out] at hl
        exact HNE.out i _ hl hi rfl)
      clear HNE HA
      have HRL := Lib.hid (all_nil.1 HALL.out).2.1
      obtain ⟨nz, hnz⟩ : ∃ nz, d.zs.length = nz := ⟨_, rfl⟩
      have HNZ := Lib.hid hnz
      have hnz12 : nz ≤ 12 := by rw [← hnz]; exact HG.out.2.1
      have c1 : wr.cell? ⟨w.heap.size, 1, none⟩ = some (.slice d.zA nz d.zc) := by rw [← hnz]; exact H6.out.bx.at_ 1 _ rfl
      clear hnz
      go_wp2_with fail
      go_loopw [80] (fun i wr => ∃ k : Nat, k ≤ nz ∧ i = .int .i64 k ∧ Hid (V0 w d r z wr)) (fun i _ => nz - (intOf i).toNat)
      case atStart => exact ⟨0, Nat.zero_le _, rfl, H6⟩
      case round =>
        clear H6 c1
        obtain ⟨k, hk, rfl, H6⟩ := hrel
        by_cases hlt3 : k < nz
        · obtain ⟨x, hx⟩ : ∃ x, d.zs[k]? = some x := ⟨_, List.getElem?_eq_getElem (by rw [HNZ.out]; exact hlt3)⟩
          obtain ⟨b, o, hA, hb, hc⟩ := H6.out.at_.z.at_ zcell_len (by decide) hx
          have hmx := List.mem_of_getElem? hx
          have HMX := Lib.hid hmx
          obtain ⟨ne, hne⟩ : ∃ ne, x.es.length = ne := ⟨_, rfl⟩
          have HNE := Lib.hid hne
          have hne12 : ne ≤ 12 := by rw [← hne]; exact HG.out.2.2.2 x hmx
          have q0 : wr.cell? ⟨b, o + k * 2, none⟩ = some (Value.string x.nm) := hc 0 _ rfl
          have q1 : wr.cell? ⟨b, o + k * 2 + 1, none⟩ = some (Value.slice x.A ne x.c) := by rw [← hne]; exact hc 1 _ rfl
          have bz := box_below wr (.cells #[.string x.nm, .slice x.A ne x.c] 37)
          have H7 := Lib.hid (H6.out.on bz)
          rw [hA]
          have HLT3 := Lib.hid hlt3
          clear hc hx hmx hne hA bz H6
          go_wp2_with fail
          go_loopw [87] (fun i wr => ∃ m : Nat, m ≤ ne ∧ i = .int .i64 m ∧ Hid (V0 w d r z wr)) (fun i _ => ne - (intOf i).toNat)
          case atStart => exact ⟨0, Nat.zero_le _, rfl, H7⟩
          case round =>
            clear H7 q0 q1
            obtain ⟨m, hm, rfl, H7⟩ := hrel
            by_cases hlt4 : m < ne
            · obtain ⟨y, hy⟩ : ∃ y, x.es[m]? = some y := ⟨_, List.getElem?_eq_getElem (by rw [HNE.out]; exact hlt4)⟩
              obtain ⟨b2, o2, hA2, hb2, hc2⟩ := (H7.out.at_.e x HMX.out).at_ ecell_len (by decide) hy
              have hym := List.mem_of_getElem? hy
              have e0 : wr.cell? ⟨b2, o2 + m * 13, none⟩ = some (.int .i64 y.sd) := hc2 0 _ rfl
              have e1 : wr.cell? ⟨b2, o2 + m * 13 + 1, none⟩ = some (.int .u8 y.k) := hc2 1 _ rfl
              have e2 : wr.cell? ⟨b2, o2 + m * 13 + 2, none⟩ = some (.int .i64 y.sv) := hc2 2 _ rfl
              have e3 : wr.cell? ⟨b2, o2 + m * 13 + 3, none⟩ = some (.string y.ru) := hc2 3 _ rfl
              have e4 : wr.cell? ⟨b2, o2 + m * 13 + 4, none⟩ = some (.string y.fm) := hc2 4 _ rfl
              have e5 : wr.cell? ⟨b2, o2 + m * 13 + 5, none⟩ = some (.bool y.en) := hc2 5 _ rfl
              have e6 : wr.cell? ⟨b2, o2 + m * 13 + 6, none⟩ = some (.int .i64 y.u.y) := hc2 6 _ rfl
              have e7 : wr.cell? ⟨b2, o2 + m * 13 + 7, none⟩ = some (.int .i64 y.u.m) := hc2 7 _ rfl
              have e8 : wr.cell? ⟨b2, o2 + m * 13 + 8, none⟩ = some (.int .u8 y.u.k) := hc2 8 _ rfl
              have e9 : wr.cell? ⟨b2, o2 + m * 13 + 9, none⟩ = some (.int .i64 y.u.n) := hc2 9 _ rfl
              have e10 : wr.cell? ⟨b2, o2 + m * 13 + 10, none⟩ = some (.int .i64 y.u.d) := hc2 10 _ rfl
              have e11 : wr.cell? ⟨b2, o2 + m * 13 + 11, none⟩ = some (.int .i64 y.u.s) := hc2 11 _ rfl
              have e12 : wr.cell? ⟨b2, o2 + m * 13 + 12, none⟩ = some (.int .u8 y.u.c) := hc2 12 _ rfl
              have bz := box_below wr (.cells #[.int .i64 y.sd, .int .u8 y.k, .int .i64 y.sv, .string y.ru, .string y.fm, .bool y.en, .int .i64 y.u.y, .int .i64 y.u.m, .int .u8 y.u.k, .int .i64 y.u.n, .int .i64 y.u.d, .int .i64 y.u.s, .int .u8 y.u.c] 50)
              have H8 := Lib.hid (H7.out.on bz)
              rw [hA2]
              have HLT4 := Lib.hid hlt4
              have HYM := Lib.hid hym
              clear hc2 hy hym hA2 bz
              by_cases hk2 : y.k = 2
              · have hru := HRL.out x HMX.out y HYM.out hk2
                have t1 : (y.k == 2) = true := by rw [hk2]; rfl
                have KR := Lib.hid (rules_any d y.ru _ H8.out.at_ (by have := HG.out.1; omega))
                have s0 := H7.out.bx.at_ 0 _ rfl
                have s1 := H7.out.bx.at_ 1 _ rfl
                have s2 := H7.out.bx.at_ 2 _ rfl
                have hbl := H7.out.bx.lt
                have HOP := Lib.hid (of_pos hru)
                clear hru H7 hk2
                go_wp2_with fail
                refine KR.out.mono ?_
                rintro e w9 ⟨⟨A9, q9, rfl, _⟩, b9⟩
                have H9 := Lib.hid (H8.out.on b9)
                obtain ⟨nr, hnr⟩ : ∃ nr, (d.of y.ru).length = nr := ⟨_, rfl⟩
                rw [hnr]
                have t2 : ((nr : Int) == 0) = false := by rw [beq_eq_false_iff_ne, ← hnr]; have := HOP.out; omega
                clear KR b9 s0 s1 s2 hbl hnr H8
                go_wp2_with fail
                go_roundw
                case rel => exact ⟨m + 1, HLT4.out, by go_num, H9⟩
                case measure =>
                  have := HLT4.out
                  simp [intOf]; omega
              · have t1 : (y.k == 2) = false := by rw [beq_eq_false_iff_ne]; exact hk2
                go_wp2_with fail
                go_roundw
                case rel => exact ⟨m + 1, HLT4.out, by go_num, H8⟩
                case measure =>
                  have := HLT4.out
                  simp [intOf]; omega
            · obtain rfl : m = ne := by omega
              go_wp2_with fail
              go_roundw
              case rel => exact ⟨k + 1, HLT3.out, by go_num, H7⟩
              case measure =>
                have := HLT3.out
                simp [intOf]; omega
        · obtain rfl : k = nz := by omega
          have c0 := H6.out.bx.at_ 0 _ rfl
          have c1 := H6.out.bx.at_ 1 _ rfl
          have c2 := H6.out.bx.at_ 2 _ rfl
          go_upto_region 30 with fail
          have hgt : w.heap.size + 1 + 1 < wr.heap.size := H6.out.bz.lt
          have H7 : Hid (V0 w d r z (wr.alloc (.cells #[.slice d.rA d.rs.length d.rc, .slice d.zA d.zs.length d.zc, .slice d.lA d.ls.length d.lc] 26))) := Lib.hid (H6.out.on (box_below wr (.cells #[.slice d.rA d.rs.length d.rc, .slice d.zA d.zs.length d.zc, .slice d.lA d.ls.length d.lc] 26)))
          have hblk := heap_alloc_new wr (.cells #[.slice d.rA d.rs.length d.rc, .slice d.zA d.zs.length d.zc, .slice d.lA d.ls.length d.lc] 26)
          have hsz : wr.heap.size < (wr.alloc (.cells #[.slice d.rA d.rs.length d.rc, .slice d.zA d.zs.length d.zc, .slice d.lA d.ls.length d.lc] 26)).heap.size := by simp
          have hrs40 : d.rs.length ≤ 40 := HG.out.1
          have hzs12 : d.zs.length ≤ 12 := HG.out.2.1
          generalize hgq : wr.heap.size = gt at *
          clear hgq
          generalize wr.alloc (.cells #[.slice d.rA d.rs.length d.rc, .slice d.zA d.zs.length d.zc, .slice d.lA d.ls.length d.lc] 26) = W0 at *
          have HW8 := Lib.hid (H7.out.r8 hgt)
          have hk1 := cell_blk hblk 1
          have hk2 := cell_blk hblk 2
          have hk3 := frozen_blk hblk 0
          have hk4 := cell_blk hblk 0
          change W0.cell? ⟨gt, 1, none⟩ = some (.slice d.zA d.zs.length d.zc) at hk1
          change W0.cell? ⟨gt, 2, none⟩ = some (.slice d.lA d.ls.length d.lc) at hk2
          change W0.cell? ⟨gt, 0, none⟩ = some (.slice d.rA d.rs.length d.rc) at hk4
          clear hblk c0 c1 c2 H6
          obtain ⟨i0, hi0, hi1, hi2, hi3⟩ := info_parts rule_info
          have hn0 : gt < W0.heap.size := hsz
          have OWA : Hid ((W0.alloc (.cells #[] 34)).drew.ownsRow (W0.heap.size) 34 11 (.slice (some ⟨W0.heap.size, 0, none⟩) 0 0) 0 ([])) := Lib.hid (own_empty (heap_alloc_new W0 (.cells #[] 34)))
          have OWB : Hid (((W0.alloc (.cells #[] 34)).alloc (.cells #[.string r.nm, .int .i64 r.fr, .int .i64 r.tl, .int .i64 r.m, .int .u8 r.k, .int .i64 r.n, .int .i64 r.d, .int .i64 r.s, .int .u8 r.c, .int .i64 r.sv, .string r.lt] 34)).drew.ownsRow (W0.heap.size) 34 11 (.slice (some ⟨W0.heap.size, 0, none⟩) 0 0) 0 ([])) := Lib.hid (World.ownsRow.alloc (w := W0.alloc (.cells #[] 34)) (own_empty (heap_alloc_new W0 (.cells #[] 34))) (.cells #[.string r.nm, .int .i64 r.fr, .int .i64 r.tl, .int .i64 r.m, .int .u8 r.k, .int .i64 r.n, .int .i64 r.d, .int .i64 r.s, .int .u8 r.c, .int .i64 r.sv, .string r.lt] 34))
          have RC0 : (W0.alloc (.cells #[.string r.nm, .int .i64 r.fr, .int .i64 r.tl, .int .i64 r.m, .int .u8 r.k, .int .i64 r.n, .int .i64 r.d, .int .i64 r.s, .int .u8 r.c, .int .i64 r.sv, .string r.lt] 34)).heap.size = W0.heap.size + 1 := by simp
          have RC1 := heap_alloc_new (W0.alloc (.cells #[.string r.nm, .int .i64 r.fr, .int .i64 r.tl, .int .i64 r.m, .int .u8 r.k, .int .i64 r.n, .int .i64 r.d, .int .i64 r.s, .int .u8 r.c, .int .i64 r.sv, .string r.lt] 34)) (.cells #[] 34)
          rw [RC0] at RC1
          have OWC : Hid (((W0.alloc (.cells #[.string r.nm, .int .i64 r.fr, .int .i64 r.tl, .int .i64 r.m, .int .u8 r.k, .int .i64 r.n, .int .i64 r.d, .int .i64 r.s, .int .u8 r.c, .int .i64 r.sv, .string r.lt] 34)).alloc (.cells #[] 34)).drew.ownsRow (W0.heap.size) 34 11 (.slice (some ⟨W0.heap.size + 1, 0, none⟩) 0 0) 0 ([])) := Lib.hid (own_mono (own_empty RC1) (Nat.le_succ _))
          have RB0 : (W0.alloc (.cells #[] 34)).heap.size = W0.heap.size + 1 := by simp
          have RB1 := heap_alloc_new (W0.alloc (.cells #[] 34)) (.cells #[.string r.nm, .int .i64 r.fr, .int .i64 r.tl, .int .i64 r.m, .int .u8 r.k, .int .i64 r.n, .int .i64 r.d, .int .i64 r.s, .int .u8 r.c, .int .i64 r.sv, .string r.lt] 34)
          rw [RB0] at RB1
          have RB : Hid (((W0.alloc (.cells #[] 34)).alloc (.cells #[.string r.nm, .int .i64 r.fr, .int .i64 r.tl, .int .i64 r.m, .int .u8 r.k, .int .i64 r.n, .int .i64 r.d, .int .i64 r.s, .int .u8 r.c, .int .i64 r.sv, .string r.lt] 34)).drew.heap[W0.heap.size + 1]? = some (.cells #[.string r.nm, .int .i64 r.fr, .int .i64 r.tl, .int .i64 r.m, .int .u8 r.k, .int .i64 r.n, .int .i64 r.d, .int .i64 r.s, .int .u8 r.c, .int .i64 r.sv, .string r.lt] 34 (0, 0))) := Lib.hid RB1
          have RC : Hid (((W0.alloc (.cells #[.string r.nm, .int .i64 r.fr, .int .i64 r.tl, .int .i64 r.m, .int .u8 r.k, .int .i64 r.n, .int .i64 r.d, .int .i64 r.s, .int .u8 r.c, .int .i64 r.sv, .string r.lt] 34)).alloc (.cells #[] 34)).drew.heap[W0.heap.size]? = some (.cells #[.string r.nm, .int .i64 r.fr, .int .i64 r.tl, .int .i64 r.m, .int .u8 r.k, .int .i64 r.n, .int .i64 r.d, .int .i64 r.s, .int .u8 r.c, .int .i64 r.sv, .string r.lt] 34 (0, 0))) := Lib.hid (((box_below (W0.alloc (.cells #[.string r.nm, .int .i64 r.fr, .int .i64 r.tl, .int .i64 r.m, .int .u8 r.k, .int .i64 r.n, .int .i64 r.d, .int .i64 r.s, .int .u8 r.c, .int .i64 r.sv, .string r.lt] 34)) (.cells #[] 34)).block (W0.heap.size) (by simp)).trans (heap_alloc_new W0 (.cells #[.string r.nm, .int .i64 r.fr, .int .i64 r.tl, .int .i64 r.m, .int .u8 r.k, .int .i64 r.n, .int .i64 r.d, .int .i64 r.s, .int .u8 r.c, .int .i64 r.sv, .string r.lt] 34)))
          clear RC0 RC1 RB0 RB1
          have RA : Hid (∀ Y : World, Rk (Y.alloc (.cells #[.string r.nm, .int .i64 r.fr, .int .i64 r.tl, .int .i64 r.m, .int .u8 r.k, .int .i64 r.n, .int .i64 r.d, .int .i64 r.s, .int .u8 r.c, .int .i64 r.sv, .string r.lt] 34)) (Y.alloc (.cells #[.string r.nm, .int .i64 r.fr, .int .i64 r.tl, .int .i64 r.m, .int .u8 r.k, .int .i64 r.n, .int .i64 r.d, .int .i64 r.s, .int .u8 r.c, .int .i64 r.sv, .string r.lt] 34)).heap.size (some ⟨Y.heap.size, 0, none⟩) (([r] : List Ru).flatMap rcell)) := Lib.hid (fun Y => rk_lit (heap_alloc_new Y (.cells #[.string r.nm, .int .i64 r.fr, .int .i64 r.tl, .int .i64 r.m, .int .u8 r.k, .int .i64 r.n, .int .i64 r.d, .int .i64 r.s, .int .u8 r.c, .int .i64 r.sv, .string r.lt] 34)))
          have HRK : Hid (∀ Y : World, Y.cell? ⟨w.heap.size, 0, none⟩ = some (.slice d.rA d.rs.length d.rc) ∧ Y.cell? ⟨w.heap.size + 1, 0, none⟩ = some (.string r.nm) ∧ Y.cell? ⟨w.heap.size + 1, 1, none⟩ = some (.int .i64 r.fr) ∧ Y.cell? ⟨w.heap.size + 1, 2, none⟩ = some (.int .i64 r.tl) ∧ Y.cell? ⟨w.heap.size + 1, 3, none⟩ = some (.int .i64 r.m) ∧ Y.cell? ⟨w.heap.size + 1, 4, none⟩ = some (.int .u8 r.k) ∧ Y.cell? ⟨w.heap.size + 1, 5, none⟩ = some (.int .i64 r.n) ∧ Y.cell? ⟨w.heap.size + 1, 6, none⟩ = some (.int .i64 r.d) ∧ Y.cell? ⟨w.heap.size + 1, 7, none⟩ = some (.int .i64 r.s) ∧ Y.cell? ⟨w.heap.size + 1, 8, none⟩ = some (.int .u8 r.c) ∧ Y.cell? ⟨w.heap.size + 1, 9, none⟩ = some (.int .i64 r.sv) ∧ Y.cell? ⟨w.heap.size + 1, 10, none⟩ = some (.string r.lt) ∧ TB w d r z gt 0 1 2 (.slice d.zA d.zs.length d.zc) (.slice d.lA d.ls.length d.lc) Y → Rk Y Y.heap.size d.rA (d.rs.flatMap rcell)) := Lib.hid (fun Y h => (((sR_tb h).r8.v0 HD0.out HZ0.out HE0.out).at_.r))
          have S0 : W0.drew.cell? ⟨w.heap.size, 0, none⟩ = some (.slice d.rA d.rs.length d.rc) ∧ W0.drew.cell? ⟨w.heap.size + 1, 0, none⟩ = some (.string r.nm) ∧ W0.drew.cell? ⟨w.heap.size + 1, 1, none⟩ = some (.int .i64 r.fr) ∧ W0.drew.cell? ⟨w.heap.size + 1, 2, none⟩ = some (.int .i64 r.tl) ∧ W0.drew.cell? ⟨w.heap.size + 1, 3, none⟩ = some (.int .i64 r.m) ∧ W0.drew.cell? ⟨w.heap.size + 1, 4, none⟩ = some (.int .u8 r.k) ∧ W0.drew.cell? ⟨w.heap.size + 1, 5, none⟩ = some (.int .i64 r.n) ∧ W0.drew.cell? ⟨w.heap.size + 1, 6, none⟩ = some (.int .i64 r.d) ∧ W0.drew.cell? ⟨w.heap.size + 1, 7, none⟩ = some (.int .i64 r.s) ∧ W0.drew.cell? ⟨w.heap.size + 1, 8, none⟩ = some (.int .u8 r.c) ∧ W0.drew.cell? ⟨w.heap.size + 1, 9, none⟩ = some (.int .i64 r.sv) ∧ W0.drew.cell? ⟨w.heap.size + 1, 10, none⟩ = some (.string r.lt) ∧ TB w d r z gt 0 1 2 (.slice d.zA d.zs.length d.zc) (.slice d.lA d.ls.length d.lc) W0.drew := sR_drew (by exact ⟨H7.out.bx.at_ 0 _ rfl, H7.out.br.at_ 0 _ rfl, H7.out.br.at_ 1 _ rfl, H7.out.br.at_ 2 _ rfl, H7.out.br.at_ 3 _ rfl, H7.out.br.at_ 4 _ rfl, H7.out.br.at_ 5 _ rfl, H7.out.br.at_ 6 _ rfl, H7.out.br.at_ 7 _ rfl, H7.out.br.at_ 8 _ rfl, H7.out.br.at_ 9 _ rfl, H7.out.br.at_ 10 _ rfl, ⟨HW8.out, hk1, hk2, hk3, ⟨_, hk4⟩, hn0⟩⟩)
          go_cut [] from 105 to 112 (fun wx => ∃ gg cap, TR w d r z gt gg cap wx)
          case first =>
            go_region_held3 (fun w' => w'.cell? ⟨w.heap.size, 0, none⟩ = some (.slice d.rA d.rs.length d.rc) ∧ w'.cell? ⟨w.heap.size + 1, 0, none⟩ = some (.string r.nm) ∧ w'.cell? ⟨w.heap.size + 1, 1, none⟩ = some (.int .i64 r.fr) ∧ w'.cell? ⟨w.heap.size + 1, 2, none⟩ = some (.int .i64 r.tl) ∧ w'.cell? ⟨w.heap.size + 1, 3, none⟩ = some (.int .i64 r.m) ∧ w'.cell? ⟨w.heap.size + 1, 4, none⟩ = some (.int .u8 r.k) ∧ w'.cell? ⟨w.heap.size + 1, 5, none⟩ = some (.int .i64 r.n) ∧ w'.cell? ⟨w.heap.size + 1, 6, none⟩ = some (.int .i64 r.d) ∧ w'.cell? ⟨w.heap.size + 1, 7, none⟩ = some (.int .i64 r.s) ∧ w'.cell? ⟨w.heap.size + 1, 8, none⟩ = some (.int .u8 r.c) ∧ w'.cell? ⟨w.heap.size + 1, 9, none⟩ = some (.int .i64 r.sv) ∧ w'.cell? ⟨w.heap.size + 1, 10, none⟩ = some (.string r.lt) ∧ TB w d r z gt 0 1 2 (.slice d.zA d.zs.length d.zc) (.slice d.lA d.ls.length d.lc) w')
              (first | assumption | exact sR_al (by assumption) | exact sR_set (by assumption))
              (first
                | ((with_reducible change (if Region.wanted _ _ = true then Oper.wp _ _ _ ((W0.alloc (.cells #[] 34)).drew) _ _ else _)); refine step_rows (enc := rcell) rcell_len (by decide) rcell_one Tryd.underlying22 hi0 hi1 hi2 hi3 rfl (by decide) (by rfl) (.tmp 105) (.tmp 107) (by rfl) (W0.heap.size) (.slice (some ⟨W0.heap.size, 0, none⟩) 0 0) ([] : List Ru) (by rfl) OWA.out d.rA d.rc d.rs (by rfl) HN0.out (HRK.out _ (by assumption)) (by first | omega | (simp; done) | (simp; omega)) (by first | omega | (simp; done) | (simp; omega)) ?_; intro v1 Y1 hown1 hg1; have hS1 := sR_gr (by assumption) hg1 (fun k q => Nat.lt_of_lt_of_le hn0 (OWA.out.lt k q).1); have hz1 : W0.heap.size ≤ Y1.heap.size := Nat.le_trans (Nat.le_of_lt (OWA.out.lt _ rfl).2) hg1.size; have HO1 : Hid (Y1.ownsRow (W0.heap.size) 34 11 v1 d.rs.length (d.rs.flatMap rcell)) := Lib.hid hown1; clear hown1 hg1)
                | ((with_reducible change (if Region.wanted _ _ = true then Oper.wp _ _ _ (((W0.alloc (.cells #[] 34)).alloc (.cells #[.string r.nm, .int .i64 r.fr, .int .i64 r.tl, .int .i64 r.m, .int .u8 r.k, .int .i64 r.n, .int .i64 r.d, .int .i64 r.s, .int .u8 r.c, .int .i64 r.sv, .string r.lt] 34)).drew) _ _ else _)); refine step_rows (enc := rcell) rcell_len (by decide) rcell_one Tryd.underlying22 hi0 hi1 hi2 hi3 rfl (by decide) (by rfl) (.tmp 105) (.tmp 107) (by rfl) (W0.heap.size) (.slice (some ⟨W0.heap.size, 0, none⟩) 0 0) ([] : List Ru) (by rfl) OWB.out d.rA d.rc d.rs (by rfl) HN0.out (HRK.out _ (by assumption)) (by first | omega | (simp; done) | (simp; omega)) (by first | omega | (simp; done) | (simp; omega)) ?_; intro v1 Y1 hown1 hg1; have hS1 := sR_gr (by assumption) hg1 (fun k q => Nat.lt_of_lt_of_le hn0 (OWB.out.lt k q).1); have hz1 : W0.heap.size ≤ Y1.heap.size := Nat.le_trans (Nat.le_of_lt (OWB.out.lt _ rfl).2) hg1.size; have HO1 : Hid (Y1.ownsRow (W0.heap.size) 34 11 v1 d.rs.length (d.rs.flatMap rcell)) := Lib.hid hown1; have HR0 : Hid (Y1.heap[W0.heap.size + 1]? = some (.cells #[.string r.nm, .int .i64 r.fr, .int .i64 r.tl, .int .i64 r.m, .int .u8 r.k, .int .i64 r.n, .int .i64 r.d, .int .i64 r.s, .int .u8 r.c, .int .i64 r.sv, .string r.lt] 34 (0, 0))) := Lib.hid ((hg1.block (W0.heap.size + 1) (lt_blk RB.out) (by intro q; have q := Option.some.inj q; simp at q)).trans RB.out); clear hown1 hg1)
                | ((with_reducible change (if Region.wanted _ _ = true then Oper.wp _ _ _ (((W0.alloc (.cells #[.string r.nm, .int .i64 r.fr, .int .i64 r.tl, .int .i64 r.m, .int .u8 r.k, .int .i64 r.n, .int .i64 r.d, .int .i64 r.s, .int .u8 r.c, .int .i64 r.sv, .string r.lt] 34)).alloc (.cells #[] 34)).drew) _ _ else _)); refine step_rows (enc := rcell) rcell_len (by decide) rcell_one Tryd.underlying22 hi0 hi1 hi2 hi3 rfl (by decide) (by rfl) (.tmp 105) (.tmp 107) (by rfl) (W0.heap.size) (.slice (some ⟨W0.heap.size + 1, 0, none⟩) 0 0) ([] : List Ru) (by rfl) OWC.out d.rA d.rc d.rs (by rfl) HN0.out (HRK.out _ (by assumption)) (by first | omega | (simp; done) | (simp; omega)) (by first | omega | (simp; done) | (simp; omega)) ?_; intro v1 Y1 hown1 hg1; have hS1 := sR_gr (by assumption) hg1 (fun k q => Nat.lt_of_lt_of_le hn0 (OWC.out.lt k q).1); have hz1 : W0.heap.size + 1 ≤ Y1.heap.size := Nat.le_trans (Nat.le_of_lt (OWC.out.lt _ rfl).2) hg1.size; have HO1 : Hid (Y1.ownsRow (W0.heap.size) 34 11 v1 d.rs.length (d.rs.flatMap rcell)) := Lib.hid hown1; have HR0 : Hid (Y1.heap[W0.heap.size]? = some (.cells #[.string r.nm, .int .i64 r.fr, .int .i64 r.tl, .int .i64 r.m, .int .u8 r.k, .int .i64 r.n, .int .i64 r.d, .int .i64 r.s, .int .u8 r.c, .int .i64 r.sv, .string r.lt] 34 (0, 0))) := Lib.hid ((hg1.block (W0.heap.size) (lt_blk RC.out) (by intro q; have q := Option.some.inj q; simp at q)).trans RC.out); clear hown1 hg1)
                | ((with_reducible change (if Region.wanted _ _ = true then Oper.wp _ _ _ (Y1.alloc (.cells #[.string r.nm, .int .i64 r.fr, .int .i64 r.tl, .int .i64 r.m, .int .u8 r.k, .int .i64 r.n, .int .i64 r.d, .int .i64 r.s, .int .u8 r.c, .int .i64 r.sv, .string r.lt] 34)) _ _ else _)); refine step_rows (enc := rcell) rcell_len (by decide) rcell_one Tryd.underlying22 hi0 hi1 hi2 hi3 rfl (by decide) (by rfl) (.tmp 108) (.tmp 110) (by rfl) (W0.heap.size) v1 d.rs (by rfl) (World.ownsRow.alloc HO1.out _) (some ⟨Y1.heap.size, 0, none⟩) 1 [r] (by rfl) (fun q => by cases q) (RA.out Y1) (by first | omega | (simp; done) | (simp; omega)) (by first | omega | (simp; done) | (simp; omega)) ?_; intro v2 Y2 hown2 hg2; obtain ⟨gg, cap, rfl⟩ := own_shape hown2 (by simp); have hS2 := sR_gr (by assumption) hg2 (fun k q => Nat.lt_of_lt_of_le hn0 (HO1.out.lt k q).1); have HO2 := Lib.hid hown2; have hk0 := (sR_tb hS2).ck; have hkf := (sR_tb hS2).fr; have hkl := (sR_tb hS2).lt; obtain ⟨u0, hk0⟩ := hk0; clear hown2 hg2)
                | ((with_reducible change (if Region.wanted _ _ = true then Oper.wp _ _ _ (Y1) _ _ else _)); refine step_rows (enc := rcell) rcell_len (by decide) rcell_one Tryd.underlying22 hi0 hi1 hi2 hi3 rfl (by decide) (by rfl) (.tmp 108) (.tmp 110) (by rfl) (W0.heap.size) v1 d.rs (by rfl) HO1.out (some ⟨W0.heap.size + 1, 0, none⟩) 1 [r] (by rfl) (fun q => by cases q) (rk_lit HR0.out) (by first | omega | (simp; done) | (simp; omega)) (by first | omega | (simp; done) | (simp; omega)) ?_; intro v2 Y2 hown2 hg2; obtain ⟨gg, cap, rfl⟩ := own_shape hown2 (by simp); have hS2 := sR_gr (by assumption) hg2 (fun k q => Nat.lt_of_lt_of_le hn0 (HO1.out.lt k q).1); have HO2 := Lib.hid hown2; have hk0 := (sR_tb hS2).ck; have hkf := (sR_tb hS2).fr; have hkl := (sR_tb hS2).lt; obtain ⟨u0, hk0⟩ := hk0; clear hown2 hg2)
                | ((with_reducible change (if Region.wanted _ _ = true then Oper.wp _ _ _ (Y1) _ _ else _)); refine step_rows (enc := rcell) rcell_len (by decide) rcell_one Tryd.underlying22 hi0 hi1 hi2 hi3 rfl (by decide) (by rfl) (.tmp 108) (.tmp 110) (by rfl) (W0.heap.size) v1 d.rs (by rfl) HO1.out (some ⟨W0.heap.size, 0, none⟩) 1 [r] (by rfl) (fun q => by cases q) (rk_lit HR0.out) (by first | omega | (simp; done) | (simp; omega)) (by first | omega | (simp; done) | (simp; omega)) ?_; intro v2 Y2 hown2 hg2; obtain ⟨gg, cap, rfl⟩ := own_shape hown2 (by simp); have hS2 := sR_gr (by assumption) hg2 (fun k q => Nat.lt_of_lt_of_le hn0 (HO1.out.lt k q).1); have HO2 := Lib.hid hown2; have hk0 := (sR_tb hS2).ck; have hkf := (sR_tb hS2).fr; have hkl := (sR_tb hS2).lt; obtain ⟨u0, hk0⟩ := hk0; clear hown2 hg2))
            all_goals
              go_wp2_with fail
              go_meet
              case rel => exact ⟨_, _, tr_of (sR_tb hS2) HO2.out hn0⟩
          case rest =>
            clear HRK RA S0
            clear OWA OWB OWC RB RC hk1 hk2 hk3 hk4 HW8 H7 hi0 hi1 hi2 hi3 i0
            obtain ⟨gg, cap, hTR⟩ := hcut
            have H8 : Hid (U8 w d r z gt gg cap wc) := Lib.hid ⟨hTR.r8.v0 HD0.out HZ0.out HE0.out, hTR.bx, hTR.rk⟩
            clear hTR hsz hn0
            clear W0
            obtain ⟨vr, hvr⟩ : ∃ vr, Rl.right r = vr := ⟨_, rfl⟩
            have HW : Hid (∀ W : World, W.cell? ⟨gt, 0, none⟩ = some (.slice (some ⟨gg, 0, none⟩) (d.rs.length + 1) cap) ∧ W.cell? ⟨gt, 1, none⟩ = some (.slice d.zA d.zs.length d.zc) ∧ W.cell? ⟨gt, 2, none⟩ = some (.slice d.lA d.ls.length d.lc) ∧ W.cell? ⟨w.heap.size + 1, 0, none⟩ = some (.string r.nm) ∧ W.cell? ⟨w.heap.size + 1, 1, none⟩ = some (.int .i64 r.fr) ∧ W.cell? ⟨w.heap.size + 1, 2, none⟩ = some (.int .i64 r.tl) ∧ W.cell? ⟨w.heap.size + 1, 3, none⟩ = some (.int .i64 r.m) ∧ W.cell? ⟨w.heap.size + 1, 4, none⟩ = some (.int .u8 r.k) ∧ W.cell? ⟨w.heap.size + 1, 5, none⟩ = some (.int .i64 r.n) ∧ W.cell? ⟨w.heap.size + 1, 6, none⟩ = some (.int .i64 r.d) ∧ W.cell? ⟨w.heap.size + 1, 7, none⟩ = some (.int .i64 r.s) ∧ W.cell? ⟨w.heap.size + 1, 8, none⟩ = some (.int .u8 r.c) ∧ W.cell? ⟨w.heap.size + 1, 9, none⟩ = some (.int .i64 r.sv) ∧ W.cell? ⟨w.heap.size + 1, 10, none⟩ = some (.string r.lt) ∧ U8 w d r z gt gg cap W → Calls Tryd.prog 8 #[.agg #[.slice (some ⟨gg, 0, none⟩) (d.rs.length + 1) cap, .slice d.zA d.zs.length d.zc, .slice d.lA d.ls.length d.lc]] W fun e w' => e = .returned (.bool vr) ∧ Below W.heap.size W w' ∧ U8 w d r z gt gg cap w') := Lib.hid (fun W hS => by
              have hu := s31_u hS
              have hl : (d.rs ++ [r]).length = d.rs.length + 1 := by rw [List.length_append]; rfl
              have hk := well_any (⟨some ⟨gg, 0, none⟩, cap, d.rs ++ [r], d.zA, d.zc, d.zs, d.lA, d.lc, d.ls⟩ : Sd) W hu.v0.ev hu.at_
                ⟨HOK.out.sz, by show (d.rs ++ [r]).length ≤ 4096; rw [hl]; omega, HOK.out.es, fits_rule (d := d) (d' := (⟨some ⟨gg, 0, none⟩, cap, d.rs ++ [r], d.zA, d.zc, d.zs, d.lA, d.lc, d.ls⟩ : Sd)) (r := r) rfl rfl rfl HF.out hrs40 HRS.out⟩ vr ((right_rule (d := d) (d' := (⟨some ⟨gg, 0, none⟩, cap, d.rs ++ [r], d.zA, d.zc, d.zs, d.lA, d.lc, d.ls⟩ : Sd)) (r := r) rfl rfl rfl HR.out hrs40).trans hvr) [] (all_rule (d := d) (d' := (⟨some ⟨gg, 0, none⟩, cap, d.rs ++ [r], d.zA, d.zc, d.zs, d.lA, d.lc, d.ls⟩ : Sd)) (r := r) rfl rfl rfl HALL.out)
              dsimp only [Sd.val] at hk
              rw [hl] at hk
              refine hk.mono fun e w' h => ⟨?_, h.2, hu.on h.2⟩
              rw [h.1]
              show Ending.returned (.bool (vr && true)) = _
              rw [Bool.and_true])
            have HC : Hid (∀ W : World, W.cell? ⟨gt, 0, none⟩ = some (.slice (some ⟨gg, 0, none⟩) (d.rs.length + 1) cap) ∧ W.cell? ⟨gt, 1, none⟩ = some (.slice d.zA d.zs.length d.zc) ∧ W.cell? ⟨gt, 2, none⟩ = some (.slice d.lA d.ls.length d.lc) ∧ W.cell? ⟨w.heap.size + 1, 0, none⟩ = some (.string r.nm) ∧ W.cell? ⟨w.heap.size + 1, 1, none⟩ = some (.int .i64 r.fr) ∧ W.cell? ⟨w.heap.size + 1, 2, none⟩ = some (.int .i64 r.tl) ∧ W.cell? ⟨w.heap.size + 1, 3, none⟩ = some (.int .i64 r.m) ∧ W.cell? ⟨w.heap.size + 1, 4, none⟩ = some (.int .u8 r.k) ∧ W.cell? ⟨w.heap.size + 1, 5, none⟩ = some (.int .i64 r.n) ∧ W.cell? ⟨w.heap.size + 1, 6, none⟩ = some (.int .i64 r.d) ∧ W.cell? ⟨w.heap.size + 1, 7, none⟩ = some (.int .i64 r.s) ∧ W.cell? ⟨w.heap.size + 1, 8, none⟩ = some (.int .u8 r.c) ∧ W.cell? ⟨w.heap.size + 1, 9, none⟩ = some (.int .i64 r.sv) ∧ W.cell? ⟨w.heap.size + 1, 10, none⟩ = some (.string r.lt) ∧ U8 w d r z gt gg cap W → Calls Tryd.prog 12 #[.agg #[.string r.nm, .int .i64 r.fr, .int .i64 r.tl, .int .i64 r.m, .int .u8 r.k, .int .i64 r.n, .int .i64 r.d, .int .i64 r.s, .int .u8 r.c, .int .i64 r.sv, .string r.lt]] W fun e w' => e = .returned (.int .i64 (if vr = true then 0 else 2)) ∧ Below W.heap.size W w' ∧ U8 w d r z gt gg cap w') := Lib.hid (fun W hS => (rcheck_is r vr W HRS.out.1 hvr).mono fun e w' h => ⟨h.1, h.2, (s31_u hS).on h.2⟩)
            have S0 : wc.drew.cell? ⟨gt, 0, none⟩ = some (.slice (some ⟨gg, 0, none⟩) (d.rs.length + 1) cap) ∧ wc.drew.cell? ⟨gt, 1, none⟩ = some (.slice d.zA d.zs.length d.zc) ∧ wc.drew.cell? ⟨gt, 2, none⟩ = some (.slice d.lA d.ls.length d.lc) ∧ wc.drew.cell? ⟨w.heap.size + 1, 0, none⟩ = some (.string r.nm) ∧ wc.drew.cell? ⟨w.heap.size + 1, 1, none⟩ = some (.int .i64 r.fr) ∧ wc.drew.cell? ⟨w.heap.size + 1, 2, none⟩ = some (.int .i64 r.tl) ∧ wc.drew.cell? ⟨w.heap.size + 1, 3, none⟩ = some (.int .i64 r.m) ∧ wc.drew.cell? ⟨w.heap.size + 1, 4, none⟩ = some (.int .u8 r.k) ∧ wc.drew.cell? ⟨w.heap.size + 1, 5, none⟩ = some (.int .i64 r.n) ∧ wc.drew.cell? ⟨w.heap.size + 1, 6, none⟩ = some (.int .i64 r.d) ∧ wc.drew.cell? ⟨w.heap.size + 1, 7, none⟩ = some (.int .i64 r.s) ∧ wc.drew.cell? ⟨w.heap.size + 1, 8, none⟩ = some (.int .u8 r.c) ∧ wc.drew.cell? ⟨w.heap.size + 1, 9, none⟩ = some (.int .i64 r.sv) ∧ wc.drew.cell? ⟨w.heap.size + 1, 10, none⟩ = some (.string r.lt) ∧ U8 w d r z gt gg cap wc.drew := by
              refine s31_on (W := wc) ⟨H8.out.bx.at_ 0 _ rfl, H8.out.bx.at_ 1 _ rfl, H8.out.bx.at_ 2 _ rfl, H8.out.v0.br.at_ 0 _ rfl, H8.out.v0.br.at_ 1 _ rfl, H8.out.v0.br.at_ 2 _ rfl, H8.out.v0.br.at_ 3 _ rfl, H8.out.v0.br.at_ 4 _ rfl, H8.out.v0.br.at_ 5 _ rfl, H8.out.v0.br.at_ 6 _ rfl, H8.out.v0.br.at_ 7 _ rfl, H8.out.v0.br.at_ 8 _ rfl, H8.out.v0.br.at_ 9 _ rfl, H8.out.v0.br.at_ 10 _ rfl, H8.out⟩ (Below.refl _ _).drew
            clear hvr
            cases vr with
            | false =>
              rw [if_neg (by decide)] at HC
              go_wp2_with fail
              go_region_held3 (fun w' => w'.cell? ⟨gt, 0, none⟩ = some (.slice (some ⟨gg, 0, none⟩) (d.rs.length + 1) cap) ∧ w'.cell? ⟨gt, 1, none⟩ = some (.slice d.zA d.zs.length d.zc) ∧ w'.cell? ⟨gt, 2, none⟩ = some (.slice d.lA d.ls.length d.lc) ∧ w'.cell? ⟨w.heap.size + 1, 0, none⟩ = some (.string r.nm) ∧ w'.cell? ⟨w.heap.size + 1, 1, none⟩ = some (.int .i64 r.fr) ∧ w'.cell? ⟨w.heap.size + 1, 2, none⟩ = some (.int .i64 r.tl) ∧ w'.cell? ⟨w.heap.size + 1, 3, none⟩ = some (.int .i64 r.m) ∧ w'.cell? ⟨w.heap.size + 1, 4, none⟩ = some (.int .u8 r.k) ∧ w'.cell? ⟨w.heap.size + 1, 5, none⟩ = some (.int .i64 r.n) ∧ w'.cell? ⟨w.heap.size + 1, 6, none⟩ = some (.int .i64 r.d) ∧ w'.cell? ⟨w.heap.size + 1, 7, none⟩ = some (.int .i64 r.s) ∧ w'.cell? ⟨w.heap.size + 1, 8, none⟩ = some (.int .u8 r.c) ∧ w'.cell? ⟨w.heap.size + 1, 9, none⟩ = some (.int .i64 r.sv) ∧ w'.cell? ⟨w.heap.size + 1, 10, none⟩ = some (.string r.lt) ∧ U8 w d r z gt gg cap w')
                (first | assumption | exact s31_on (by assumption) (by assumption))
                (first
                  | (go_at_call 8; (with_reducible refine (HW.out _ (by assumption)).mono ?_); rintro e w11 ⟨rfl, hb, hq5⟩)
                  | (go_at_call 12; (with_reducible refine (HC.out _ (by assumption)).mono ?_); rintro e w12 ⟨rfl, hb2, hq6⟩))
              have H12 := Lib.hid hq6.v0
              clear hb hb2 hq5 hq6 HW HC S0 H8
              have hgt2 : w.heap.size + 1 + 1 < w12.heap.size := H12.out.bz.lt
              have c0 := H12.out.bx.at_ 0 _ rfl
              have c1 := H12.out.bx.at_ 1 _ rfl
              have c2 := H12.out.bx.at_ 2 _ rfl
              go_upto_region 34 with fail
              have H13 : Hid (V0 w d r z (w12.alloc (.cells #[.slice d.rA d.rs.length d.rc, .slice d.zA d.zs.length d.zc, .slice d.lA d.ls.length d.lc] 26))) := Lib.hid (H12.out.on (box_below w12 (.cells #[.slice d.rA d.rs.length d.rc, .slice d.zA d.zs.length d.zc, .slice d.lA d.ls.length d.lc] 26)))
              have hblk := heap_alloc_new w12 (.cells #[.slice d.rA d.rs.length d.rc, .slice d.zA d.zs.length d.zc, .slice d.lA d.ls.length d.lc] 26)
              have hsz : w12.heap.size < (w12.alloc (.cells #[.slice d.rA d.rs.length d.rc, .slice d.zA d.zs.length d.zc, .slice d.lA d.ls.length d.lc] 26)).heap.size := by simp
              generalize hgq : w12.heap.size = gu at *
              clear hgq
              generalize w12.alloc (.cells #[.slice d.rA d.rs.length d.rc, .slice d.zA d.zs.length d.zc, .slice d.lA d.ls.length d.lc] 26) = W3 at *
              have HW8 := Lib.hid (H13.out.r8 hgt2)
              have hk1 := cell_blk hblk 0
              have hk2 := cell_blk hblk 2
              have hk3 := frozen_blk hblk 1
              have hk4 := cell_blk hblk 1
              change W3.cell? ⟨gu, 0, none⟩ = some (.slice d.rA d.rs.length d.rc) at hk1
              change W3.cell? ⟨gu, 2, none⟩ = some (.slice d.lA d.ls.length d.lc) at hk2
              change W3.cell? ⟨gu, 1, none⟩ = some (.slice d.zA d.zs.length d.zc) at hk4
              clear hblk c0 c1 c2 H12
              obtain ⟨i0, hi0, hi1, hi2, hi3⟩ := info_parts zone_info8
              have hn0 : gu < W3.heap.size := hsz
              have OWA : Hid ((W3.alloc (.cells #[] 37)).drew.ownsRow (W3.heap.size) 37 2 (.slice (some ⟨W3.heap.size, 0, none⟩) 0 0) 0 ([])) := Lib.hid (own_empty (heap_alloc_new W3 (.cells #[] 37)))
              have OWB : Hid (((W3.alloc (.cells #[] 37)).alloc (.cells #[.string z.nm, .slice z.A z.es.length z.c] 37)).drew.ownsRow (W3.heap.size) 37 2 (.slice (some ⟨W3.heap.size, 0, none⟩) 0 0) 0 ([])) := Lib.hid (World.ownsRow.alloc (w := W3.alloc (.cells #[] 37)) (own_empty (heap_alloc_new W3 (.cells #[] 37))) (.cells #[.string z.nm, .slice z.A z.es.length z.c] 37))
              have RC0 : (W3.alloc (.cells #[.string z.nm, .slice z.A z.es.length z.c] 37)).heap.size = W3.heap.size + 1 := by simp
              have RC1 := heap_alloc_new (W3.alloc (.cells #[.string z.nm, .slice z.A z.es.length z.c] 37)) (.cells #[] 37)
              rw [RC0] at RC1
              have OWC : Hid (((W3.alloc (.cells #[.string z.nm, .slice z.A z.es.length z.c] 37)).alloc (.cells #[] 37)).drew.ownsRow (W3.heap.size) 37 2 (.slice (some ⟨W3.heap.size + 1, 0, none⟩) 0 0) 0 ([])) := Lib.hid (own_mono (own_empty RC1) (Nat.le_succ _))
              have RB0 : (W3.alloc (.cells #[] 37)).heap.size = W3.heap.size + 1 := by simp
              have RB1 := heap_alloc_new (W3.alloc (.cells #[] 37)) (.cells #[.string z.nm, .slice z.A z.es.length z.c] 37)
              rw [RB0] at RB1
              have RB : Hid (((W3.alloc (.cells #[] 37)).alloc (.cells #[.string z.nm, .slice z.A z.es.length z.c] 37)).drew.heap[W3.heap.size + 1]? = some (.cells #[.string z.nm, .slice z.A z.es.length z.c] 37 (0, 0))) := Lib.hid RB1
              have RC : Hid (((W3.alloc (.cells #[.string z.nm, .slice z.A z.es.length z.c] 37)).alloc (.cells #[] 37)).drew.heap[W3.heap.size]? = some (.cells #[.string z.nm, .slice z.A z.es.length z.c] 37 (0, 0))) := Lib.hid (((box_below (W3.alloc (.cells #[.string z.nm, .slice z.A z.es.length z.c] 37)) (.cells #[] 37)).block (W3.heap.size) (by simp)).trans (heap_alloc_new W3 (.cells #[.string z.nm, .slice z.A z.es.length z.c] 37)))
              clear RC0 RC1 RB0 RB1
              have RA : Hid (∀ Y : World, Rk (Y.alloc (.cells #[.string z.nm, .slice z.A z.es.length z.c] 37)) (Y.alloc (.cells #[.string z.nm, .slice z.A z.es.length z.c] 37)).heap.size (some ⟨Y.heap.size, 0, none⟩) (([z] : List Zd).flatMap zcell)) := Lib.hid (fun Y => rk_lit (heap_alloc_new Y (.cells #[.string z.nm, .slice z.A z.es.length z.c] 37)))
              have HRK : Hid (∀ Y : World, Y.cell? ⟨w.heap.size, 1, none⟩ = some (.slice d.zA d.zs.length d.zc) ∧ Y.cell? ⟨w.heap.size + 1 + 1, 0, none⟩ = some (.string z.nm) ∧ Y.cell? ⟨w.heap.size + 1 + 1, 1, none⟩ = some (.slice z.A z.es.length z.c) ∧ TB w d r z gu 1 0 2 (.slice d.rA d.rs.length d.rc) (.slice d.lA d.ls.length d.lc) Y → Rk Y Y.heap.size d.zA (d.zs.flatMap zcell)) := Lib.hid (fun Y h => (((sZ_tb h).r8.v0 HD0.out HZ0.out HE0.out).at_.z))
              have S0 : W3.drew.cell? ⟨w.heap.size, 1, none⟩ = some (.slice d.zA d.zs.length d.zc) ∧ W3.drew.cell? ⟨w.heap.size + 1 + 1, 0, none⟩ = some (.string z.nm) ∧ W3.drew.cell? ⟨w.heap.size + 1 + 1, 1, none⟩ = some (.slice z.A z.es.length z.c) ∧ TB w d r z gu 1 0 2 (.slice d.rA d.rs.length d.rc) (.slice d.lA d.ls.length d.lc) W3.drew := sZ_drew (by exact ⟨H13.out.bx.at_ 1 _ rfl, H13.out.bz.at_ 0 _ rfl, H13.out.bz.at_ 1 _ rfl, ⟨HW8.out, hk1, hk2, hk3, ⟨_, hk4⟩, hn0⟩⟩)
              go_cut [] from 120 to 127 (fun wx => ∃ gg cap, TZ w d r z gu gg cap wx)
              case first =>
                go_region_held3 (fun w' => w'.cell? ⟨w.heap.size, 1, none⟩ = some (.slice d.zA d.zs.length d.zc) ∧ w'.cell? ⟨w.heap.size + 1 + 1, 0, none⟩ = some (.string z.nm) ∧ w'.cell? ⟨w.heap.size + 1 + 1, 1, none⟩ = some (.slice z.A z.es.length z.c) ∧ TB w d r z gu 1 0 2 (.slice d.rA d.rs.length d.rc) (.slice d.lA d.ls.length d.lc) w')
                  (first | assumption | exact sZ_al (by assumption) | exact sZ_set (by assumption))
                  (first
                    | ((with_reducible change (if Region.wanted _ _ = true then Oper.wp _ _ _ ((W3.alloc (.cells #[] 37)).drew) _ _ else _)); refine step_rows (enc := zcell) zcell_len (by decide) zcell_one Tryd.underlying23 hi0 hi1 hi2 hi3 rfl (by decide) (by rfl) (.tmp 120) (.tmp 122) (by rfl) (W3.heap.size) (.slice (some ⟨W3.heap.size, 0, none⟩) 0 0) ([] : List Zd) (by rfl) OWA.out d.zA d.zc d.zs (by rfl) HN1.out (HRK.out _ (by assumption)) (by first | omega | (simp; done) | (simp; omega)) (by first | omega | (simp; done) | (simp; omega)) ?_; intro v1 Y1 hown1 hg1; have hS1 := sZ_gr (by assumption) hg1 (fun k q => Nat.lt_of_lt_of_le hn0 (OWA.out.lt k q).1); have hz1 : W3.heap.size ≤ Y1.heap.size := Nat.le_trans (Nat.le_of_lt (OWA.out.lt _ rfl).2) hg1.size; have HO1 : Hid (Y1.ownsRow (W3.heap.size) 37 2 v1 d.zs.length (d.zs.flatMap zcell)) := Lib.hid hown1; clear hown1 hg1)
                    | ((with_reducible change (if Region.wanted _ _ = true then Oper.wp _ _ _ (((W3.alloc (.cells #[] 37)).alloc (.cells #[.string z.nm, .slice z.A z.es.length z.c] 37)).drew) _ _ else _)); refine step_rows (enc := zcell) zcell_len (by decide) zcell_one Tryd.underlying23 hi0 hi1 hi2 hi3 rfl (by decide) (by rfl) (.tmp 120) (.tmp 122) (by rfl) (W3.heap.size) (.slice (some ⟨W3.heap.size, 0, none⟩) 0 0) ([] : List Zd) (by rfl) OWB.out d.zA d.zc d.zs (by rfl) HN1.out (HRK.out _ (by assumption)) (by first | omega | (simp; done) | (simp; omega)) (by first | omega | (simp; done) | (simp; omega)) ?_; intro v1 Y1 hown1 hg1; have hS1 := sZ_gr (by assumption) hg1 (fun k q => Nat.lt_of_lt_of_le hn0 (OWB.out.lt k q).1); have hz1 : W3.heap.size ≤ Y1.heap.size := Nat.le_trans (Nat.le_of_lt (OWB.out.lt _ rfl).2) hg1.size; have HO1 : Hid (Y1.ownsRow (W3.heap.size) 37 2 v1 d.zs.length (d.zs.flatMap zcell)) := Lib.hid hown1; have HR0 : Hid (Y1.heap[W3.heap.size + 1]? = some (.cells #[.string z.nm, .slice z.A z.es.length z.c] 37 (0, 0))) := Lib.hid ((hg1.block (W3.heap.size + 1) (lt_blk RB.out) (by intro q; have q := Option.some.inj q; simp at q)).trans RB.out); clear hown1 hg1)
                    | ((with_reducible change (if Region.wanted _ _ = true then Oper.wp _ _ _ (((W3.alloc (.cells #[.string z.nm, .slice z.A z.es.length z.c] 37)).alloc (.cells #[] 37)).drew) _ _ else _)); refine step_rows (enc := zcell) zcell_len (by decide) zcell_one Tryd.underlying23 hi0 hi1 hi2 hi3 rfl (by decide) (by rfl) (.tmp 120) (.tmp 122) (by rfl) (W3.heap.size) (.slice (some ⟨W3.heap.size + 1, 0, none⟩) 0 0) ([] : List Zd) (by rfl) OWC.out d.zA d.zc d.zs (by rfl) HN1.out (HRK.out _ (by assumption)) (by first | omega | (simp; done) | (simp; omega)) (by first | omega | (simp; done) | (simp; omega)) ?_; intro v1 Y1 hown1 hg1; have hS1 := sZ_gr (by assumption) hg1 (fun k q => Nat.lt_of_lt_of_le hn0 (OWC.out.lt k q).1); have hz1 : W3.heap.size + 1 ≤ Y1.heap.size := Nat.le_trans (Nat.le_of_lt (OWC.out.lt _ rfl).2) hg1.size; have HO1 : Hid (Y1.ownsRow (W3.heap.size) 37 2 v1 d.zs.length (d.zs.flatMap zcell)) := Lib.hid hown1; have HR0 : Hid (Y1.heap[W3.heap.size]? = some (.cells #[.string z.nm, .slice z.A z.es.length z.c] 37 (0, 0))) := Lib.hid ((hg1.block (W3.heap.size) (lt_blk RC.out) (by intro q; have q := Option.some.inj q; simp at q)).trans RC.out); clear hown1 hg1)
                    | ((with_reducible change (if Region.wanted _ _ = true then Oper.wp _ _ _ (Y1.alloc (.cells #[.string z.nm, .slice z.A z.es.length z.c] 37)) _ _ else _)); refine step_rows (enc := zcell) zcell_len (by decide) zcell_one Tryd.underlying23 hi0 hi1 hi2 hi3 rfl (by decide) (by rfl) (.tmp 123) (.tmp 125) (by rfl) (W3.heap.size) v1 d.zs (by rfl) (World.ownsRow.alloc HO1.out _) (some ⟨Y1.heap.size, 0, none⟩) 1 [z] (by rfl) (fun q => by cases q) (RA.out Y1) (by first | omega | (simp; done) | (simp; omega)) (by first | omega | (simp; done) | (simp; omega)) ?_; intro v2 Y2 hown2 hg2; obtain ⟨gg, cap, rfl⟩ := own_shape hown2 (by simp); have hS2 := sZ_gr (by assumption) hg2 (fun k q => Nat.lt_of_lt_of_le hn0 (HO1.out.lt k q).1); have HO2 := Lib.hid hown2; have hk0 := (sZ_tb hS2).ck; have hkf := (sZ_tb hS2).fr; have hkl := (sZ_tb hS2).lt; obtain ⟨u0, hk0⟩ := hk0; clear hown2 hg2)
                    | ((with_reducible change (if Region.wanted _ _ = true then Oper.wp _ _ _ (Y1) _ _ else _)); refine step_rows (enc := zcell) zcell_len (by decide) zcell_one Tryd.underlying23 hi0 hi1 hi2 hi3 rfl (by decide) (by rfl) (.tmp 123) (.tmp 125) (by rfl) (W3.heap.size) v1 d.zs (by rfl) HO1.out (some ⟨W3.heap.size + 1, 0, none⟩) 1 [z] (by rfl) (fun q => by cases q) (rk_lit HR0.out) (by first | omega | (simp; done) | (simp; omega)) (by first | omega | (simp; done) | (simp; omega)) ?_; intro v2 Y2 hown2 hg2; obtain ⟨gg, cap, rfl⟩ := own_shape hown2 (by simp); have hS2 := sZ_gr (by assumption) hg2 (fun k q => Nat.lt_of_lt_of_le hn0 (HO1.out.lt k q).1); have HO2 := Lib.hid hown2; have hk0 := (sZ_tb hS2).ck; have hkf := (sZ_tb hS2).fr; have hkl := (sZ_tb hS2).lt; obtain ⟨u0, hk0⟩ := hk0; clear hown2 hg2)
                    | ((with_reducible change (if Region.wanted _ _ = true then Oper.wp _ _ _ (Y1) _ _ else _)); refine step_rows (enc := zcell) zcell_len (by decide) zcell_one Tryd.underlying23 hi0 hi1 hi2 hi3 rfl (by decide) (by rfl) (.tmp 123) (.tmp 125) (by rfl) (W3.heap.size) v1 d.zs (by rfl) HO1.out (some ⟨W3.heap.size, 0, none⟩) 1 [z] (by rfl) (fun q => by cases q) (rk_lit HR0.out) (by first | omega | (simp; done) | (simp; omega)) (by first | omega | (simp; done) | (simp; omega)) ?_; intro v2 Y2 hown2 hg2; obtain ⟨gg, cap, rfl⟩ := own_shape hown2 (by simp); have hS2 := sZ_gr (by assumption) hg2 (fun k q => Nat.lt_of_lt_of_le hn0 (HO1.out.lt k q).1); have HO2 := Lib.hid hown2; have hk0 := (sZ_tb hS2).ck; have hkf := (sZ_tb hS2).fr; have hkl := (sZ_tb hS2).lt; obtain ⟨u0, hk0⟩ := hk0; clear hown2 hg2))
                all_goals
                  go_wp2_with fail
                  go_meet
                  case rel => exact ⟨_, _, tz_of (sZ_tb hS2) HO2.out hn0⟩
              case rest =>
                clear HRK RA S0 OWA OWB OWC RB RC hk1 hk2 hk3 hk4 HW8 H13 hi0 hi1 hi2 hi3 i0
                obtain ⟨gh, cap2, hTZ⟩ := hcut
                have H14 : Hid (U9 w d r z gu gh cap2 wc) := Lib.hid ⟨hTZ.r8.v0 HD0.out HZ0.out HE0.out, hTZ.bx, hTZ.rk⟩
                clear hTZ hn0 hsz W3
                obtain ⟨vz, hvz⟩ : ∃ vz, (So.right (⟨d.rA, d.rc, d.rs, some ⟨gh, 0, none⟩, cap2, d.zs ++ [z], d.lA, d.lc, d.ls⟩ : Sd).src && (Vd.all (⟨d.rA, d.rc, d.rs, some ⟨gh, 0, none⟩, cap2, d.zs ++ [z], d.lA, d.lc, d.ls⟩ : Sd)).isEmpty) = vz := ⟨_, rfl⟩
                have HW : Hid (∀ W : World, W.cell? ⟨gu, 0, none⟩ = some (.slice d.rA d.rs.length d.rc) ∧ W.cell? ⟨gu, 1, none⟩ = some (.slice (some ⟨gh, 0, none⟩) (d.zs.length + 1) cap2) ∧ W.cell? ⟨gu, 2, none⟩ = some (.slice d.lA d.ls.length d.lc) ∧ W.cell? ⟨w.heap.size, 0, none⟩ = some (.slice d.rA d.rs.length d.rc) ∧ W.cell? ⟨w.heap.size + 1 + 1, 0, none⟩ = some (.string z.nm) ∧ W.cell? ⟨w.heap.size + 1 + 1, 1, none⟩ = some (.slice z.A z.es.length z.c) ∧ U9 w d r z gu gh cap2 W → Calls Tryd.prog 8 #[.agg #[.slice d.rA d.rs.length d.rc, .slice (some ⟨gh, 0, none⟩) (d.zs.length + 1) cap2, .slice d.lA d.ls.length d.lc]] W fun e w' => e = .returned (.bool vz) ∧ Below W.heap.size W w' ∧ U9 w d r z gu gh cap2 w') := Lib.hid (fun W hS => by
                  have hu := s35_u hS
                  have hl : (d.zs ++ [z]).length = d.zs.length + 1 := by rw [List.length_append]; rfl
                  have hsl : d.ls.length ≤ 20 := HG.out.2.2.1
                  have hk := well_any (⟨d.rA, d.rc, d.rs, some ⟨gh, 0, none⟩, cap2, d.zs ++ [z], d.lA, d.lc, d.ls⟩ : Sd) W hu.v0.ev hu.at_
                    ⟨by show (d.zs ++ [z]).length + d.ls.length ≤ 1000; rw [hl]; omega, HOK.out.rs, fun q hq => by
                      rcases List.mem_append.1 hq with hq | hq
                      · exact HOK.out.es q hq
                      · rw [List.mem_singleton.1 hq]
                        exact Nat.le_trans HZ12.out (by decide), fits_zone (d := d) (d' := (⟨d.rA, d.rc, d.rs, some ⟨gh, 0, none⟩, cap2, d.zs ++ [z], d.lA, d.lc, d.ls⟩ : Sd)) (z := z) rfl rfl rfl HF.out hzs12 HZS.out⟩ _ rfl _ rfl
                  rw [hvz] at hk
                  dsimp only [Sd.val] at hk
                  rw [hl] at hk
                  exact hk.mono fun e w' h => ⟨h.1, h.2, hu.on h.2⟩)
                have HV1 : Hid (∀ (W : World) (p : Nat), W.cell? ⟨gu, 0, none⟩ = some (.slice d.rA d.rs.length d.rc) ∧ W.cell? ⟨gu, 1, none⟩ = some (.slice (some ⟨gh, 0, none⟩) (d.zs.length + 1) cap2) ∧ W.cell? ⟨gu, 2, none⟩ = some (.slice d.lA d.ls.length d.lc) ∧ W.cell? ⟨w.heap.size, 0, none⟩ = some (.slice d.rA d.rs.length d.rc) ∧ W.cell? ⟨w.heap.size + 1 + 1, 0, none⟩ = some (.string z.nm) ∧ W.cell? ⟨w.heap.size + 1 + 1, 1, none⟩ = some (.slice z.A z.es.length z.c) ∧ U9 w d r z gu gh cap2 W → W.heap[p]? = some (.cells #[.string z.nm, .slice z.A z.es.length z.c] 37 (0, 0)) → Calls Tryd.prog 8 #[.agg #[.slice d.rA d.rs.length d.rc, .slice (some ⟨p, 0, none⟩) 1 1, .slice none 0 0]] W fun e w' => e = .returned (.bool vz) ∧ Below W.heap.size W w' ∧ V0 w d r z w' ∧ U9 w d r z gu gh cap2 w') := Lib.hid (fun W p hS hp => by
                  have hu := s35_u hS
                  have e1 := right_zone (d := d) (d' := (⟨d.rA, d.rc, d.rs, some ⟨gh, 0, none⟩, cap2, d.zs ++ [z], d.lA, d.lc, d.ls⟩ : Sd)) (d1 := one8 p d z) (z := z) rfl rfl rfl rfl rfl rfl HR.out hzs12
                  have e2 : (Vd.all (⟨d.rA, d.rc, d.rs, some ⟨gh, 0, none⟩, cap2, d.zs ++ [z], d.lA, d.lc, d.ls⟩ : Sd)).isEmpty = (Vd.all (one8 p d z)).isEmpty := bool_of_iff (by
                    rw [List.isEmpty_iff, List.isEmpty_iff]
                    exact all_zone (d := d) (d' := (⟨d.rA, d.rc, d.rs, some ⟨gh, 0, none⟩, cap2, d.zs ++ [z], d.lA, d.lc, d.ls⟩ : Sd)) (d1 := one8 p d z) (z := z) rfl rfl rfl rfl rfl rfl HALL.out HZN.out)
                  have hk := well_any (one8 p d z) W hu.v0.ev ⟨hu.v0.at_.r, rk_lit hp, mem_one hu.v0.ze, Rk.nil⟩
                    ⟨(by decide : (1 + 0 : Nat) ≤ 1000), HOK.out.rs, mem_one (Nat.le_trans HZ12.out (by decide)), ⟨HF.out.r, (by decide : (1 : Nat) ≤ 9223372036854775807), (by decide : (0 : Nat) ≤ 9223372036854775807), HF.out.rn, mem_one HZS.out, fun _ h => by cases h⟩⟩ _ rfl _ rfl
                  rw [← e1, ← e2, hvz] at hk
                  exact hk.mono fun e w' h => ⟨h.1, h.2, hu.v0.on h.2, hu.on h.2⟩)
                have S0 : wc.drew.cell? ⟨gu, 0, none⟩ = some (.slice d.rA d.rs.length d.rc) ∧ wc.drew.cell? ⟨gu, 1, none⟩ = some (.slice (some ⟨gh, 0, none⟩) (d.zs.length + 1) cap2) ∧ wc.drew.cell? ⟨gu, 2, none⟩ = some (.slice d.lA d.ls.length d.lc) ∧ wc.drew.cell? ⟨w.heap.size, 0, none⟩ = some (.slice d.rA d.rs.length d.rc) ∧ wc.drew.cell? ⟨w.heap.size + 1 + 1, 0, none⟩ = some (.string z.nm) ∧ wc.drew.cell? ⟨w.heap.size + 1 + 1, 1, none⟩ = some (.slice z.A z.es.length z.c) ∧ U9 w d r z gu gh cap2 wc.drew := by
                  refine s35_on (W := wc) ⟨H14.out.bx.at_ 0 _ rfl, H14.out.bx.at_ 1 _ rfl, H14.out.bx.at_ 2 _ rfl, H14.out.v0.bx.at_ 0 _ rfl, H14.out.v0.bz.at_ 0 _ rfl, H14.out.v0.bz.at_ 1 _ rfl, H14.out⟩ (Below.refl _ _).drew
                clear hvz
                have HFIN : Hid (∀ W, V0 w d r z W → Below w.heap.size w W) := Lib.hid (fun W h => h.bel)
                have tz : (vz == vz) = true := by simp
                go_wp2_with fail
                go_region_held3 (fun w' => w'.cell? ⟨gu, 0, none⟩ = some (.slice d.rA d.rs.length d.rc) ∧ w'.cell? ⟨gu, 1, none⟩ = some (.slice (some ⟨gh, 0, none⟩) (d.zs.length + 1) cap2) ∧ w'.cell? ⟨gu, 2, none⟩ = some (.slice d.lA d.ls.length d.lc) ∧ w'.cell? ⟨w.heap.size, 0, none⟩ = some (.slice d.rA d.rs.length d.rc) ∧ w'.cell? ⟨w.heap.size + 1 + 1, 0, none⟩ = some (.string z.nm) ∧ w'.cell? ⟨w.heap.size + 1 + 1, 1, none⟩ = some (.slice z.A z.es.length z.c) ∧ U9 w d r z gu gh cap2 w')
                  (first | assumption | exact s35_on (by assumption) (by assumption) | exact s35_al (by assumption))
                  (first
                    | (go_at_call 8; (with_reducible refine (HW.out _ (by assumption)).mono ?_); rintro e w15 ⟨rfl, hb, hq5⟩; (first | (have HP : w15.heap[wc.heap.size]? = some (.cells #[.string z.nm, .slice z.A z.es.length z.c] 37 (0, 0)) := (hb.block _ (by simp)).trans (heap_alloc_new wc (.cells #[.string z.nm, .slice z.A z.es.length z.c] 37))) | skip))
                    | (go_at_call 8; (with_reducible refine (HV1.out _ _ (by assumption) (by first | exact HP | exact heap_alloc_new _ _)).mono ?_); rintro e w16 ⟨rfl, hb2, hq6, hq7⟩))
                all_goals
                  have hfin := HFIN.out _ hq6
                  clear hb hb2 hq5 hq6 hq7 HW HV1 S0 H14
                  go_wp2_with fail
                  go_ret
                  exact ⟨rfl, hfin⟩
            | true =>
              rw [if_pos rfl] at HC
              go_wp2_with fail
              go_region_held3 (fun w' => w'.cell? ⟨gt, 0, none⟩ = some (.slice (some ⟨gg, 0, none⟩) (d.rs.length + 1) cap) ∧ w'.cell? ⟨gt, 1, none⟩ = some (.slice d.zA d.zs.length d.zc) ∧ w'.cell? ⟨gt, 2, none⟩ = some (.slice d.lA d.ls.length d.lc) ∧ w'.cell? ⟨w.heap.size + 1, 0, none⟩ = some (.string r.nm) ∧ w'.cell? ⟨w.heap.size + 1, 1, none⟩ = some (.int .i64 r.fr) ∧ w'.cell? ⟨w.heap.size + 1, 2, none⟩ = some (.int .i64 r.tl) ∧ w'.cell? ⟨w.heap.size + 1, 3, none⟩ = some (.int .i64 r.m) ∧ w'.cell? ⟨w.heap.size + 1, 4, none⟩ = some (.int .u8 r.k) ∧ w'.cell? ⟨w.heap.size + 1, 5, none⟩ = some (.int .i64 r.n) ∧ w'.cell? ⟨w.heap.size + 1, 6, none⟩ = some (.int .i64 r.d) ∧ w'.cell? ⟨w.heap.size + 1, 7, none⟩ = some (.int .i64 r.s) ∧ w'.cell? ⟨w.heap.size + 1, 8, none⟩ = some (.int .u8 r.c) ∧ w'.cell? ⟨w.heap.size + 1, 9, none⟩ = some (.int .i64 r.sv) ∧ w'.cell? ⟨w.heap.size + 1, 10, none⟩ = some (.string r.lt) ∧ U8 w d r z gt gg cap w')
                (first | assumption | exact s31_on (by assumption) (by assumption))
                (first
                  | (go_at_call 8; (with_reducible refine (HW.out _ (by assumption)).mono ?_); rintro e w11 ⟨rfl, hb, hq5⟩)
                  | (go_at_call 12; (with_reducible refine (HC.out _ (by assumption)).mono ?_); rintro e w12 ⟨rfl, hb2, hq6⟩))
              have H12 := Lib.hid hq6.v0
              clear hb hb2 hq5 hq6 HW HC S0 H8
              have hgt2 : w.heap.size + 1 + 1 < w12.heap.size := H12.out.bz.lt
              have c0 := H12.out.bx.at_ 0 _ rfl
              have c1 := H12.out.bx.at_ 1 _ rfl
              have c2 := H12.out.bx.at_ 2 _ rfl
              go_upto_region 34 with fail
              have H13 : Hid (V0 w d r z (w12.alloc (.cells #[.slice d.rA d.rs.length d.rc, .slice d.zA d.zs.length d.zc, .slice d.lA d.ls.length d.lc] 26))) := Lib.hid (H12.out.on (box_below w12 (.cells #[.slice d.rA d.rs.length d.rc, .slice d.zA d.zs.length d.zc, .slice d.lA d.ls.length d.lc] 26)))
              have hblk := heap_alloc_new w12 (.cells #[.slice d.rA d.rs.length d.rc, .slice d.zA d.zs.length d.zc, .slice d.lA d.ls.length d.lc] 26)
              have hsz : w12.heap.size < (w12.alloc (.cells #[.slice d.rA d.rs.length d.rc, .slice d.zA d.zs.length d.zc, .slice d.lA d.ls.length d.lc] 26)).heap.size := by simp
              generalize hgq : w12.heap.size = gu at *
              clear hgq
              generalize w12.alloc (.cells #[.slice d.rA d.rs.length d.rc, .slice d.zA d.zs.length d.zc, .slice d.lA d.ls.length d.lc] 26) = W3 at *
              have HW8 := Lib.hid (H13.out.r8 hgt2)
              have hk1 := cell_blk hblk 0
              have hk2 := cell_blk hblk 2
              have hk3 := frozen_blk hblk 1
              have hk4 := cell_blk hblk 1
              change W3.cell? ⟨gu, 0, none⟩ = some (.slice d.rA d.rs.length d.rc) at hk1
              change W3.cell? ⟨gu, 2, none⟩ = some (.slice d.lA d.ls.length d.lc) at hk2
              change W3.cell? ⟨gu, 1, none⟩ = some (.slice d.zA d.zs.length d.zc) at hk4
              clear hblk c0 c1 c2 H12
              obtain ⟨i0, hi0, hi1, hi2, hi3⟩ := info_parts zone_info8
              have hn0 : gu < W3.heap.size := hsz
              have OWA : Hid ((W3.alloc (.cells #[] 37)).drew.ownsRow (W3.heap.size) 37 2 (.slice (some ⟨W3.heap.size, 0, none⟩) 0 0) 0 ([])) := Lib.hid (own_empty (heap_alloc_new W3 (.cells #[] 37)))
              have OWB : Hid (((W3.alloc (.cells #[] 37)).alloc (.cells #[.string z.nm, .slice z.A z.es.length z.c] 37)).drew.ownsRow (W3.heap.size) 37 2 (.slice (some ⟨W3.heap.size, 0, none⟩) 0 0) 0 ([])) := Lib.hid (World.ownsRow.alloc (w := W3.alloc (.cells #[] 37)) (own_empty (heap_alloc_new W3 (.cells #[] 37))) (.cells #[.string z.nm, .slice z.A z.es.length z.c] 37))
              have RC0 : (W3.alloc (.cells #[.string z.nm, .slice z.A z.es.length z.c] 37)).heap.size = W3.heap.size + 1 := by simp
              have RC1 := heap_alloc_new (W3.alloc (.cells #[.string z.nm, .slice z.A z.es.length z.c] 37)) (.cells #[] 37)
              rw [RC0] at RC1
              have OWC : Hid (((W3.alloc (.cells #[.string z.nm, .slice z.A z.es.length z.c] 37)).alloc (.cells #[] 37)).drew.ownsRow (W3.heap.size) 37 2 (.slice (some ⟨W3.heap.size + 1, 0, none⟩) 0 0) 0 ([])) := Lib.hid (own_mono (own_empty RC1) (Nat.le_succ _))
              have RB0 : (W3.alloc (.cells #[] 37)).heap.size = W3.heap.size + 1 := by simp
              have RB1 := heap_alloc_new (W3.alloc (.cells #[] 37)) (.cells #[.string z.nm, .slice z.A z.es.length z.c] 37)
              rw [RB0] at RB1
              have RB : Hid (((W3.alloc (.cells #[] 37)).alloc (.cells #[.string z.nm, .slice z.A z.es.length z.c] 37)).drew.heap[W3.heap.size + 1]? = some (.cells #[.string z.nm, .slice z.A z.es.length z.c] 37 (0, 0))) := Lib.hid RB1
              have RC : Hid (((W3.alloc (.cells #[.string z.nm, .slice z.A z.es.length z.c] 37)).alloc (.cells #[] 37)).drew.heap[W3.heap.size]? = some (.cells #[.string z.nm, .slice z.A z.es.length z.c] 37 (0, 0))) := Lib.hid (((box_below (W3.alloc (.cells #[.string z.nm, .slice z.A z.es.length z.c] 37)) (.cells #[] 37)).block (W3.heap.size) (by simp)).trans (heap_alloc_new W3 (.cells #[.string z.nm, .slice z.A z.es.length z.c] 37)))
              clear RC0 RC1 RB0 RB1
              have RA : Hid (∀ Y : World, Rk (Y.alloc (.cells #[.string z.nm, .slice z.A z.es.length z.c] 37)) (Y.alloc (.cells #[.string z.nm, .slice z.A z.es.length z.c] 37)).heap.size (some ⟨Y.heap.size, 0, none⟩) (([z] : List Zd).flatMap zcell)) := Lib.hid (fun Y => rk_lit (heap_alloc_new Y (.cells #[.string z.nm, .slice z.A z.es.length z.c] 37)))
              have HRK : Hid (∀ Y : World, Y.cell? ⟨w.heap.size, 1, none⟩ = some (.slice d.zA d.zs.length d.zc) ∧ Y.cell? ⟨w.heap.size + 1 + 1, 0, none⟩ = some (.string z.nm) ∧ Y.cell? ⟨w.heap.size + 1 + 1, 1, none⟩ = some (.slice z.A z.es.length z.c) ∧ TB w d r z gu 1 0 2 (.slice d.rA d.rs.length d.rc) (.slice d.lA d.ls.length d.lc) Y → Rk Y Y.heap.size d.zA (d.zs.flatMap zcell)) := Lib.hid (fun Y h => (((sZ_tb h).r8.v0 HD0.out HZ0.out HE0.out).at_.z))
              have S0 : W3.drew.cell? ⟨w.heap.size, 1, none⟩ = some (.slice d.zA d.zs.length d.zc) ∧ W3.drew.cell? ⟨w.heap.size + 1 + 1, 0, none⟩ = some (.string z.nm) ∧ W3.drew.cell? ⟨w.heap.size + 1 + 1, 1, none⟩ = some (.slice z.A z.es.length z.c) ∧ TB w d r z gu 1 0 2 (.slice d.rA d.rs.length d.rc) (.slice d.lA d.ls.length d.lc) W3.drew := sZ_drew (by exact ⟨H13.out.bx.at_ 1 _ rfl, H13.out.bz.at_ 0 _ rfl, H13.out.bz.at_ 1 _ rfl, ⟨HW8.out, hk1, hk2, hk3, ⟨_, hk4⟩, hn0⟩⟩)
              go_cut [] from 120 to 127 (fun wx => ∃ gg cap, TZ w d r z gu gg cap wx)
              case first =>
                go_region_held3 (fun w' => w'.cell? ⟨w.heap.size, 1, none⟩ = some (.slice d.zA d.zs.length d.zc) ∧ w'.cell? ⟨w.heap.size + 1 + 1, 0, none⟩ = some (.string z.nm) ∧ w'.cell? ⟨w.heap.size + 1 + 1, 1, none⟩ = some (.slice z.A z.es.length z.c) ∧ TB w d r z gu 1 0 2 (.slice d.rA d.rs.length d.rc) (.slice d.lA d.ls.length d.lc) w')
                  (first | assumption | exact sZ_al (by assumption) | exact sZ_set (by assumption))
                  (first
                    | ((with_reducible change (if Region.wanted _ _ = true then Oper.wp _ _ _ ((W3.alloc (.cells #[] 37)).drew) _ _ else _)); refine step_rows (enc := zcell) zcell_len (by decide) zcell_one Tryd.underlying23 hi0 hi1 hi2 hi3 rfl (by decide) (by rfl) (.tmp 120) (.tmp 122) (by rfl) (W3.heap.size) (.slice (some ⟨W3.heap.size, 0, none⟩) 0 0) ([] : List Zd) (by rfl) OWA.out d.zA d.zc d.zs (by rfl) HN1.out (HRK.out _ (by assumption)) (by first | omega | (simp; done) | (simp; omega)) (by first | omega | (simp; done) | (simp; omega)) ?_; intro v1 Y1 hown1 hg1; have hS1 := sZ_gr (by assumption) hg1 (fun k q => Nat.lt_of_lt_of_le hn0 (OWA.out.lt k q).1); have hz1 : W3.heap.size ≤ Y1.heap.size := Nat.le_trans (Nat.le_of_lt (OWA.out.lt _ rfl).2) hg1.size; have HO1 : Hid (Y1.ownsRow (W3.heap.size) 37 2 v1 d.zs.length (d.zs.flatMap zcell)) := Lib.hid hown1; clear hown1 hg1)
                    | ((with_reducible change (if Region.wanted _ _ = true then Oper.wp _ _ _ (((W3.alloc (.cells #[] 37)).alloc (.cells #[.string z.nm, .slice z.A z.es.length z.c] 37)).drew) _ _ else _)); refine step_rows (enc := zcell) zcell_len (by decide) zcell_one Tryd.underlying23 hi0 hi1 hi2 hi3 rfl (by decide) (by rfl) (.tmp 120) (.tmp 122) (by rfl) (W3.heap.size) (.slice (some ⟨W3.heap.size, 0, none⟩) 0 0) ([] : List Zd) (by rfl) OWB.out d.zA d.zc d.zs (by rfl) HN1.out (HRK.out _ (by assumption)) (by first | omega | (simp; done) | (simp; omega)) (by first | omega | (simp; done) | (simp; omega)) ?_; intro v1 Y1 hown1 hg1; have hS1 := sZ_gr (by assumption) hg1 (fun k q => Nat.lt_of_lt_of_le hn0 (OWB.out.lt k q).1); have hz1 : W3.heap.size ≤ Y1.heap.size := Nat.le_trans (Nat.le_of_lt (OWB.out.lt _ rfl).2) hg1.size; have HO1 : Hid (Y1.ownsRow (W3.heap.size) 37 2 v1 d.zs.length (d.zs.flatMap zcell)) := Lib.hid hown1; have HR0 : Hid (Y1.heap[W3.heap.size + 1]? = some (.cells #[.string z.nm, .slice z.A z.es.length z.c] 37 (0, 0))) := Lib.hid ((hg1.block (W3.heap.size + 1) (lt_blk RB.out) (by intro q; have q := Option.some.inj q; simp at q)).trans RB.out); clear hown1 hg1)
                    | ((with_reducible change (if Region.wanted _ _ = true then Oper.wp _ _ _ (((W3.alloc (.cells #[.string z.nm, .slice z.A z.es.length z.c] 37)).alloc (.cells #[] 37)).drew) _ _ else _)); refine step_rows (enc := zcell) zcell_len (by decide) zcell_one Tryd.underlying23 hi0 hi1 hi2 hi3 rfl (by decide) (by rfl) (.tmp 120) (.tmp 122) (by rfl) (W3.heap.size) (.slice (some ⟨W3.heap.size + 1, 0, none⟩) 0 0) ([] : List Zd) (by rfl) OWC.out d.zA d.zc d.zs (by rfl) HN1.out (HRK.out _ (by assumption)) (by first | omega | (simp; done) | (simp; omega)) (by first | omega | (simp; done) | (simp; omega)) ?_; intro v1 Y1 hown1 hg1; have hS1 := sZ_gr (by assumption) hg1 (fun k q => Nat.lt_of_lt_of_le hn0 (OWC.out.lt k q).1); have hz1 : W3.heap.size + 1 ≤ Y1.heap.size := Nat.le_trans (Nat.le_of_lt (OWC.out.lt _ rfl).2) hg1.size; have HO1 : Hid (Y1.ownsRow (W3.heap.size) 37 2 v1 d.zs.length (d.zs.flatMap zcell)) := Lib.hid hown1; have HR0 : Hid (Y1.heap[W3.heap.size]? = some (.cells #[.string z.nm, .slice z.A z.es.length z.c] 37 (0, 0))) := Lib.hid ((hg1.block (W3.heap.size) (lt_blk RC.out) (by intro q; have q := Option.some.inj q; simp at q)).trans RC.out); clear hown1 hg1)
                    | ((with_reducible change (if Region.wanted _ _ = true then Oper.wp _ _ _ (Y1.alloc (.cells #[.string z.nm, .slice z.A z.es.length z.c] 37)) _ _ else _)); refine step_rows (enc := zcell) zcell_len (by decide) zcell_one Tryd.underlying23 hi0 hi1 hi2 hi3 rfl (by decide) (by rfl) (.tmp 123) (.tmp 125) (by rfl) (W3.heap.size) v1 d.zs (by rfl) (World.ownsRow.alloc HO1.out _) (some ⟨Y1.heap.size, 0, none⟩) 1 [z] (by rfl) (fun q => by cases q) (RA.out Y1) (by first | omega | (simp; done) | (simp; omega)) (by first | omega | (simp; done) | (simp; omega)) ?_; intro v2 Y2 hown2 hg2; obtain ⟨gg, cap, rfl⟩ := own_shape hown2 (by simp); have hS2 := sZ_gr (by assumption) hg2 (fun k q => Nat.lt_of_lt_of_le hn0 (HO1.out.lt k q).1); have HO2 := Lib.hid hown2; have hk0 := (sZ_tb hS2).ck; have hkf := (sZ_tb hS2).fr; have hkl := (sZ_tb hS2).lt; obtain ⟨u0, hk0⟩ := hk0; clear hown2 hg2)
                    | ((with_reducible change (if Region.wanted _ _ = true then Oper.wp _ _ _ (Y1) _ _ else _)); refine step_rows (enc := zcell) zcell_len (by decide) zcell_one Tryd.underlying23 hi0 hi1 hi2 hi3 rfl (by decide) (by rfl) (.tmp 123) (.tmp 125) (by rfl) (W3.heap.size) v1 d.zs (by rfl) HO1.out (some ⟨W3.heap.size + 1, 0, none⟩) 1 [z] (by rfl) (fun q => by cases q) (rk_lit HR0.out) (by first | omega | (simp; done) | (simp; omega)) (by first | omega | (simp; done) | (simp; omega)) ?_; intro v2 Y2 hown2 hg2; obtain ⟨gg, cap, rfl⟩ := own_shape hown2 (by simp); have hS2 := sZ_gr (by assumption) hg2 (fun k q => Nat.lt_of_lt_of_le hn0 (HO1.out.lt k q).1); have HO2 := Lib.hid hown2; have hk0 := (sZ_tb hS2).ck; have hkf := (sZ_tb hS2).fr; have hkl := (sZ_tb hS2).lt; obtain ⟨u0, hk0⟩ := hk0; clear hown2 hg2)
                    | ((with_reducible change (if Region.wanted _ _ = true then Oper.wp _ _ _ (Y1) _ _ else _)); refine step_rows (enc := zcell) zcell_len (by decide) zcell_one Tryd.underlying23 hi0 hi1 hi2 hi3 rfl (by decide) (by rfl) (.tmp 123) (.tmp 125) (by rfl) (W3.heap.size) v1 d.zs (by rfl) HO1.out (some ⟨W3.heap.size, 0, none⟩) 1 [z] (by rfl) (fun q => by cases q) (rk_lit HR0.out) (by first | omega | (simp; done) | (simp; omega)) (by first | omega | (simp; done) | (simp; omega)) ?_; intro v2 Y2 hown2 hg2; obtain ⟨gg, cap, rfl⟩ := own_shape hown2 (by simp); have hS2 := sZ_gr (by assumption) hg2 (fun k q => Nat.lt_of_lt_of_le hn0 (HO1.out.lt k q).1); have HO2 := Lib.hid hown2; have hk0 := (sZ_tb hS2).ck; have hkf := (sZ_tb hS2).fr; have hkl := (sZ_tb hS2).lt; obtain ⟨u0, hk0⟩ := hk0; clear hown2 hg2))
                all_goals
                  go_wp2_with fail
                  go_meet
                  case rel => exact ⟨_, _, tz_of (sZ_tb hS2) HO2.out hn0⟩
              case rest =>
                clear HRK RA S0 OWA OWB OWC RB RC hk1 hk2 hk3 hk4 HW8 H13 hi0 hi1 hi2 hi3 i0
                obtain ⟨gh, cap2, hTZ⟩ := hcut
                have H14 : Hid (U9 w d r z gu gh cap2 wc) := Lib.hid ⟨hTZ.r8.v0 HD0.out HZ0.out HE0.out, hTZ.bx, hTZ.rk⟩
                clear hTZ hn0 hsz W3
                obtain ⟨vz, hvz⟩ : ∃ vz, (So.right (⟨d.rA, d.rc, d.rs, some ⟨gh, 0, none⟩, cap2, d.zs ++ [z], d.lA, d.lc, d.ls⟩ : Sd).src && (Vd.all (⟨d.rA, d.rc, d.rs, some ⟨gh, 0, none⟩, cap2, d.zs ++ [z], d.lA, d.lc, d.ls⟩ : Sd)).isEmpty) = vz := ⟨_, rfl⟩
                have HW : Hid (∀ W : World, W.cell? ⟨gu, 0, none⟩ = some (.slice d.rA d.rs.length d.rc) ∧ W.cell? ⟨gu, 1, none⟩ = some (.slice (some ⟨gh, 0, none⟩) (d.zs.length + 1) cap2) ∧ W.cell? ⟨gu, 2, none⟩ = some (.slice d.lA d.ls.length d.lc) ∧ W.cell? ⟨w.heap.size, 0, none⟩ = some (.slice d.rA d.rs.length d.rc) ∧ W.cell? ⟨w.heap.size + 1 + 1, 0, none⟩ = some (.string z.nm) ∧ W.cell? ⟨w.heap.size + 1 + 1, 1, none⟩ = some (.slice z.A z.es.length z.c) ∧ U9 w d r z gu gh cap2 W → Calls Tryd.prog 8 #[.agg #[.slice d.rA d.rs.length d.rc, .slice (some ⟨gh, 0, none⟩) (d.zs.length + 1) cap2, .slice d.lA d.ls.length d.lc]] W fun e w' => e = .returned (.bool vz) ∧ Below W.heap.size W w' ∧ U9 w d r z gu gh cap2 w') := Lib.hid (fun W hS => by
                  have hu := s35_u hS
                  have hl : (d.zs ++ [z]).length = d.zs.length + 1 := by rw [List.length_append]; rfl
                  have hsl : d.ls.length ≤ 20 := HG.out.2.2.1
                  have hk := well_any (⟨d.rA, d.rc, d.rs, some ⟨gh, 0, none⟩, cap2, d.zs ++ [z], d.lA, d.lc, d.ls⟩ : Sd) W hu.v0.ev hu.at_
                    ⟨by show (d.zs ++ [z]).length + d.ls.length ≤ 1000; rw [hl]; omega, HOK.out.rs, fun q hq => by
                      rcases List.mem_append.1 hq with hq | hq
                      · exact HOK.out.es q hq
                      · rw [List.mem_singleton.1 hq]
                        exact Nat.le_trans HZ12.out (by decide), fits_zone (d := d) (d' := (⟨d.rA, d.rc, d.rs, some ⟨gh, 0, none⟩, cap2, d.zs ++ [z], d.lA, d.lc, d.ls⟩ : Sd)) (z := z) rfl rfl rfl HF.out hzs12 HZS.out⟩ _ rfl _ rfl
                  rw [hvz] at hk
                  dsimp only [Sd.val] at hk
                  rw [hl] at hk
                  exact hk.mono fun e w' h => ⟨h.1, h.2, hu.on h.2⟩)
                have HV1 : Hid (∀ (W : World) (p : Nat), W.cell? ⟨gu, 0, none⟩ = some (.slice d.rA d.rs.length d.rc) ∧ W.cell? ⟨gu, 1, none⟩ = some (.slice (some ⟨gh, 0, none⟩) (d.zs.length + 1) cap2) ∧ W.cell? ⟨gu, 2, none⟩ = some (.slice d.lA d.ls.length d.lc) ∧ W.cell? ⟨w.heap.size, 0, none⟩ = some (.slice d.rA d.rs.length d.rc) ∧ W.cell? ⟨w.heap.size + 1 + 1, 0, none⟩ = some (.string z.nm) ∧ W.cell? ⟨w.heap.size + 1 + 1, 1, none⟩ = some (.slice z.A z.es.length z.c) ∧ U9 w d r z gu gh cap2 W → W.heap[p]? = some (.cells #[.string z.nm, .slice z.A z.es.length z.c] 37 (0, 0)) → Calls Tryd.prog 8 #[.agg #[.slice d.rA d.rs.length d.rc, .slice (some ⟨p, 0, none⟩) 1 1, .slice none 0 0]] W fun e w' => e = .returned (.bool vz) ∧ Below W.heap.size W w' ∧ V0 w d r z w' ∧ U9 w d r z gu gh cap2 w') := Lib.hid (fun W p hS hp => by
                  have hu := s35_u hS
                  have e1 := right_zone (d := d) (d' := (⟨d.rA, d.rc, d.rs, some ⟨gh, 0, none⟩, cap2, d.zs ++ [z], d.lA, d.lc, d.ls⟩ : Sd)) (d1 := one8 p d z) (z := z) rfl rfl rfl rfl rfl rfl HR.out hzs12
                  have e2 : (Vd.all (⟨d.rA, d.rc, d.rs, some ⟨gh, 0, none⟩, cap2, d.zs ++ [z], d.lA, d.lc, d.ls⟩ : Sd)).isEmpty = (Vd.all (one8 p d z)).isEmpty := bool_of_iff (by
                    rw [List.isEmpty_iff, List.isEmpty_iff]
                    exact all_zone (d := d) (d' := (⟨d.rA, d.rc, d.rs, some ⟨gh, 0, none⟩, cap2, d.zs ++ [z], d.lA, d.lc, d.ls⟩ : Sd)) (d1 := one8 p d z) (z := z) rfl rfl rfl rfl rfl rfl HALL.out HZN.out)
                  have hk := well_any (one8 p d z) W hu.v0.ev ⟨hu.v0.at_.r, rk_lit hp, mem_one hu.v0.ze, Rk.nil⟩
                    ⟨(by decide : (1 + 0 : Nat) ≤ 1000), HOK.out.rs, mem_one (Nat.le_trans HZ12.out (by decide)), ⟨HF.out.r, (by decide : (1 : Nat) ≤ 9223372036854775807), (by decide : (0 : Nat) ≤ 9223372036854775807), HF.out.rn, mem_one HZS.out, fun _ h => by cases h⟩⟩ _ rfl _ rfl
                  rw [← e1, ← e2, hvz] at hk
                  exact hk.mono fun e w' h => ⟨h.1, h.2, hu.v0.on h.2, hu.on h.2⟩)
                have S0 : wc.drew.cell? ⟨gu, 0, none⟩ = some (.slice d.rA d.rs.length d.rc) ∧ wc.drew.cell? ⟨gu, 1, none⟩ = some (.slice (some ⟨gh, 0, none⟩) (d.zs.length + 1) cap2) ∧ wc.drew.cell? ⟨gu, 2, none⟩ = some (.slice d.lA d.ls.length d.lc) ∧ wc.drew.cell? ⟨w.heap.size, 0, none⟩ = some (.slice d.rA d.rs.length d.rc) ∧ wc.drew.cell? ⟨w.heap.size + 1 + 1, 0, none⟩ = some (.string z.nm) ∧ wc.drew.cell? ⟨w.heap.size + 1 + 1, 1, none⟩ = some (.slice z.A z.es.length z.c) ∧ U9 w d r z gu gh cap2 wc.drew := by
                  refine s35_on (W := wc) ⟨H14.out.bx.at_ 0 _ rfl, H14.out.bx.at_ 1 _ rfl, H14.out.bx.at_ 2 _ rfl, H14.out.v0.bx.at_ 0 _ rfl, H14.out.v0.bz.at_ 0 _ rfl, H14.out.v0.bz.at_ 1 _ rfl, H14.out⟩ (Below.refl _ _).drew
                clear hvz
                have HFIN : Hid (∀ W, V0 w d r z W → Below w.heap.size w W) := Lib.hid (fun W h => h.bel)
                have tz : (vz == vz) = true := by simp
                go_wp2_with fail
                go_region_held3 (fun w' => w'.cell? ⟨gu, 0, none⟩ = some (.slice d.rA d.rs.length d.rc) ∧ w'.cell? ⟨gu, 1, none⟩ = some (.slice (some ⟨gh, 0, none⟩) (d.zs.length + 1) cap2) ∧ w'.cell? ⟨gu, 2, none⟩ = some (.slice d.lA d.ls.length d.lc) ∧ w'.cell? ⟨w.heap.size, 0, none⟩ = some (.slice d.rA d.rs.length d.rc) ∧ w'.cell? ⟨w.heap.size + 1 + 1, 0, none⟩ = some (.string z.nm) ∧ w'.cell? ⟨w.heap.size + 1 + 1, 1, none⟩ = some (.slice z.A z.es.length z.c) ∧ U9 w d r z gu gh cap2 w')
                  (first | assumption | exact s35_on (by assumption) (by assumption) | exact s35_al (by assumption))
                  (first
                    | (go_at_call 8; (with_reducible refine (HW.out _ (by assumption)).mono ?_); rintro e w15 ⟨rfl, hb, hq5⟩; (first | (have HP : w15.heap[wc.heap.size]? = some (.cells #[.string z.nm, .slice z.A z.es.length z.c] 37 (0, 0)) := (hb.block _ (by simp)).trans (heap_alloc_new wc (.cells #[.string z.nm, .slice z.A z.es.length z.c] 37))) | skip))
                    | (go_at_call 8; (with_reducible refine (HV1.out _ _ (by assumption) (by first | exact HP | exact heap_alloc_new _ _)).mono ?_); rintro e w16 ⟨rfl, hb2, hq6, hq7⟩))
                all_goals
                  have hfin := HFIN.out _ hq6
                  clear hb hb2 hq5 hq6 hq7 HW HV1 S0 H14
                  go_wp2_with fail
                  go_ret
                  exact ⟨rfl, hfin⟩
end Go.Proofs.YthlbockphdbpkaaDoor
