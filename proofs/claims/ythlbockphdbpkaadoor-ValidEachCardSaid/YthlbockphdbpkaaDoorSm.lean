/- How small a source is: solsticelaw11.Small (what is told of it as far as it is wanted). -/
import Derived.Test.YthlbockphdbpkaaDoorSd0
namespace Go.Proofs.YthlbockphdbpkaaDoor
open Go.RowKit
set_option maxRecDepth 100000
/-- What Small answers. -/
def SmallE (d : Sd) (e : Ending) : Prop := e = .returned (.int .i64 0) ∨ (e = .returned (.int .i64 1) ∧ d.rs.length ≤ 40 ∧ d.zs.length ≤ 12 ∧ d.ls.length ≤ 20 ∧ ∀ z ∈ d.zs, z.es.length ≤ 12)
set_option maxHeartbeats 8000000 in
theorem ssmall_any (d : Sd) (w : World) (hf : d.fits) (hd : d.at_ w w.heap.size) :
    Calls Tryd.prog 7 #[d.val] w fun e w' => SmallE d e ∧ Below w.heap.size w w' := by
  have hb := box_below w (.cells #[.slice d.rA d.rs.length d.rc, .slice d.zA d.zs.length d.zc, .slice d.lA d.ls.length d.lc] 26)
  have hbx : Bx (w.alloc (.cells #[.slice d.rA d.rs.length d.rc, .slice d.zA d.zs.length d.zc, .slice d.lA d.ls.length d.lc] 26)) w.heap.size [.slice d.rA d.rs.length d.rc, .slice d.zA d.zs.length d.zc, .slice d.lA d.ls.length d.lc] := Bx.mk' w w.heap.size #[.slice d.rA d.rs.length d.rc, .slice d.zA d.zs.length d.zc, .slice d.lA d.ls.length d.lc] _ rfl
  have HDr := Lib.hid hd.r
  have HDz := Lib.hid hd.z
  have HDe := Lib.hid hd.e
  have HDl := Lib.hid hd.l
  have HFz := Lib.hid hf.zn
  have HFr := Lib.hid hf.rn
  have HFl := Lib.hid hf.ln
  have l1 := hf.r
  have l2 := hf.z
  have l3 := hf.l
  have HS0 : Hid (∀ e, e = .returned (.int .i64 0) → SmallE d e) := Lib.hid (fun e h => .inl h)
  have HS1 : Hid (d.rs.length ≤ 40 → d.zs.length ≤ 12 → d.ls.length ≤ 20 → (∀ z ∈ d.zs, z.es.length ≤ 12) → SmallE d (.returned (.int .i64 1))) := Lib.hid (fun h1 h2 h3 h4 => .inr ⟨rfl, h1, h2, h3, h4⟩)
  obtain ⟨Q, hQ⟩ : ∃ Q, SmallE d = Q := ⟨_, rfl⟩
  rw [hQ] at HS0 HS1 ⊢
  clear hQ hf hd
  obtain ⟨rA, rc, rs, zA, zc, zs, lA, lc, ls⟩ := d
  have c0 := hbx.at_ 0 _ rfl
  have c1 := hbx.at_ 1 _ rfl
  have c2 := hbx.at_ 2 _ rfl
  have hl1 := hbx.lt
  dsimp only at HDr HDz HDe HDl HFz HFr HFl HS1 l1 l2 l3 hb hbx c0 c1 c2
  dsimp only [Sd.val] at ⊢
  generalize hnr : rs.length = nr at *
  generalize hnz : zs.length = nz at *
  generalize hnl : ls.length = nl at *
  have HNr := Lib.hid hnr
  have HNz := Lib.hid hnz
  have HNl := Lib.hid hnl
  clear hnr hnz hnl
  generalize hw1 : w.alloc (.cells #[.slice rA nr rc, .slice zA nz zc, .slice lA nl lc] 26) = w1 at *
  clear hbx
  by_cases g1 : nr ≤ 40
  · by_cases g2 : nz ≤ 12
    · by_cases g3 : nl ≤ 20
      · have t1 : ¬ (40 : Int) < (nr : Int) := by omega
        have t2 : ¬ (12 : Int) < (nz : Int) := by omega
        have t3 : ¬ (20 : Int) < (nl : Int) := by omega
        have HB := Lib.hid hb
        clear hb l1 l2 l3
        go_enter Tryd.func7, Tryd.ntmps7
        go_wp2_with fail
        go_loopw [30] (fun i wr => ∃ k : Nat, k ≤ nz ∧ i = .int .i64 k ∧ Below w1.heap.size w1 wr ∧ Hid (∀ j z, j < k → zs[j]? = some z → z.es.length ≤ 12)) (fun i _ => nz - (intOf i).toNat)
        case atStart => exact ⟨0, Nat.zero_le _, rfl, Below.refl _ _, Lib.hid (fun j z h => absurd h (by omega))⟩
        case round =>
        obtain ⟨k, hk, rfl, bw, HI⟩ := hrel
        have aw := HB.out.trans (bw.mono HB.out.size)
        by_cases hlt : k < nz
        · obtain ⟨x, hx⟩ : ∃ x, zs[k]? = some x := ⟨_, List.getElem?_eq_getElem (by rw [HNz.out]; exact hlt)⟩
          obtain ⟨b, o, rfl, hb, hc⟩ := (HDz.out.below aw).at_ zcell_len (by decide) hx
          have hmx := List.mem_of_getElem? hx
          have hfx := HFz.out x hmx
          have hre := HDe.out x hmx
          obtain ⟨xn, xA, xc, xes⟩ := x
          have c0' : wr.cell? ⟨b, o + k * 2, none⟩ = some (Value.string xn) := hc 0 _ rfl
          have c1' : wr.cell? ⟨b, o + k * 2 + 1, none⟩ = some (Value.slice xA xes.length xc) := hc 1 _ rfl
          have s1 : xn.size ≤ 9223372036854775807 := hfx.1
          have s2 : xes.length ≤ 9223372036854775807 := hfx.2.1
          have HFe : Hid (∀ e ∈ xes, e.ru.size ≤ 9223372036854775807 ∧ e.fm.size ≤ 9223372036854775807) := Lib.hid hfx.2.2
          have HRe : Hid (Rk w w.heap.size xA (xes.flatMap ecell)) := Lib.hid hre
          have HX := Lib.hid hx
          clear hc hx hfx hre hmx
          generalize hne : xes.length = ne at *
          have HNe := Lib.hid hne
          have hbx := box_below wr (.cells #[.string xn, .slice xA ne xc] 37)
          have aw2 := aw.trans (hbx.mono aw.size)
          have bw2 := bw.trans (hbx.mono bw.size)
          clear hbx hne
          by_cases q1 : ne ≤ 12
          · have u1 : ¬ (12 : Int) < (ne : Int) := by omega
            by_cases q2 : xn.size ≤ 1000
            · have u2 : ¬ (1000 : Int) < (xn.size : Int) := by omega
              go_wp2_with fail
              go_loopw [47] (fun i wr => ∃ k2 : Nat, k2 ≤ ne ∧ i = .int .i64 k2 ∧ Below w1.heap.size w1 wr) (fun i _ => ne - (intOf i).toNat)
              case atStart => exact ⟨0, Nat.zero_le _, rfl, bw2⟩
              case round =>
                clear bw2 aw2
                obtain ⟨k2, hk2, rfl, bq⟩ := hrel
                have aq := HB.out.trans (bq.mono HB.out.size)
                by_cases hlt2 : k2 < ne
                · obtain ⟨y, hy⟩ : ∃ y, xes[k2]? = some y := ⟨_, List.getElem?_eq_getElem (by rw [HNe.out]; exact hlt2)⟩
                  obtain ⟨b, o, rfl, hb, hc⟩ := (HRe.out.below aq).at_ ecell_len (by decide) hy
                  have c0 : wr.cell? ⟨b, o + k2 * 13, none⟩ = some (Value.int .i64 y.sd) := hc 0 _ rfl
                  have c1 : wr.cell? ⟨b, o + k2 * 13 + 1, none⟩ = some (Value.int .u8 y.k) := hc 1 _ rfl
                  have c2 : wr.cell? ⟨b, o + k2 * 13 + 2, none⟩ = some (Value.int .i64 y.sv) := hc 2 _ rfl
                  have c3 : wr.cell? ⟨b, o + k2 * 13 + 3, none⟩ = some (Value.string y.ru) := hc 3 _ rfl
                  have c4 : wr.cell? ⟨b, o + k2 * 13 + 4, none⟩ = some (Value.string y.fm) := hc 4 _ rfl
                  have c5 : wr.cell? ⟨b, o + k2 * 13 + 5, none⟩ = some (Value.bool y.en) := hc 5 _ rfl
                  have c6 : wr.cell? ⟨b, o + k2 * 13 + 6, none⟩ = some (Value.int .i64 y.u.y) := hc 6 _ rfl
                  have c7 : wr.cell? ⟨b, o + k2 * 13 + 7, none⟩ = some (Value.int .i64 y.u.m) := hc 7 _ rfl
                  have c8 : wr.cell? ⟨b, o + k2 * 13 + 8, none⟩ = some (Value.int .u8 y.u.k) := hc 8 _ rfl
                  have c9 : wr.cell? ⟨b, o + k2 * 13 + 9, none⟩ = some (Value.int .i64 y.u.n) := hc 9 _ rfl
                  have c10 : wr.cell? ⟨b, o + k2 * 13 + 10, none⟩ = some (Value.int .i64 y.u.d) := hc 10 _ rfl
                  have c11 : wr.cell? ⟨b, o + k2 * 13 + 11, none⟩ = some (Value.int .i64 y.u.s) := hc 11 _ rfl
                  have c12 : wr.cell? ⟨b, o + k2 * 13 + 12, none⟩ = some (Value.int .u8 y.u.c) := hc 12 _ rfl
                  have hfy := HFe.out y (List.mem_of_getElem? hy)
                  have s1 := hfy.1
                  have s2 := hfy.2
                  have hby := box_below wr (.cells #[.int .i64 y.sd, .int .u8 y.k, .int .i64 y.sv, .string y.ru, .string y.fm, .bool y.en, .int .i64 y.u.y, .int .i64 y.u.m, .int .u8 y.u.k, .int .i64 y.u.n, .int .i64 y.u.d, .int .i64 y.u.s, .int .u8 y.u.c] 50)
                  have aw2 := aq.trans (hby.mono aq.size)
                  have bw2 := bq.trans (hby.mono bq.size)
                  clear hc hy hby hfy
                  by_cases q1 : y.ru.size ≤ 1000
                  · have u1 : ¬ (1000 : Int) < (y.ru.size : Int) := by omega
                    by_cases q2 : y.fm.size ≤ 1000
                    · have u2 : ¬ (1000 : Int) < (y.fm.size : Int) := by omega
                      go_wp2_with fail
                      go_roundw
                      case rel => exact ⟨k2 + 1, by omega, by go_num, bw2⟩
                      case measure => simp [intOf]; omega
                    · have u2 : (1000 : Int) < (y.fm.size : Int) := by omega
                      go_wp2_with fail
                      go_ret
                      exact ⟨HS0.out _ rfl, aw2⟩
                  · have u1 : (1000 : Int) < (y.ru.size : Int) := by omega
                    go_wp2_with fail
                    go_ret
                    exact ⟨HS0.out _ rfl, aw2⟩

                · obtain rfl : k2 = ne := by omega
                  go_wp2_with fail
                  go_roundw
                  case rel =>
                    refine ⟨k + 1, by omega, by go_num, bq, Lib.hid fun j z hj hz => ?_⟩
                    by_cases hjk : j < k
                    · exact HI.out j z hjk hz
                    · obtain rfl : j = k := by omega
                      rw [HX.out] at hz
                      injection hz with hz
                      subst hz
                      show xes.length ≤ 12
                      rw [HNe.out]
                      exact q1
                  case measure => simp [intOf]; omega

            · have u2 : (1000 : Int) < (xn.size : Int) := by omega
              go_wp2_with fail
              go_ret
              exact ⟨HS0.out _ rfl, aw2⟩
          · have u1 : (12 : Int) < (ne : Int) := by omega
            go_wp2_with fail
            go_ret
            exact ⟨HS0.out _ rfl, aw2⟩

        · obtain rfl : k = nz := by omega
          have d0 := (bw.cell (p := ⟨w.heap.size, 0, none⟩) hl1).trans c0
          have HALL : Hid (∀ z ∈ zs, z.es.length ≤ 12) := Lib.hid fun z hz => by
            obtain ⟨j, hj, rfl⟩ := List.getElem_of_mem hz
            exact HI.out j _ (by rw [← HNz.out]; exact hj) (List.getElem?_eq_getElem hj)
          clear HI aw
          go_wp2_with fail
          go_loopw [66] (fun i wr => ∃ k : Nat, k ≤ nr ∧ i = .int .i64 k ∧ Below w1.heap.size w1 wr) (fun i _ => nr - (intOf i).toNat)
          case atStart => exact ⟨0, Nat.zero_le _, rfl, bw⟩
          case round =>
            obtain ⟨k, hk, rfl, bw⟩ := hrel
            have aw := HB.out.trans (bw.mono HB.out.size)
            by_cases hlt : k < nr
            · obtain ⟨x, hx⟩ : ∃ x, rs[k]? = some x := ⟨_, List.getElem?_eq_getElem (by rw [HNr.out]; exact hlt)⟩
              obtain ⟨b, o, rfl, hb, hc⟩ := (HDr.out.below aw).at_ rcell_len (by decide) hx
              have c0 : wr.cell? ⟨b, o + k * 11, none⟩ = some (Value.string x.nm) := hc 0 _ rfl
              have c1 : wr.cell? ⟨b, o + k * 11 + 1, none⟩ = some (Value.int .i64 x.fr) := hc 1 _ rfl
              have c2 : wr.cell? ⟨b, o + k * 11 + 2, none⟩ = some (Value.int .i64 x.tl) := hc 2 _ rfl
              have c3 : wr.cell? ⟨b, o + k * 11 + 3, none⟩ = some (Value.int .i64 x.m) := hc 3 _ rfl
              have c4 : wr.cell? ⟨b, o + k * 11 + 4, none⟩ = some (Value.int .u8 x.k) := hc 4 _ rfl
              have c5 : wr.cell? ⟨b, o + k * 11 + 5, none⟩ = some (Value.int .i64 x.n) := hc 5 _ rfl
              have c6 : wr.cell? ⟨b, o + k * 11 + 6, none⟩ = some (Value.int .i64 x.d) := hc 6 _ rfl
              have c7 : wr.cell? ⟨b, o + k * 11 + 7, none⟩ = some (Value.int .i64 x.s) := hc 7 _ rfl
              have c8 : wr.cell? ⟨b, o + k * 11 + 8, none⟩ = some (Value.int .u8 x.c) := hc 8 _ rfl
              have c9 : wr.cell? ⟨b, o + k * 11 + 9, none⟩ = some (Value.int .i64 x.sv) := hc 9 _ rfl
              have c10 : wr.cell? ⟨b, o + k * 11 + 10, none⟩ = some (Value.string x.lt) := hc 10 _ rfl
              have hfx := HFr.out x (List.mem_of_getElem? hx)
              have s1 := hfx.1
              have s2 := hfx.2
              have hbx := box_below wr (.cells #[.string x.nm, .int .i64 x.fr, .int .i64 x.tl, .int .i64 x.m, .int .u8 x.k, .int .i64 x.n, .int .i64 x.d, .int .i64 x.s, .int .u8 x.c, .int .i64 x.sv, .string x.lt] 34)
              have aw2 := aw.trans (hbx.mono aw.size)
              have bw2 := bw.trans (hbx.mono bw.size)
              clear hc hx hbx hfx
              by_cases q1 : x.nm.size ≤ 1000
              · have u1 : ¬ (1000 : Int) < (x.nm.size : Int) := by omega
                by_cases q2 : x.lt.size ≤ 1000
                · have u2 : ¬ (1000 : Int) < (x.lt.size : Int) := by omega
                  go_wp2_with fail
                  go_roundw
                  case rel => exact ⟨k + 1, by omega, by go_num, bw2⟩
                  case measure => simp [intOf]; omega
                · have u2 : (1000 : Int) < (x.lt.size : Int) := by omega
                  go_wp2_with fail
                  go_ret
                  exact ⟨HS0.out _ rfl, aw2⟩
              · have u1 : (1000 : Int) < (x.nm.size : Int) := by omega
                go_wp2_with fail
                go_ret
                exact ⟨HS0.out _ rfl, aw2⟩

            · obtain rfl : k = nr := by omega
              have d2 := (bw.cell (p := ⟨w.heap.size, 2, none⟩) hl1).trans c2
              clear c0 c1 aw
              go_wp2_with fail
              go_loopw [84] (fun i wr => ∃ k : Nat, k ≤ nl ∧ i = .int .i64 k ∧ Below w1.heap.size w1 wr) (fun i _ => nl - (intOf i).toNat)
              case atStart => exact ⟨0, Nat.zero_le _, rfl, bw⟩
              case round =>
                obtain ⟨k, hk, rfl, bw⟩ := hrel
                have aw := HB.out.trans (bw.mono HB.out.size)
                by_cases hlt : k < nl
                · obtain ⟨x, hx⟩ : ∃ x, ls[k]? = some x := ⟨_, List.getElem?_eq_getElem (by rw [HNl.out]; exact hlt)⟩
                  obtain ⟨b, o, rfl, hb, hc⟩ := (HDl.out.below aw).at_ lcell_len (by decide) hx
                  have c0 : wr.cell? ⟨b, o + k * 2, none⟩ = some (Value.string x.tg) := hc 0 _ rfl
                  have c1 : wr.cell? ⟨b, o + k * 2 + 1, none⟩ = some (Value.string x.nm) := hc 1 _ rfl
                  have hfx := HFl.out x (List.mem_of_getElem? hx)
                  have s1 := hfx.1
                  have s2 := hfx.2
                  have hbx := box_below wr (.cells #[.string x.tg, .string x.nm] 56)
                  have aw2 := aw.trans (hbx.mono aw.size)
                  have bw2 := bw.trans (hbx.mono bw.size)
                  clear hc hx hbx hfx
                  by_cases q1 : x.tg.size ≤ 1000
                  · have u1 : ¬ (1000 : Int) < (x.tg.size : Int) := by omega
                    by_cases q2 : x.nm.size ≤ 1000
                    · have u2 : ¬ (1000 : Int) < (x.nm.size : Int) := by omega
                      go_wp2_with fail
                      go_roundw
                      case rel => exact ⟨k + 1, by omega, by go_num, bw2⟩
                      case measure => simp [intOf]; omega
                    · have u2 : (1000 : Int) < (x.nm.size : Int) := by omega
                      go_wp2_with fail
                      go_ret
                      exact ⟨HS0.out _ rfl, aw2⟩
                  · have u1 : (1000 : Int) < (x.tg.size : Int) := by omega
                    go_wp2_with fail
                    go_ret
                    exact ⟨HS0.out _ rfl, aw2⟩

                · obtain rfl : k = nl := by omega
                  go_wp2_with fail
                  go_ret
                  exact ⟨HS1.out g1 g2 g3 HALL.out, aw⟩

      · have t1 : ¬ (40 : Int) < (nr : Int) := by omega
        have t2 : ¬ (12 : Int) < (nz : Int) := by omega
        have t3 : (20 : Int) < (nl : Int) := by omega
        go_enter Tryd.func7, Tryd.ntmps7
        go_wp2_with fail
        go_ret
        exact ⟨HS0.out _ rfl, hb⟩
    · have t1 : ¬ (40 : Int) < (nr : Int) := by omega
      have t2 : (12 : Int) < (nz : Int) := by omega
      go_enter Tryd.func7, Tryd.ntmps7
      go_wp2_with fail
      go_ret
      exact ⟨HS0.out _ rfl, hb⟩
  · have t1 : (40 : Int) < (nr : Int) := by omega
    go_enter Tryd.func7, Tryd.ntmps7
    go_wp2_with fail
    go_ret
    exact ⟨HS0.out _ rfl, hb⟩
end Go.Proofs.YthlbockphdbpkaaDoor
