/- The lines of a zone: print.Zone. -/
import Derived.Test.YtkcbmnboccjnnaaGreatDoorPr
import Derived.Test.YtkcbmnboccjnnaaGreatDoorLi
namespace Go.Proofs.YtkcbmnboccjnnaaGreatDoor
open Go.RowKit
set_option maxRecDepth 100000
/-- A zone's lines as texts. -/
def zls (z : Zn) : List ByteArray := (Pt.zone z).map fun p => (⟨p.line.toArray⟩ : ByteArray)
theorem zls_len (z : Zn) : (zls z).length = z.es.length := by
  unfold zls Pt.zone
  rw [List.length_map]
  cases z.es with
  | nil => rfl
  | cons e l => simp
theorem zone_line (z : Zn) (k : Nat) (e : Er) (h : z.es[k]? = some e) : (Pt.zone z)[k]? = some (if k = 0 then [] else [9], (if k = 0 then [Pt.zoneW, z.nm] else []) ++ El.texts e) := by
  unfold Pt.zone
  cases hes : z.es with
  | nil => rw [hes] at h; simp at h
  | cons e0 l =>
    rw [hes] at h
    cases k with
    | zero =>
      simp at h
      subst h
      rfl
    | succ k =>
      simp only [List.getElem?_cons_succ] at h ⊢
      rw [List.getElem?_map, h]
      rfl
theorem zls_snoc (z : Zn) (k : Nat) (e : Er) (h : z.es[k]? = some e) : (zls z).take (k + 1) = (zls z).take k ++ [⟨((if k = 0 then [] else [9]) ++ lineOf (bts ((if k = 0 then [Pt.zoneW, z.nm] else []) ++ El.texts e))).toArray⟩] := by
  have hk : k < (zls z).length := by
    rw [zls_len]
    rcases Nat.lt_or_ge k z.es.length with hl | hg
    · exact hl
    · rw [List.getElem?_eq_none hg] at h; cases h
  have hz := zone_line z k e h
  rw [List.take_succ_eq_append_getElem hk]
  congr 2
  have : (zls z)[k]? = some (zls z)[k] := List.getElem?_eq_getElem hk
  unfold zls at this
  rw [List.getElem?_map, hz] at this
  simp only [Option.map_some, Option.some.injEq] at this
  exact this.symm
theorem zone_right1 (z : Zn) : So.right ⟨[], [z], []⟩ = So.zone z := by unfold So.right; simp
/-- A zone's lines are answered. -/
def ZlE (w' : World) (L : List ByteArray) (e : Ending) : Prop := ∃ v, e = .returned (.tuple #[v, .int .i64 0]) ∧ Th w' v L
theorem own_th {w : World} {base : Nat} {v : Value} {L : List ByteArray} (h : w.ownsRow base 9 1 v L.length (L.map Value.string)) : Th w v L := by
  rcases h.2 with ⟨hv, h0⟩ | ⟨g, cap, cur, hv, _, hg, _, _, _, ht⟩
  · exact .inl ⟨hv, List.eq_nil_of_length_eq_zero h0⟩
  · refine .inr ⟨g, cap, cur, (0, 0), hv, hg, fun j hj => ?_⟩
    have h1 : (cur.toList.take (L.length * 1))[j]? = (L.map Value.string)[j]? := by rw [ht]
    rw [List.getElem?_take_of_lt (by omega), List.getElem?_map, List.getElem?_eq_getElem hj] at h1
    rw [List.getD_eq_getElem?_getD, List.getElem?_eq_getElem hj]
    simpa using h1
theorem etext_bx2 (e : Er) (L : List ByteArray) (n : Nat) (w : World) (hE : Ev w) (h : El.right e = true) (c0 : 0 ≤ e.u.c) (hs : e.ru.size ≤ 9223372036854775807) (hL : El.texts e = L) (hn : El.num e = n) :
    Calls Tryz.prog 43 #[.agg #[.int .i64 e.sd, .int .u8 e.k, .int .i64 e.sv, .string e.ru, .string e.fm, .bool e.en, .int .i64 e.u.y, .int .i64 e.u.m, .int .u8 e.u.k, .int .i64 e.u.n, .int .i64 e.u.d, .int .i64 e.u.s, .int .u8 e.u.c]] w fun x w' => (∃ g c, x = .returned (.tuple #[.slice (some ⟨g, 0, none⟩) n c, .int .i64 0]) ∧ n ≤ c ∧ c ≤ 9223372036854775807 ∧ Bx w' g (L.map Value.string)) ∧ Below w.heap.size w w' := by
  subst hL hn
  exact (etext_yes e w hE h c0 hs).mono fun _ _ ⟨⟨g, c, he, h1, h2, ht⟩, hb⟩ => ⟨⟨g, c, he, h1, by unfold maxLen at h2; omega, ht.bx⟩, hb⟩
set_option maxHeartbeats 4000000 in
theorem pzone_yes (z : Zd) (w : World) (hE : Ev w) (h : So.zone z.zn = true) (hc : ∀ e ∈ z.es, 0 ≤ e.u.c) (s1 : z.nm.size ≤ 9223372036854775807) (s2 : z.es.length ≤ 9223372036854775807) (s3 : ∀ e ∈ z.es, e.ru.size ≤ 9223372036854775807 ∧ e.fm.size ≤ 9223372036854775807) (hR : Rk w w.heap.size z.A (z.es.flatMap ecell)) :
    Calls Tryz.prog 19 #[.agg #[.string z.nm, .slice z.A z.es.length z.c]] w fun e w' => ZlE w' (zls z.zn) e ∧ Below w.heap.size w w' := by
  have hok := zone_ok h
  have hb := box_below w (.cells #[.string z.nm, .slice z.A z.es.length z.c] 52)
  have hbx : Bx (w.alloc (.cells #[.string z.nm, .slice z.A z.es.length z.c] 52)) w.heap.size [.string z.nm, .slice z.A z.es.length z.c] := Bx.mk' w w.heap.size #[.string z.nm, .slice z.A z.es.length z.c] _ rfl
  generalize hw1 : w.alloc (.cells #[.string z.nm, .slice z.A z.es.length z.c] 52) = w1 at *
  have hb1 := box_below w1 (.cells #[.string z.nm, .slice z.A z.es.length z.c] 52)
  have hbx1 : Bx (w1.alloc (.cells #[.string z.nm, .slice z.A z.es.length z.c] 52)) w1.heap.size [.string z.nm, .slice z.A z.es.length z.c] := Bx.mk' w1 w1.heap.size #[.string z.nm, .slice z.A z.es.length z.c] _ rfl
  have HS : w1.heap.size = w.heap.size + 1 := by rw [← hw1]; simp
  rw [HS] at hbx1
  have H := Lib.hid (scheck_any ⟨none, 0, [], some ⟨w.heap.size + 1, 0, none⟩, 1, [z], none, 0, []⟩ (w1.alloc (.cells #[.string z.nm, .slice z.A z.es.length z.c] 52)) ((hE.below hb).below hb1)
    ⟨by simp, by simp, by simp, by simp, by intro x hx; simp at hx; subst hx; exact ⟨s1, s2, fun e he => s3 e he⟩, by simp⟩
    ⟨Rk.nil, (fun _ => ⟨_, 0, rfl, hbx1.lt, fun j u hu => by rw [Nat.zero_add]; exact hbx1.at_ j u (by simpa [zcell] using hu)⟩), (fun x hx => by simp at hx; subst hx; exact ((hR.on hb).on hb1)), Rk.nil⟩ true (by rw [← h]; exact zone_right1 z.zn))
  have a1 := Lib.hid (hb.trans (hb1.mono hb.size))
  have HX := Lib.hid (hbx.on hb1)
  have c0 := hbx.at_ 0 _ rfl
  have c1 := hbx.at_ 1 _ rfl
  have HO := Lib.hid hok
  have HE := Lib.hid hE
  have HR := Lib.hid hR
  have H3 := Lib.hid s3
  have HC := Lib.hid hc
  obtain ⟨LB, hLB⟩ : ∃ x, zls z.zn = x := ⟨_, rfl⟩
  have hlen := zls_len z.zn
  rw [hLB] at hlen ⊢
  have HLB := Lib.hid hLB
  have HLEN := Lib.hid hlen
  obtain ⟨nm, A, c, es⟩ := z
  have hn64 : es.length ≤ 64 := (zone_parts h).2.1.2
  have HZ := Lib.hid (show ∀ e ∈ es, El.right e = true from (zone_parts h).2.2.1)
  generalize hn : es.length = n at *
  have HN := Lib.hid hn
  clear hb hok h s1 s2 hE hLB hbx hb1 hbx1 hlen hR s3 hc hn
  go_enter Tryz.func19, Tryz.ntmps19
  go_wp2_with fail
  refine H.out.mono ?_
  rintro e w3 ⟨rfl, b3⟩
  have a3 := a1.out.trans (b3.mono a1.out.size)
  have hx3 := HX.out.on b3
  have d0 := hx3.at_ 0 _ rfl
  have d1 := hx3.at_ 1 _ rfl
  clear H a1 HX b3 hx3 c0 c1
  go_wp2_with fail
  go_cut [6, 7] from 20 to 22 (fun s6 s7 wx => s6 = .string ⟨#[]⟩ ∧ s7 = .slice (some ⟨w3.heap.size, 0, none⟩) 2 2 ∧ Bx wx w3.heap.size [.string ⟨#[90, 111, 110, 101]⟩, .string nm] ∧ Below w3.heap.size w3 wx)
  case first =>
    go_region
    go_wp2_with fail
    go_meet
    case rel => exact ⟨rfl, rfl, ((Bx.mk' w3 w3.heap.size #[.string ⟨#[90, 111, 110, 101]⟩, .string nm] 9 rfl).on (Below.drew (Below.refl _ _))), Below.drew (box_below _ _)⟩
  case rest =>
    obtain ⟨rfl, rfl, hF, b4⟩ := hcut
    have hlt0 : w.heap.size < w3.heap.size := lt_cell d0
    have e1 := (b4.cell (p := ⟨w.heap.size, 1, none⟩) hlt0).trans d1
    have a4 := a3.trans (b4.mono (by omega))
    have hF0 := hF.tl (L := [Pt.zoneW, nm]) 2
    have HF0 := Lib.hid hF0
    clear d0 d1 b4 hF hF0 a3
    go_wp2_with fail
    go_loopw [5, 6, 7, 26] (fun v s u i wr => ∃ (k : Nat) (F : List ByteArray) (P : List UInt8), k ≤ n ∧ i = .int .i64 k ∧ s = .string ⟨P.toArray⟩ ∧ Hid (P = if k = 0 then [] else [9]) ∧ Hid (F = if k = 0 then [Pt.zoneW, nm] else []) ∧ Hid (Tl wr u F) ∧ Hid (wr.ownsRow wc.heap.size 9 1 v (LB.take k).length ((LB.take k).map Value.string)) ∧ Below wc.heap.size wc wr) (fun _ _ _ i _ => n - (intOf i).toNat)
    case atStart => exact ⟨0, [Pt.zoneW, nm], [], Nat.zero_le _, rfl, rfl, Lib.hid rfl, Lib.hid rfl, HF0, Lib.hid (by rw [List.take_zero]; exact World.ownsRow_nil _ _ _ _), Below.refl _ _⟩
    case round =>
      obtain ⟨k, F, P, hk, rfl, rfl, hP, hF, hT, hO, bw⟩ := hrel
      have aw := a4.trans (bw.mono a4.size)
      by_cases hlt : k < n
      · obtain ⟨x, hx⟩ : ∃ x, es[k]? = some x := ⟨_, List.getElem?_eq_getElem (by rw [HN.out]; exact hlt)⟩
        obtain ⟨b, o, rfl, hb, hc⟩ := (HR.out.below aw).at_ ecell_len (by decide) hx
        have HX := Lib.hid hx
        have c0 : wr.cell? ⟨b, o + k * 13, none⟩ = some (Value.int .i64 x.sd) := hc 0 _ rfl
        have c1 : wr.cell? ⟨b, o + k * 13 + 1, none⟩ = some (Value.int .u8 x.k) := hc 1 _ rfl
        have c2 : wr.cell? ⟨b, o + k * 13 + 2, none⟩ = some (Value.int .i64 x.sv) := hc 2 _ rfl
        have c3 : wr.cell? ⟨b, o + k * 13 + 3, none⟩ = some (Value.string x.ru) := hc 3 _ rfl
        have c4 : wr.cell? ⟨b, o + k * 13 + 4, none⟩ = some (Value.string x.fm) := hc 4 _ rfl
        have c5 : wr.cell? ⟨b, o + k * 13 + 5, none⟩ = some (Value.bool x.en) := hc 5 _ rfl
        have c6 : wr.cell? ⟨b, o + k * 13 + 6, none⟩ = some (Value.int .i64 x.u.y) := hc 6 _ rfl
        have c7 : wr.cell? ⟨b, o + k * 13 + 7, none⟩ = some (Value.int .i64 x.u.m) := hc 7 _ rfl
        have c8 : wr.cell? ⟨b, o + k * 13 + 8, none⟩ = some (Value.int .u8 x.u.k) := hc 8 _ rfl
        have c9 : wr.cell? ⟨b, o + k * 13 + 9, none⟩ = some (Value.int .i64 x.u.n) := hc 9 _ rfl
        have c10 : wr.cell? ⟨b, o + k * 13 + 10, none⟩ = some (Value.int .i64 x.u.d) := hc 10 _ rfl
        have c11 : wr.cell? ⟨b, o + k * 13 + 11, none⟩ = some (Value.int .i64 x.u.s) := hc 11 _ rfl
        have c12 : wr.cell? ⟨b, o + k * 13 + 12, none⟩ = some (Value.int .u8 x.u.c) := hc 12 _ rfl
        have hmem := List.mem_of_getElem? hx
        have hbw := box_below wr (.cells #[.int .i64 x.sd, .int .u8 x.k, .int .i64 x.sv, .string x.ru, .string x.fm, .bool x.en, .int .i64 x.u.y, .int .i64 x.u.m, .int .u8 x.u.k, .int .i64 x.u.n, .int .i64 x.u.d, .int .i64 x.u.s, .int .u8 x.u.c] 65)
        have hEw := (HE.out.below aw).below hbw
        obtain ⟨TX, hTX⟩ : ∃ TX, El.texts x = TX := ⟨_, rfl⟩
        obtain ⟨nE, hnE⟩ : ∃ nE, El.num x = nE := ⟨_, rfl⟩
        have hTXn : TX.length = nE := by rw [← hTX, ← hnE]; exact enum_len x
        have hET := etext_bx2 x TX nE _ hEw (HZ.out x hmem) (HC.out x hmem) (H3.out x hmem).1 hTX hnE
        have hzl := zone_line ⟨nm, es⟩ k x hx
        rw [hTX, ← hP.out, ← hF.out] at hzl
        have hsn := zls_snoc ⟨nm, es⟩ k x hx
        rw [hTX, ← hP.out, ← hF.out] at hsn
        have hpk : PL.ok (P, F ++ TX) := HO.out _ (List.mem_of_getElem? hzl)
        have HSN : Hid (LB.take (k + 1) = LB.take k ++ [⟨(P ++ lineOf (bts (F ++ TX))).toArray⟩]) := Lib.hid (by rw [← HLB.out]; exact hsn)
        have HPK := Lib.hid (show PL.ok ([], F ++ TX) from ⟨.inl rfl, hpk.gr, hpk.small, hpk.some_, hpk.few⟩)
        have hPsz : (⟨P.toArray⟩ : ByteArray).size ≤ 1 := by
          rcases hpk.pre with h | h
          · rw [show P = [] from h]; decide
          · rw [show P = [9] from h]; decide
        have hLsz : (⟨(lineOf (bts (F ++ TX))).toArray⟩ : ByteArray).size ≤ 1000 := by
          have := pline_len hpk
          have h2 := hpk.few
          rw [size_ba]
          unfold PL.line at this
          rw [List.length_append] at this
          simp only at this h2
          omega
        have HET := Lib.hid hET
        have HTXN := Lib.hid hTXn
        have HT1 := Lib.hid (hT.out.below hbw)
        have aw1 := aw.trans (hbw.mono aw.size)
        have bw1 := bw.trans (hbw.mono bw.size)
        have HO1 := Lib.hid (own_on hO.out hbw)
        clear hc hx hT hO hzl hsn hpk hET hTXn hEw hmem hbw hTX hnE bw aw HX
        go_wp2_with fail
        refine HET.out.mono ?_
        rintro e w5 ⟨⟨g, cc, rfl, h1, h2, hTb⟩, b5⟩
        have hT5 := hTb.tl cc
        rw [HTXN.out] at hT5
        have hJ := pjoin_yes _ _ TX F _ hT5 (HT1.out.below b5) HPK.out
        have HJ := Lib.hid hJ
        have aw5 := aw1.trans (b5.mono aw1.size)
        have bw5 := bw1.trans (b5.mono bw1.size)
        have HO5 := Lib.hid (own_on HO1.out b5)
        clear HET HT1 aw1 bw1 hTb hT5 hJ b5 HO1 c0 c1 c2 c3 c4 c5 c6 c7 c8 c9 c10 c11 c12
        go_wp2_with fail
        refine HJ.out.mono ?_
        rintro e w6 ⟨rfl, b6⟩
        have aw6 := aw5.trans (b6.mono aw5.size)
        have bw6 := bw5.trans (b6.mono bw5.size)
        have HO6 := Lib.hid (own_on HO5.out b6)
        have hq : ¬ 9223372036854775807 < (⟨P.toArray⟩ : ByteArray).size + (⟨(lineOf (bts (F ++ TX))).toArray⟩ : ByteArray).size := by omega
        have happ := app_ba P (lineOf (bts (F ++ TX)))
        have HSN2 : Hid (LB.take (k + 1) = LB.take k ++ [(⟨P.toArray⟩ : ByteArray) ++ ⟨(lineOf (bts (F ++ TX))).toArray⟩]) := Lib.hid (by rw [happ]; exact HSN.out)
        have hx6 := box_below w6 (.cells #[.string ((⟨P.toArray⟩ : ByteArray) ++ ⟨(lineOf (bts (F ++ TX))).toArray⟩)] 9)
        have HX6 := Lib.hid (own_on HO6.out hx6)
        have HT6 := Lib.hid (lit_tl w6 [(⟨P.toArray⟩ : ByteArray) ++ ⟨(lineOf (bts (F ++ TX))).toArray⟩] #[.string ((⟨P.toArray⟩ : ByteArray) ++ ⟨(lineOf (bts (F ++ TX))).toArray⟩)] rfl 1 rfl)
        have aw7 := aw6.trans (hx6.mono aw6.size)
        have bw7 := bw6.trans (hx6.mono bw6.size)
        have hLT : (LB.take k).length ≤ 64 := by rw [List.length_take]; omega
        unfold tup
        clear HJ aw5 bw5 HO5 b6 HO6 HSN happ aw6 bw6 HPK
        generalize (⟨(lineOf (bts (F ++ TX))).toArray⟩ : ByteArray) = LY at *
        generalize (⟨P.toArray⟩ : ByteArray) = PY at *
        go_wp2_with (at_builtin; refine wpList_tl rfl (.tmp 45) (.tmp 49) rfl wc.heap.size _ (LB.take k) HX6.out rfl _ [PY ++ LY] rfl HT6.out (by simp only [List.length_singleton]; omega) bw7.size ?_; intro v1' w8 hown1 hg1)
        have bw8 := bw7.grown hg1 bw7.size (own_base HX6.out)
        rw [← HSN2.out] at hown1
        have HO8 := Lib.hid hown1
        clear hown1 hg1 aw7 bw7 hx6 HX6 HT6
        go_wp2_with fail
        go_roundw
        case rel => exact ⟨k + 1, [], [9], by omega, by go_num, rfl, Lib.hid (by simp), Lib.hid (by simp), Lib.hid (.inl ⟨rfl, rfl⟩), HO8, bw8⟩
        case measure => simp [intOf]; omega
      · obtain rfl : k = n := by omega
        have htk : LB.take k = LB := by
          refine List.take_of_length_le ?_
          rw [HLEN.out]
          show es.length ≤ k
          rw [HN.out]
          exact Nat.le_refl _
        rw [htk] at hO
        go_wp2_with fail
        go_ret2
        exact ⟨⟨_, rfl, own_th hO.out⟩, aw⟩
end Go.Proofs.YtkcbmnboccjnnaaGreatDoor
