/- Eras that end at no time, or not behind the one ahead (package valid): findUnordered. -/
import Derived.Test.YthlbockphdbpkaaDoorVu
import Derived.Test.YthlbockphdbpkaaDoorVr
namespace Go.Proofs.YthlbockphdbpkaaDoor
open Go.RowKit Go.Maps
set_option maxRecDepth 100000
theorem orF_len (n : ByteArray) (a : Int) (e : Er) : (Vd.orF n a e).length ≤ 1 := by unfold Vd.orF; split <;> simp
theorem orZ_len (n : ByteArray) (es : List Er) (k : Nat) : (Vd.orZ n es k).length ≤ 1 * k := upto_len (fun _ e => orF_len n _ e) k
theorem or_len {zs : List Zd} (he : ∀ z ∈ zs, z.es.length ≤ 4096) (n : Nat) : (Vd.or zs n).length ≤ 4096 * n :=
  upto_len' (fun _ z hz => Nat.le_trans (orZ_len z.nm z.es _) (by have := he z hz; omega)) n
theorem nominal_all (e : Er) (w : World) :
    Calls Tryd.prog 39 #[.int .i64 e.u.y, .int .i64 e.u.m, .agg #[.int .u8 e.u.k, .int .i64 e.u.n, .int .i64 e.u.d], .agg #[.int .i64 e.u.s, .int .u8 e.u.c]] w fun r w' => r = .returned (.tuple #[.int .i64 (Vd.nom e).1, .int .i64 (Vd.nom e).2]) ∧ Below w.heap.size w w' := by
  unfold Vd.nom
  by_cases h1 : Mo.right e.u.s e.u.c = false
  · rw [if_pos h1]
    exact nominal_form _ _ _ _ _ _ _ w h1
  · rw [if_neg h1]
    have h1 : Mo.right e.u.s e.u.c = true := by simpa using h1
    have hI := in_all e.u.k e.u.n e.u.d e.u.y e.u.m
    rcases in_cases e.u.k e.u.n e.u.d e.u.y e.u.m with ⟨a, b, _⟩ | ⟨a, b, b'⟩
    · rw [if_neg (by omega)]
      rw [a] at hI
      exact nominal_in _ _ _ _ _ _ _ _ w h1 (Lib.hid hI) b
    · rw [if_pos a]
      rw [a] at hI
      exact nominal_yes _ _ _ _ _ _ _ _ w h1 (Lib.hid hI) b b'
set_option maxHeartbeats 8000000 in
theorem unordered_any (d : Sd) (g : Nat) (A : Option Addr) (c : Nat) (L : List Fl) (W : World) (h : Fnd W d g A c L) (hz : d.zs.length ≤ 4096) (he : ∀ z ∈ d.zs, z.es.length ≤ 4096) (hL : L.length ≤ 67108864) :
    Calls Tryd.prog 26 #[.pointer (some ⟨g, 0, none⟩)] W fun e W' => e = .returned (.tuple #[]) ∧ PutE d g A L.length c (L ++ Vd.or d.zs d.zs.length) W W' := by
  have c1 := cell_blk h.blk 1
  change W.cell? ⟨g, 1, none⟩ = some (.slice d.zA d.zs.length d.zc) at c1
  have HE := Lib.hid he
  have HP : Hid (Lp2 W W d g A L.length c A c L) := Lib.hid ⟨h, Kf.refl _ _, fun k e => .inl e⟩
  obtain ⟨zA, hzA⟩ : ∃ zA, d.zA = zA := ⟨_, rfl⟩
  have HZA := Lib.hid hzA
  obtain ⟨nz, hnz⟩ : ∃ n, d.zs.length = n := ⟨_, rfl⟩
  have HNZ := Lib.hid hnz
  rw [hzA, hnz] at c1
  rw [hnz] at hz ⊢
  obtain ⟨Q, hQ⟩ : ∃ Q, Vd.or d.zs nz = Q := ⟨_, rfl⟩
  have HQ := Lib.hid hQ
  rw [hQ]
  clear h he hzA hnz hQ
  go_enter Tryd.func26, Tryd.ntmps26
  go_wp2_with fail
  clear c1
  go_loopw [15] (fun v wr => ∃ (j : Nat) (A' : Option Addr) (c' : Nat), j ≤ nz ∧ v = .int .i64 j ∧ Hid (Lp2 W wr d g A L.length c A' c' (L ++ Vd.or d.zs j))) (fun v _ => nz - (intOf v).toNat)
  case atStart => exact ⟨0, A, c, Nat.zero_le _, rfl, Lib.hid (by show Lp2 _ _ _ _ _ _ _ _ _ (L ++ []); rw [List.append_nil]; exact HP.out)⟩
  case round =>
    clear HP
    obtain ⟨j, A1, k1, hj, rfl, HL⟩ := hrel
    by_cases hlt2 : j < nz
    · obtain ⟨x, hx⟩ : ∃ x, d.zs[j]? = some x := ⟨_, List.getElem?_eq_getElem (by rw [HNZ.out]; exact hlt2)⟩
      obtain ⟨b, o, hA, hb, hc⟩ := HL.out.fn.sd.z.at_ zcell_len (by decide) hx
      obtain rfl := HZA.out.symm.trans hA
      clear hA
      have hxm := List.mem_of_getElem? hx
      have hne := HE.out x hxm
      have HEE := Lib.hid (fun (w' : World) (h : d.at_ w' g) => h.e x hxm)
      have f0 := hc 0 _ rfl
      have f1 := hc 1 _ rfl
      have HU := Lib.hid (show Vd.or d.zs (j + 1) = Vd.or d.zs j ++ Vd.orZ x.nm x.es x.es.length from upto_snoc (fun (_ : Nat) (z : Zd) => Vd.orZ z.nm z.es z.es.length) d.zs j x hx)
      have hrl : (Vd.or d.zs j).length ≤ 4096 * j := or_len HE.out j
      obtain ⟨za, hza⟩ : ∃ za, x.A = za := ⟨_, rfl⟩
      obtain ⟨ne, hnn⟩ : ∃ n, x.es.length = n := ⟨_, rfl⟩
      have HXA := Lib.hid hza
      have HXN := Lib.hid hnn
      have g0 : wr.cell? ⟨b, o + j * 2, none⟩ = some (Value.string x.nm) := f0
      have g1 : wr.cell? ⟨b, o + j * 2 + 1, none⟩ = some (Value.slice za ne x.c) := by rw [← hza, ← hnn]; exact f1
      rw [hnn] at hne HU
      obtain ⟨Lj, hLj⟩ : ∃ Lj, L ++ Vd.or d.zs j = Lj := ⟨_, rfl⟩
      have hlj : Lj.length ≤ 67108864 + 4096 * j := by rw [← hLj, List.length_append]; omega
      have HLJ := Lib.hid hLj
      rw [hLj] at HL
      obtain ⟨w0, hw0⟩ : ∃ w0, wr = w0 := ⟨_, rfl⟩
      obtain ⟨w2, hw2⟩ : ∃ w2, wr.alloc (.cells #[.string x.nm, .slice za ne x.c] 37) = w2 := ⟨_, rfl⟩
      have HB2 : Hid (Below w0.heap.size w0 w2) := Lib.hid (by rw [← hw0, ← hw2]; exact box_below _ _)
      have HP2 : Hid (Lp2 w2 w2 d g A1 Lj.length k1 A1 k1 Lj) := Lib.hid ⟨by rw [← hw2]; exact HL.out.fn.on (box_below _ _), Kf.refl _ _, fun k e => .inl e⟩
      have HCN : Hid (w2.cell? ⟨w0.heap.size, 0, none⟩ = some (.string x.nm)) := Lib.hid (by rw [← hw0, ← hw2]; exact (Bx.mk' wr wr.heap.size #[.string x.nm, .slice za ne x.c] 37 rfl).at_ 0 _ rfl)
      have HBL : Hid (w0.heap.size < w2.heap.size) := Lib.hid (by rw [← hw0, ← hw2]; simp)
      have HNX : Hid (¬ Fx g A1 Lj.length k1 w0.heap.size) := Lib.hid (by
        rw [← hw0]
        rintro (e | e)
        · have := HL.out.fn.lt; omega
        · have := (HL.out.fn.ow.lt _ e).2; omega)
      have HLO : Hid (Lp2 W w0 d g A L.length c A1 k1 Lj) := Lib.hid (by rw [← hw0]; exact HL.out)
      have hsz0 : wr.heap.size = w0.heap.size := by rw [hw0]
      have HSZ := Lib.hid hsz0
      have HW2 := Lib.hid hw2
      clear hx hxm hc hb f0 f1 hza hnn hw0 hLj HL hsz0 hw2
      go_wp2_with fail
      rw [HW2.out]
      clear HW2 g0 g1
      rw [HSZ.out]
      clear HSZ
      go_loopw [4, 22] (fun a v wr => ∃ (i : Nat) (A' : Option Addr) (c' : Nat), i ≤ ne ∧ a = .int .i64 (Vd.aheads x.es i) ∧ v = .int .i64 i ∧ Hid (Lp2 w2 wr d g A1 Lj.length k1 A' c' (Lj ++ Vd.orZ x.nm x.es i))) (fun _ v _ => ne - (intOf v).toNat)
      case atStart => exact ⟨0, A1, k1, Nat.zero_le _, rfl, rfl, Lib.hid (by show Lp2 _ _ _ _ _ _ _ _ _ (Lj ++ []); rw [List.append_nil]; exact HP2.out)⟩
      case round =>
        clear HP2
        obtain ⟨i, A2, c2, hi, rfl, rfl, HI⟩ := hrel
        by_cases hlt3 : i < ne
        · obtain ⟨e, hxe⟩ : ∃ e, x.es[i]? = some e := ⟨_, List.getElem?_eq_getElem (by rw [HXN.out]; exact hlt3)⟩
          obtain ⟨bz, oz, hAz, hbz, hci⟩ := (HEE.out wr HI.out.fn.sd).at_ ecell_len (by decide) hxe
          obtain rfl := HXA.out.symm.trans hAz
          clear hAz
          have y0 : wr.cell? ⟨bz, oz + i * 13, none⟩ = some (Value.int .i64 e.sd) := hci 0 _ rfl
          have y1 : wr.cell? ⟨bz, oz + i * 13 + 1, none⟩ = some (Value.int .u8 e.k) := hci 1 _ rfl
          have y2 : wr.cell? ⟨bz, oz + i * 13 + 2, none⟩ = some (Value.int .i64 e.sv) := hci 2 _ rfl
          have y3 : wr.cell? ⟨bz, oz + i * 13 + 3, none⟩ = some (Value.string e.ru) := hci 3 _ rfl
          have y4 : wr.cell? ⟨bz, oz + i * 13 + 4, none⟩ = some (Value.string e.fm) := hci 4 _ rfl
          have y5 : wr.cell? ⟨bz, oz + i * 13 + 5, none⟩ = some (Value.bool e.en) := hci 5 _ rfl
          have y6 : wr.cell? ⟨bz, oz + i * 13 + 6, none⟩ = some (Value.int .i64 e.u.y) := hci 6 _ rfl
          have y7 : wr.cell? ⟨bz, oz + i * 13 + 7, none⟩ = some (Value.int .i64 e.u.m) := hci 7 _ rfl
          have y8 : wr.cell? ⟨bz, oz + i * 13 + 8, none⟩ = some (Value.int .u8 e.u.k) := hci 8 _ rfl
          have y9 : wr.cell? ⟨bz, oz + i * 13 + 9, none⟩ = some (Value.int .i64 e.u.n) := hci 9 _ rfl
          have y10 : wr.cell? ⟨bz, oz + i * 13 + 10, none⟩ = some (Value.int .i64 e.u.d) := hci 10 _ rfl
          have y11 : wr.cell? ⟨bz, oz + i * 13 + 11, none⟩ = some (Value.int .i64 e.u.s) := hci 11 _ rfl
          have y12 : wr.cell? ⟨bz, oz + i * 13 + 12, none⟩ = some (Value.int .u8 e.u.c) := hci 12 _ rfl
          have HV := Lib.hid (show Vd.orZ x.nm x.es (i + 1) = Vd.orZ x.nm x.es i ++ Vd.orF x.nm (Vd.aheads x.es i) e from upto_snoc (fun (k : Nat) (e : Er) => Vd.orF x.nm (Vd.aheads x.es k) e) x.es i e hxe)
          have hrz : (Vd.orZ x.nm x.es i).length ≤ 1 * i := orZ_len x.nm x.es i
          have HIb := Lib.hid (HI.out.on (box_below wr (.cells #[.int .i64 e.sd, .int .u8 e.k, .int .i64 e.sv, .string e.ru, .string e.fm, .bool e.en, .int .i64 e.u.y, .int .i64 e.u.m, .int .u8 e.u.k, .int .i64 e.u.n, .int .i64 e.u.d, .int .i64 e.u.s, .int .u8 e.u.c] 50)))
          have HAH := Lib.hid (aheads_snoc hxe)
          have HNO := Lib.hid (nominal_all e)
          have HFF : Hid (∀ n a, Vd.orF n a e = if e.en = true ∧ ((Vd.nom e).2 ≠ 0 ∨ (Vd.nom e).1 ≤ a) then [⟨10, n⟩] else []) := Lib.hid fun _ _ => rfl
          have HAA : Hid (∀ a, Vd.ahd a e = if e.en = true ∧ (Vd.nom e).2 = 0 then (Vd.nom e).1 else a) := Lib.hid fun _ => rfl
          generalize Vd.nom e = p at *
          obtain ⟨v, z⟩ := p
          dsimp only at HNO HFF HAA
          generalize Vd.aheads x.es i = a at *
          have hF := HFF.out x.nm a
          have hA := HAA.out a
          clear hxe hci hbz
          by_cases hen : e.en = true
          · by_cases hz0 : z = 0
            · subst hz0
              rw [if_pos ⟨hen, rfl⟩] at hA
              rw [hA] at HAH
              clear hA
              by_cases hv : v ≤ a
              · rw [if_pos ⟨hen, .inr hv⟩] at hF
                rw [hF] at HV
                have tv : decide (v ≤ a) = true := decide_eq_true hv
                rw [hen] at y5 HIb
                clear hF hv HFF HAA hen
                go_wp2_with (first | (go_at_call 39; refine (HNO.out _).mono ?_; rintro r w5 ⟨rfl, b5⟩; have HI5 := Lib.hid (HIb.out.on b5); have cn := (HI5.out.kf.cell (p := ⟨w0.heap.size, 0, none⟩) HBL.out HNX.out).trans HCN.out; clear b5) | (go_at_call 38; refine (put_any d g A2 c2 _ 10 x.nm _ HI5.out.fn (by simp only [List.length_append]; omega)).mono ?_; rintro r w8 ⟨rfl, hp8⟩))
                obtain ⟨A8, c8, h8⟩ := HI5.out.put hp8
                have HI8 := Lib.hid h8
                clear hp8 h8
                go_roundw
                case rel => exact ⟨i + 1, A8, c8, by omega, by rw [HAH.out], by go_num, Lib.hid (by rw [HV.out, ← List.append_assoc]; exact HI8.out)⟩
                case measure => simp [intOf]; omega
              · rw [if_neg (by rintro ⟨_, h | h⟩; exact h rfl; exact hv h)] at hF
                rw [hF] at HV
                have HV2 := Lib.hid (HV.out.trans (List.append_nil _))
                have tv : decide (v ≤ a) = false := decide_eq_false hv
                rw [hen] at y5 HIb
                clear hF hv HFF HAA hen
                go_wp2_with (go_at_call 39; refine (HNO.out _).mono ?_; rintro r w5 ⟨rfl, b5⟩; have HI5 := Lib.hid (HIb.out.on b5); have cn := (HI5.out.kf.cell (p := ⟨w0.heap.size, 0, none⟩) HBL.out HNX.out).trans HCN.out; clear b5)
                go_roundw
                case rel => exact ⟨i + 1, A2, c2, by omega, by rw [HAH.out], by go_num, Lib.hid (by rw [HV2.out]; exact HI5.out)⟩
                case measure => simp [intOf]; omega
            · rw [if_neg (by rintro ⟨_, h⟩; exact hz0 h)] at hA
              rw [hA] at HAH
              rw [if_pos ⟨hen, .inl hz0⟩] at hF
              rw [hF] at HV
              have tz : (z != 0) = true := by rw [bne_iff_ne]; exact hz0
              have tz2 : (z == 0) = false := by rw [beq_eq_false_iff_ne]; exact hz0
              rw [hen] at y5 HIb
              clear hF hA hz0 HFF HAA hen
              go_wp2_with (first | (go_at_call 39; refine (HNO.out _).mono ?_; rintro r w5 ⟨rfl, b5⟩; have HI5 := Lib.hid (HIb.out.on b5); have cn := (HI5.out.kf.cell (p := ⟨w0.heap.size, 0, none⟩) HBL.out HNX.out).trans HCN.out; clear b5) | (go_at_call 38; refine (put_any d g A2 c2 _ 10 x.nm _ HI5.out.fn (by simp only [List.length_append]; omega)).mono ?_; rintro r w8 ⟨rfl, hp8⟩))
              obtain ⟨A8, c8, h8⟩ := HI5.out.put hp8
              have HI8 := Lib.hid h8
              clear hp8 h8
              go_roundw
              case rel => exact ⟨i + 1, A8, c8, by omega, by rw [HAH.out], by go_num, Lib.hid (by rw [HV.out, ← List.append_assoc]; exact HI8.out)⟩
              case measure => simp [intOf]; omega
          · rw [if_neg (by rintro ⟨h, _⟩; exact hen h)] at hA
            rw [hA] at HAH
            rw [if_neg (by rintro ⟨h, _⟩; exact hen h)] at hF
            rw [hF] at HV
            have HV2 := Lib.hid (HV.out.trans (List.append_nil _))
            have hef : e.en = false := by simpa using hen
            rw [hef] at y5 HIb
            clear hF hA HFF HAA hen hef
            go_wp2_with fail
            go_roundw
            case rel => exact ⟨i + 1, A2, c2, by omega, by rw [HAH.out], by go_num, Lib.hid (by rw [HV2.out]; exact HIb.out)⟩
            case measure => simp [intOf]; omega
        · obtain rfl : i = ne := by omega
          have hpe := HI.out.done HB2.out
          obtain ⟨A8, c8, h8⟩ := HLO.out.put hpe
          rw [← HLJ.out, List.append_assoc, ← HU.out] at h8
          have HL8 := Lib.hid h8
          clear hpe h8
          go_wp2_with fail
          go_roundw
          case rel => exact ⟨j + 1, A8, c8, by omega, by go_num, HL8⟩
          case measure => simp [intOf]; omega
    · obtain rfl : j = nz := by omega
      rw [HQ.out] at HL
      go_wp2_with fail
      go_end0
      exact ⟨rfl, HL.out.done (Below.refl _ _)⟩
end Go.Proofs.YthlbockphdbpkaaDoor
