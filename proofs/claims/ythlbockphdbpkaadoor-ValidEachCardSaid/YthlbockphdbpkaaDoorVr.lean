/- Eras whose rules are not there (package valid): findRuleless. -/
import Derived.Test.YthlbockphdbpkaaDoorVt
namespace Go.Proofs.YthlbockphdbpkaaDoor
open Go.RowKit Go.Maps
set_option maxRecDepth 100000
theorem upto_len' {α : Type} {f : Nat → α → List Fl} {l : List α} {c : Nat} (h : ∀ k x, x ∈ l → (f k x).length ≤ c) : ∀ n, (Vd.upto f l n).length ≤ c * n
  | 0 => Nat.zero_le _
  | n + 1 => by
    show (Vd.upto f l n ++ (match l[n]? with | some x => f n x | none => [])).length ≤ _
    rw [List.length_append, Nat.mul_succ]
    have := upto_len' h n
    cases hx : l[n]? with
    | none => simp; omega
    | some x => have := h n x (List.mem_of_getElem? hx); simp; omega
theorem rlF_len (rs : List Ru) (e : Er) : (Vd.rlF rs e).length ≤ 1 := by unfold Vd.rlF; split <;> simp
theorem rl_len {rs : List Ru} {zs : List Zd} (he : ∀ z ∈ zs, z.es.length ≤ 4096) (n : Nat) : (Vd.rl rs zs n).length ≤ 4096 * n :=
  upto_len' (fun _ z hz => Nat.le_trans (upto_len (fun _ e => rlF_len rs e) _) (by have := he z hz; omega)) n
theorem cnt_run {W : World} {b n : Nat} {M : DataW Unit} {L : List ByteArray} {y : ByteArray} (hm : MapAt W b n M) (ho : Cnt L M) (hs : y.size ≤ 9223372036854775807) :
    (Instr.lookup 76 (.map (some b)) (.string y) false).run Tryd.prog W = .ok (.int .i64 (Vd.cnt L y : Nat)) W := by
  obtain ⟨c, hrun, hat, _⟩ := World.ownsMap.lookup_int hm str_keyed Tryd.underlying76 Tryd.underlying3 (zero_int _) (key_of hs)
  have := (ho y).symm.trans hat
  injection this with this
  injection this with _ this
  rw [hrun, this]
set_option maxHeartbeats 8000000 in
theorem ruleless_any (d : Sd) (g : Nat) (A : Option Addr) (c : Nat) (L : List Fl) (W : World) (h : Fnd W d g A c L) (hr : d.rs.length ≤ 4096) (hz : d.zs.length ≤ 4096) (he : ∀ z ∈ d.zs, z.es.length ≤ 4096) (hrs : ∀ r ∈ d.rs, r.nm.size ≤ 9223372036854775807) (hes : ∀ z ∈ d.zs, ∀ e ∈ z.es, e.ru.size ≤ 9223372036854775807) (hL : L.length ≤ 65536) :
    Calls Tryd.prog 25 #[.pointer (some ⟨g, 0, none⟩)] W fun e W' => e = .returned (.tuple #[]) ∧ PutE d g A L.length c (L ++ Vd.rl d.rs d.zs d.zs.length) W W' := by
  have c0 := cell_blk h.blk 0
  change W.cell? ⟨g, 0, none⟩ = some (.slice d.rA d.rs.length d.rc) at c0
  have hg := h.lt
  have hmm := @run_makeMap Tryd.prog
  have bm := box_below W (.map #[] 0)
  have HM := World.ownsMap_made (H := Unit) W Tryd.prog 9 (plainElem Tryd.prog 3)
  have HO := h.ow
  have HP : Hid (Lp1 W (W.alloc (.map #[] 0)) (W.alloc (.map #[] 0)) d W.heap.size g A L.length c A c L 0 (.map [])) := Lib.hid ⟨h.on bm, HM, hg, by simp, Kf.refl _ _, fun k e => .inl e, fun e => by have := (HO.lt _ e).2; omega⟩
  have HB1 := Lib.hid bm
  have HS := Lib.hid hrs
  have HES := Lib.hid hes
  have HE := Lib.hid he
  obtain ⟨rA, hrA⟩ : ∃ rA, d.rA = rA := ⟨_, rfl⟩
  obtain ⟨zA, hzA⟩ : ∃ zA, d.zA = zA := ⟨_, rfl⟩
  have HRA := Lib.hid hrA
  have HZA := Lib.hid hzA
  rw [hrA] at c0
  obtain ⟨nr, hnr⟩ : ∃ n, d.rs.length = n := ⟨_, rfl⟩
  obtain ⟨nz, hnz⟩ : ∃ n, d.zs.length = n := ⟨_, rfl⟩
  have HNR := Lib.hid hnr
  have HNZ := Lib.hid hnz
  rw [hnr] at c0 hr
  rw [hnz] at hz ⊢
  obtain ⟨Q, hQ⟩ : ∃ Q, Vd.rl d.rs d.zs nz = Q := ⟨_, rfl⟩
  have HQ := Lib.hid hQ
  rw [hQ]
  clear h bm hrs hes he HM HO hrA hzA hnr hnz hQ
  go_enter Tryd.func25, Tryd.ntmps25
  go_wp2_with fail
  clear hmm
  generalize hw1 : W.alloc (.map #[] 0) = w1 at *
  clear hw1
  go_loopw [16] (fun i wr => ∃ (k q : Nat) (M : DataW Unit), k ≤ nr ∧ i = .int .i64 k ∧ q ≤ k ∧ Hid (Lp1 W w1 wr d W.heap.size g A L.length c A c L q M) ∧ Hid (Cnt ((d.rs.map Ru.nm).take k) M)) (fun i _ => nr - (intOf i).toNat)
  case atStart => exact ⟨0, 0, _, Nat.zero_le _, rfl, Nat.le_refl _, HP, Lib.hid cnt_nil⟩
  case round =>
    obtain ⟨k, q, M, hk, rfl, hq, HL, HC⟩ := hrel
    by_cases hlt : k < nr
    · obtain ⟨x, hx⟩ : ∃ x, d.rs[k]? = some x := ⟨_, List.getElem?_eq_getElem (by rw [HNR.out]; exact hlt)⟩
      obtain ⟨b, o, hA, hb, hc⟩ := HL.out.fn.sd.r.at_ rcell_len (by decide) hx
      obtain rfl := HRA.out.symm.trans hA
      clear hA
      have e0 : wr.cell? ⟨b, o + k * 11, none⟩ = some (Value.string x.nm) := hc 0 _ rfl
      have e1 : wr.cell? ⟨b, o + k * 11 + 1, none⟩ = some (Value.int .i64 x.fr) := hc 1 _ rfl
      have e2 : wr.cell? ⟨b, o + k * 11 + 2, none⟩ = some (Value.int .i64 x.tl) := hc 2 _ rfl
      have e3 : wr.cell? ⟨b, o + k * 11 + 3, none⟩ = some (Value.int .i64 x.m) := hc 3 _ rfl
      have e4 : wr.cell? ⟨b, o + k * 11 + 4, none⟩ = some (Value.int .u8 x.k) := hc 4 _ rfl
      have e5 : wr.cell? ⟨b, o + k * 11 + 5, none⟩ = some (Value.int .i64 x.n) := hc 5 _ rfl
      have e6 : wr.cell? ⟨b, o + k * 11 + 6, none⟩ = some (Value.int .i64 x.d) := hc 6 _ rfl
      have e7 : wr.cell? ⟨b, o + k * 11 + 7, none⟩ = some (Value.int .i64 x.s) := hc 7 _ rfl
      have e8 : wr.cell? ⟨b, o + k * 11 + 8, none⟩ = some (Value.int .u8 x.c) := hc 8 _ rfl
      have e9 : wr.cell? ⟨b, o + k * 11 + 9, none⟩ = some (Value.int .i64 x.sv) := hc 9 _ rfl
      have e10 : wr.cell? ⟨b, o + k * 11 + 10, none⟩ = some (Value.string x.lt) := hc 10 _ rfl
      have hxs := HS.out x (List.mem_of_getElem? hx)
      have hxm : (d.rs.map Ru.nm)[k]? = some x.nm := by rw [List.getElem?_map, hx]; rfl
      have HT := Lib.hid (take_snoc1 hxm)
      have hcn : Vd.cnt ((d.rs.map Ru.nm).take k) x.nm ≤ 4096 := by
        have := cnt_le ((d.rs.map Ru.nm).take k) x.nm
        rw [List.length_take, List.length_map, HNR.out] at this
        omega
      have HX := Lib.hid (HC.out x.nm)
      have HY := Lib.hid (cnt_put HC.out (World.ownsMap.isMap HL.out.mp) hxs)
      rw [← HT.out] at HY
      have HLa := Lib.hid (HL.out.on (box_below wr (.cells #[.string x.nm, .int .i64 x.fr, .int .i64 x.tl, .int .i64 x.m, .int .u8 x.k, .int .i64 x.n, .int .i64 x.d, .int .i64 x.s, .int .u8 x.c, .int .i64 x.sv, .string x.lt] 34)))
      generalize Vd.cnt ((d.rs.map Ru.nm).take k) x.nm = p at *
      have t1 : IntKind.i64.wrap ((p : Int) + 1) = (p : Int) + 1 := IntWalk.i64_in _ (by omega)
      clear hx hxm hc hb c0
      go_wp2_with (first
        | (at_lookup; refine wpList_lookup_own_int _ rfl _ _ 76 rfl 9 3 .i64 str_keyed Tryd.underlying76 Tryd.underlying3 (zero_int _) W.heap.size q _ rfl HLa.out.mp _ _ rfl (key_of hxs) ?_; intro cc3 hat hwc; obtain rfl : cc3 = (p : Int) := (by have := HX.out.symm.trans hat; injection this with this; injection this with _ this; exact this.symm); clear hat hwc)
        | (at_mapUpdate; refine wpList_mapUpdate_own _ rfl _ _ _ 76 rfl 9 3 str_keyed Tryd.underlying76 _ W.heap.size q _ rfl HLa.out.mp (by unfold maxLen; omega) _ _ _ rfl rfl (key_of hxs) _ [] (plainElem_int Tryd.underlying3 (WalkArith.wf_i64 (by omega))) ?_; intro w7 hown7 hgr7; have HL7 := Lib.hid (HLa.out.upd hgr7 hown7)))
      clear hown7 hgr7
      go_roundw
      case rel => exact ⟨k + 1, q + 1, _, by omega, by go_num, by omega, HL7, HY⟩
      case measure => simp [intOf]; omega
    · obtain rfl : k = nr := by omega
      have HC : Hid (Cnt (d.rs.map Ru.nm) M) := Lib.hid (by have := HC.out; rwa [List.take_of_length_le (by rw [List.length_map, HNR.out]; exact Nat.le_refl _)] at this)
      have d1 := cell_blk HL.out.fn.blk 1
      change wr.cell? ⟨g, 1, none⟩ = some (.slice d.zA d.zs.length d.zc) at d1
      rw [HZA.out, HNZ.out] at d1
      go_wp2_with fail
      have hrl0 : L ++ Vd.rl d.rs d.zs 0 = L := List.append_nil L
      have HR0 := Lib.hid hrl0
      clear hrl0 d1 c0 HP hk hlt HNR
      go_loopw [32] (fun i wr => ∃ (j : Nat) (A' : Option Addr) (c' : Nat), j ≤ nz ∧ i = .int .i64 j ∧ Hid (Lp1 W w1 wr d W.heap.size g A L.length c A' c' (L ++ Vd.rl d.rs d.zs j) q M)) (fun i _ => nz - (intOf i).toNat)
      case atStart => exact ⟨0, A, c, Nat.zero_le _, rfl, Lib.hid (by rw [HR0.out]; exact HL.out)⟩
      case round =>
        clear HL
        obtain ⟨j, A1, k1, hj, rfl, HL⟩ := hrel
        by_cases hlt2 : j < nz
        · obtain ⟨x, hx⟩ : ∃ x, d.zs[j]? = some x := ⟨_, List.getElem?_eq_getElem (by rw [HNZ.out]; exact hlt2)⟩
          obtain ⟨b, o, hA, hb, hc⟩ := HL.out.fn.sd.z.at_ zcell_len (by decide) hx
          obtain rfl := HZA.out.symm.trans hA
          clear hA
          have hxm := List.mem_of_getElem? hx
          have HEX := Lib.hid (HES.out x hxm)
          have hne := HE.out x hxm
          have HEE := Lib.hid (fun (w' : World) (h : d.at_ w' g) => h.e x hxm)
          have f0 := hc 0 _ rfl
          have f1 := hc 1 _ rfl
          have HU := Lib.hid (show Vd.rl d.rs d.zs (j + 1) = Vd.rl d.rs d.zs j ++ Vd.rlZ d.rs x.es x.es.length from upto_snoc (fun (_ : Nat) (z : Zd) => Vd.rlZ d.rs z.es z.es.length) d.zs j x hx)
          have hrl : (Vd.rl d.rs d.zs j).length ≤ 4096 * j := rl_len HE.out j
          obtain ⟨za, hza⟩ : ∃ za, x.A = za := ⟨_, rfl⟩
          obtain ⟨ne, hnn⟩ : ∃ n, x.es.length = n := ⟨_, rfl⟩
          have HXA := Lib.hid hza
          have HXN := Lib.hid hnn
          have g0 : wr.cell? ⟨b, o + j * 2, none⟩ = some (Value.string x.nm) := f0
          have g1 : wr.cell? ⟨b, o + j * 2 + 1, none⟩ = some (Value.slice za ne x.c) := by rw [← hza, ← hnn]; exact f1
          rw [hnn] at hne HU
          have HLa := Lib.hid (HL.out.on (box_below wr (.cells #[.string x.nm, .slice za ne x.c] 37)))
          clear hx hxm hc hb f0 f1 hza hnn
          go_wp2_with fail
          go_loopw [39] (fun v wr => ∃ (i : Nat) (A' : Option Addr) (c' : Nat), i ≤ ne ∧ v = .int .i64 i ∧ Hid (Lp1 W w1 wr d W.heap.size g A L.length c A' c' (L ++ (Vd.rl d.rs d.zs j ++ Vd.rlZ d.rs x.es i)) q M)) (fun v _ => ne - (intOf v).toNat)
          case atStart => exact ⟨0, A1, k1, Nat.zero_le _, rfl, Lib.hid (by show Lp1 _ _ _ _ _ _ _ _ _ _ _ (L ++ (Vd.rl d.rs d.zs j ++ [])) _ _; rw [List.append_nil]; exact HLa.out)⟩
          case round =>
            clear HL HLa
            obtain ⟨i, A2, c2, hi, rfl, HL⟩ := hrel
            by_cases hlt3 : i < ne
            · obtain ⟨e, hxe⟩ : ∃ e, x.es[i]? = some e := ⟨_, List.getElem?_eq_getElem (by rw [HXN.out]; exact hlt3)⟩
              obtain ⟨bz, oz, hAz, hbz, hci⟩ := (HEE.out wr HL.out.fn.sd).at_ ecell_len (by decide) hxe
              obtain rfl := HXA.out.symm.trans hAz
              clear hAz
              have y0 : wr.cell? ⟨bz, oz + i * 13, none⟩ = some (Value.int .i64 e.sd) := hci 0 _ rfl
              have y1 : wr.cell? ⟨bz, oz + i * 13 + 1, none⟩ = some (Value.int .u8 e.k) := hci 1 _ rfl
              have y2 : wr.cell? ⟨bz, oz + i * 13 + 2, none⟩ = some (Value.int .i64 e.sv) := hci 2 _ rfl
              have y3 : wr.cell? ⟨bz, oz + i * 13 + 3, none⟩ = some (Value.string e.ru) := hci 3 _ rfl
              have y4 : wr.cell? ⟨bz, oz + i * 13 + 4, none⟩ = some (Value.string e.fm) := hci 4 _ rfl
              have y5 : wr.cell? ⟨bz, oz + i * 13 + 5, none⟩ = some (Value.bool e.en) := hci 5 _ rfl
              have y6 : wr.cell? ⟨bz, oz + i * 13 + 6, none⟩ = some (Value.int .i64 e.u.y) := hci 6 _ rfl
              have y7 : wr.cell? ⟨bz, oz + i * 13 + 7, none⟩ = some (Value.int .i64 e.u.m) := hci 7 _ rfl
              have y8 : wr.cell? ⟨bz, oz + i * 13 + 8, none⟩ = some (Value.int .u8 e.u.k) := hci 8 _ rfl
              have y9 : wr.cell? ⟨bz, oz + i * 13 + 9, none⟩ = some (Value.int .i64 e.u.n) := hci 9 _ rfl
              have y10 : wr.cell? ⟨bz, oz + i * 13 + 10, none⟩ = some (Value.int .i64 e.u.d) := hci 10 _ rfl
              have y11 : wr.cell? ⟨bz, oz + i * 13 + 11, none⟩ = some (Value.int .i64 e.u.s) := hci 11 _ rfl
              have y12 : wr.cell? ⟨bz, oz + i * 13 + 12, none⟩ = some (Value.int .u8 e.u.c) := hci 12 _ rfl
              have hru := HEX.out e (List.mem_of_getElem? hxe)
              have HV := Lib.hid (show Vd.rlZ d.rs x.es (i + 1) = Vd.rlZ d.rs x.es i ++ Vd.rlF d.rs e from upto_snoc (fun (_ : Nat) (e : Er) => Vd.rlF d.rs e) x.es i e hxe)
              have hrz : (Vd.rlZ d.rs x.es i).length ≤ 1 * i := upto_len (fun _ e => rlF_len d.rs e) i
              have HLb := Lib.hid (HL.out.on (box_below wr (.cells #[.int .i64 e.sd, .int .u8 e.k, .int .i64 e.sv, .string e.ru, .string e.fm, .bool e.en, .int .i64 e.u.y, .int .i64 e.u.m, .int .u8 e.u.k, .int .i64 e.u.n, .int .i64 e.u.d, .int .i64 e.u.s, .int .u8 e.u.c] 50)))
              have hrun := cnt_run HLb.out.mp HC.out hru
              clear hxe hci hbz g0 g1
              by_cases hk2 : e.k = 2
              · have tk : (e.k == 2) = true := by rw [beq_iff_eq]; exact hk2
                by_cases hp : Vd.cnt (d.rs.map Ru.nm) e.ru = 0
                · have hF : Vd.rlF d.rs e = [⟨3, e.ru⟩] := by
                    unfold Vd.rlF
                    rw [if_pos ⟨hk2, by rw [inb_no]; exact fun h => by have := cnt_pos.2 h; omega⟩]
                  rw [hF] at HV
                  rw [hp] at hrun
                  change (Instr.lookup 76 (.map (some W.heap.size)) (.string e.ru) false).run Tryd.prog (wr.alloc (.cells #[.int .i64 e.sd, .int .u8 e.k, .int .i64 e.sv, .string e.ru, .string e.fm, .bool e.en, .int .i64 e.u.y, .int .i64 e.u.m, .int .u8 e.u.k, .int .i64 e.u.n, .int .i64 e.u.d, .int .i64 e.u.s, .int .u8 e.u.c] 50)) = .ok (.int .i64 0) (wr.alloc (.cells #[.int .i64 e.sd, .int .u8 e.k, .int .i64 e.sv, .string e.ru, .string e.fm, .bool e.en, .int .i64 e.u.y, .int .i64 e.u.m, .int .u8 e.u.k, .int .i64 e.u.n, .int .i64 e.u.d, .int .i64 e.u.s, .int .u8 e.u.c] 50)) at hrun
                  clear hF hk2 hp
                  go_wp2_with (first
                    | (go_at_call 38; refine (put_any d g A2 c2 _ 3 e.ru _ HLb.out.fn (by simp only [List.length_append]; omega)).mono ?_; rintro r w8 ⟨rfl, hp8⟩))
                  obtain ⟨A8, c8, h8⟩ := HLb.out.put hp8
                  have HL8 := Lib.hid h8
                  clear hp8 h8
                  go_roundw
                  case rel => exact ⟨i + 1, A8, c8, by omega, by go_num, Lib.hid (by rw [HV.out, ← List.append_assoc, ← List.append_assoc]; rw [← List.append_assoc] at HL8; exact HL8.out)⟩
                  case measure => simp [intOf]; omega
                · have hF : Vd.rlF d.rs e = [] := by
                    unfold Vd.rlF
                    rw [if_neg]
                    rintro ⟨_, h2⟩
                    have := inb_no.1 h2
                    exact this (cnt_pos.1 (by omega))
                  rw [hF] at HV
                  have HV2 := Lib.hid (HV.out.trans (List.append_nil _))
                  generalize Vd.cnt (d.rs.map Ru.nm) e.ru = p at *
                  have tp : ((p : Int) == 0) = false := by rw [beq_eq_false_iff_ne]; omega
                  clear hF hk2
                  go_wp2_with fail
                  go_roundw
                  case rel => exact ⟨i + 1, A2, c2, by omega, by go_num, Lib.hid (by rw [HV2.out]; exact HLb.out)⟩
                  case measure => simp [intOf]; omega
              · have tk : (e.k == 2) = false := by rw [beq_eq_false_iff_ne]; exact hk2
                have hF : Vd.rlF d.rs e = [] := by
                  unfold Vd.rlF
                  rw [if_neg]
                  rintro ⟨h1, _⟩
                  exact hk2 h1
                rw [hF] at HV
                have HV2 := Lib.hid (HV.out.trans (List.append_nil _))
                clear hF hk2 hrun
                go_wp2_with fail
                go_roundw
                case rel => exact ⟨i + 1, A2, c2, by omega, by go_num, Lib.hid (by rw [HV2.out]; exact HLb.out)⟩
                case measure => simp [intOf]; omega
            · obtain rfl : i = ne := by omega
              rw [← HU.out] at HL
              go_wp2_with fail
              go_roundw
              case rel => exact ⟨j + 1, A2, c2, by omega, by go_num, HL⟩
              case measure => simp [intOf]; omega
        · obtain rfl : j = nz := by omega
          rw [HQ.out] at HL
          go_wp2_with fail
          go_end0
          exact ⟨rfl, HL.out.done HB1.out (Nat.le_refl _)⟩
end Go.Proofs.YthlbockphdbpkaaDoor
