/- fresh7: a name that a source has not. -/
import Derived.Test.YthlbockphdbpkaaDoorLo
namespace Go.Proofs.YthlbockphdbpkaaDoor
open Go.RowKit Go.Maps
set_option maxRecDepth 100000
/-- A q, a small letter, and so many more. -/
def frN (m r : Nat) : ByteArray := ⟨(113 :: UInt8.ofNat (97 + m) :: List.replicate r 113).toArray⟩
theorem frN_size (m r : Nat) : (frN m r).size = r + 2 := by
  show (113 :: UInt8.ofNat (97 + m) :: List.replicate r 113).toArray.size = _
  simp
theorem ba_ext {a b : ByteArray} (h : a.data.toList = b.data.toList) : a = b := by
  cases a; cases b
  simpa using h
theorem frN_succ (m r : Nat) : frN m r ++ ⟨#[113]⟩ = frN m (r + 1) := ba_ext (by
  rw [ByteArray.data_append]
  unfold frN
  simp [List.replicate_succ'])
theorem frN_zero (m : Nat) : (⟨#[113]⟩ : ByteArray) ++ ⟨[UInt8.ofNat (97 + m)].toArray⟩ = frN m 0 := ba_ext (by
  rw [ByteArray.data_append]
  unfold frN
  simp)
theorem frN_zero2 (m : Nat) : (⟨#[113]⟩ : ByteArray) ++ ⟨#[97 + UInt8.ofNat m]⟩ = frN m 0 := by
  have := frN_zero m
  simpa using this
/-- Some name is told; it is long, or the source has it not, neither as a name nor as a target. -/
def FrE (d : Sd) (m : Nat) (e : Ending) : Prop := ∃ r : Nat, r ≤ 200 ∧ e = .returned (.string (frN m r)) ∧ (60 < (frN m r).size ∨ (frN m r ∉ d.names ∧ frN m r ∉ d.ls.map Lk.tg))
set_option maxHeartbeats 8000000 in
theorem fresh7_any (d : Sd) (n : Nat) (w : World) (h : Lok d w) (hn : n ≤ 4096) :
    Calls Tryd.prog 14 #[d.val, .int .i64 n] w fun e w' => FrE d (n % 26) e ∧ Below w.heap.size w w' := by
  obtain ⟨m, hm⟩ : ∃ m : Nat, n % 26 = m := ⟨_, rfl⟩
  have hm26 : m < 26 := by omega
  have t0 : (n : Int) % 26 = (m : Int) := by omega
  have b1 := box_below w (.cells #[.slice d.rA d.rs.length d.rc, .slice d.zA d.zs.length d.zc, .slice d.lA d.ls.length d.lc] 26)
  have b2 := box_below (w.alloc (.cells #[.slice d.rA d.rs.length d.rc, .slice d.zA d.zs.length d.zc, .slice d.lA d.ls.length d.lc] 26)) (.cells #[.int .u8 ((UInt8.ofNat (97 + m)).toNat : Int)] 5)
  have hbx := Bx.mk' (w.alloc (.cells #[.slice d.rA d.rs.length d.rc, .slice d.zA d.zs.length d.zc, .slice d.lA d.ls.length d.lc] 26)) (w.heap.size + 1) #[.int .u8 ((UInt8.ofNat (97 + m)).toNat : Int)] 5 (by simp)
  have hcv := conv_blk (cap := 1) (l := [UInt8.ofNat (97 + m)]) (n := 1) rfl (fun j hj => by
    obtain rfl : j = 0 := by simpa using hj
    exact hbx.at_ 0 _ rfl)
  have e97 : ((UInt8.ofNat (97 + m)).toNat : Int) = 97 + (m : Int) := by
    rw [UInt8.toNat_ofNat']; omega
  rw [e97] at hcv b2
  have H0 : Hid (K13 w d w.heap.size ((w.alloc (.cells #[.slice d.rA d.rs.length d.rc, .slice d.zA d.zs.length d.zc, .slice d.lA d.ls.length d.lc] 26)).alloc (.cells #[.int .u8 (97 + (m : Int))] 5))) := Lib.hid ⟨(Bx.mk' w w.heap.size #[.slice d.rA d.rs.length d.rc, .slice d.zA d.zs.length d.zc, .slice d.lA d.ls.length d.lc] 26 rfl).on b2, (h.on b1).on b2, b1.trans (b2.mono b1.size)⟩
  have HM := Lib.hid hm
  rw [hm]
  clear hbx b1 b2 hm h e97
  go_enter Tryd.func14, Tryd.ntmps14
  go_wp2_with fail
  clear hcv t0
  generalize (w.alloc (.cells #[.slice d.rA d.rs.length d.rc, .slice d.zA d.zs.length d.zc, .slice d.lA d.ls.length d.lc] 26)).alloc (.cells #[.int .u8 (97 + (m : Int))] 5) = W0 at *
  go_loopw [5, 18] (fun s5 i wr => ∃ r : Nat, r ≤ 200 ∧ i = .int .i64 r ∧ s5 = .string (frN m r) ∧ Hid (K13 w d w.heap.size wr)) (fun _ i _ => 200 - (intOf i).toNat)
  case atStart => exact ⟨0, Nat.zero_le _, rfl, congrArg Value.string (frN_zero2 m), H0⟩
  case round =>
    clear H0
    obtain ⟨r, hr, rfl, rfl, H1⟩ := hrel
    have c10 := H1.out.bx.at_ 0 _ rfl
    have c11 := H1.out.bx.at_ 1 _ rfl
    have c12 := H1.out.bx.at_ 2 _ rfl
    obtain ⟨f, hf⟩ : ∃ f, frN m r = f := ⟨_, rfl⟩
    have HF := Lib.hid hf
    have HFS : Hid (f.size = r + 2) := Lib.hid (by rw [← hf, frN_size])
    rw [hf]
    clear hf
    by_cases hlt : r < 200
    · have KN := Lib.hid (names_any d wr H1.out.lk.at_ (by have := H1.out.lk.sz; omega))
      go_wp2_with fail
      refine KN.out.mono ?_
      rintro e w2 ⟨hrow, b2⟩
      obtain ⟨A, c, rfl, s2⟩ := rowE_sl hrow
      have H2 := Lib.hid (H1.out.on b2)
      have T2 := Lib.hid s2
      clear KN hrow b2 c10 c11 c12 s2
      have c20 := H2.out.bx.at_ 0 _ rfl
      have c21 := H2.out.bx.at_ 1 _ rfl
      have c22 := H2.out.bx.at_ 2 _ rfl
      have hnl : d.names.length ≤ 1000 := by
        have := H2.out.lk.sz
        unfold Sd.names
        rw [List.length_append, List.length_map, List.length_map]
        exact this
      generalize hL : d.names.length = nn at *
      have HL := Lib.hid hL
      clear hL
      go_wp2_with fail
      go_loop [6, 23] (fun s6 i => ∃ j : Nat, j ≤ nn ∧ i = .int .i64 j ∧ s6 = .bool (Ld.inb f (d.names.take j))) (fun _ i => nn - (intOf i).toNat)
      case atStart => exact ⟨0, Nat.zero_le _, rfl, rfl⟩
      case round =>
        obtain ⟨j, hj, rfl, rfl⟩ := hrel
        by_cases hlt2 : j < nn
        · obtain ⟨v, hv⟩ : ∃ v, d.names[j]? = some v := ⟨_, List.getElem?_eq_getElem (by rw [HL.out]; exact hlt2)⟩
          have HIN := Lib.hid (inb_next (x := f) hv)
          obtain ⟨ad, rfl, _, hc⟩ := T2.out (by omega)
          have rj : w2.cell? (ad.add j) = some (.string v) := by
            have h2 := hc j hlt2
            change _ = some (Value.string (d.names.getD j ByteArray.empty)) at h2
            rw [List.getD_eq_getElem?_getD, hv] at h2
            exact h2
          obtain ⟨q, hq⟩ : ∃ q, (v.toList == f.toList) = q := ⟨_, rfl⟩
          clear hc hv
          cases hb : Ld.inb f (d.names.take j) with
          | true =>
            have HB := Lib.hid hb
            clear hb
            go_wp2_with fail
            go_round
            case rel => exact ⟨j + 1, by omega, by go_num, by rw [HIN.out, HB.out, Bool.true_or]⟩
            case measure => simp [intOf]; omega
          | false =>
            have HB := Lib.hid hb
            have HQ := Lib.hid hq
            clear hb
            go_wp2_with fail
            go_round
            case rel => exact ⟨j + 1, by omega, by go_num, by rw [HIN.out, HB.out, Bool.false_or, HQ.out]⟩
            case measure => simp [intOf]; omega
        · obtain rfl : j = nn := by omega
          have htn : d.names.take j = d.names := List.take_of_length_le (by rw [HL.out]; exact Nat.le_refl _)
          rw [htn]
          clear htn
          obtain ⟨q0, hq0⟩ : ∃ q0, Ld.inb f d.names = q0 := ⟨_, rfl⟩
          have HQ0 := Lib.hid hq0
          rw [hq0]
          clear hq0
          obtain ⟨nl, hnl2⟩ : ∃ nl, d.ls.length = nl := ⟨_, rfl⟩
          have HNL := Lib.hid hnl2
          have hnl3 : nl ≤ 1000 := by have := H2.out.lk.sz; omega
          rw [hnl2] at c22
          clear hnl2
          go_wp2_with fail
          go_loopw [6, 37] (fun s6 i wq => ∃ k : Nat, k ≤ nl ∧ i = .int .i64 k ∧ s6 = .bool (q0 || Ld.inb f ((d.ls.take k).map Lk.tg)) ∧ Hid (K13 w d w.heap.size wq)) (fun _ i _ => nl - (intOf i).toNat)
          case atStart => exact ⟨0, Nat.zero_le _, rfl, by rw [List.take_zero, List.map_nil]; cases q0 <;> rfl, H2⟩
          case round =>
            clear T2 c20 c21 c22 H2
            obtain ⟨k, hk, rfl, rfl, H2⟩ := hrel
            by_cases hlt3 : k < nl
            · obtain ⟨x, hx⟩ : ∃ x, d.ls[k]? = some x := ⟨_, List.getElem?_eq_getElem (by rw [HNL.out]; exact hlt3)⟩
              obtain ⟨b, o, hA, hb, hc⟩ := H2.out.lk.at_.l.at_ lcell_len (by decide) hx
              have c0' : wr.cell? ⟨b, o + k * 2, none⟩ = some (Value.string x.tg) := hc 0 _ rfl
              have c1' : wr.cell? ⟨b, o + k * 2 + 1, none⟩ = some (Value.string x.nm) := hc 1 _ rfl
              have HIN := Lib.hid (inb_next (x := f) (show (d.ls.map Lk.tg)[k]? = some x.tg by rw [List.getElem?_map, hx]; rfl))
              have q1 := box_below wr (.cells #[.string x.tg, .string x.nm] 56)
              have H3 := Lib.hid (H2.out.on q1)
              obtain ⟨q, hq⟩ : ∃ q, (x.tg.toList == f.toList) = q := ⟨_, rfl⟩
              have HMT : Hid (∀ j, (d.ls.take j).map Lk.tg = (d.ls.map Lk.tg).take j) := Lib.hid (fun j => List.map_take)
              rw [hA]
              have HA := Lib.hid hA
              clear hc hx hA q1
              rw [HMT.out k]
              cases hb0 : (q0 || Ld.inb f ((d.ls.map Lk.tg).take k)) with
              | true =>
                have HB := Lib.hid hb0
                clear hb0
                go_wp2_with fail
                go_roundw
                case rel => exact ⟨k + 1, by omega, by go_num, by rw [HMT.out, HIN.out, ← Bool.or_assoc, HB.out, Bool.true_or], H3⟩
                case measure => simp [intOf]; omega
              | false =>
                have HB := Lib.hid hb0
                have HQ := Lib.hid hq
                clear hb0
                go_wp2_with fail
                go_roundw
                case rel => exact ⟨k + 1, by omega, by go_num, by rw [HMT.out, HIN.out, ← Bool.or_assoc, HB.out, Bool.false_or, HQ.out], H3⟩
                case measure => simp [intOf]; omega
            · obtain rfl : k = nl := by omega
              have htl : d.ls.take k = d.ls := List.take_of_length_le (by rw [HNL.out]; exact Nat.le_refl _)
              rw [htl]
              clear htl
              cases hb0 : (q0 || Ld.inb f (d.ls.map Lk.tg)) with
              | true =>
                have hov : ¬ 9223372036854775807 < f.size + 1 := by rw [HFS.out]; omega
                go_wp2_with fail
                go_roundw
                case rel => exact ⟨r + 1, by omega, by go_num, by rw [← HF.out, frN_succ], H2⟩
                case measure => simp [intOf]; omega
              | false =>
                rw [Bool.or_eq_false_iff, ← HQ0.out, inb_no, inb_no] at hb0
                have HX := Lib.hid (show FrE d m (.returned (.string f)) from ⟨r, by omega, by rw [HF.out], .inr (by rw [HF.out]; exact hb0)⟩)
                have hbel := H2.out.bel
                clear hb0
                go_wp2_with fail
                go_ret
                exact ⟨HX.out, hbel⟩
    · obtain rfl : r = 200 := by omega
      have HX := Lib.hid (show FrE d m (.returned (.string f)) from ⟨200, Nat.le_refl _, by rw [HF.out], .inl (by rw [HF.out, HFS.out]; omega)⟩)
      have hbel := H1.out.bel
      go_wp2_with fail
      go_ret
      exact ⟨HX.out, hbel⟩
end Go.Proofs.YthlbockphdbpkaaDoor
