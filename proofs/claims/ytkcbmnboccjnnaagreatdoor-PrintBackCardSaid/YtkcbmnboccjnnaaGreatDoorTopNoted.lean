/- The law TopNoted: comments and blanks at a right source's lines change nothing. -/
import Derived.Test.YtkcbmnboccjnnaaGreatDoorB6
import Derived.Test.YtkcbmnboccjnnaaGreatDoorSa
import Derived.Test.YtkcbmnboccjnnaaGreatDoorSm
import Derived.Test.YtkcbmnboccjnnaaGreatDoorTn
namespace Go.Proofs.YtkcbmnboccjnnaaGreatDoor
open Go.RowKit
set_option maxRecDepth 100000
/-- What print.Text answers, as far as it is wanted. -/
def PtE (d : Sd) (e : Ending) : Prop := ∃ (T : List UInt8) (k : Int), e = tup T k ∧ (k = 0 → So.right d.src = true ∧ T = Pt.text d.src ∧ T.length ≤ 1048576) ∧ T.length ≤ 1048576
theorem ptext_e (d : Sd) (w : World) (hE : Ev w) (hf : d.fits) (hd : d.at_ w w.heap.size) (hn : So.nn d.src) :
    Calls Tryz.prog 15 #[d.val] w fun e w' => PtE d e ∧ Below w.heap.size w w' := by
  cases hr : So.right d.src with
  | false =>
    refine (ptext_no d w hE hf hd hr).mono ?_
    rintro e w' ⟨rfl, hb⟩
    exact ⟨⟨[], 2, rfl, fun h => absurd h (by decide), by decide⟩, hb⟩
  | true =>
    refine (ptext_right d w hE hf hd hr hn).mono ?_
    rintro e w' ⟨he, hb⟩
    refine ⟨?_, hb⟩
    by_cases hl : (Pt.text d.src).length ≤ 1048576
    · rw [if_pos hl] at he
      exact ⟨_, 0, he, fun _ => ⟨hr, rfl, hl⟩, hl⟩
    · rw [if_neg hl] at he
      exact ⟨[], 6, he, fun h => absurd h (by decide), by decide⟩
theorem lines_flds (s : Src) (h : So.right s = true) : (Pt.lines s).length ≤ s.cnt := Nat.le_trans (pbytes_len _ (lines_ok h)).2 (pflds_lines s)
theorem small_cnt (d : Sd) (h1 : d.rs.length ≤ 40) (h2 : d.zs.length ≤ 12) (h3 : d.ls.length ≤ 20) (h4 : ∀ z ∈ d.zs, z.es.length ≤ 12) : d.src.cnt ≤ 1492 := by
  have key : ∀ l : List Zd, (∀ z ∈ l, z.es.length ≤ 12) → Zn.cnt (l.map Zd.zn) ≤ 86 * l.length := by
    intro l
    induction l with
    | nil => intro _; simp [Zn.cnt]
    | cons z l ih =>
      intro h
      have e1 := ecnt_le z.es
      have e2 := h z (List.mem_cons_self)
      have e3 := ih (fun z' hz' => h z' (List.mem_cons_of_mem _ hz'))
      have e4 : Zn.cnt ((z :: l).map Zd.zn) = (2 + Er.cnt z.es) + Zn.cnt (l.map Zd.zn) := by simp [Zn.cnt, Zd.zn]
      rw [e4, List.length_cons]
      omega
  have hk := key d.zs h4
  unfold Src.cnt Sd.src
  simp only
  omega
theorem noted_len (d : Sd) (n : List UInt8) (h : So.right d.src = true) (hc : d.src.cnt ≤ 1492) (hz : n.length ≤ 200) : (Tn.out n (Pt.text d.src)).length ≤ 1048576 := by
  have h1 := out_len n (Pt.lines d.src) (lines_ok h)
  have h2 := ptext_len h
  have h3 := lines_flds d.src h
  have h4 : (Pt.lines d.src).length * (2 * n.length + 8) ≤ 1492 * 408 := Nat.mul_le_mul (by omega) (by omega)
  show (Tn.out n (Pt.bytes (Pt.lines d.src))).length ≤ _
  unfold Pt.text at h2
  omega
theorem bytes_at (S : ByteArray) (k : Nat) (hk : k < S.size) : S.data.toList[k]? = some S[k] := by
  have h : S.data.toList.length = S.size := by simp
  rw [List.getElem?_eq_getElem (by omega)]
  rfl
theorem cut_one (S : ByteArray) (k : Nat) (hk : k < S.size) : (S.extract k (k + 1)).data.toList = [S[k]] := by
  have h := bytes_at S k hk
  rw [ByteArray.data_extract, Array.toList_extract, List.extract_eq_take_drop]
  rw [show k + 1 - k = 1 by omega]
  obtain ⟨hl, e⟩ := List.getElem?_eq_some_iff.1 h
  rw [List.drop_eq_getElem_cons hl, List.take_succ_cons, List.take_zero, e]
theorem ba_size (S : ByteArray) : S.data.toList.length = S.size := by simp
theorem out_step (n : List UInt8) (S : ByteArray) (k : Nat) (hk : k < S.size) : Tn.out n (S.data.toList.take (k + 1)) = Tn.out n (S.data.toList.take k) ++ (if S[k] = 10 then Tn.sep n else [S[k]]) := by
  rw [List.take_add_one, bytes_at S k hk, out_app]
  congr 1
  simp [Tn.out]
theorem out_pre (n l : List UInt8) (k : Nat) : (Tn.out n (l.take k)).length ≤ (Tn.out n l).length := by
  conv => rhs; rw [← List.take_append_drop k l, out_app, List.length_append]
  omega
theorem slice_one (S : ByteArray) (k : Nat) (hk : k < S.size) (W : World) : (Instr.slice 9 (.string S) (some (.int .i64 (k : Int))) (some (.int .i64 ((k : Int) + 1))) none).run Tryz.prog W = .ok (.string (S.extract k (k + 1))) W := by
  rw [run_slice_string (P := Tryz.prog) W 9 _ .i64 .i64 k (k + 1) Tryz.underlying9 (by omega) (by omega) (by omega)]
  rfl
set_option maxHeartbeats 8000000 in
theorem topnoted_any (d : Sd) (N : ByteArray) (w : World) (hE : Ev w) (hf : d.fits) (hd : d.at_ w w.heap.size) (hn : So.nn d.src) (hN : N.size ≤ 9223372036854775807) :
    Calls Tryz.prog 7 #[d.val, .string N] w fun e w' => e = .returned (.bool true) ∧ Below w.heap.size w w' := by
  have hb := box_below w (.cells #[.slice d.rA d.rs.length d.rc, .slice d.zA d.zs.length d.zc, .slice d.lA d.ls.length d.lc] 27)
  have hbx : Bx (w.alloc (.cells #[.slice d.rA d.rs.length d.rc, .slice d.zA d.zs.length d.zc, .slice d.lA d.ls.length d.lc] 27)) w.heap.size [.slice d.rA d.rs.length d.rc, .slice d.zA d.zs.length d.zc, .slice d.lA d.ls.length d.lc] := Bx.mk' w w.heap.size #[.slice d.rA d.rs.length d.rc, .slice d.zA d.zs.length d.zc, .slice d.lA d.ls.length d.lc] _ rfl
  have H6 := Lib.hid (begins6_true _ (hE.below hb))
  have HE := Lib.hid hE
  have HD := Lib.hid hd
  have HF := Lib.hid hf
  have HN := Lib.hid hn
  have HB := Lib.hid hb
  have HX := Lib.hid hbx
  clear hb hbx hE hd hf hn
  go_enter Tryz.func7, Tryz.ntmps7
  go_wp2_with fail
  refine H6.out.mono ?_
  rintro e w2 ⟨rfl, b2⟩
  have a2 := HB.out.trans (b2.mono HB.out.size)
  have hx2 := HX.out.on b2
  have c0 := hx2.at_ 0 _ rfl
  have c1 := hx2.at_ 1 _ rfl
  have c2 := hx2.at_ 2 _ rfl
  have HT := Lib.hid (ptext_e d w2 (HE.out.below a2) HF.out (HD.out.on a2) HN.out)
  have HX2 := Lib.hid hx2
  clear H6 HB HX b2 hx2
  go_wp2_with fail
  refine HT.out.mono ?_
  rintro e w3 ⟨⟨T, k, rfl, hk0, hTl⟩, b3⟩
  have a3 := a2.trans (b3.mono a2.size)
  have hx3 := HX2.out.on b3
  have d0 := hx3.at_ 0 _ rfl
  have d1 := hx3.at_ 1 _ rfl
  have d2 := hx3.at_ 2 _ rfl
  have HS := Lib.hid (ssmall_any d w3 HF.out (HD.out.on a3))
  have HK0 := Lib.hid hk0
  have HX3 := Lib.hid hx3
  unfold tup
  clear HT HX2 b3 hx3 hk0 c0 c1 c2
  go_wp2_with fail
  refine HS.out.mono ?_
  rintro e w4 ⟨hsm, b4⟩
  have a4 := a3.trans (b4.mono a3.size)
  have hx4 := HX3.out.on b4
  have e0 := hx4.at_ 0 _ rfl
  have e1 := hx4.at_ 1 _ rfl
  have e2 := hx4.at_ 2 _ rfl
  clear HS HX3 b4 d0 d1 d2
  rcases hsm with rfl | ⟨rfl, m1, m2, m3, m4⟩
  · go_wp2_with fail
    go_ret
    exact ⟨rfl, a4⟩
  · by_cases hk : k = 0
    · obtain ⟨hr, rfl, _⟩ := HK0.out hk
      subst hk
      have HR := Lib.hid hr
      have HM := Lib.hid (small_cnt d m1 m2 m3 m4)
      clear HK0 hr m1 m2 m3 m4
      generalize hS : (⟨(Pt.text d.src).toArray⟩ : ByteArray) = S at *
      have HSd := Lib.hid (show S.data.toList = Pt.text d.src by rw [← hS])
      have HSz := Lib.hid (show S.size ≤ 1048576 by rw [← ba_size, HSd.out]; exact hTl)
      clear hS hTl
      by_cases hN2 : N.size ≤ 200
      · have u1 : ¬ (200 : Int) < (N.size : Int) := by omega
        have hx4' := Lib.hid hx4
        clear hx4 e0 e1 e2
        go_wp2_with fail
        go_loopw [7, 33] (fun _ i wr => ∃ j : Nat, j ≤ N.size ∧ i = .int .i64 j ∧ Hid (∀ c ∈ N.data.toList.take j, c ≠ 10) ∧ Hid (wr = w4)) (fun _ i _ => N.size - (intOf i).toNat)
        case atStart => exact ⟨0, Nat.zero_le _, rfl, Lib.hid (fun c hc => by simp at hc), Lib.hid rfl⟩
        case round =>
          obtain ⟨j, hj, rfl, hI, hw⟩ := hrel
          obtain rfl := hw.out.symm
          by_cases hlt : j < N.size
          · have hi0 := idx_any N .i64 j hlt
            by_cases h10 : N[j].toNat = 10
            · have v1 : ((N[j].toNat : Int) == 10) = true := by simp [h10]
              have v2 : (N[j].toNat : Int) = 10 := by omega
              go_wp2_with fail
              go_ret
              exact ⟨rfl, a4⟩
            · have v1 : ((N[j].toNat : Int) == 10) = false := by simp; omega
              have v2 : ¬ (N[j].toNat : Int) = 10 := by omega
              have HI : Hid (∀ c ∈ N.data.toList.take (j + 1), c ≠ 10) := Lib.hid fun c hc => by
                rw [List.take_add_one, bytes_at N j hlt] at hc
                rcases List.mem_append.1 hc with hc | hc
                · exact hI.out c hc
                · obtain rfl : c = N[j] := by simpa using hc
                  intro h
                  apply h10
                  rw [h]
                  rfl
              clear hI
              go_wp2_with fail
              go_roundw
              case rel => exact ⟨j + 1, by omega, by go_num, HI, Lib.hid (by first | rfl | trivial)⟩
              case measure => simp [intOf]; omega
          · obtain hjn : j = N.size := by omega
            have HLF : Hid (∀ c ∈ N.data.toList, c ≠ 10) := Lib.hid fun c hc => hI.out c (by rw [hjn, ← ba_size, List.take_length]; exact hc)
            have HLEN : Hid ((Tn.out N.data.toList S.data.toList).length ≤ 1048576) := Lib.hid (by rw [HSd.out]; exact noted_len d _ HR.out HM.out (by rw [ba_size]; exact hN2))
            have hsz := HSz.out
            clear hI
            go_wp2_with fail
            go_loopw [8, 9, 43] (fun o _ i wr => ∃ (k : Nat) (O : ByteArray), k ≤ S.size ∧ i = .int .i64 k ∧ o = .string O ∧ Hid (O.data.toList = Tn.out N.data.toList (S.data.toList.take k)) ∧ Hid (wr = w4)) (fun _ _ i _ => S.size - (intOf i).toNat)
            case atStart => exact ⟨0, ⟨#[]⟩, Nat.zero_le _, rfl, rfl, Lib.hid rfl, Lib.hid (by first | rfl | trivial)⟩
            case round =>
              obtain ⟨k, O, hk2, rfl, rfl, hO, hw2⟩ := hrel
              obtain rfl := hw2.out.symm
              have hOz : O.size ≤ 1048576 := by
                rw [← ba_size, hO.out]
                exact Nat.le_trans (out_pre _ _ _) HLEN.out
              by_cases hlt2 : k < S.size
              · have hi0 := idx_any S .i64 k hlt2
                have hst := out_step N.data.toList S k hlt2
                by_cases h10 : S[k].toNat = 10
                · have v1 : ((S[k].toNat : Int) == 10) = true := by simp [h10]
                  have v2 : (S[k].toNat : Int) = 10 := by omega
                  have h10' : S[k] = 10 := UInt8.toNat_inj.1 h10
                  rw [if_pos h10'] at hst
                  have HST := Lib.hid hst
                  have z1 : ¬ 9223372036854775807 < 2 + N.size := by omega
                  have z2 : ¬ 9223372036854775807 < 2 + N.size + 3 := by omega
                  have z3 : ¬ 9223372036854775807 < 2 + N.size + 3 + N.size := by omega
                  have z4 : ¬ 9223372036854775807 < 2 + N.size + 3 + N.size + 4 := by omega
                  have z5 : ¬ 9223372036854775807 < O.size + (2 + N.size + 3 + N.size + 4) := by omega
                  clear hst h10'
                  go_wp2_with fail
                  refine ⟨⟨k + 1, _, by omega, by go_num, rfl, Lib.hid ?_, by first | trivial | exact Lib.hid trivial | exact Lib.hid rfl⟩, by simp [intOf]; omega⟩
                  rw [HST.out, ← hO.out]
                  unfold Tn.sep
                  simp [ByteArray.data_append]
                · have v1 : ((S[k].toNat : Int) == 10) = false := by simp; omega
                  have v2 : ¬ (S[k].toNat : Int) = 10 := by omega
                  have h10' : ¬ S[k] = 10 := fun h => h10 (by rw [h]; rfl)
                  rw [if_neg h10'] at hst
                  have HST := Lib.hid hst
                  have hez : (S.extract k (k + 1)).size = 1 := by rw [ByteArray.size_extract]; omega
                  have hed := cut_one S k hlt2
                  have hsl := slice_one S k hlt2
                  generalize S.extract k (k + 1) = X1 at *
                  have z5 : ¬ 9223372036854775807 < O.size + X1.size := by omega
                  have HED := Lib.hid hed
                  clear hst h10' hed hez
                  go_wp2_with fail
                  go_roundw
                  case rel =>
                    refine ⟨k + 1, _, by omega, by go_num, rfl, Lib.hid ?_, Lib.hid (by first | rfl | trivial)⟩
                    rw [HST.out, ← hO.out, ← HED.out]
                    simp [ByteArray.data_append]
                  case measure => simp [intOf]; omega
              · obtain hkS : k = S.size := by omega
                have hOd := hO.out
                rw [hkS, ← ba_size, List.take_length, HSd.out] at hOd
                have hPr := prs_noted N.data.toList HLF.out (by rw [ba_size]; exact hN2) HR.out HN.out (by rw [← HSd.out]; exact HLEN.out)
                have hPA := sparse_any O w4 (by omega) (HE.out.below a4)
                rw [hOd, hPr] at hPA
                have HPA := Lib.hid hPA
                clear hPr hPA hOd hO
                go_wp2_with fail
                refine HPA.out.mono ?_
                rintro e w5 ⟨⟨d', hd', hf', ha', rfl⟩, b5⟩
                have a5 := a4.trans (b5.mono a4.size)
                have hx5 := hx4'.out.on b5
                have f0 := hx5.at_ 0 _ rfl
                have f1 := hx5.at_ 1 _ rfl
                have f2 := hx5.at_ 2 _ rfl
                have hl5 := hx5.lt
                have hl6 : w.heap.size < w5.heap.size + 1 := by omega
                have q1 := box_below w5 (.cells #[.slice d'.rA d'.rs.length d'.rc, .slice d'.zA d'.zs.length d'.zc, .slice d'.lA d'.ls.length d'.lc] 27)
                have q2 := q1.trans ((box_below (w5.alloc (.cells #[.slice d'.rA d'.rs.length d'.rc, .slice d'.zA d'.zs.length d'.zc, .slice d'.lA d'.ls.length d'.lc] 27)) (.cells #[.int .i64 0, .int .i64 0, .int .i64 0] 30)).mono q1.size)
                have hSame := ssame_any d' d _ hf' HF.out (ha'.on q2) ((HD.out.on a5).on q2) true ((srcB_iff _ _).2 hd')
                have HSame := Lib.hid hSame
                have HQ := Lib.hid (a5.trans (q2.mono a5.size))
                clear HPA b5 hx5 q1 q2 hSame ha' hf' hd' a5
                go_wp2_with fail
                refine HSame.out.mono ?_
                rintro e w8 ⟨rfl, b8⟩
                have a8 := HQ.out.trans (b8.mono HQ.out.size)
                clear HSame HQ b8
                go_wp2_with fail
                go_ret
                exact ⟨rfl, a8⟩
      · have u1 : (200 : Int) < (N.size : Int) := by omega
        go_wp2_with fail
        go_ret
        exact ⟨rfl, a4⟩
    · have t1 : (k == 0) = false := by simpa using hk
      go_wp2_with fail
      go_ret
      exact ⟨rfl, a4⟩
theorem walkTopNoted (d : Sd) (hf : d.fits) (hn : So.nn d.src) (N : ByteArray) (hN : N.size ≤ maxLen) (w : World) (hd : d.at_ w w.heap.size) (hE : Env w) (hK : Marks w) :
    Calls Tryz.prog 7 #[d.val, .string N] w fun e w' => e = .returned (.bool true) ∧ Below w.heap.size w w' := topnoted_any d N w ⟨hE, hK⟩ hf hd hn (by unfold maxLen at hN; omega)
end Go.Proofs.YtkcbmnboccjnnaaGreatDoor
