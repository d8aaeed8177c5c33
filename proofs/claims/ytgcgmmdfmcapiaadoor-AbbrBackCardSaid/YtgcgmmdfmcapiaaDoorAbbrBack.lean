/- The walk of layer 8's statement AbbrBack. -/
import Derived.Test.YtgcgmmdfmcapiaaDoorLives08
import Derived.OwnWalk
import Derived.Deep.DeepCutAuto
import Derived.Deep.CutBlock
import Derived.LoopTactic
namespace Go.Proofs.YtgcgmmdfmcapiaaDoor
open Go.RowKit
/-- What Offset answers, the same in every world. -/
def OffE (t : Int) (T : ByteArray) (z : Int) : Prop := ∀ W : World, Units W → Calls Tryd.prog 7 #[.int .i64 t] W fun e w' => e = .returned (.tuple #[.string T, .int .i64 z]) ∧ Below W.heap.size W w'
theorem offE (t : Int) : ∃ T z, OffE t T z ∧ T.size ≤ 7 ∧ ((z = 0 ∧ -360000 < t ∧ t < 360000 ∧ T.data.toList = offT t) ∨ (z = 1 ∧ (t ≤ -360000 ∨ 360000 ≤ t))) := by
  by_cases h : -360000 < t ∧ t < 360000
  · obtain ⟨X, hX⟩ : ∃ X : ByteArray, X.data.toList = offT t := ⟨⟨(offT t).toArray⟩, by simp⟩
    have hz : X.data.toList.length = X.size := by simp
    have hl := offT_len t
    rw [hX] at hz
    exact ⟨X, 0, fun W hU => offset_at t X W hU h.1 h.2 hX, by omega, .inl ⟨rfl, h.1, h.2, hX⟩⟩
  · exact ⟨⟨#[]⟩, 1, fun W _ => (offset_no t W (by omega)).mono fun _ _ ⟨he, hw⟩ => ⟨he, by rw [← hw]; exact Below.refl _ _⟩, by decide, .inr ⟨rfl, by omega⟩⟩
theorem po_at (X : ByteArray) (a : Int) (w : World) (hU : Units w) (h1 : -360000 < a) (h2 : a < 360000) (hX : X.data.toList = offT a) : Calls Tryd.prog 8 #[.string X] w fun e w' => e = .returned (.tuple #[.int .i64 a, .int .i64 0]) ∧ Below w.heap.size w w' := by
  have hz : X.data.toList.length = X.size := by simp
  have hl := offT_len a
  have h := po_any X w hU (by rw [hX] at hz; omega)
  rw [hX, po_offT a h1 h2] at h
  exact h
/-- What Of answers, the same in every world. -/
def OfE (F L : ByteArray) (off : Int) (dst : Bool) (S : ByteArray) (z : Int) : Prop := ∀ W : World, Marks W → Mxa W → Units W → Calls Tryd.prog 11 #[.string F, .string L, .int .i64 off, .bool dst] W fun e w' => e = .returned (.tuple #[.string S, .int .i64 z]) ∧ Below W.heap.size W w'
theorem ofE (F L : ByteArray) (off : Int) (dst : Bool) (S : ByteArray) (z : Int) (h : Fm.of F.data.toList L.data.toList off dst = (S.data.toList, z)) : OfE F L off dst S z := fun W hK hM hU => of_lit F L off dst S z W hK hM hU h
theorem has_snoc_P (F : ByteArray) (k : Nat) (h : k < F.size) : Fm.hasP (F.data.toList.take (k + 1)) = (Fm.hasP (F.data.toList.take k) || ((F[k].toNat : Int) == 37)) := by
  rw [take_snoc' F k h]
  unfold Fm.hasP
  rw [List.any_append]
  congr 1
  rw [Bool.eq_iff_iff]
  simp only [List.any_cons, List.any_nil, Bool.or_false, beq_iff_eq]
  exact ⟨fun e => by rw [e]; rfl, fun e => UInt8.toNat_inj.1 (by rw [show (37 : UInt8).toNat = 37 from rfl]; omega)⟩
theorem has_snoc_S (F : ByteArray) (k : Nat) (h : k < F.size) : Fm.hasS (F.data.toList.take (k + 1)) = (Fm.hasS (F.data.toList.take k) || ((F[k].toNat : Int) == 47)) := by
  rw [take_snoc' F k h]
  unfold Fm.hasS
  rw [List.any_append]
  congr 1
  rw [Bool.eq_iff_iff]
  simp only [List.any_cons, List.any_nil, Bool.or_false, beq_iff_eq]
  exact ⟨fun e => by rw [e]; rfl, fun e => UInt8.toNat_inj.1 (by rw [show (47 : UInt8).toNat = 47 from rfl]; omega)⟩
theorem of_len (f l : List UInt8) (off : Int) (dst : Bool) : (Fm.of f l off dst).1.length ≤ 100 := by
  by_cases h : (Fm.fmt f && Fm.ltr l) = true
  · have h2 := h
    rw [Bool.and_eq_true] at h2
    obtain ⟨_, hl, m, a, b, hc, _, _, hw⟩ := Fm.fmt_cases h2.1
    have hx := ltr_small h2.2
    have ho := offT_len off
    rw [of_pair h2.1 h2.2 hc]
    have hab : a.length + b.length ≤ 32 := by
      rcases hw with ⟨_, e, _⟩ | ⟨_, e, _⟩ | ⟨_, e, _⟩ | ⟨_, e, e2, _⟩
      · rw [e] at hl
        simp only [List.length_append] at hl
        omega
      · rw [e] at hl
        simp only [List.length_append] at hl
        omega
      · rw [e] at hl
        simp only [List.length_append] at hl
        omega
      · rw [e] at hl
        rw [e2]
        simpa using hl
    rcases hw with ⟨rfl, _⟩ | ⟨rfl, _⟩ | ⟨rfl, _⟩ | ⟨rfl, _⟩
    · simp only [List.length_append]
      omega
    · by_cases hr : -360000 < off ∧ off < 360000
      · simp only [if_pos hr, List.length_append]
        omega
      · simp only [if_neg hr, List.length_nil]
        omega
    · cases dst
      · simp only
        show a.length ≤ 100
        omega
      · simp only
        show b.length ≤ 100
        omega
    · show a.length ≤ 100
      omega
  · unfold Fm.of
    rw [if_neg h]
    simp
set_option maxRecDepth 100000 in
set_option maxHeartbeats 4000000 in
theorem abbr_in (off o : Int) (s F L1 L2 T1 T2 : ByteArray) (z1 z2 : Int) (w : World) (HK : Hid (Marks w)) (HM : Hid (Mxa w)) (HU : Hid (Units w)) (hs : s.size ≤ 1000) (hF : F.size ≤ 1000) (hl1 : L1.size ≤ 1000) (hl2 : L2.size ≤ 1000)
    (HO1 : Hid (OffE off T1 z1)) (HO2 : Hid (OffE o T2 z2)) (HZ1 : Hid ((z1 = 0 ∧ -360000 < off ∧ off < 360000 ∧ T1.data.toList = offT off) ∨ (z1 = 1 ∧ (off ≤ -360000 ∨ 360000 ≤ off)))) (HZ2 : Hid ((z2 = 0 ∧ -360000 < o ∧ o < 360000 ∧ T2.data.toList = offT o) ∨ (z2 = 1 ∧ (o ≤ -360000 ∨ 360000 ≤ o)))) :
    Calls Tryd.prog 3 #[.int .i64 off, .int .i64 o, .string s, .string F, .string L1, .string L2] w fun e w' => e = .returned (.bool true) ∧ Below w.heap.size w w' := by
  go_enter Tryd.func3, Tryd.ntmps3
  go_wp2_with fail
  refine (lives08 _ HK HM HU).mono ?_
  rintro e w1 ⟨rfl, a1⟩
  go_wp2_with fail
  refine (HO1.out _ (HU.out.below a1)).mono ?_
  rintro e w2 ⟨rfl, b2⟩
  have a2 := a1.trans (b2.mono a1.size)
  go_wp2_with fail
  refine (HO2.out _ (HU.out.below a2)).mono ?_
  rintro e w3 ⟨rfl, b3⟩
  have a3 := a2.trans (b3.mono a2.size)
  clear b2 b3 a1 a2
  go_upto_region 7 with fail
  go_cut [72] from 64 to 72 (fun s72 wx => s72 = .bool false ∧ wx = w3)
  case first =>
    rcases HZ1.out with ⟨rfl, h1, h2, _⟩ | ⟨rfl, h | h⟩
    · go_wp2_with fail
      go_meet
      case rel => exact ⟨rfl, rfl⟩
    · have t1 : decide (-360000 < off) = false := by simp; omega
      go_wp2_with fail
      go_meet
      case rel => exact ⟨rfl, rfl⟩
    · have t1 : decide (off < 360000) = false := by simp; omega
      have t2 : -360000 < off := by omega
      go_wp2_with fail
      go_meet
      case rel => exact ⟨rfl, rfl⟩
  case rest =>
  obtain ⟨rfl, rfl⟩ := hcut
  go_upto_if 74 with fail
  go_cut [] from 12 to 99 (fun wx => Below w.heap.size w wx)
  case first =>
    rcases HZ1.out with ⟨rfl, h1, h2, hT1⟩ | ⟨rfl, _⟩
    · rcases HZ2.out with ⟨rfl, g1, g2, hT2⟩ | ⟨rfl, _⟩
      · have hq : ((T1.toList == T2.toList) = true ∧ (off == o) = true) ∨ ((T1.toList == T2.toList) = false ∧ (off == o) = false) := by
          rw [ByteArray.toList_eq, ByteArray.toList_eq, hT1, hT2]
          by_cases he : off = o
          · exact .inl ⟨by rw [beq_iff_eq, he], by rw [beq_iff_eq]; exact he⟩
          · exact .inr ⟨by rw [beq_eq_false_iff_ne]; exact fun h => he (offT_inj h1 h2 g1 g2 h), by rw [beq_eq_false_iff_ne]; exact he⟩
        have HT1 := Lib.hid hT1
        clear hT1 hT2
        rcases hq with ⟨t1, t2⟩ | ⟨t1, t2⟩
        all_goals
          go_wp2_with fail
          refine (po_at T1 off _ (HU.out.below a3) h1 h2 HT1.out).mono ?_
          rintro e w4 ⟨rfl, b4⟩
          have a4 := a3.trans (b4.mono a3.size)
          go_wp2_with fail
          go_meet
          case rel => exact a4
      · have HT1 := Lib.hid hT1
        clear hT1
        go_wp2_with fail
        refine (po_at T1 off _ (HU.out.below a3) h1 h2 HT1.out).mono ?_
        rintro e w4 ⟨rfl, b4⟩
        have a4 := a3.trans (b4.mono a3.size)
        go_wp2_with fail
        go_meet
        case rel => exact a4
    · go_wp2_with fail
      go_meet
      case rel => exact a3
  case rest =>
  have a5 := hcut
  clear hcut a3
  go_step
  go_step
  go_cut [] from 12 to 118 (fun wx => Below w.heap.size w wx)
  case first =>
    cases hp : Fm.po s.data.toList with
    | none =>
      have HP := Lib.hid hp
      clear hp
      go_wp2_with fail
      refine (po_lit s 0 4 _ (HU.out.below a5) (by omega) (.inr ⟨HP.out, rfl, rfl⟩)).mono ?_
      rintro e w6 ⟨rfl, b6⟩
      have a6 := a5.trans (b6.mono a5.size)
      go_wp2_with fail
      go_meet
      case rel => exact a6
    | some v =>
      have HP := Lib.hid hp
      obtain ⟨v1, v2, hv⟩ := po_text hp
      have HV := Lib.hid hv.symm
      clear hp hv
      go_wp2_with fail
      refine (po_lit s v 0 _ (HU.out.below a5) (by omega) (.inl ⟨v, HP.out, rfl, rfl⟩)).mono ?_
      rintro e w6 ⟨rfl, b6⟩
      have a6 := a5.trans (b6.mono a5.size)
      go_wp2_with fail
      refine (offset_at v s _ (HU.out.below a6) v1 v2 HV.out).mono ?_
      rintro e w7 ⟨rfl, b7⟩
      have a7 := a6.trans (b7.mono a6.size)
      go_wp2_with fail
      go_meet
      case rel => exact a7
  case rest =>
  have a8 := hcut
  clear hcut a5
  go_step
  go_step
  cases hf : Fm.fmt F.data.toList with
  | false =>
    have HF := Lib.hid hf
    clear hf
    go_wp2_with fail
    refine (fcheck_no F _ (HK.out.below a8) (HM.out.below a8) HF.out).mono ?_
    rintro e w9 ⟨rfl, b9⟩
    have a9 := a8.trans (b9.mono a8.size)
    go_wp2_with fail
    go_ret
    exact ⟨rfl, a9⟩
  | true =>
  have HF := Lib.hid hf
  clear hf
  go_wp2_with fail
  refine (fcheck_yes F _ (HK.out.below a8) (HM.out.below a8) HF.out).mono ?_
  rintro e w9 ⟨rfl, b9⟩
  have a9 := a8.trans (b9.mono a8.size)
  clear b9
  cases hh1 : Fm.ltr L1.data.toList with
  | false =>
    have H1 := Lib.hid hh1
    clear hh1
    go_wp2_with fail
    refine (cletter_no L1 _ H1.out).mono ?_
    rintro e w10 ⟨rfl, b10⟩
    have a10 := a9.trans (b10.mono a9.size)
    go_wp2_with fail
    go_ret
    exact ⟨rfl, a10⟩
  | true =>
  have H1 := Lib.hid hh1
  clear hh1
  go_wp2_with fail
  refine (cletter_yes L1 _ H1.out).mono ?_
  rintro e w10 ⟨rfl, b10⟩
  have a10 := a9.trans (b10.mono a9.size)
  clear b10
  cases hh2 : Fm.ltr L2.data.toList with
  | false =>
    have H2 := Lib.hid hh2
    clear hh2
    go_wp2_with fail
    refine (cletter_no L2 _ H2.out).mono ?_
    rintro e w11 ⟨rfl, b11⟩
    have a11 := a10.trans (b11.mono a10.size)
    go_wp2_with fail
    go_ret
    exact ⟨rfl, a11⟩
  | true =>
  have H2 := Lib.hid hh2
  clear hh2
  go_wp2_with fail
  refine (cletter_yes L2 _ H2.out).mono ?_
  rintro e w11 ⟨rfl, b11⟩
  have a11 := a10.trans (b11.mono a10.size)
  clear b11
  go_wp2_with fail
  have hFs : F.size ≤ 32 := by
    have h := (Fm.fmt_cases HF.out).2.1
    have hz : F.data.toList.length = F.size := by simp
    omega
  go_loop [23, 24, 134] (fun p q i => ∃ k : Nat, k ≤ F.size ∧ i = .int .i64 k ∧ p = .bool (Fm.hasP (F.data.toList.take k)) ∧ q = .bool (Fm.hasS (F.data.toList.take k))) (fun _ _ i => F.size - (intOf i).toNat)
  case atStart => exact ⟨0, Nat.zero_le _, rfl, rfl, rfl⟩
  case round =>
    obtain ⟨k, hk, rfl, rfl, rfl⟩ := hrel
    by_cases hlt : k < F.size
    · have hi0 := aidx F .i64 k hlt
      obtain ⟨b1, e1⟩ : ∃ b, ((F[k].toNat : Int) == 37) = b := ⟨_, rfl⟩
      obtain ⟨b2, e2⟩ : ∃ b, ((F[k].toNat : Int) == 47) = b := ⟨_, rfl⟩
      have hP := has_snoc_P F k hlt
      have hS := has_snoc_S F k hlt
      rw [e1] at hP
      rw [e2] at hS
      generalize Fm.hasP (F.data.toList.take k) = P at hP ⊢
      generalize Fm.hasS (F.data.toList.take k) = S at hS ⊢
      have HP := Lib.hid hP
      have HS := Lib.hid hS
      clear hP hS
      cases P
      all_goals
        cases S
        all_goals
          go_wp2_with fail
          go_round
          case rel => exact ⟨k + 1, by omega, by go_num, by rw [HP.out]; rfl, by rw [HS.out]; rfl⟩
          case measure => simp [intOf]; omega
    · obtain rfl : k = F.size := by omega
      rw [take_all']
      clear hlt
      have hbd := fun (l : List UInt8) (x : Int) (d : Bool) => of_len F.data.toList l x d
      have mk := fun (L : ByteArray) (x : Int) (d : Bool) => (⟨⟨(Fm.of F.data.toList L.data.toList x d).1.toArray⟩, by simp⟩ : ∃ A : ByteArray, A.data.toList = (Fm.of F.data.toList L.data.toList x d).1)
      have hFz : F.data.toList.length = F.size := by simp
      rcases of_shape off o HF.out H1.out H2.out with ⟨hP, r36, r45, hz⟩ | ⟨hP, hS, a, c, e, r3, r4, r5, r6⟩ | ⟨hP, hS, r3, r4, r5, r6⟩
      · obtain ⟨A, hA⟩ := mk L1 off false
        obtain ⟨B, hB⟩ := mk L2 o false
        obtain ⟨C, hC⟩ := mk L1 o true
        obtain ⟨D, hD⟩ := mk L2 off true
        have hAl := hbd L1.data.toList off false
        rw [← hA] at hAl hz
        have hAz : A.data.toList.length = A.size := by simp
        obtain ⟨z, hzz⟩ : ∃ z, (Fm.of F.data.toList L1.data.toList off false).2 = z := ⟨_, rfl⟩
        obtain ⟨y, hyy⟩ : ∃ y, (Fm.of F.data.toList L2.data.toList o false).2 = y := ⟨_, rfl⟩
        have HO3 := Lib.hid (ofE F L1 off false A z (by rw [hA, ← hzz]))
        have HO4 := Lib.hid (ofE F L2 o false B y (by rw [hB, ← hyy]))
        have HO5 := Lib.hid (ofE F L1 o true C y (by rw [hC, ← hyy, r45]))
        have HO6 := Lib.hid (ofE F L2 off true D z (by rw [hD, ← hzz, r36]))
        rw [hzz, hAz, hFz] at hz
        rw [hAz] at hAl
        have n1 : F.toList.isEmpty = false := ne_empty (by intro h; rw [h] at hFz; have := (Fm.fmt_cases HF.out).1; rw [h] at this; simp at this)
        have n0 : (A ++ F).data.toList ≠ [] := by
          intro h
          have h1 := (Fm.fmt_cases HF.out).1
          rw [show (A ++ F).data.toList = A.data.toList ++ F.data.toList by simp] at h
          have h2 := congrArg List.length h
          rw [List.length_append, List.length_nil] at h2
          omega
        have n3 : (A ++ F).toList.isEmpty = false := ne_empty n0
        have n2 : ¬ (A ++ F).toList = [] := fun h => by rw [h] at n3; cases n3
        clear n0
        have q1 : ¬ 9223372036854775807 < A.size + F.size := by omega
        rw [hP]
        generalize Fm.hasS F.data.toList = S
        clear hA hB hC hD hzz hyy r36 r45 hAz hFz hP mk hbd HZ1 HZ2 HO1 HO2
        have hz2 : z = 1 ∨ z = 0 ∧ (F.size : Int) - 2 ≤ (A.size : Int) := by omega
        clear hz
        rcases hz2 with rfl | ⟨rfl, t1⟩
        all_goals
          go_wp2_with fail
          refine (HO3.out _ (HK.out.below a11) (HM.out.below a11) (HU.out.below a11)).mono ?_
          rintro e w12 ⟨rfl, b12⟩
          have a12 := a11.trans (b12.mono a11.size)
          go_wp2_with fail
          refine (HO4.out _ (HK.out.below a12) (HM.out.below a12) (HU.out.below a12)).mono ?_
          rintro e w13 ⟨rfl, b13⟩
          have a13 := a12.trans (b13.mono a12.size)
          go_wp2_with fail
          refine (HO5.out _ (HK.out.below a13) (HM.out.below a13) (HU.out.below a13)).mono ?_
          rintro e w14 ⟨rfl, b14⟩
          have a14 := a13.trans (b14.mono a13.size)
          go_wp2_with fail
          refine (HO6.out _ (HK.out.below a14) (HM.out.below a14) (HU.out.below a14)).mono ?_
          rintro e w15 ⟨rfl, b15⟩
          have a15 := a14.trans (b15.mono a14.size)
          go_wp2_with fail
          go_ret
          exact ⟨rfl, a15⟩
      · obtain ⟨A, rfl⟩ : ∃ A : ByteArray, A.data.toList = a := ⟨⟨a.toArray⟩, by simp⟩
        obtain ⟨C, rfl⟩ : ∃ A : ByteArray, A.data.toList = c := ⟨⟨c.toArray⟩, by simp⟩
        have HO3 := Lib.hid (ofE F L1 off false A 0 r3)
        have HO4 := Lib.hid (ofE F L2 o false A 0 r4)
        have HO5 := Lib.hid (ofE F L1 o true C 0 r5)
        have HO6 := Lib.hid (ofE F L2 off true C 0 r6)
        have hFe : F = A ++ ⟨#[47]⟩ ++ C := ByteArray.ext (Array.toList_inj.1 (by rw [e]; simp))
        have hl := congrArg List.length e
        simp only [List.length_append, List.length_cons, List.length_nil] at hl
        have hAz : A.data.toList.length = A.size := by simp
        have hCz : C.data.toList.length = C.size := by simp
        have q1 : ¬ 9223372036854775807 < A.size + 1 := by omega
        have q2 : ¬ 9223372036854775807 < A.size + 1 + C.size := by omega
        have t1 : ((A ++ ⟨#[47]⟩ ++ C).toList == F.toList) = true := by rw [hFe]; simp
        have HQ := Lib.hid hFe
        rw [hP, hS]
        clear e r3 r4 r5 r6 hFe hl hAz hCz hP hS mk hbd hFz HZ1 HZ2 HO1 HO2
        go_wp2_with fail
        refine (HO3.out _ (HK.out.below a11) (HM.out.below a11) (HU.out.below a11)).mono ?_
        rintro e w12 ⟨rfl, b12⟩
        have a12 := a11.trans (b12.mono a11.size)
        go_wp2_with fail
        refine (HO4.out _ (HK.out.below a12) (HM.out.below a12) (HU.out.below a12)).mono ?_
        rintro e w13 ⟨rfl, b13⟩
        have a13 := a12.trans (b13.mono a12.size)
        go_wp2_with fail
        refine (HO5.out _ (HK.out.below a13) (HM.out.below a13) (HU.out.below a13)).mono ?_
        rintro e w14 ⟨rfl, b14⟩
        have a14 := a13.trans (b14.mono a13.size)
        go_wp2_with fail
        refine (HO6.out _ (HK.out.below a14) (HM.out.below a14) (HU.out.below a14)).mono ?_
        rintro e w15 ⟨rfl, b15⟩
        have a15 := a14.trans (b15.mono a14.size)
        go_wp2_with fail
        go_ret
        refine ⟨?_, a15⟩
        rw [HQ.out]
        simp
      · have HO3 := Lib.hid (ofE F L1 off false F 0 r3)
        have HO4 := Lib.hid (ofE F L2 o false F 0 r4)
        have HO5 := Lib.hid (ofE F L1 o true F 0 r5)
        have HO6 := Lib.hid (ofE F L2 off true F 0 r6)
        rw [hP, hS]
        clear r3 r4 r5 r6 hP hS mk hbd hFz HZ1 HZ2 HO1 HO2
        go_wp2_with fail
        refine (HO3.out _ (HK.out.below a11) (HM.out.below a11) (HU.out.below a11)).mono ?_
        rintro e w12 ⟨rfl, b12⟩
        have a12 := a11.trans (b12.mono a11.size)
        go_wp2_with fail
        refine (HO4.out _ (HK.out.below a12) (HM.out.below a12) (HU.out.below a12)).mono ?_
        rintro e w13 ⟨rfl, b13⟩
        have a13 := a12.trans (b13.mono a12.size)
        go_wp2_with fail
        refine (HO5.out _ (HK.out.below a13) (HM.out.below a13) (HU.out.below a13)).mono ?_
        rintro e w14 ⟨rfl, b14⟩
        have a14 := a13.trans (b14.mono a13.size)
        go_wp2_with fail
        refine (HO6.out _ (HK.out.below a14) (HM.out.below a14) (HU.out.below a14)).mono ?_
        rintro e w15 ⟨rfl, b15⟩
        have a15 := a14.trans (b15.mono a14.size)
        go_wp2_with fail
        go_ret
        exact ⟨rfl, a15⟩
set_option maxRecDepth 100000 in
set_option maxHeartbeats 4000000 in
theorem abbr_long (off o : Int) (s F L1 L2 : ByteArray) (w : World) (HK : Hid (Marks w)) (HM : Hid (Mxa w)) (HU : Hid (Units w)) (h : 1000 < s.size ∨ (s.size ≤ 1000 ∧ 1000 < F.size) ∨ (s.size ≤ 1000 ∧ F.size ≤ 1000 ∧ 1000 < L1.size) ∨ (s.size ≤ 1000 ∧ F.size ≤ 1000 ∧ L1.size ≤ 1000 ∧ 1000 < L2.size))
    (g1 : s.size ≤ 9223372036854775807) (g2 : F.size ≤ 9223372036854775807) (g3 : L1.size ≤ 9223372036854775807) (g4 : L2.size ≤ 9223372036854775807) :
    Calls Tryd.prog 3 #[.int .i64 off, .int .i64 o, .string s, .string F, .string L1, .string L2] w fun e w' => e = .returned (.bool true) ∧ Below w.heap.size w w' := by
  rcases h with h | ⟨h1, h⟩ | ⟨h1, h2, h⟩ | ⟨h1, h2, h3, h⟩
  all_goals
    go_enter Tryd.func3, Tryd.ntmps3
    go_wp2_with fail
    refine (lives08 _ HK HM HU).mono ?_
    rintro e w1 ⟨rfl, a1⟩
    go_wp2_with fail
    go_ret
    exact ⟨rfl, a1⟩
theorem walkAbbrBack (off : Int) (_ : (Lit.int .i64 off).wf = true) (o : Int) (_ : (Lit.int .i64 o).wf = true) (s : ByteArray) (hs : s.size ≤ maxLen) (F : ByteArray) (hF : F.size ≤ maxLen) (L1 : ByteArray) (h1 : L1.size ≤ maxLen) (L2 : ByteArray) (h2 : L2.size ≤ maxLen) (w : World) (hK : Marks w) (hX : Mxa w) (hU : Units w) :
    Calls Tryd.prog 3 #[.int .i64 off, .int .i64 o, .string s, .string F, .string L1, .string L2] w fun e w' => e = .returned (.bool true) ∧ Below w.heap.size w w' := by
  unfold maxLen at hs hF h1 h2
  by_cases c : s.size ≤ 1000 ∧ F.size ≤ 1000 ∧ L1.size ≤ 1000 ∧ L2.size ≤ 1000
  · obtain ⟨c1, c2, c3, c4⟩ := c
    obtain ⟨T1, z1, e1, _, f1⟩ := offE off
    obtain ⟨T2, z2, e2, _, f2⟩ := offE o
    exact abbr_in off o s F L1 L2 T1 T2 z1 z2 w (Lib.hid hK) (Lib.hid hX) (Lib.hid hU) c1 c2 c3 c4 (Lib.hid e1) (Lib.hid e2) (Lib.hid f1) (Lib.hid f2)
  · exact abbr_long off o s F L1 L2 w (Lib.hid hK) (Lib.hid hX) (Lib.hid hU) (by omega) (by omega) (by omega) (by omega) (by omega)
end Go.Proofs.YtgcgmmdfmcapiaaDoor
