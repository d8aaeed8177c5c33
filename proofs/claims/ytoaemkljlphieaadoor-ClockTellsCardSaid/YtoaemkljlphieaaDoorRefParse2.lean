/- The contract of the document's own answer for Parse, second part: the empty text, a text with a sign, any text. -/
import Derived.Test.YtoaemkljlphieaaDoorRefParse
namespace Go.Proofs.YtoaemkljlphieaaDoor
open Go.RowKit
theorem rparse_empty (S : ByteArray) (w : World) (h0 : S.size = 0) :
    Calls Tryd.prog 16 #[.string S] w fun e w' => e = .returned (.tuple #[.int .i64 0, .int .i64 4]) ∧ Below w.heap.size w w' := by
  obtain rfl : S = ByteArray.empty := by
    apply ByteArray.ext
    exact Array.eq_empty_of_size_eq_zero h0
  go_enter Tryd.func16, Tryd.ntmps16
  go_wp2_with fail
  refine wp_loop_rounds 1 ?_
  rw [rounds_succ]
  go_wp2_with fail
  go_ret2
  exact ⟨rfl, Below.refl _ _⟩
theorem head_yes (S : ByteArray) (hp : Lib.hasPrefix S.data.toList [45] = true) : ∃ h : 0 < S.size, ((S[0].toNat : Int) == 45) = true := by
  by_cases h : 0 < S.size
  · refine ⟨h, ?_⟩
    have hd := drop_at S 0 h
    rw [List.drop_zero] at hd
    rw [hd] at hp
    simp only [Lib.hasPrefix, List.isPrefixOf, Bool.and_true, beq_iff_eq] at hp
    rw [← hp]
    rfl
  · have : S.data.toList = [] := List.eq_nil_of_length_eq_zero (by rw [← Lib.size_eq]; omega)
    rw [this] at hp
    cases hp
set_option maxHeartbeats 20000000 in
set_option maxRecDepth 100000 in
theorem rparse_sign (S0 S : ByteArray) (w : World) (hs0 : S0.size ≤ 200) (hs : S.size ≤ 200) (hS : Hid (S0.extract 1 S0.size = S)) (hp : Lib.hasPrefix S0.data.toList [45] = true) :
    Calls Tryd.prog 16 #[.string S0] w fun e w' => e = .returned (.tuple #[.int .i64 (resL true S.data.toList).1, .int .i64 (resL true S.data.toList).2]) ∧ Below w.heap.size w w' := by
  obtain ⟨i0, hi, hz0, hz1, hz2⟩ := info_parts infoInt
  obtain ⟨h0, u1⟩ := head_yes S0 hp
  have HP := Lib.hid hp
  clear hp
  have u0 : decide ((0 : Int) < (S0.size : Int)) = true := by simp; omega
  go_enter Tryd.func16, Tryd.ntmps16
  go_wp2_with fail
  go_quiet (fail)
  go_wp2_with fail
  rw [hS.out]
  go_loopw [5, 6, 7, 8] (fun l n d i wr => ∃ (k : Nat) (ns : List Int) (x : Int) (dd : Nat), i = .int .i64 k ∧ n = .int .i64 x ∧ d = .int .i64 dd ∧ Hid (Own w wr l ns) ∧ 0 ≤ x ∧ dd ≤ 3 ∧ ns.length ≤ 3 ∧
      ((k ≤ S.size ∧ Hid (At S.data.toList k ns x dd)) ∨ (k = S.size + 1 ∧ Hid (Txt.R [] 0 0 S.data.toList = some ns)))) (fun _ _ _ i _ => S.size + 2 - (intOf i).toNat)
  case atStart => exact ⟨0, [], 0, 0, rfl, rfl, rfl, own_drewN (own_start w) nq, by omega, by omega, by simp, .inl ⟨by omega, ⟨rfl, by simp, by decide⟩⟩⟩
  case round =>
    obtain ⟨k, ns, x, dd, rfl, rfl, rfl, hown, hx0, hdd, hnl, hcase⟩ := hrel
    rcases hcase with ⟨hk, hat⟩ | ⟨hk, hR⟩
    · obtain ⟨m, hm⟩ : ∃ m : Nat, ns.length = m := ⟨_, rfl⟩
      obtain ⟨a, c, rfl⟩ := own_form2 hown.out m hm
      have hm3 : m ≤ 3 := by omega
      have HM := Lib.hid hm
      have HNL := Lib.hid hnl
      clear hm hnl
      have hx1 := pow3 x dd hdd hat.out.2.2
      by_cases hke : k = S.size
      · have hdrop := Lib.hid (drop_all S k hke)
        have e1 : (k == S.size) = true := beq_iff_eq.2 hke
        have e2 : ((k : Int) == (S.size : Int)) = true := by rw [beq_iff_eq]; omega
        have hke2 : S.size ≤ k := by omega
        clear hke
        have hch : dd < 1 ∨ (1 ≤ dd ∧ 0 < m ∧ dd ≠ 2) ∨ (dd = 2 ∧ 0 < m ∧ 60 ≤ x) ∨ (dd = 2 ∧ m = 3 ∧ x < 60) ∨ (1 ≤ dd ∧ m = 0) ∨ (dd = 2 ∧ 0 < m ∧ m < 3 ∧ x < 60) := by omega
        rcases hch with b1 | ⟨b1, b3, b4⟩ | ⟨b1, b3, b5⟩ | ⟨b1, b3, b5⟩ | ⟨b1, b3⟩ | ⟨b1, b3, b6, b5⟩
        · have t1 : decide ((dd : Int) < 1) = true := decide_eq_true (by omega)
          have HR := Lib.hid (at_end_bad hat.out hdrop.out (by have := HM.out; unfold Bad; omega))
          clear b1
          go_wp2_with fail
          go_ret2
          exact ⟨ret2_int (res_none1 true HR.out).1.symm (res_none1 true HR.out).2.symm, hown.out.2⟩
        · have t1 : decide ((dd : Int) < 1) = false := decide_eq_false (by omega)
          have t2 : decide ((3 : Int) < (dd : Int)) = false := decide_eq_false (by omega)
          have t3 : decide (0 < m) = true := decide_eq_true (by omega)
          have t4 : ((dd : Int) != 2) = true := by rw [bne_iff_ne]; omega
          have HR := Lib.hid (at_end_bad hat.out hdrop.out (by have := HM.out; unfold Bad; omega))
          clear b1 b3 b4
          go_wp2_with fail
          go_ret2
          exact ⟨ret2_int (res_none1 true HR.out).1.symm (res_none1 true HR.out).2.symm, hown.out.2⟩
        · have t1 : decide ((dd : Int) < 1) = false := decide_eq_false (by omega)
          have t2 : decide ((3 : Int) < (dd : Int)) = false := decide_eq_false (by omega)
          have t3 : decide (0 < m) = true := decide_eq_true (by omega)
          have t4 : ((dd : Int) != 2) = false := by rw [bne_eq_false_iff_eq]; omega
          have t5 : decide (60 ≤ x) = true := decide_eq_true (by omega)
          have HR := Lib.hid (at_end_bad hat.out hdrop.out (by have := HM.out; unfold Bad; omega))
          clear b1 b3 b5
          go_wp2_with fail
          go_ret2
          exact ⟨ret2_int (res_none1 true HR.out).1.symm (res_none1 true HR.out).2.symm, hown.out.2⟩
        · have t1 : decide ((dd : Int) < 1) = false := decide_eq_false (by omega)
          have t2 : decide ((3 : Int) < (dd : Int)) = false := decide_eq_false (by omega)
          have t3 : decide (0 < m) = true := decide_eq_true (by omega)
          have t4 : ((dd : Int) != 2) = false := by rw [bne_eq_false_iff_eq]; omega
          have t5 : decide (60 ≤ x) = false := decide_eq_false (by omega)
          have t6 : ((m : Int) == 3) = true := by rw [beq_iff_eq]; omega
          have HR := Lib.hid (at_end_bad hat.out hdrop.out (by have := HM.out; unfold Bad; omega))
          clear b1 b3 b5
          go_wp2_with fail
          go_ret2
          exact ⟨ret2_int (res_none1 true HR.out).1.symm (res_none1 true HR.out).2.symm, hown.out.2⟩
        · have t1 : decide ((dd : Int) < 1) = false := decide_eq_false (by omega)
          have t2 : decide ((3 : Int) < (dd : Int)) = false := decide_eq_false (by omega)
          have t3 : decide (0 < m) = false := decide_eq_false (by omega)
          have t6 : ((m : Int) == 3) = false := by rw [beq_eq_false_iff_ne]; omega
          have HR := Lib.hid (at_end_good hat.out hdrop.out (by have := HM.out; unfold Bad; omega))
          have hlen : m ≤ 2 := by omega
          clear b1 b3
          go_wp2_with ((at_builtin; refine wpList_append_own _ rfl _ _ 46 rfl w.heap.size 2 i0 (.int .i64 0) 1 8 Tryd.underlying46 hi hz0 hz1 hz2 rfl (by decide) _ _ _ rfl (hown.out.1.alloc _) ⟨wr.heap.size, 0, none⟩ 1 1 [.int .i64 x] rfl rfl (append_c1 _ _ _) (append_c2 _) (by have := HM.out; unfold maxLen; omega) (by have := HM.out; omega) (append_c5 hown.out) ?_; intro v' w1 hown' hgrow _))
          have hown2 := Lib.hid (own_append hown.out hown' hgrow)
          clear hown' hgrow hown
          go_wp2_with fail
          go_roundw
          case rel => exact ⟨k + 1, ns ++ [x], 0, 0, by go_num, rfl, rfl, hown2, by omega, by omega, by have := HM.out; simp; omega, .inr ⟨by omega, HR.out⟩⟩
          case measure => simp [intOf]; omega
        · have t1 : decide ((dd : Int) < 1) = false := decide_eq_false (by omega)
          have t2 : decide ((3 : Int) < (dd : Int)) = false := decide_eq_false (by omega)
          have t3 : decide (0 < m) = true := decide_eq_true (by omega)
          have t4 : ((dd : Int) != 2) = false := by rw [bne_eq_false_iff_eq]; omega
          have t5 : decide (60 ≤ x) = false := decide_eq_false (by omega)
          have t6 : ((m : Int) == 3) = false := by rw [beq_eq_false_iff_ne]; omega
          have HR := Lib.hid (at_end_good hat.out hdrop.out (by have := HM.out; unfold Bad; omega))
          have hlen : m ≤ 2 := by omega
          clear b1 b3 b6 b5
          go_wp2_with ((at_builtin; refine wpList_append_own _ rfl _ _ 46 rfl w.heap.size 2 i0 (.int .i64 0) 1 8 Tryd.underlying46 hi hz0 hz1 hz2 rfl (by decide) _ _ _ rfl (hown.out.1.alloc _) ⟨wr.heap.size, 0, none⟩ 1 1 [.int .i64 x] rfl rfl (append_c1 _ _ _) (append_c2 _) (by have := HM.out; unfold maxLen; omega) (by have := HM.out; omega) (append_c5 hown.out) ?_; intro v' w1 hown' hgrow _))
          have hown2 := Lib.hid (own_append hown.out hown' hgrow)
          clear hown' hgrow hown
          go_wp2_with fail
          go_roundw
          case rel => exact ⟨k + 1, ns ++ [x], 0, 0, by go_num, rfl, rfl, hown2, by omega, by omega, by have := HM.out; simp; omega, .inr ⟨by omega, HR.out⟩⟩
          case measure => simp [intOf]; omega
      · have hlt : k < S.size := by omega
        have e1 : (k == S.size) = false := beq_eq_false_iff_ne.2 hke
        have e2 : ((k : Int) == (S.size : Int)) = false := by rw [beq_eq_false_iff_ne]; omega
        clear hke
        have hdrop0 := Lib.hid (drop_at S k hlt)
        by_cases h58 : S[k] = 58
        · have hdrop : Hid (S.data.toList.drop k = 58 :: S.data.toList.drop (k + 1)) := by have := hdrop0.out; rw [h58] at this; exact this
          have hdrop2 := Lib.hid (show S.data.toList.drop (k + 1) = S.data.toList.drop (k + 1) from rfl)
          have e3 : ((S[k].toNat : Int) == 58) = true := by rw [h58]; rfl
          clear h58 hdrop0
          have hch : dd < 1 ∨ (1 ≤ dd ∧ 0 < m ∧ dd ≠ 2) ∨ (dd = 2 ∧ 0 < m ∧ 60 ≤ x) ∨ (dd = 2 ∧ m = 3 ∧ x < 60) ∨ (1 ≤ dd ∧ m = 0) ∨ (dd = 2 ∧ 0 < m ∧ m < 3 ∧ x < 60) := by omega
          rcases hch with b1 | ⟨b1, b3, b4⟩ | ⟨b1, b3, b5⟩ | ⟨b1, b3, b5⟩ | ⟨b1, b3⟩ | ⟨b1, b3, b6, b5⟩
          · have t1 : decide ((dd : Int) < 1) = true := decide_eq_true (by omega)
            have HR := Lib.hid (at_colon_bad hat.out hdrop.out (by have := HM.out; unfold Bad; omega))
            clear b1
            go_wp2_with fail
            go_ret2
            exact ⟨ret2_int (res_none1 true HR.out).1.symm (res_none1 true HR.out).2.symm, hown.out.2⟩
          · have t1 : decide ((dd : Int) < 1) = false := decide_eq_false (by omega)
            have t2 : decide ((3 : Int) < (dd : Int)) = false := decide_eq_false (by omega)
            have t3 : decide (0 < m) = true := decide_eq_true (by omega)
            have t4 : ((dd : Int) != 2) = true := by rw [bne_iff_ne]; omega
            have HR := Lib.hid (at_colon_bad hat.out hdrop.out (by have := HM.out; unfold Bad; omega))
            clear b1 b3 b4
            go_wp2_with fail
            go_ret2
            exact ⟨ret2_int (res_none1 true HR.out).1.symm (res_none1 true HR.out).2.symm, hown.out.2⟩
          · have t1 : decide ((dd : Int) < 1) = false := decide_eq_false (by omega)
            have t2 : decide ((3 : Int) < (dd : Int)) = false := decide_eq_false (by omega)
            have t3 : decide (0 < m) = true := decide_eq_true (by omega)
            have t4 : ((dd : Int) != 2) = false := by rw [bne_eq_false_iff_eq]; omega
            have t5 : decide (60 ≤ x) = true := decide_eq_true (by omega)
            have HR := Lib.hid (at_colon_bad hat.out hdrop.out (by have := HM.out; unfold Bad; omega))
            clear b1 b3 b5
            go_wp2_with fail
            go_ret2
            exact ⟨ret2_int (res_none1 true HR.out).1.symm (res_none1 true HR.out).2.symm, hown.out.2⟩
          · have t1 : decide ((dd : Int) < 1) = false := decide_eq_false (by omega)
            have t2 : decide ((3 : Int) < (dd : Int)) = false := decide_eq_false (by omega)
            have t3 : decide (0 < m) = true := decide_eq_true (by omega)
            have t4 : ((dd : Int) != 2) = false := by rw [bne_eq_false_iff_eq]; omega
            have t5 : decide (60 ≤ x) = false := decide_eq_false (by omega)
            have t6 : ((m : Int) == 3) = true := by rw [beq_iff_eq]; omega
            have HR := Lib.hid (at_colon_bad hat.out hdrop.out (by have := HM.out; unfold Bad; omega))
            clear b1 b3 b5
            go_wp2_with fail
            go_ret2
            exact ⟨ret2_int (res_none1 true HR.out).1.symm (res_none1 true HR.out).2.symm, hown.out.2⟩
          · have t1 : decide ((dd : Int) < 1) = false := decide_eq_false (by omega)
            have t2 : decide ((3 : Int) < (dd : Int)) = false := decide_eq_false (by omega)
            have t3 : decide (0 < m) = false := decide_eq_false (by omega)
            have t6 : ((m : Int) == 3) = false := by rw [beq_eq_false_iff_ne]; omega
            have HR := Lib.hid (at_colon_good hat.out hdrop.out hdrop2.out hx0 hdd (by have := HM.out; unfold Bad; omega))
            have hlen : m ≤ 2 := by omega
            clear b1 b3
            go_wp2_with ((at_builtin; refine wpList_append_own _ rfl _ _ 46 rfl w.heap.size 2 i0 (.int .i64 0) 1 8 Tryd.underlying46 hi hz0 hz1 hz2 rfl (by decide) _ _ _ rfl (hown.out.1.alloc _) ⟨wr.heap.size, 0, none⟩ 1 1 [.int .i64 x] rfl rfl (append_c1 _ _ _) (append_c2 _) (by have := HM.out; unfold maxLen; omega) (by have := HM.out; omega) (append_c5 hown.out) ?_; intro v' w1 hown' hgrow _))
            have hown2 := Lib.hid (own_append hown.out hown' hgrow)
            clear hown' hgrow hown
            go_wp2_with fail
            go_roundw
            case rel => exact ⟨k + 1, ns ++ [x], 0, 0, by go_num, rfl, rfl, hown2, by omega, by omega, by have := HM.out; simp; omega, .inl ⟨by omega, HR.out⟩⟩
            case measure => simp [intOf]; omega
          · have t1 : decide ((dd : Int) < 1) = false := decide_eq_false (by omega)
            have t2 : decide ((3 : Int) < (dd : Int)) = false := decide_eq_false (by omega)
            have t3 : decide (0 < m) = true := decide_eq_true (by omega)
            have t4 : ((dd : Int) != 2) = false := by rw [bne_eq_false_iff_eq]; omega
            have t5 : decide (60 ≤ x) = false := decide_eq_false (by omega)
            have t6 : ((m : Int) == 3) = false := by rw [beq_eq_false_iff_ne]; omega
            have HR := Lib.hid (at_colon_good hat.out hdrop.out hdrop2.out hx0 hdd (by have := HM.out; unfold Bad; omega))
            have hlen : m ≤ 2 := by omega
            clear b1 b3 b6 b5
            go_wp2_with ((at_builtin; refine wpList_append_own _ rfl _ _ 46 rfl w.heap.size 2 i0 (.int .i64 0) 1 8 Tryd.underlying46 hi hz0 hz1 hz2 rfl (by decide) _ _ _ rfl (hown.out.1.alloc _) ⟨wr.heap.size, 0, none⟩ 1 1 [.int .i64 x] rfl rfl (append_c1 _ _ _) (append_c2 _) (by have := HM.out; unfold maxLen; omega) (by have := HM.out; omega) (append_c5 hown.out) ?_; intro v' w1 hown' hgrow _))
            have hown2 := Lib.hid (own_append hown.out hown' hgrow)
            clear hown' hgrow hown
            go_wp2_with fail
            go_roundw
            case rel => exact ⟨k + 1, ns ++ [x], 0, 0, by go_num, rfl, rfl, hown2, by omega, by omega, by have := HM.out; simp; omega, .inl ⟨by omega, HR.out⟩⟩
            case measure => simp [intOf]; omega
        · have e3 : ((S[k].toNat : Int) == 58) = false := by
            rw [beq_eq_false_iff_ne]
            intro e
            exact h58 (UInt8.toNat_inj.1 (by show S[k].toNat = 58; omega))
          have H58 := Lib.hid h58
          clear h58
          by_cases c1 : (S[k].toNat : Int) < 48
          · have HR := Lib.hid (at_byte_bad hat.out hdrop0.out H58.out (by omega))
            go_wp2_with fail
            go_ret2
            exact ⟨ret2_int (res_none1 true HR.out).1.symm (res_none1 true HR.out).2.symm, hown.out.2⟩
          · by_cases c2 : 57 < (S[k].toNat : Int)
            · have HR := Lib.hid (at_byte_bad hat.out hdrop0.out H58.out (by omega))
              go_wp2_with fail
              go_ret2
              exact ⟨ret2_int (res_none1 true HR.out).1.symm (res_none1 true HR.out).2.symm, hown.out.2⟩
            · by_cases c3 : dd = 3
              · have HR := Lib.hid (at_byte_bad hat.out hdrop0.out H58.out (by omega))
                have e4 : ((dd : Int) == 3) = true := by rw [beq_iff_eq]; omega
                clear c3
                go_wp2_with fail
                go_ret2
                exact ⟨ret2_int (res_none1 true HR.out).1.symm (res_none1 true HR.out).2.symm, hown.out.2⟩
              · have HR := Lib.hid (at_byte_good hat.out hdrop0.out rfl H58.out (by omega))
                have e4 : ((dd : Int) == 3) = false := by rw [beq_eq_false_iff_ne]; omega
                have hd2 : dd ≤ 2 := by omega
                clear c3
                go_wp2_with fail
                go_roundw
                case rel => exact ⟨k + 1, ns, _, dd + 1, by go_num, rfl, by go_num, hown, by omega, by omega, HNL.out, .inl ⟨by omega, HR.out⟩⟩
                case measure => simp [intOf]; omega
    · have hlt : S.size < k := by omega
      have e0 : decide (k ≤ S.size) = false := by simp; omega
      clear hk
      have hvb := Lib.hid (G_bd _ _ _ _ ((R_G _).symm.trans hR.out))
      have hl1 : 1 ≤ ns.length := (Txt.G_len _ _ _ _ ((R_G _).symm.trans hR.out) (by omega)).1
      have hn3 : ns.length = 1 ∨ ns.length = 2 ∨ ns.length = 3 := by omega
      rcases hn3 with hn | hn | hn
      · obtain ⟨a, c, rfl⟩ := own_form2 hown.out 1 hn
        have hnle : ns.length ≤ 1 := by omega
        have hnge : 1 ≤ ns.length := by omega
        clear hn hnl hl1
        go_wp2_with fail
        refine wp_loop_rounds 4 ?_
        rw [rounds_succ]
        go_wp2_with ((at_builtin; refine wpList_append_own _ rfl _ _ 46 rfl w.heap.size 2 i0 (.int .i64 0) 1 8 Tryd.underlying46 hi hz0 hz1 hz2 rfl (by decide) _ _ _ rfl (hown.out.1.alloc _) ⟨wr.heap.size, 0, none⟩ 1 1 [.int .i64 0] rfl rfl (append_c1 _ _ _) (append_c2 _) (by unfold maxLen; first | omega | (simp; omega)) (by first | omega | (simp; omega)) (append_c5 hown.out) ?_; intro vq1 wq1 hown' hgrow _))
        have ho1 := Lib.hid (own_append hown.out hown' hgrow)
        clear hown' hgrow hown
        obtain ⟨a1, c1, rfl⟩ := own_form2 ho1.out 2 (by first | omega | (simp; omega))
        go_wp2_with fail
        rw [rounds_succ]
        go_wp2_with ((at_builtin; refine wpList_append_own _ rfl _ _ 46 rfl w.heap.size 2 i0 (.int .i64 0) 1 8 Tryd.underlying46 hi hz0 hz1 hz2 rfl (by decide) _ _ _ rfl (ho1.out.1.alloc _) ⟨wq1.heap.size, 0, none⟩ 1 1 [.int .i64 0] rfl rfl (append_c1 _ _ _) (append_c2 _) (by unfold maxLen; first | omega | (simp; omega)) (by first | omega | (simp; omega)) (append_c5 ho1.out) ?_; intro vq2 wq2 hown' hgrow _))
        have ho2 := Lib.hid (own_append ho1.out hown' hgrow)
        clear hown' hgrow ho1
        obtain ⟨a2, c2, rfl⟩ := own_form2 ho2.out 3 (by first | omega | (simp; omega))
        go_wp2_with fail
        rw [rounds_succ]
        have hmb := mem_pad (j := 2) hvb.out
        have hsp := secs_append ns 2
        have hms : Own w wq2 (.slice a2 3 c2) (ns ++ List.replicate 2 0) := by simpa [List.replicate] using ho2.out
        obtain ⟨g, cc, v0, v1, v2, he, k0, k1, k2, hsq, p1, p2, p3, p4, p5, p6⟩ := own_three hms (by first | omega | (simp; omega)) hmb
        have hsn := hsp.symm.trans hsq
        have hbb := hms.2
        injection he with he1 _ he3
        subst he1 he3
        clear hmb hsp hms hsq ho2
        have HX := Lib.hid (show (if true then -(secs ns) else secs ns) = -(v0 * 3600 + v1 * 60 + v2) by rw [hsn]; rfl)
        clear hsn
        go_wp2_with fail
        go_quiet (fail)
        go_wp2_with fail
        by_cases hr : -604800 ≤ -(v0 * 3600 + v1 * 60 + v2) ∧ -(v0 * 3600 + v1 * 60 + v2) ≤ 604800
        · obtain ⟨r1, r2⟩ := hr
          obtain ⟨f1, f2⟩ := res_in1 true hR.out HX.out r1 r2
          have F1 := Lib.hid f1
          have F2 := Lib.hid f2
          clear f1 f2
          refine (rtime_yes _ _ (by omega) (by omega)).mono ?_
          rintro e w' ⟨rfl, rfl⟩
          go_wp2_with fail
          go_ret2
          exact ⟨ret2_int (by have := F1.out; omega) F2.out.symm, below_drewN hbb _⟩
        · have hr2 := Lib.hid (show -(v0 * 3600 + v1 * 60 + v2) < -604800 ∨ 604800 < -(v0 * 3600 + v1 * 60 + v2) by omega)
          clear hr
          obtain ⟨f1, f2⟩ := res_out1 true hR.out HX.out hr2.out
          have F1 := Lib.hid f1
          have F2 := Lib.hid f2
          clear f1 f2
          refine (rtime_no _ _ (by have := hr2.out; omega)).mono ?_
          rintro e w' ⟨rfl, rfl⟩
          go_wp2_with fail
          go_ret2
          exact ⟨ret2_int F1.out.symm F2.out.symm, below_drewN hbb _⟩
      · obtain ⟨a, c, rfl⟩ := own_form2 hown.out 2 hn
        have hnle : ns.length ≤ 2 := by omega
        have hnge : 2 ≤ ns.length := by omega
        clear hn hnl hl1
        go_wp2_with fail
        refine wp_loop_rounds 4 ?_
        rw [rounds_succ]
        go_wp2_with ((at_builtin; refine wpList_append_own _ rfl _ _ 46 rfl w.heap.size 2 i0 (.int .i64 0) 1 8 Tryd.underlying46 hi hz0 hz1 hz2 rfl (by decide) _ _ _ rfl (hown.out.1.alloc _) ⟨wr.heap.size, 0, none⟩ 1 1 [.int .i64 0] rfl rfl (append_c1 _ _ _) (append_c2 _) (by unfold maxLen; first | omega | (simp; omega)) (by first | omega | (simp; omega)) (append_c5 hown.out) ?_; intro vq1 wq1 hown' hgrow _))
        have ho1 := Lib.hid (own_append hown.out hown' hgrow)
        clear hown' hgrow hown
        obtain ⟨a1, c1, rfl⟩ := own_form2 ho1.out 3 (by first | omega | (simp; omega))
        go_wp2_with fail
        rw [rounds_succ]
        have hmb := mem_pad (j := 1) hvb.out
        have hsp := secs_append ns 1
        have hms : Own w wq1 (.slice a1 3 c1) (ns ++ List.replicate 1 0) := by simpa [List.replicate] using ho1.out
        obtain ⟨g, cc, v0, v1, v2, he, k0, k1, k2, hsq, p1, p2, p3, p4, p5, p6⟩ := own_three hms (by first | omega | (simp; omega)) hmb
        have hsn := hsp.symm.trans hsq
        have hbb := hms.2
        injection he with he1 _ he3
        subst he1 he3
        clear hmb hsp hms hsq ho1
        have HX := Lib.hid (show (if true then -(secs ns) else secs ns) = -(v0 * 3600 + v1 * 60 + v2) by rw [hsn]; rfl)
        clear hsn
        go_wp2_with fail
        go_quiet (fail)
        go_wp2_with fail
        by_cases hr : -604800 ≤ -(v0 * 3600 + v1 * 60 + v2) ∧ -(v0 * 3600 + v1 * 60 + v2) ≤ 604800
        · obtain ⟨r1, r2⟩ := hr
          obtain ⟨f1, f2⟩ := res_in1 true hR.out HX.out r1 r2
          have F1 := Lib.hid f1
          have F2 := Lib.hid f2
          clear f1 f2
          refine (rtime_yes _ _ (by omega) (by omega)).mono ?_
          rintro e w' ⟨rfl, rfl⟩
          go_wp2_with fail
          go_ret2
          exact ⟨ret2_int (by have := F1.out; omega) F2.out.symm, below_drewN hbb _⟩
        · have hr2 := Lib.hid (show -(v0 * 3600 + v1 * 60 + v2) < -604800 ∨ 604800 < -(v0 * 3600 + v1 * 60 + v2) by omega)
          clear hr
          obtain ⟨f1, f2⟩ := res_out1 true hR.out HX.out hr2.out
          have F1 := Lib.hid f1
          have F2 := Lib.hid f2
          clear f1 f2
          refine (rtime_no _ _ (by have := hr2.out; omega)).mono ?_
          rintro e w' ⟨rfl, rfl⟩
          go_wp2_with fail
          go_ret2
          exact ⟨ret2_int F1.out.symm F2.out.symm, below_drewN hbb _⟩
      · obtain ⟨a, c, rfl⟩ := own_form2 hown.out 3 hn
        have hnle : ns.length ≤ 3 := by omega
        have hnge : 3 ≤ ns.length := by omega
        clear hn hnl hl1
        go_wp2_with fail
        refine wp_loop_rounds 4 ?_
        rw [rounds_succ]
        have hmb := mem_pad (j := 0) hvb.out
        have hsp := secs_append ns 0
        have hms : Own w wr (.slice a 3 c) (ns ++ List.replicate 0 0) := by simpa [List.replicate] using hown.out
        obtain ⟨g, cc, v0, v1, v2, he, k0, k1, k2, hsq, p1, p2, p3, p4, p5, p6⟩ := own_three hms (by first | omega | (simp; omega)) hmb
        have hsn := hsp.symm.trans hsq
        have hbb := hms.2
        injection he with he1 _ he3
        subst he1 he3
        clear hmb hsp hms hsq hown
        have HX := Lib.hid (show (if true then -(secs ns) else secs ns) = -(v0 * 3600 + v1 * 60 + v2) by rw [hsn]; rfl)
        clear hsn
        go_wp2_with fail
        go_quiet (fail)
        go_wp2_with fail
        by_cases hr : -604800 ≤ -(v0 * 3600 + v1 * 60 + v2) ∧ -(v0 * 3600 + v1 * 60 + v2) ≤ 604800
        · obtain ⟨r1, r2⟩ := hr
          obtain ⟨f1, f2⟩ := res_in1 true hR.out HX.out r1 r2
          have F1 := Lib.hid f1
          have F2 := Lib.hid f2
          clear f1 f2
          refine (rtime_yes _ _ (by omega) (by omega)).mono ?_
          rintro e w' ⟨rfl, rfl⟩
          go_wp2_with fail
          go_ret2
          exact ⟨ret2_int (by have := F1.out; omega) F2.out.symm, below_drewN hbb _⟩
        · have hr2 := Lib.hid (show -(v0 * 3600 + v1 * 60 + v2) < -604800 ∨ 604800 < -(v0 * 3600 + v1 * 60 + v2) by omega)
          clear hr
          obtain ⟨f1, f2⟩ := res_out1 true hR.out HX.out hr2.out
          have F1 := Lib.hid f1
          have F2 := Lib.hid f2
          clear f1 f2
          refine (rtime_no _ _ (by have := hr2.out; omega)).mono ?_
          rintro e w' ⟨rfl, rfl⟩
          go_wp2_with fail
          go_ret2
          exact ⟨ret2_int F1.out.symm F2.out.symm, below_drewN hbb _⟩
theorem rparse_any (s : ByteArray) (w : World) (hs : s.size ≤ 200) :
    Calls Tryd.prog 16 #[.string s] w fun e w' => e = .returned (.tuple #[.int .i64 (parseL s.data.toList).1, .int .i64 (parseL s.data.toList).2]) ∧ Below w.heap.size w w' := by
  rw [resL_parse]
  by_cases hp : Lib.hasPrefix s.data.toList [45] = true
  · have hd : (s.extract 1 s.size).data.toList = Lib.trimPrefix s.data.toList [45] := by
      unfold Lib.trimPrefix
      rw [if_pos hp]
      exact Lib.extract_to_end s 1
    have hz : (s.extract 1 s.size).size ≤ 200 := by
      rw [Lib.size_eq, hd]
      have := trim_size s.data.toList
      rw [← Lib.size_eq] at this
      omega
    rw [hp, ← hd]
    exact rparse_sign s _ w hs hz (Lib.hid rfl) hp
  · have hp := eq_false_of_ne_true hp
    have ht : Lib.trimPrefix s.data.toList [45] = s.data.toList := by
      unfold Lib.trimPrefix
      rw [if_neg (by rw [hp]; simp)]
    rw [hp, ht]
    by_cases h0 : 0 < s.size
    · exact rparse_pos s w hs h0 hp
    · have hl : s.data.toList = [] := List.eq_nil_of_length_eq_zero (by rw [← Lib.size_eq]; omega)
      rw [hl]
      exact rparse_empty s w (by omega)
end Go.Proofs.YtoaemkljlphieaaDoor
