/- Contracts of package scan: cut, the pass from within a field. -/
import Derived.Test.YtheakfhcllgndaaCut
namespace Go.Proofs.Ytheakfhcllgndaa
open Go.RowKit
set_option maxRecDepth 100000 in
set_option maxHeartbeats 4000000 in
theorem cut_pass1 (w0 : World) (S : ByteArray) (hS : S.size ≤ 2048) (R : CRes) (a : Act) (w : World) (h : CutJ w0 S R 1 a w) :
    (behind (cutRest 1)).wp Try.prog (jumps (fun l' a' w' => CutJ w0 S R l' a' w' ∧ cutM S l' a' w' < cutM S 1 a w) (bodyPost Try.prog Try.f31 (CutE w0 R))) a w := by
  obtain ⟨⟨l⟩, ds⟩ := a
  obtain ⟨hd, hl, hJ⟩ := h
  change ds = [] at hd
  change l.length = 79 + 1 at hl
  subst hd
  obtain ⟨t0, l, rfl, hl0⟩ := frame_cons hl
  clear hl
  obtain ⟨t1, l, rfl, hl1⟩ := frame_cons hl0
  clear hl0
  obtain ⟨t2, l, rfl, hl2⟩ := frame_cons hl1
  clear hl1
  obtain ⟨t3, l, rfl, hl3⟩ := frame_cons hl2
  clear hl2
  obtain ⟨t4, l, rfl, hl4⟩ := frame_cons hl3
  clear hl3
  obtain ⟨t5, l, rfl, hl5⟩ := frame_cons hl4
  clear hl4
  obtain ⟨t6, l, rfl, hl6⟩ := frame_cons hl5
  clear hl5
  obtain ⟨t7, l, rfl, hl7⟩ := frame_cons hl6
  clear hl6
  obtain ⟨t8, l, rfl, hl8⟩ := frame_cons hl7
  clear hl7
  obtain ⟨t9, l, rfl, hl9⟩ := frame_cons hl8
  clear hl8
  obtain ⟨t10, l, rfl, hl10⟩ := frame_cons hl9
  clear hl9
  obtain ⟨t11, l, rfl, hl11⟩ := frame_cons hl10
  clear hl10
  obtain ⟨t12, l, rfl, hl12⟩ := frame_cons hl11
  clear hl11
  obtain ⟨t13, l, rfl, hl13⟩ := frame_cons hl12
  clear hl12
  obtain ⟨t14, l, rfl, hl14⟩ := frame_cons hl13
  clear hl13
  obtain ⟨t15, l, rfl, hl15⟩ := frame_cons hl14
  clear hl14
  obtain ⟨t16, l, rfl, hl16⟩ := frame_cons hl15
  clear hl15
  obtain ⟨t17, l, rfl, hl17⟩ := frame_cons hl16
  clear hl16
  obtain ⟨t18, l, rfl, hl18⟩ := frame_cons hl17
  clear hl17
  obtain ⟨t19, l, rfl, hl19⟩ := frame_cons hl18
  clear hl18
  obtain ⟨t20, l, rfl, hl20⟩ := frame_cons hl19
  clear hl19
  obtain ⟨t21, l, rfl, hl21⟩ := frame_cons hl20
  clear hl20
  obtain ⟨t22, l, rfl, hl22⟩ := frame_cons hl21
  clear hl21
  obtain ⟨t23, l, rfl, hl23⟩ := frame_cons hl22
  clear hl22
  obtain ⟨t24, l, rfl, hl24⟩ := frame_cons hl23
  clear hl23
  obtain ⟨t25, l, rfl, hl25⟩ := frame_cons hl24
  clear hl24
  obtain ⟨t26, l, rfl, hl26⟩ := frame_cons hl25
  clear hl25
  obtain ⟨t27, l, rfl, hl27⟩ := frame_cons hl26
  clear hl26
  obtain ⟨t28, l, rfl, hl28⟩ := frame_cons hl27
  clear hl27
  obtain ⟨t29, l, rfl, hl29⟩ := frame_cons hl28
  clear hl28
  obtain ⟨t30, l, rfl, hl30⟩ := frame_cons hl29
  clear hl29
  obtain ⟨t31, l, rfl, hl31⟩ := frame_cons hl30
  clear hl30
  obtain ⟨t32, l, rfl, hl32⟩ := frame_cons hl31
  clear hl31
  obtain ⟨t33, l, rfl, hl33⟩ := frame_cons hl32
  clear hl32
  obtain ⟨t34, l, rfl, hl34⟩ := frame_cons hl33
  clear hl33
  obtain ⟨t35, l, rfl, hl35⟩ := frame_cons hl34
  clear hl34
  obtain ⟨t36, l, rfl, hl36⟩ := frame_cons hl35
  clear hl35
  obtain ⟨t37, l, rfl, hl37⟩ := frame_cons hl36
  clear hl36
  obtain ⟨t38, l, rfl, hl38⟩ := frame_cons hl37
  clear hl37
  obtain ⟨t39, l, rfl, hl39⟩ := frame_cons hl38
  clear hl38
  obtain ⟨t40, l, rfl, hl40⟩ := frame_cons hl39
  clear hl39
  obtain ⟨t41, l, rfl, hl41⟩ := frame_cons hl40
  clear hl40
  obtain ⟨t42, l, rfl, hl42⟩ := frame_cons hl41
  clear hl41
  obtain ⟨t43, l, rfl, hl43⟩ := frame_cons hl42
  clear hl42
  obtain ⟨t44, l, rfl, hl44⟩ := frame_cons hl43
  clear hl43
  obtain ⟨t45, l, rfl, hl45⟩ := frame_cons hl44
  clear hl44
  obtain ⟨t46, l, rfl, hl46⟩ := frame_cons hl45
  clear hl45
  obtain ⟨t47, l, rfl, hl47⟩ := frame_cons hl46
  clear hl46
  obtain ⟨t48, l, rfl, hl48⟩ := frame_cons hl47
  clear hl47
  obtain ⟨t49, l, rfl, hl49⟩ := frame_cons hl48
  clear hl48
  obtain ⟨t50, l, rfl, hl50⟩ := frame_cons hl49
  clear hl49
  obtain ⟨t51, l, rfl, hl51⟩ := frame_cons hl50
  clear hl50
  obtain ⟨t52, l, rfl, hl52⟩ := frame_cons hl51
  clear hl51
  obtain ⟨t53, l, rfl, hl53⟩ := frame_cons hl52
  clear hl52
  obtain ⟨t54, l, rfl, hl54⟩ := frame_cons hl53
  clear hl53
  obtain ⟨t55, l, rfl, hl55⟩ := frame_cons hl54
  clear hl54
  obtain ⟨t56, l, rfl, hl56⟩ := frame_cons hl55
  clear hl55
  obtain ⟨t57, l, rfl, hl57⟩ := frame_cons hl56
  clear hl56
  obtain ⟨t58, l, rfl, hl58⟩ := frame_cons hl57
  clear hl57
  obtain ⟨t59, l, rfl, hl59⟩ := frame_cons hl58
  clear hl58
  obtain ⟨t60, l, rfl, hl60⟩ := frame_cons hl59
  clear hl59
  obtain ⟨t61, l, rfl, hl61⟩ := frame_cons hl60
  clear hl60
  obtain ⟨t62, l, rfl, hl62⟩ := frame_cons hl61
  clear hl61
  obtain ⟨t63, l, rfl, hl63⟩ := frame_cons hl62
  clear hl62
  obtain ⟨t64, l, rfl, hl64⟩ := frame_cons hl63
  clear hl63
  obtain ⟨t65, l, rfl, hl65⟩ := frame_cons hl64
  clear hl64
  obtain ⟨t66, l, rfl, hl66⟩ := frame_cons hl65
  clear hl65
  obtain ⟨t67, l, rfl, hl67⟩ := frame_cons hl66
  clear hl66
  obtain ⟨t68, l, rfl, hl68⟩ := frame_cons hl67
  clear hl67
  obtain ⟨t69, l, rfl, hl69⟩ := frame_cons hl68
  clear hl68
  obtain ⟨t70, l, rfl, hl70⟩ := frame_cons hl69
  clear hl69
  obtain ⟨t71, l, rfl, hl71⟩ := frame_cons hl70
  clear hl70
  obtain ⟨t72, l, rfl, hl72⟩ := frame_cons hl71
  clear hl71
  obtain ⟨t73, l, rfl, hl73⟩ := frame_cons hl72
  clear hl72
  obtain ⟨t74, l, rfl, hl74⟩ := frame_cons hl73
  clear hl73
  obtain ⟨t75, l, rfl, hl75⟩ := frame_cons hl74
  clear hl74
  obtain ⟨t76, l, rfl, hl76⟩ := frame_cons hl75
  clear hl75
  obtain ⟨t77, l, rfl, hl77⟩ := frame_cons hl76
  clear hl76
  obtain ⟨t78, l, rfl, hl78⟩ := frame_cons hl77
  clear hl77
  obtain ⟨t79, l, rfl, hl79⟩ := frame_cons hl78
  clear hl78
  obtain rfl := List.eq_nil_of_length_eq_zero hl79
  clear hl79
  obtain ⟨h0, hb, fs, vf, i, hi, h7, h5, hof, (⟨h, _⟩ | ⟨_, hfi, t, vt, b, hbi, hti, h6, h8, hot, hR⟩ | ⟨h, _⟩)⟩ := hJ
  · cases h
  · change t0 = _ at h0
    change t7 = _ at h7
    change t5 = _ at h5
    change t6 = _ at h6
    change t8 = _ at h8
    subst h0 h7 h5 h6 h8
    conv => arg 2; whnf
    have hcv := conv_own hot
    by_cases hlt : i < S.size
    · have hd : S.data.toList.drop i = S[i] :: S.data.toList.drop (i + 1) := by
        rw [List.drop_eq_getElem_cons (by simpa using hlt)]; rfl
      rw [hd] at hR
      unfold cutL at hR
      rcases knd_cases S[i] with ⟨hk, -⟩ | ⟨hk, -⟩ | ⟨hk, -⟩ | ⟨hk, -⟩ | ⟨hk, -⟩
      · rw [hk, if_neg (by decide), if_neg (by decide), if_pos rfl] at hR
        have hR : cutL (S.data.toList.drop i) none (fs ++ [(t, b + 1)]) i = R := by
          rw [hd]; unfold cutL; rw [hk, if_pos rfl]; exact hR
        have HK := Lib.hid hk
        have HR := Lib.hid hR
        have HO := Lib.hid hof
        have HT := Lib.hid hot
        have HB := Lib.hid hb
        clear hk hd hR hof hot hb
        go_wp2_with fail
        refine (kindAt_in S i hlt (by omega) _).mono ?_
        rintro e w' ⟨rfl, rfl⟩
        rw [HK.out]
        go_wp2_with (at_builtin; refine wpList_pushf rfl (.tmp 49) (.tmp 55) rfl w0.heap.size t5 fs (HO.out.alloc _) rfl w.heap.size t (b + 1) rfl (by rw [cell_blk (heap_alloc_new _ _)]; rfl) (by rw [cell_blk (heap_alloc_new _ _)]; rfl) (by omega) (by have := HB.out.size; simp; omega) ?_; intro v1 w1 hown1 hg1)
        have hsz := HB.out.size
        have hBb := (HB.out.alloc hsz (.cells #[.string ⟨t.toArray⟩, .int .i64 ((b : Int) + 1)] 51)).grown hg1 (by simp; omega) (own_base HO.out)
        have H1 := Lib.hid hown1
        have H3 := Lib.hid hBb
        clear hown1 hg1 hBb hcv
        go_wp2_with fail
        go_step3
        show CutJ w0 S R 0 _ _ ∧ cutM S 0 _ _ < cutM S 1 _ _
        refine ⟨⟨rfl, rfl, rfl, H3.out, fs ++ [(t, b + 1)], v1, i, by omega, rfl, rfl, H1.out, .inl ⟨rfl, by simp; omega, HR.out⟩⟩, ?_⟩
        simp [cutM, intOf]
      · rw [hk, if_neg (by decide), if_neg (by decide), if_neg (by decide), if_pos rfl] at hR
        have hR : cutL (S.data.toList.drop i) none (fs ++ [(t, b + 1)]) i = R := by
          rw [hd]; unfold cutL; rw [hk, if_neg (by decide), if_pos rfl]; exact hR
        have HK := Lib.hid hk
        have HR := Lib.hid hR
        have HO := Lib.hid hof
        have HT := Lib.hid hot
        have HB := Lib.hid hb
        clear hk hd hR hof hot hb
        go_wp2_with fail
        refine (kindAt_in S i hlt (by omega) _).mono ?_
        rintro e w' ⟨rfl, rfl⟩
        rw [HK.out]
        go_wp2_with (at_builtin; refine wpList_pushf rfl (.tmp 49) (.tmp 55) rfl w0.heap.size t5 fs (HO.out.alloc _) rfl w.heap.size t (b + 1) rfl (by rw [cell_blk (heap_alloc_new _ _)]; rfl) (by rw [cell_blk (heap_alloc_new _ _)]; rfl) (by omega) (by have := HB.out.size; simp; omega) ?_; intro v1 w1 hown1 hg1)
        have hsz := HB.out.size
        have hBb := (HB.out.alloc hsz (.cells #[.string ⟨t.toArray⟩, .int .i64 ((b : Int) + 1)] 51)).grown hg1 (by simp; omega) (own_base HO.out)
        have H1 := Lib.hid hown1
        have H3 := Lib.hid hBb
        clear hown1 hg1 hBb hcv
        go_wp2_with fail
        go_step3
        show CutJ w0 S R 0 _ _ ∧ cutM S 0 _ _ < cutM S 1 _ _
        refine ⟨⟨rfl, rfl, rfl, H3.out, fs ++ [(t, b + 1)], v1, i, by omega, rfl, rfl, H1.out, .inl ⟨rfl, by simp; omega, HR.out⟩⟩, ?_⟩
        simp [cutM, intOf]
      · rw [hk, if_neg (by decide), if_pos rfl] at hR
        have HK := Lib.hid hk
        have HR := Lib.hid hR
        have HO := Lib.hid hof
        have HT := Lib.hid hot
        have HB := Lib.hid hb
        clear hk hd hR hof hot hb
        clear hcv
        go_wp2_with fail
        refine (kindAt_in S i hlt (by omega) _).mono ?_
        rintro e w' ⟨rfl, rfl⟩
        rw [HK.out]
        go_wp2_with fail
        go_step3
        show CutJ w0 S R 2 _ _ ∧ cutM S 2 _ _ < cutM S 1 _ _
        refine ⟨⟨rfl, rfl, rfl, HB.out, fs, _, i + 1, by omega, rfl, rfl, HO.out, .inr (.inr ⟨rfl, by omega, t, _, b, i, by omega, by omega, by omega, rfl, rfl, rfl, HT.out, HR.out⟩)⟩, ?_⟩
        simp [cutM, intOf]
        omega
      · rw [hk, if_neg (by decide), if_neg (by decide), if_neg (by decide), if_neg (by decide)] at hR
        have hR : cutL (S.data.toList.drop i) none (fs ++ [(t, b + 1)]) i = R := by
          rw [hd]; unfold cutL; rw [hk, if_neg (by decide), if_neg (by decide), if_pos rfl]; exact hR
        have HK := Lib.hid hk
        have HR := Lib.hid hR
        have HO := Lib.hid hof
        have HT := Lib.hid hot
        have HB := Lib.hid hb
        clear hk hd hR hof hot hb
        go_wp2_with fail
        refine (kindAt_in S i hlt (by omega) _).mono ?_
        rintro e w' ⟨rfl, rfl⟩
        rw [HK.out]
        go_wp2_with (at_builtin; refine wpList_pushf rfl (.tmp 49) (.tmp 55) rfl w0.heap.size t5 fs (HO.out.alloc _) rfl w.heap.size t (b + 1) rfl (by rw [cell_blk (heap_alloc_new _ _)]; rfl) (by rw [cell_blk (heap_alloc_new _ _)]; rfl) (by omega) (by have := HB.out.size; simp; omega) ?_; intro v1 w1 hown1 hg1)
        have hsz := HB.out.size
        have hBb := (HB.out.alloc hsz (.cells #[.string ⟨t.toArray⟩, .int .i64 ((b : Int) + 1)] 51)).grown hg1 (by simp; omega) (own_base HO.out)
        have H1 := Lib.hid hown1
        have H3 := Lib.hid hBb
        clear hown1 hg1 hBb hcv
        go_wp2_with fail
        go_step3
        show CutJ w0 S R 0 _ _ ∧ cutM S 0 _ _ < cutM S 1 _ _
        refine ⟨⟨rfl, rfl, rfl, H3.out, fs ++ [(t, b + 1)], v1, i, by omega, rfl, rfl, H1.out, .inl ⟨rfl, by simp; omega, HR.out⟩⟩, ?_⟩
        simp [cutM, intOf]
      · rw [hk, if_pos rfl] at hR
        have hi0 := idx_str S i hlt
        have HK := Lib.hid hk
        have HR := Lib.hid hR
        have HO := Lib.hid hof
        have HT := Lib.hid hot
        have HB := Lib.hid hb
        clear hk hd hR hof hot hb
        clear hcv
        go_wp2_with fail
        refine (kindAt_in S i hlt (by omega) _).mono ?_
        rintro e w' ⟨rfl, rfl⟩
        rw [HK.out]
        go_wp2_with (at_builtin; refine wpList_pushb rfl (.tmp 36) (.tmp 40) rfl w0.heap.size t6 t (HT.out.alloc _) rfl w.heap.size S[i] rfl (by rw [cell_blk (heap_alloc_new _ _)]; rfl) (by omega) (by have := HB.out.size; simp; omega) ?_; intro v1 w1 hown1 hg1)
        have hOf := (HO.out.alloc (.cells #[.int .u8 (S[i].toNat : Int)] 5)).kept hg1 (own_ne HO.out HT.out (by decide))
        have hsz := HB.out.size
        have hBb := (HB.out.alloc hsz (.cells #[.int .u8 (S[i].toNat : Int)] 5)).grown hg1 (by simp; omega) (own_base HT.out)
        have H1 := Lib.hid hown1
        have H2 := Lib.hid hOf
        have H3 := Lib.hid hBb
        clear hown1 hg1 hOf hBb hi0
        go_wp2_with fail
        go_step3
        show CutJ w0 S R 1 _ _ ∧ cutM S 1 _ _ < cutM S 1 _ _
        refine ⟨⟨rfl, rfl, rfl, H3.out, fs, _, i + 1, by omega, rfl, rfl, H2.out, .inr (.inl ⟨rfl, by omega, t ++ [S[i]], v1, b, by omega, by simp; omega, rfl, rfl, H1.out, HR.out⟩)⟩, ?_⟩
        simp [cutM, intOf]
        omega
    · have hR : cutL (S.data.toList.drop i) none (fs ++ [(t, b + 1)]) i = R := by
        rw [List.drop_of_length_le (by simp; omega)] at hR ⊢
        unfold cutL at hR ⊢
        exact hR
      have HR := Lib.hid hR
      have HO := Lib.hid hof
      have HT := Lib.hid hot
      have HB := Lib.hid hb
      clear  hR hof hot hb
      go_wp2_with fail
      refine (kindAt_end S i (by omega) (by omega) _).mono ?_
      rintro e w' ⟨rfl, rfl⟩
      go_wp2_with (at_builtin; refine wpList_pushf rfl (.tmp 49) (.tmp 55) rfl w0.heap.size t5 fs (HO.out.alloc _) rfl w.heap.size t (b + 1) rfl (by rw [cell_blk (heap_alloc_new _ _)]; rfl) (by rw [cell_blk (heap_alloc_new _ _)]; rfl) (by omega) (by have := HB.out.size; simp; omega) ?_; intro v1 w1 hown1 hg1)
      have hsz := HB.out.size
      have hBb := (HB.out.alloc hsz (.cells #[.string ⟨t.toArray⟩, .int .i64 ((b : Int) + 1)] 51)).grown hg1 (by simp; omega) (own_base HO.out)
      have H1 := Lib.hid hown1
      have H3 := Lib.hid hBb
      clear hown1 hg1 hBb hcv
      go_wp2_with fail
      go_step3
      show CutJ w0 S R 0 _ _ ∧ cutM S 0 _ _ < cutM S 1 _ _
      refine ⟨⟨rfl, rfl, rfl, H3.out, fs ++ [(t, b + 1)], v1, i, by omega, rfl, rfl, H1.out, .inl ⟨rfl, by simp; omega, HR.out⟩⟩, ?_⟩
      simp [cutM, intOf]
  · cases h
end Go.Proofs.Ytheakfhcllgndaa
