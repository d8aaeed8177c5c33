/- Sizes of an era's texts, and what is read of them. No walk. -/
import Derived.Test.YtigmbkcjmlpfoaaGreatDoorErR
import Derived.Test.YtigmbkcjmlpfoaaGreatDoorRuleSize
namespace Go.Proofs.YtigmbkcjmlpfoaaGreatDoor
open Go.RowKit
theorem fmt_le {s : ByteArray} (h : Fm.fmt s.data.toList = true) : s.size ≤ 32 := by
  have hz : s.data.toList.length = s.size := by simp
  unfold Fm.fmt at h
  rw [Bool.and_eq_true] at h
  have := of_decide_eq_true h.1
  omega
theorem clk_le {t : Int} (h1 : -604800 ≤ t) (h2 : t ≤ 604800) : (⟨(txt t).toArray⟩ : ByteArray).size ≤ 201 := by
  rw [size_ba]
  have := txt_len t h1 h2
  omega
theorem utexts_small {u : Ut} (h : Mo.un u = true) : ∀ t ∈ Mo.texts u, t.size ≤ 201 := by
  obtain ⟨⟨y1, y2, m1, m2⟩, hd, hr⟩ := unt_parts h
  obtain ⟨h1, h2, _⟩ := (Mo.right_iff _ _).1 hr
  intro t ht
  simp only [Mo.texts, List.mem_cons, List.not_mem_nil, or_false] at ht
  rcases ht with rfl | rfl | rfl | rfl
  · exact itoa_le _ y1 y2
  · have := (Wd.mons_back (u.m - 1).toNat (by omega)).2.1
    show (Wd.three Wd.mons (u.m - 1).toNat).size ≤ 201
    omega
  · have := txt_size u.k u.n u.d hd
    show (Dy.txt u.k u.n u.d).size ≤ 201
    omega
  · unfold Mo.t3
    rw [size_ba]
    have := txt_len u.s h1 h2
    have := ltr_len u.c
    unfold Mo.txt
    rw [List.length_append]
    omega
theorem etexts_small {e : Er} (h : El.right e = true) : ∀ t ∈ El.texts e, t.size ≤ 201 := by
  obtain ⟨⟨s1, s2⟩, hk, hf, he⟩ := el_parts h
  have n2 := fmt_le hf
  intro t ht
  unfold El.texts at ht
  rcases List.mem_append.1 ht with ht | ht
  · simp only [List.mem_cons, List.not_mem_nil, or_false] at ht
    rcases ht with rfl | rfl | rfl
    · exact clk_le s1 s2
    · unfold El.t1
      rcases kind_cases hk with ⟨k, s, r⟩ | ⟨k, ⟨t1, t2⟩, r⟩ | ⟨k, s, r⟩
      · rw [k, if_neg (by decide), if_neg (by decide)]
        decide
      · rw [k, if_pos rfl]
        exact clk_le t1 t2
      · rw [k, if_neg (by decide), if_pos rfl]
        have := name_le r
        omega
    · omega
  · unfold El.rest at ht
    split at ht
    · rename_i hn
      unfold El.ends at he
      rw [if_pos hn] at he
      exact utexts_small he t (List.mem_of_mem_take ht)
    · cases ht
theorem eru_le {e : Er} (h : El.right e = true) : e.ru.size ≤ 64 := by
  obtain ⟨_, hk, _⟩ := el_parts h
  rcases kind_cases hk with ⟨_, _, r⟩ | ⟨_, _, r⟩ | ⟨_, _, r⟩
  · rw [emp r]; decide
  · rw [emp r]; decide
  · exact name_le r
/-- What is needed of a right era's texts. -/
structure ETx (e : Er) (LT : List ByteArray) (N : Nat) : Prop where
  texts : El.texts e = LT
  num : El.num e = N
  len : LT.length = N
  small : ∀ t ∈ LT, t.size ≤ 4096
  back : El.prs LT = (e, 0, 0)
  most : N ≤ 7
  ends : decide (3 < (N : Int)) = e.en
theorem etx_of {e : Er} (h : El.right e = true) (c0 : 0 ≤ e.u.c) : ∃ LT N, ETx e LT N := by
  obtain ⟨b1, b2⟩ := enum_bd e
  refine ⟨_, _, rfl, rfl, enum_len e, fun t ht => Nat.le_trans (etexts_small h t ht) (by decide), eback h c0, ?_, ?_⟩
  · cases hn : e.en with
    | false => rw [b1 hn]; omega
    | true => exact (b2 hn).2
  · cases hn : e.en with
    | false =>
      rw [decide_eq_false_iff_not, b1 hn]
      omega
    | true =>
      rw [decide_eq_true_eq]
      have := (b2 hn).1
      omega
theorem ends_nat {N : Nat} {b : Bool} (h : decide (3 < (N : Int)) = b) : decide (3 < N) = b := by
  rw [← h, Bool.eq_iff_iff, decide_eq_true_eq, decide_eq_true_eq]
  omega
end Go.Proofs.YtigmbkcjmlpfoaaGreatDoor
