/- Sizes of a rule's texts, and what is read of them. No walk. -/
import Derived.Test.YtigmbkcjmlpfoaaGreatDoorRl
namespace Go.Proofs.YtigmbkcjmlpfoaaGreatDoor
open Go.RowKit
theorem name_le {s : ByteArray} (h : Rl.name s.data.toList = true) : s.size ≤ 64 := by
  have hz : s.data.toList.length = s.size := by simp
  unfold Rl.name at h
  rw [Bool.and_eq_true] at h
  have := of_decide_eq_true h.1
  omega
theorem ltr_le {s : ByteArray} (h : Fm.ltr s.data.toList = true) : s.size ≤ 32 := by
  have hz : s.data.toList.length = s.size := by simp
  unfold Fm.ltr at h
  rw [Bool.and_eq_true] at h
  have := of_decide_eq_true h.1
  omega
theorem itoa_le (y : Int) (h1 : 1 ≤ y) (h2 : y ≤ 9999) : (⟨(Lib.itoa y).toArray⟩ : ByteArray).size ≤ 201 := by
  have e : Lib.itoa y = Lib.decDigits y.toNat := by unfold Lib.itoa; rw [if_neg (by omega)]
  rw [size_ba, e]
  have := ten_len y.toNat (by omega)
  omega
theorem rtexts_small {r : Ru} (h : Rl.right r = true) : ∀ t ∈ Rl.texts r, t.size ≤ 201 := by
  obtain ⟨h1, ⟨y1, y2, y3⟩, ⟨m1, m2⟩, hd, hr, ⟨v1, v2⟩, hl⟩ := rl_parts h
  have n0 := name_le h1
  have n8 := ltr_le hl
  intro t ht
  simp only [Rl.texts, List.mem_cons, List.not_mem_nil, or_false] at ht
  rcases ht with rfl | rfl | rfl | rfl | rfl | rfl | rfl | rfl | rfl
  · omega
  · exact itoa_le _ y1 (by omega)
  · unfold Rl.t2
    split
    · decide
    · split
      · decide
      · exact itoa_le _ (by omega) y3
  · decide
  · have := (Wd.mons_back (r.m - 1).toNat (by omega)).2.1
    show (Wd.three Wd.mons (r.m - 1).toNat).size ≤ 201
    omega
  · have := txt_size r.k r.n r.d hd
    show (Dy.txt r.k r.n r.d).size ≤ 201
    omega
  · obtain ⟨q1, q2, _⟩ := (Mo.right_iff _ _).1 hr
    unfold Rl.t6
    rw [size_ba]
    have := txt_len r.s q1 q2
    have := ltr_len r.c
    unfold Mo.txt
    rw [List.length_append]
    omega
  · unfold Rl.t7
    rw [size_ba]
    have := txt_len r.sv v1 v2
    omega
  · unfold Rl.t8
    split
    · decide
    · omega
/-- What is needed of a right rule's texts. -/
structure RTx (r : Ru) (LT : List ByteArray) : Prop where
  texts : Rl.texts r = LT
  len : LT.length = 9
  small : ∀ t ∈ LT, t.size ≤ 4096
  nine : Rl.prs LT = (r, 0, 0)
  eight : Rl.prs (LT.take 8) = (Ru.zero, 8, 5)
theorem rtx_of {r : Ru} (h : Rl.right r = true) (c0 : 0 ≤ r.c) : ∃ LT, RTx r LT := ⟨_, rfl, rfl, fun t ht => Nat.le_trans (rtexts_small h t ht) (by decide), rback h c0, rback8 h c0⟩
theorem RTx.small8 {r : Ru} {LT : List ByteArray} (h : RTx r LT) : ∀ t ∈ LT.take 8, t.size ≤ 4096 := fun t ht => h.small t (List.mem_of_mem_take ht)
theorem zero_eight {L : List ByteArray} (h : Rl.prs L = (Ru.zero, 8, 5)) : Rl.prs L = (⟨⟨#[]⟩, 0, 0, 0, 0, 0, 0, 0, 0, 0, ⟨#[]⟩⟩, 8, 5) := h
end Go.Proofs.YtigmbkcjmlpfoaaGreatDoor
