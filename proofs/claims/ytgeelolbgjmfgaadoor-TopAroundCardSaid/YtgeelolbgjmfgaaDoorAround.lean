/- Plain lists: what a text tells that is a word for a day of the week, >= and digits. -/
import Derived.Test.YtgeelolbgjmfgaaDoorDayText
namespace Go.Proofs.YtgeelolbgjmfgaaDoor
open Go.RowKit
namespace Dy
def ge : ByteArray := ⟨#[62, 61]⟩
/-- The sign and the digits. -/
def rest (n : Int) : ByteArray := ge ++ ⟨(dig n.toNat).toArray⟩
theorem lo_app (a b : ByteArray) : Wd.lo (a ++ b) = Wd.lo a ++ Wd.lo b := by simp [Wd.lo]
theorem len_data (a : ByteArray) : a.data.toList.length = a.size := by simp
theorem take_app (a b : ByteArray) : (a ++ b).extract 0 a.size = a := by
  apply ByteArray.ext
  apply Array.ext'
  simp
  exact List.take_of_length_le (by rw [len_data]; exact Nat.le_refl _)
theorem drop_app (a b : ByteArray) : (a ++ b).extract a.size (a ++ b).size = b := by
  apply ByteArray.ext
  apply Array.ext'
  simp
  rw [List.drop_of_length_le (by rw [len_data]; exact Nat.le_refl _), List.take_of_length_le (l := b.data.toList) (by rw [len_data]; exact Nat.le_refl _)]
  simp
theorem txt_from (n d : Int) : txt 2 n d = Wd.three Wd.week d.toNat ++ rest n := by
  show Wd.three Wd.week d.toNat ++ ⟨#[62, 61]⟩ ++ ⟨(dig n.toNat).toArray⟩ = _
  rw [ByteArray.append_assoc]
  rfl
theorem num_dig : ∀ n, n < 32 → num (dig n) = some ((n : Nat) : Int) := by decide +kernel
theorem week_letters : ∀ i, i < 7 → (Wd.lo (Wd.nth Wd.week i)).all (fun c => decide (c ≠ 62)) = true ∧ (Wd.lo (Wd.nth Wd.week i)).head? ≠ some 108 := by decide +kernel
theorem index_at (l r : List UInt8) (h : ∀ c ∈ l, c ≠ 62) : Lib.index (l ++ (62 :: 61 :: r)) [62, 61] = l.length := by
  induction l with
  | nil => simp [Lib.index]
  | cons a l ih =>
    have h1 := ih fun c hc => h c (List.mem_cons_of_mem _ hc)
    have h2 : a ≠ 62 := h a List.mem_cons_self
    have h3 : List.isPrefixOf [62, 61] (a :: (l ++ 62 :: 61 :: r)) = false := by
      simp [List.isPrefixOf]
      intro h4
      exact absurd h4.symm h2
    show Lib.index (a :: (l ++ 62 :: 61 :: r)) [62, 61] = _
    unfold Lib.index
    rw [h3, h1]
    simp
theorem cut_at (l r : List UInt8) (h : ∀ c ∈ l, c ≠ 62) : Lib.cut (l ++ (62 :: 61 :: r)) [62, 61] = (l, r, true) := by
  unfold Lib.cut
  rw [index_at l r h, if_pos (by omega)]
  simp
/-- A word that means a day of the week has no > and does not begin as last does. -/
theorem word_letters {s : ByteArray} {k : Int} (h0 : 0 ≤ k) (h : Wd.pick s Wd.week = k) : (∀ c ∈ s.data.toList, c ≠ 62) ∧ ∃ c r, s.data.toList = c :: r ∧ Wd.sm c ≠ 108 := by
  rcases Wd.pick_place s Wd.week with hp | ⟨hz, i, hp, hi, x, hx, hb⟩
  · omega
  · have hi7 : i < 7 := hi
    obtain ⟨w1, w2⟩ := week_letters i hi7
    have hxx : Wd.nth Wd.week i = x := by unfold Wd.nth; rw [List.getD_eq_getElem?_getD, hx]; rfl
    rw [hxx] at w1 w2
    obtain ⟨t, ht⟩ := (Wd.beg_pre x s).1 hb
    constructor
    · rintro c hc rfl
      have hm : Wd.sm 62 ∈ Wd.lo x := by
        rw [← ht]
        exact List.mem_append_left _ (List.mem_map_of_mem hc)
      have := List.all_eq_true.1 w1 _ hm
      exact absurd this (by decide)
    · cases hs : s.data.toList with
      | nil =>
        have : s.data.toList.length = s.size := by simp
        rw [hs] at this
        simp at this
        omega
      | cons c r =>
        refine ⟨c, r, rfl, fun hc => w2 ?_⟩
        have hl : Wd.lo s = Wd.sm c :: r.map Wd.sm := by unfold Wd.lo; rw [hs]; rfl
        rw [← ht, hl, hc]
        rfl
theorem not_last {s t : ByteArray} {c : UInt8} {r : List UInt8} (hs : s.data.toList = c :: r) (hc : Wd.sm c ≠ 108) : isLast (s ++ t) = false := by
  have hl : Wd.lo s = Wd.sm c :: r.map Wd.sm := by unfold Wd.lo; rw [hs]; rfl
  unfold isLast
  rw [Bool.and_eq_false_iff]
  right
  unfold Wd.one
  rw [decide_eq_false_iff_not, Wd.lo_take, lo_app, hl]
  intro h
  have h1 := congrArg List.head? h
  have h2 : (Wd.lo lastW).head? = some 108 := by decide +kernel
  rw [h2] at h1
  simp at h1
  exact hc h1
/-- A text of such a word, >= and digits tells that day. -/
theorem around {s : ByteArray} {n k : Int} (h1 : 1 ≤ n) (h2 : n ≤ 31) (h0 : 0 ≤ k) (h : Wd.pick s Wd.week = k) : prs (s ++ rest n) = some (2, n, k) := by
  obtain ⟨g1, c, r, g2, g3⟩ := word_letters h0 h
  have hk : k ≤ 6 := by have : Wd.pick s Wd.week < 7 := Wd.pick_lt s Wd.week; omega
  have hd : (s ++ rest n).data.toList = s.data.toList ++ (62 :: 61 :: dig n.toNat) := by
    unfold rest ge
    simp
  have hcut := cut_at s.data.toList (dig n.toNat) g1
  have hr : rd (s ++ rest n) = some (2, n, k) := by
    rw [rd_ge (not_last g2 g3) (by rw [hd, hcut]), hd, hcut]
    unfold beside
    simp only
    have hn := num_dig n.toNat (by omega)
    rw [show ((n.toNat : Nat) : Int) = n by omega] at hn
    have hs : (⟨s.data.toList.toArray⟩ : ByteArray) = s := by simp
    rw [hn, hs, h]
    simp only
    rw [if_pos h0]
  rw [prs_sift, hr]
  show (if right 2 n k = true then some (2, n, k) else none) = some (2, n, k)
  rw [if_pos ((right_iff 2 n k).2 (.inr (.inr ⟨.inl rfl, h1, h2, h0, hk⟩)))]
end Dy
end Go.Proofs.YtgeelolbgjmfgaaDoor
