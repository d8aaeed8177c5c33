/- The contracts of package clock's functions of texts, first part: digits, a piece. -/
import Derived.Test.YtgcgmmdfmcapiaaDoorClock
import Derived.Test.YtgcgmmdfmcapiaaDoorTxt
import Derived.LoopTactic
namespace Go.Proofs.YtgcgmmdfmcapiaaDoor
open Go.RowKit
theorem ret_ib {k : IntKind} {a b : Int} {c : Bool} (h : a = b) : Ending.returned (.tuple #[.int k a, .bool c]) = .returned (.tuple #[.int k b, .bool c]) := by rw [h]
theorem take_snoc (s : ByteArray) (k : Nat) (h : k < s.size) : s.data.toList.take (k + 1) = s.data.toList.take k ++ [s[k]] := by
  rw [List.take_succ_eq_append_getElem (by simpa using h)]; rfl
theorem isD_iff (c : UInt8) : Txt.isD c = true ↔ 48 ≤ (c.toNat : Int) ∧ (c.toNat : Int) ≤ 57 := by
  unfold Txt.isD
  simp only [Bool.and_eq_true, decide_eq_true_eq]
  omega
theorem all_snoc (l : List UInt8) (c : UInt8) : (l ++ [c]).all Txt.isD = (l.all Txt.isD && Txt.isD c) := by simp
theorem take_all (s : ByteArray) : s.data.toList.take s.size = s.data.toList := List.take_of_length_le (by simp)
theorem take_bd (s : ByteArray) (k : Nat) (h3 : k ≤ 3) (h : (s.data.toList.take k).all Txt.isD = true) : 0 ≤ Txt.val (s.data.toList.take k) ∧ Txt.val (s.data.toList.take k) < 1000 := by
  have := Txt.val_bd _ h
  have hl : (s.data.toList.take k).length ≤ 3 := by have := List.length_take_le k s.data.toList; omega
  refine ⟨this.1, Int.lt_of_lt_of_le this.2 ?_⟩
  have : (10 : Int) ^ (s.data.toList.take k).length ≤ 10 ^ 3 := by
    have := Nat.pow_le_pow_right (n := 10) (by omega) hl
    exact_mod_cast this
  omega
theorem piece_zero (l : List UInt8) : Txt.piece 0 l = if Txt.okDig l 1 3 then some (Txt.val l) else none := rfl
theorem piece_later (i : Nat) (l : List UInt8) (h : i ≠ 0) : Txt.piece i l = if Txt.okDig l 2 2 && decide (Txt.val l < 60) then some (Txt.val l) else none := by unfold Txt.piece; rw [if_neg h]
theorem okDig_parts (l : List UInt8) (a b : Nat) (h : Txt.okDig l a b = true) : a ≤ l.length ∧ l.length ≤ b ∧ l.all Txt.isD = true := by
  unfold Txt.okDig at h
  simp only [Bool.and_eq_true, decide_eq_true_eq] at h
  exact ⟨h.1.1, h.1.2, h.2⟩
theorem piece_bd (i : Nat) (l : List UInt8) (v : Int) (h : Txt.piece i l = some v) : 0 ≤ v ∧ v < 1000 ∧ (i ≠ 0 → v < 60) := by
  by_cases hi : i = 0
  · subst hi
    rw [piece_zero] at h
    split at h
    · rename_i ho
      cases h
      have hp := okDig_parts _ _ _ ho
      have hb := Txt.val_bd l hp.2.2
      have : (10 : Int) ^ l.length ≤ 10 ^ 3 := by
        have := Nat.pow_le_pow_right (n := 10) (by omega) hp.2.1
        exact_mod_cast this
      omega
    · cases h
  · rw [piece_later i l hi] at h
    split at h
    · rename_i ho
      simp only [Bool.and_eq_true, decide_eq_true_eq] at ho
      cases h
      have hp := okDig_parts _ _ _ ho.1
      have hb := Txt.val_bd l hp.2.2
      omega
    · cases h
end Go.Proofs.YtgcgmmdfmcapiaaDoor
