/- The contracts of package clock's functions of texts, first part: digits, a piece. -/
import Derived.Test.YtgcgmmdfmcapiaaGreatDoorClock
import Derived.Test.YtgcgmmdfmcapiaaGreatDoorTxt
import Derived.LoopTactic
namespace Go.Proofs.YtgcgmmdfmcapiaaGreatDoor
open Go.RowKit
theorem ret_ib {k : IntKind} {a b : Int} {c : Bool} (h : a = b) : Ending.returned (.tuple #[.int k a, .bool c]) = .returned (.tuple #[.int k b, .bool c]) := by rw [h]
theorem take_snoc (s : ByteArray) (k : Nat) (h : k < s.size) : s.data.toList.take (k + 1) = s.data.toList.take k ++ [s[k]] := by
  rw [List.take_succ_eq_append_getElem (by simpa using h)]; rfl
theorem isD_iff (c : UInt8) : Txt.isD c = true ↔ 48 ≤ (c.toNat : Int) ∧ (c.toNat : Int) ≤ 57 := by
  unfold Txt.isD
  simp only [Bool.and_eq_true, decide_eq_true_eq]
  omega
theorem all_snoc (l : List UInt8) (c : UInt8) : (l ++ [c]).all Txt.isD = (l.all Txt.isD && Txt.isD c) := by simp
theorem take_all (s : ByteArray) : s.data.toList.take s.size = s.data.toList := List.take_of_length_le (by simp)
theorem take_bd (s : ByteArray) (k : Nat) (h3 : k ≤ 3) (h : (s.data.toList.take k).all Txt.isD = true) : 0 ≤ Txt.val (s.data.toList.take k) ∧ Txt.val (s.data.toList.take k) < 1000 := by
  have := Txt.val_bd _ h
  have hl : (s.data.toList.take k).length ≤ 3 := by have := List.length_take_le k s.data.toList; omega
  refine ⟨this.1, Int.lt_of_lt_of_le this.2 ?_⟩
  have : (10 : Int) ^ (s.data.toList.take k).length ≤ 10 ^ 3 := by
    have := Nat.pow_le_pow_right (n := 10) (by omega) hl
    exact_mod_cast this
  omega
theorem digits_yes (s : ByteArray) (least most : Nat) (w : World) (h1 : least ≤ s.size) (h2 : s.size ≤ most) (h3 : most ≤ 3) (hd : Hid (s.data.toList.all Txt.isD = true)) :
    Calls Tryz.prog 95 #[.string s, .int .i64 least, .int .i64 most] w fun e w' => e = .returned (.tuple #[.int .i64 (Txt.val s.data.toList), .bool true]) ∧ w = w' := by
  have t1 : decide (s.size < least) = false := by simp; omega
  have t2 : decide (most < s.size) = false := by simp; omega
  go_enter Tryz.func95, Tryz.ntmps95
  go_wp2_with fail
  go_loop [8, 9] (fun n i => ∃ k : Nat, k ≤ s.size ∧ i = .int .i64 k ∧ n = .int .i64 (Txt.val (s.data.toList.take k))) (fun _ i => s.size - (intOf i).toNat)
  case atStart => exact ⟨0, Nat.zero_le _, rfl, rfl⟩
  case round =>
    obtain ⟨k, hk, rfl, rfl⟩ := hrel
    by_cases hlt : k < s.size
    · have hall : ∀ x ∈ s.data.toList, Txt.isD x = true := List.all_eq_true.1 hd.out
      have hpre : (s.data.toList.take k).all Txt.isD = true := List.all_eq_true.2 fun x hx => hall x (List.mem_of_mem_take hx)
      obtain ⟨b1, b2⟩ := take_bd s k (by omega) hpre
      have hc : Txt.isD s[k] = true := hall _ (by have : s[k] = s.data.toList[k]'(by simpa using hlt) := rfl; rw [this]; exact List.getElem_mem _)
      obtain ⟨c1, c2⟩ := (isD_iff _).1 hc
      have HS := Lib.hid (show Txt.val (s.data.toList.take (k + 1)) = 10 * Txt.val (s.data.toList.take k) + ((s[k].toNat : Int) - 48) by rw [take_snoc s k hlt, Txt.val_snoc])
      clear hall hpre hc
      go_wp2_with fail
      go_round
      case rel => exact ⟨k + 1, by omega, by go_num, by rw [HS.out]⟩
      case measure => simp [intOf]; omega
    · have HS := Lib.hid (show s.data.toList.take k = s.data.toList by rw [show k = s.size by omega, take_all])
      go_wp2_with fail
      go_ret2
      exact ⟨ret_ib (congrArg Txt.val HS.out), rfl⟩
theorem digits_no (s : ByteArray) (least most : Nat) (w : World) (h3 : most ≤ 3) (_h0 : least ≤ 3) (hd : Hid (Txt.okDig s.data.toList least most = false)) :
    Calls Tryz.prog 95 #[.string s, .int .i64 least, .int .i64 most] w fun e w' => e = .returned (.tuple #[.int .i64 0, .bool false]) ∧ w = w' := by
  by_cases h1 : s.size < least
  · go_enter Tryz.func95, Tryz.ntmps95
    go_wp2_with fail
    go_ret2
    exact ⟨rfl, rfl⟩
  · by_cases h2 : most < s.size
    · go_enter Tryz.func95, Tryz.ntmps95
      go_wp2_with fail
      go_ret2
      exact ⟨rfl, rfl⟩
    · have hd2 : Hid (s.data.toList.all Txt.isD = false) := by
        have := hd.out
        unfold Txt.okDig at this
        have e1 : decide (least ≤ s.data.toList.length) = true := by simp; omega
        have e2 : decide (s.data.toList.length ≤ most) = true := by simp; omega
        rw [e1, e2] at this
        exact this
      clear hd
      have t1 : decide (s.size < least) = false := by simp; omega
      have t2 : decide (most < s.size) = false := by simp; omega
      go_enter Tryz.func95, Tryz.ntmps95
      go_wp2_with fail
      go_loop [8, 9] (fun n i => ∃ k : Nat, k ≤ s.size ∧ i = .int .i64 k ∧ n = .int .i64 (Txt.val (s.data.toList.take k)) ∧ Hid ((s.data.toList.take k).all Txt.isD = true)) (fun _ i => s.size - (intOf i).toNat)
      case atStart => exact ⟨0, Nat.zero_le _, rfl, rfl, rfl⟩
      case round =>
        obtain ⟨k, hk, rfl, rfl, hpre⟩ := hrel
        by_cases hlt : k < s.size
        · obtain ⟨b1, b2⟩ := take_bd s k (by omega) hpre.out
          have HS := Lib.hid (show Txt.val (s.data.toList.take (k + 1)) = 10 * Txt.val (s.data.toList.take k) + ((s[k].toNat : Int) - 48) by rw [take_snoc s k hlt, Txt.val_snoc])
          have HA := Lib.hid (show (s.data.toList.take (k + 1)).all Txt.isD = ((s.data.toList.take k).all Txt.isD && Txt.isD s[k]) by rw [take_snoc s k hlt, all_snoc])
          by_cases c1 : (s[k].toNat : Int) < 48
          · go_wp2_with fail
            go_ret2
            exact ⟨rfl, rfl⟩
          · by_cases c2 : 57 < (s[k].toNat : Int)
            · go_wp2_with fail
              go_ret2
              exact ⟨rfl, rfl⟩
            · have HD := Lib.hid ((isD_iff s[k]).2 ⟨by omega, by omega⟩)
              go_wp2_with fail
              go_round
              case rel => exact ⟨k + 1, by omega, by go_num, by rw [HS.out], by rw [HA.out, hpre.out, HD.out]; rfl⟩
              case measure => simp [intOf]; omega
        · obtain rfl : k = s.size := by omega
          exfalso
          have := hpre.out
          rw [take_all, hd2.out] at this
          cases this
theorem piece_zero (l : List UInt8) : Txt.piece 0 l = if Txt.okDig l 1 3 then some (Txt.val l) else none := rfl
theorem piece_later (i : Nat) (l : List UInt8) (h : i ≠ 0) : Txt.piece i l = if Txt.okDig l 2 2 && decide (Txt.val l < 60) then some (Txt.val l) else none := by unfold Txt.piece; rw [if_neg h]
theorem okDig_parts (l : List UInt8) (a b : Nat) (h : Txt.okDig l a b = true) : a ≤ l.length ∧ l.length ≤ b ∧ l.all Txt.isD = true := by
  unfold Txt.okDig at h
  simp only [Bool.and_eq_true, decide_eq_true_eq] at h
  exact ⟨h.1.1, h.1.2, h.2⟩
theorem piece_bd (i : Nat) (l : List UInt8) (v : Int) (h : Txt.piece i l = some v) : 0 ≤ v ∧ v < 1000 ∧ (i ≠ 0 → v < 60) := by
  by_cases hi : i = 0
  · subst hi
    rw [piece_zero] at h
    split at h
    · rename_i ho
      cases h
      have hp := okDig_parts _ _ _ ho
      have hb := Txt.val_bd l hp.2.2
      have : (10 : Int) ^ l.length ≤ 10 ^ 3 := by
        have := Nat.pow_le_pow_right (n := 10) (by omega) hp.2.1
        exact_mod_cast this
      omega
    · cases h
  · rw [piece_later i l hi] at h
    split at h
    · rename_i ho
      simp only [Bool.and_eq_true, decide_eq_true_eq] at ho
      cases h
      have hp := okDig_parts _ _ _ ho.1
      have hb := Txt.val_bd l hp.2.2
      omega
    · cases h
theorem readPart_yes (i : Nat) (s : ByteArray) (v : Int) (w : World) (hi : i < 3) (hp : Hid (Txt.piece i s.data.toList = some v)) :
    Calls Tryz.prog 81 #[.int .i64 i, .string s] w fun e w' => e = .returned (.tuple #[.int .i64 v, .bool true]) ∧ w = w' := by
  by_cases h0 : i = 0
  · subst h0
    have hp := hp.out
    rw [piece_zero] at hp
    by_cases ho : Txt.okDig s.data.toList 1 3 = true
    · rw [if_pos ho] at hp
      injection hp with hp
      obtain ⟨o1, o2, o3⟩ := okDig_parts _ _ _ ho
      have o4 : s.data.toList.length = s.size := by simp
      have V := Lib.hid hp
      have O3 := Lib.hid o3
      clear hp ho o3
      rw [o4] at o1 o2
      clear o4
      go_enter Tryz.func81, Tryz.ntmps81
      go_wp2_with fail
      refine (digits_yes s 1 3 _ (by omega) (by omega) (by omega) O3).mono ?_
      rintro e w' ⟨rfl, rfl⟩
      go_wp2_with fail
      go_ret2
      exact ⟨ret_ib V.out, rfl⟩
    · rw [if_neg ho] at hp
      cases hp
  · have hp := hp.out
    rw [piece_later i _ h0] at hp
    by_cases ho : (Txt.okDig s.data.toList 2 2 && decide (Txt.val s.data.toList < 60)) = true
    · rw [if_pos ho] at hp
      injection hp with hp
      rw [Bool.and_eq_true] at ho
      obtain ⟨o1, o2, o3⟩ := okDig_parts _ _ _ ho.1
      have o4 : s.data.toList.length = s.size := by simp
      have V := Lib.hid hp
      have O3 := Lib.hid o3
      have o5 := ho.2
      clear hp ho o3
      rw [o4] at o1 o2
      clear o4
      have t0 : ((i : Int) == 0) = false := by rw [beq_eq_false_iff_ne]; omega
      go_enter Tryz.func81, Tryz.ntmps81
      go_wp2_with fail
      refine (digits_yes s 2 2 _ (by omega) (by omega) (by omega) O3).mono ?_
      rintro e w' ⟨rfl, rfl⟩
      go_wp2_with fail
      go_ret2
      exact ⟨ret_ib V.out, rfl⟩
    · rw [if_neg ho] at hp
      cases hp
theorem readPart_no (i : Nat) (s : ByteArray) (w : World) (hi : i < 3) (hp : Hid (Txt.piece i s.data.toList = none)) :
    ∃ v : Int, Calls Tryz.prog 81 #[.int .i64 i, .string s] w fun e w' => e = .returned (.tuple #[.int .i64 v, .bool false]) ∧ w = w' := by
  by_cases h0 : i = 0
  · subst h0
    have hp := hp.out
    rw [piece_zero] at hp
    by_cases ho : Txt.okDig s.data.toList 1 3 = true
    · rw [if_pos ho] at hp
      cases hp
    · have O := Lib.hid (Bool.not_eq_true _ ▸ ho : Txt.okDig s.data.toList 1 3 = false)
      clear ho hp
      refine ⟨0, ?_⟩
      go_enter Tryz.func81, Tryz.ntmps81
      go_wp2_with fail
      refine (digits_no s 1 3 _ (by omega) (by omega) O).mono ?_
      rintro e w' ⟨rfl, rfl⟩
      go_wp2_with fail
      go_ret2
      exact ⟨rfl, rfl⟩
  · have hp := hp.out
    rw [piece_later i _ h0] at hp
    have t0 : ((i : Int) == 0) = false := by rw [beq_eq_false_iff_ne]; omega
    by_cases ho : Txt.okDig s.data.toList 2 2 = true
    · have hv : decide (Txt.val s.data.toList < 60) = false := by
        cases hd : decide (Txt.val s.data.toList < 60)
        · rfl
        · rw [ho, hd] at hp
          cases hp
      obtain ⟨o1, o2, o3⟩ := okDig_parts _ _ _ ho
      have o4 : s.data.toList.length = s.size := by simp
      have O3 := Lib.hid o3
      clear hp ho o3
      rw [o4] at o1 o2
      clear o4
      refine ⟨Txt.val s.data.toList, ?_⟩
      go_enter Tryz.func81, Tryz.ntmps81
      go_wp2_with fail
      refine (digits_yes s 2 2 _ (by omega) (by omega) (by omega) O3).mono ?_
      rintro e w' ⟨rfl, rfl⟩
      go_wp2_with fail
      go_ret2
      exact ⟨rfl, rfl⟩
    · have O := Lib.hid (Bool.not_eq_true _ ▸ ho : Txt.okDig s.data.toList 2 2 = false)
      clear ho hp
      refine ⟨0, ?_⟩
      go_enter Tryz.func81, Tryz.ntmps81
      go_wp2_with fail
      refine (digits_no s 2 2 _ (by omega) (by omega) O).mono ?_
      rintro e w' ⟨rfl, rfl⟩
      go_wp2_with fail
      go_ret2
      exact ⟨rfl, rfl⟩
end Go.Proofs.YtgcgmmdfmcapiaaGreatDoor
