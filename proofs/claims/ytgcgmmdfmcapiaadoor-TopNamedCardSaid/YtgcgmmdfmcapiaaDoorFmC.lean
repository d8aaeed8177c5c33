/- Contracts of package abbr: isDigit, isSign, areSigns, isLetter, cut, isFormat, Check, CheckLetter, Of. -/
import Derived.Test.YtgcgmmdfmcapiaaDoorFm
import Derived.Test.YtgcgmmdfmcapiaaDoorOf
import Derived.Test.YtgcgmmdfmcapiaaDoorTab
import Derived.LoopTactic
import Derived.Deep.LoopGhost
import Derived.Deep.QuietTactic
import Derived.BigQuiet
namespace Go.Proofs.YtgcgmmdfmcapiaaDoor
open Go.RowKit
theorem aidx (S : ByteArray) (kd : IntKind) (k : Nat) (hk : k < S.size) (W : World) : (Instr.index 9 (.string S) (.int kd (k : Int))).run Tryd.prog W = .ok (.int .u8 (S[k].toNat : Int)) W := by
  rw [run_index_string (P := Tryd.prog) W 9 S kd k Tryd.underlying9, dif_pos ⟨by omega, by omega⟩]
  rfl
theorem ret_bool {a b : Bool} (h : a = b) : Ending.returned (.bool a) = .returned (.bool b) := by rw [h]
theorem adigit_any (c : UInt8) (w : World) : Calls Tryd.prog 47 #[.int .u8 (c.toNat : Int)] w fun e w' => e = .returned (.bool (Fm.isd c)) ∧ w = w' := by
  by_cases h1 : c.toNat < 48
  · have HE := Lib.hid (show Fm.isd c = false by unfold Fm.isd; simp; omega)
    have t1 : decide (48 ≤ (c.toNat : Int)) = false := by simp; omega
    clear h1
    go_enter Tryd.func47, Tryd.ntmps47
    go_wp2_with fail
    go_ret
    exact ⟨ret_bool HE.out.symm, rfl⟩
  · by_cases h2 : c.toNat ≤ 57
    · have HE := Lib.hid (show Fm.isd c = true by unfold Fm.isd; simp; omega)
      have t1 : 48 ≤ (c.toNat : Int) := by omega
      have t2 : (c.toNat : Int) ≤ 57 := by omega
      clear h1 h2
      go_enter Tryd.func47, Tryd.ntmps47
      go_wp2_with fail
      go_ret
      exact ⟨ret_bool HE.out.symm, rfl⟩
    · have HE := Lib.hid (show Fm.isd c = false by unfold Fm.isd; simp; omega)
      have t1 : 48 ≤ (c.toNat : Int) := by omega
      have t2 : decide ((c.toNat : Int) ≤ 57) = false := by simp; omega
      clear h1 h2
      go_enter Tryd.func47, Tryd.ntmps47
      go_wp2_with fail
      go_ret
      exact ⟨ret_bool HE.out.symm, rfl⟩
theorem adigit_is (c : UInt8) (v : Bool) (w : World) (h : Fm.isd c = v) : Calls Tryd.prog 47 #[.int .u8 (c.toNat : Int)] w fun e w' => e = .returned (.bool v) ∧ w = w' := by
  subst h
  exact adigit_any c w
theorem sg_yes {c : UInt8} (h : (97 ≤ (c.toNat : Int) ∧ (c.toNat : Int) ≤ 122) ∨ (65 ≤ (c.toNat : Int) ∧ (c.toNat : Int) ≤ 90) ∨ (48 ≤ (c.toNat : Int) ∧ (c.toNat : Int) ≤ 57) ∨ (c.toNat : Int) = 43 ∨ (c.toNat : Int) = 45) : true = Fm.sg c := by
  symm
  unfold Fm.sg
  rw [decide_eq_true_eq]
  omega
theorem sg_no {c : UInt8} (h : ¬ ((97 ≤ (c.toNat : Int) ∧ (c.toNat : Int) ≤ 122) ∨ (65 ≤ (c.toNat : Int) ∧ (c.toNat : Int) ≤ 90) ∨ (48 ≤ (c.toNat : Int) ∧ (c.toNat : Int) ≤ 57) ∨ (c.toNat : Int) = 43 ∨ (c.toNat : Int) = 45)) : false = Fm.sg c := by
  symm
  unfold Fm.sg
  rw [decide_eq_false_iff_not]
  omega
theorem sign_any (c : UInt8) (w : World) : Calls Tryd.prog 48 #[.int .u8 (c.toNat : Int)] w fun e w' => e = .returned (.bool (Fm.sg c)) ∧ w = w' := by
  have hb := c.toNat_lt
  cases hd : Fm.isd c with
  | true =>
    have HD := Lib.hid hd
    have h1 : 48 ≤ (c.toNat : Int) := by have := of_decide_eq_true hd; omega
    have h2 : (c.toNat : Int) ≤ 57 := by have := of_decide_eq_true hd; omega
    clear hd
    go_enter Tryd.func48, Tryd.ntmps48
    go_wp2_with (go_at_call 47; refine (adigit_is c true _ HD.out).mono ?_; rintro e w' ⟨rfl, rfl⟩)
    go_ret
    exact ⟨ret_bool (sg_yes (by omega)), rfl⟩
  | false =>
    have HD := Lib.hid hd
    have hx : ¬ (48 ≤ c.toNat ∧ c.toNat ≤ 57) := of_decide_eq_false hd
    have HX := Lib.hid hx
    clear hd hx
    by_cases e1 : c.toNat = 43
    · obtain rfl : c = 43 := UInt8.toNat_inj.1 e1
      clear HX hb e1
      go_enter Tryd.func48, Tryd.ntmps48
      go_wp2_with (go_at_call 47; refine (adigit_is 43 false _ HD.out).mono ?_; rintro e w' ⟨rfl, rfl⟩)
      go_ret
      exact ⟨rfl, rfl⟩
    · by_cases e2 : c.toNat = 45
      · obtain rfl : c = 45 := UInt8.toNat_inj.1 e2
        clear HX hb e1 e2
        go_enter Tryd.func48, Tryd.ntmps48
        go_wp2_with (go_at_call 47; refine (adigit_is 45 false _ HD.out).mono ?_; rintro e w' ⟨rfl, rfl⟩)
        go_ret
        exact ⟨rfl, rfl⟩
      · have t1 : ((c.toNat : Int) == 43) = false := by rw [beq_eq_false_iff_ne]; omega
        have t2 : ((c.toNat : Int) == 45) = false := by rw [beq_eq_false_iff_ne]; omega
        have E1 := Lib.hid e1
        have E2 := Lib.hid e2
        clear e1 e2
        go_enter Tryd.func48, Tryd.ntmps48
        go_wp2_with (go_at_call 47; refine (adigit_is c false _ HD.out).mono ?_; rintro e w' ⟨rfl, rfl⟩)
        all_goals
          go_ret
          have h1 := HX.out
          have h2 := E1.out
          have h3 := E2.out
          exact ⟨ret_bool (by first | exact sg_yes (by omega) | exact sg_no (by omega)), rfl⟩
theorem sign_is (c : UInt8) (v : Bool) (w : World) (h : Fm.sg c = v) : Calls Tryd.prog 48 #[.int .u8 (c.toNat : Int)] w fun e w' => e = .returned (.bool v) ∧ w = w' := by
  subst h
  exact sign_any c w
theorem all_snoc' (l : List UInt8) (c : UInt8) : Fm.sgs (l ++ [c]) = (Fm.sgs l && Fm.sg c) := by simp [Fm.sgs]
theorem take_snoc' (s : ByteArray) (k : Nat) (h : k < s.size) : s.data.toList.take (k + 1) = s.data.toList.take k ++ [s[k]] := by
  rw [List.take_succ_eq_append_getElem (by simpa using h)]; rfl
theorem take_all' (s : ByteArray) : s.data.toList.take s.size = s.data.toList := List.take_of_length_le (by simp)
theorem sgs_stop {s : ByteArray} {k : Nat} (h : k < s.size) (hc : Fm.sg s[k] = false) : Fm.sgs s.data.toList = false := by
  unfold Fm.sgs
  rw [List.all_eq_false]
  refine ⟨s[k], ?_, by rw [hc]; simp⟩
  have : s.data.toList[k]? = some s[k] := Lib.data_getElem? s k h
  exact List.mem_of_getElem? this
set_option maxHeartbeats 1000000 in
theorem signs_any (A : Option Addr) (n c : Nat) (L : List ByteArray) (hl : L.length = n) (hn : n ≤ 4294967296) (hL : ∀ i, i < n → (L.getD i ByteArray.empty).size ≤ 4294967296)
    (w : World) (B : Nat) (hB : B ≤ w.heap.size) (hS : Sl w B A n (fun i => .string (L.getD i ByteArray.empty))) :
    Calls Tryd.prog 36 #[.slice A n c] w fun e w' => e = .returned (.bool (L.all fun s => Fm.sgs s.data.toList)) ∧ Below w.heap.size w w' := by
  have HL := Lib.hid hl
  have HZ := Lib.hid hL
  clear hl hL
  go_enter Tryd.func36, Tryd.ntmps36
  go_wp2_with fail
  go_loopw [8] (fun i wr => ∃ k : Nat, k ≤ n ∧ i = .int .i64 k ∧ (L.take k).all (fun s => Fm.sgs s.data.toList) = true ∧ Below w.heap.size w wr) (fun i _ => n - (intOf i).toNat)
  case atStart => exact ⟨0, Nat.zero_le _, rfl, rfl, Below.refl _ _⟩
  case round =>
    obtain ⟨k, hk, rfl, hG, hbw⟩ := hrel
    by_cases hlt : k < n
    · obtain ⟨ad, rfl, hal, hc⟩ := (hS.below (hbw.mono hB)).at_ hlt
      change wr.cell? (ad.add k) = some (.string (L.getD k ByteArray.empty)) at hc
      have hz := HZ.out k hlt
      have hkl : k < L.length := by rw [HL.out]; exact hlt
      have hd : L.take (k + 1) = L.take k ++ [L.getD k ByteArray.empty] := by
        rw [List.take_succ_eq_append_getElem hkl, List.getD_eq_getElem?_getD, List.getElem?_eq_getElem hkl]
        rfl
      have hm : L.getD k ByteArray.empty ∈ L := by
        rw [List.getD_eq_getElem?_getD, List.getElem?_eq_getElem hkl]
        exact List.getElem_mem hkl
      have hno : ∀ X, L.getD k ByteArray.empty = X → Fm.sgs X.data.toList = false → false = L.all (fun s => Fm.sgs s.data.toList) := by
        intro X hX h
        subst hX
        symm
        rw [List.all_eq_false]
        exact ⟨_, hm, by rw [h]; simp⟩
      have hyes : ∀ X, L.getD k ByteArray.empty = X → Fm.sgs X.data.toList = true → (L.take (k + 1)).all (fun s => Fm.sgs s.data.toList) = true := by
        intro X hX h
        rw [hd, hX, List.all_append, hG]
        simp [h]
      have HN := Lib.hid (hno _ rfl)
      have HY := Lib.hid (hyes _ rfl)
      clear hG hno hyes hd hm hkl
      generalize L.getD k ByteArray.empty = X at *
      go_wp2_with fail
      go_loopw [14] (fun i wq => ∃ j : Nat, j ≤ X.size ∧ i = .int .i64 j ∧ Fm.sgs (X.data.toList.take j) = true ∧ Below w.heap.size w wq) (fun i _ => X.size - (intOf i).toNat)
      case atStart => exact ⟨0, Nat.zero_le _, rfl, rfl, hbw⟩
      case round =>
        obtain ⟨j, hj, rfl, hJ, hbj⟩ := hrel
        by_cases hjt : j < X.size
        · have hi0 := aidx X .i64 j hjt
          cases hs : Fm.sg X[j] with
          | true =>
            have HJ := Lib.hid (show Fm.sgs (X.data.toList.take (j + 1)) = true by rw [take_snoc' X j hjt, all_snoc', hJ, hs]; rfl)
            have HS := Lib.hid hs
            clear hJ hs
            go_wp2_with fail
            refine (sign_is X[j] true _ HS.out).mono ?_
            rintro e w' ⟨rfl, rfl⟩
            go_wp2_with fail
            go_roundw
            case rel => exact ⟨j + 1, by omega, by go_num, HJ.out, hbj⟩
            case measure => simp [intOf]; omega
          | false =>
            have HJ := Lib.hid (HN.out (sgs_stop hjt hs))
            have HS := Lib.hid hs
            clear hJ hs
            go_wp2_with fail
            refine (sign_is X[j] false _ HS.out).mono ?_
            rintro e w' ⟨rfl, rfl⟩
            go_wp2_with fail
            go_ret
            exact ⟨ret_bool HJ.out, hbj⟩
        · obtain rfl : j = X.size := by omega
          have HJ := Lib.hid (HY.out (by rw [take_all'] at hJ; exact hJ))
          clear hJ
          go_wp2_with fail
          go_roundw
          case rel => exact ⟨k + 1, by omega, by go_num, HJ.out, hbj⟩
          case measure => simp [intOf]; omega
    · obtain rfl : k = n := by omega
      have HG := Lib.hid (show true = L.all (fun s => Fm.sgs s.data.toList) by rw [List.take_of_length_le (by rw [HL.out]; exact Nat.le_refl _)] at hG; exact hG.symm)
      clear hG
      go_wp2_with fail
      go_ret
      exact ⟨ret_bool HG.out, hbw⟩
end Go.Proofs.YtgcgmmdfmcapiaaDoor
