/- Contracts of package scan: Quote. -/
import Derived.Test.YtheakfhcllgndaaKind
namespace Go.Proofs.Ytheakfhcllgndaa
open Go.RowKit
def okc (c : UInt8) : Bool := decide (knd c ≠ 2) && decide (knd c ≠ 3)
def wantq (c : UInt8) : Bool := decide (knd c = 1) || decide (knd c = 4)
/-- A text as it may stand in a line as one field. -/
def qt (s : List UInt8) : List UInt8 := if (s.isEmpty || s.any wantq) = true then 34 :: (s ++ [34]) else s
theorem any_snoc (l : List UInt8) (c : UInt8) : (l ++ [c]).any wantq = (l.any wantq || wantq c) := by simp
theorem allok_snoc (l : List UInt8) (c : UInt8) : (l ++ [c]).all okc = (l.all okc && okc c) := by simp
theorem empty_ba (S : ByteArray) : S.toList.isEmpty = S.data.toList.isEmpty := by rw [ByteArray.toList_eq]
/-- What Quote answers. -/
def QtE (l : List UInt8) (e : Ending) : Prop := (l.all okc = true ∧ e = tup (qt l) 0) ∨ (l.all okc = false ∧ e = tup [] 2)
set_option maxHeartbeats 1000000 in
theorem quote_any (S : ByteArray) (w : World) (hl : S.size ≤ 4294967296) :
    Calls Try.prog 29 #[.string S] w fun e w' => QtE S.data.toList e ∧ w = w' := by
  go_enter Try.func29, Try.ntmps29
  go_wp2_with fail
  go_loop [4, 10] (fun q i => ∃ k : Nat, k ≤ S.size ∧ i = .int .i64 k ∧ q = .bool (S.data.toList.isEmpty || (S.data.toList.take k).any wantq) ∧ Hid ((S.data.toList.take k).all okc = true)) (fun _ i => S.size - (intOf i).toNat)
  case atStart => exact ⟨0, Nat.zero_le _, rfl, congrArg Value.bool (by rw [ByteArray.toList_eq]; simp), rfl⟩
  case round =>
    obtain ⟨k, hk, rfl, rfl, hok⟩ := hrel
    by_cases hlt : k < S.size
    · have hi := idx_str S k hlt
      have HA := Lib.hid (show (S.data.toList.take (k + 1)).any wantq = ((S.data.toList.take k).any wantq || wantq S[k]) by rw [take_snoc S k hlt, any_snoc])
      have HO := Lib.hid (show (S.data.toList.take (k + 1)).all okc = okc S[k] by rw [take_snoc S k hlt, allok_snoc, hok.out]; rfl)
      have hbad : okc S[k] = false → S.data.toList.all okc = false := fun h => by
        rw [List.all_eq_false]
        exact ⟨S[k], by have : S[k] = S.data.toList[k]'(by simpa using hlt) := rfl; rw [this]; exact List.getElem_mem _, by rw [h]; simp⟩
      have HB := Lib.hid hbad
      clear hbad
      generalize hq : (S.data.toList.isEmpty || (S.data.toList.take k).any wantq) = q
      have HQ := Lib.hid hq
      clear hq hok
      generalize S[k] = c at *
      have hw : wantq c = (decide (knd c = 1) || decide (knd c = 4)) := rfl
      have ho : okc c = (decide (knd c ≠ 2) && decide (knd c ≠ 3)) := rfl
      rcases knd_cases c with ⟨hkd, -⟩ | ⟨hkd, -⟩ | ⟨hkd, -⟩ | ⟨hkd, -⟩ | ⟨hkd, -⟩
      · rw [hkd] at hw ho
        have HW := Lib.hid hw
        have HC := Lib.hid ho
        have HK := Lib.hid hkd
        clear hw ho hkd
        go_wp2_with fail
        refine (kindOf_any c _).mono ?_
        rintro e w' ⟨rfl, rfl⟩
        rw [HK.out]
        go_wp2_with fail
        go_round
        case rel =>
          refine ⟨k + 1, by omega, by go_num, ?_, by rw [HO.out, HC.out]; rfl⟩
          rw [HA.out, HW.out, ← Bool.or_assoc, HQ.out]
          cases q <;> rfl
        case measure => simp [intOf]; omega
      · rw [hkd] at hw ho
        have HW := Lib.hid hw
        have HC := Lib.hid ho
        have HK := Lib.hid hkd
        clear hw ho hkd
        go_wp2_with fail
        refine (kindOf_any c _).mono ?_
        rintro e w' ⟨rfl, rfl⟩
        rw [HK.out]
        go_wp2_with fail
        go_ret2
        refine ⟨?_, rfl⟩
        have hz : okc c = false := by rw [HC.out]; rfl
        have hy := HB.out hz
        refine .inr ⟨hy, ?_⟩
        rfl
      · rw [hkd] at hw ho
        have HW := Lib.hid hw
        have HC := Lib.hid ho
        have HK := Lib.hid hkd
        clear hw ho hkd
        go_wp2_with fail
        refine (kindOf_any c _).mono ?_
        rintro e w' ⟨rfl, rfl⟩
        rw [HK.out]
        go_wp2_with fail
        go_ret2
        refine ⟨?_, rfl⟩
        have hz : okc c = false := by rw [HC.out]; rfl
        have hy := HB.out hz
        refine .inr ⟨hy, ?_⟩
        rfl
      · rw [hkd] at hw ho
        have HW := Lib.hid hw
        have HC := Lib.hid ho
        have HK := Lib.hid hkd
        clear hw ho hkd
        go_wp2_with fail
        refine (kindOf_any c _).mono ?_
        rintro e w' ⟨rfl, rfl⟩
        rw [HK.out]
        go_wp2_with fail
        go_round
        case rel =>
          refine ⟨k + 1, by omega, by go_num, ?_, by rw [HO.out, HC.out]; rfl⟩
          rw [HA.out, HW.out, ← Bool.or_assoc, HQ.out]
          cases q <;> rfl
        case measure => simp [intOf]; omega
      · rw [hkd] at hw ho
        have HW := Lib.hid hw
        have HC := Lib.hid ho
        have HK := Lib.hid hkd
        clear hw ho hkd
        go_wp2_with fail
        refine (kindOf_any c _).mono ?_
        rintro e w' ⟨rfl, rfl⟩
        rw [HK.out]
        go_wp2_with fail
        go_round
        case rel =>
          refine ⟨k + 1, by omega, by go_num, ?_, by rw [HO.out, HC.out]; rfl⟩
          rw [HA.out, HW.out, ← Bool.or_assoc, HQ.out]
          cases q <;> rfl
        case measure => simp [intOf]; omega
    · obtain rfl : k = S.size := by omega
      rw [take_all] at hok ⊢
      have hsz : S.data.toList.length = S.size := by simp
      by_cases hw : (S.data.toList.isEmpty || S.data.toList.any wantq) = true
      · have hq : qt S.data.toList = 34 :: (S.data.toList ++ [34]) := by unfold qt; rw [if_pos hw]
        rw [hw]
        have HE := Lib.hid (show QtE S.data.toList (tup (34 :: (S.data.toList ++ [34])) 0) from .inl ⟨hok.out, by rw [hq]⟩)
        clear hw hq hok hsz
        go_wp2_with fail
        go_ret2
        refine ⟨?_, rfl⟩
        have e1 : (⟨#[34]⟩ : ByteArray) ++ S ++ ⟨#[34]⟩ = ⟨(34 :: (S.data.toList ++ [34])).toArray⟩ := by
          apply ByteArray.ext
          simp
        have := HE.out
        unfold tup at this
        rw [← e1] at this
        exact this
      · have hq : qt S.data.toList = S.data.toList := by unfold qt; rw [if_neg hw]
        rw [Bool.not_eq_true] at hw
        rw [hw]
        have HE := Lib.hid (show QtE S.data.toList (tup S.data.toList 0) from .inl ⟨hok.out, by rw [hq]⟩)
        clear hw hq hok hsz
        go_wp2_with fail
        go_ret2
        exact ⟨HE.out, rfl⟩
end Go.Proofs.Ytheakfhcllgndaa
