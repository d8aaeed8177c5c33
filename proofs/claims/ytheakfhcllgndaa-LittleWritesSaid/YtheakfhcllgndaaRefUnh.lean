/- Contracts of the document's own layer 3: Unhex. -/
import Derived.Test.YtheakfhcllgndaaRefLow
import Derived.Deep.RegionWith
import Derived.IntWalk
namespace Go.Proofs.Ytheakfhcllgndaa
open Go.RowKit
theorem ba_eq (S T : ByteArray) (h : S.data.toList = T.data.toList) : S = T := ByteArray.ext (Array.toList_inj.1 h)
theorem conv_one_drew (b : UInt8) (x : Int) (hx : x = (b.toNat : Int)) (W : World) : (convert 60 9 (.slice (some ⟨W.heap.size, 0, none⟩) 1 1)).run Try.prog (W.alloc (.cells #[.int .u8 x] 5)).drew = .ok (.string ⟨#[b]⟩) (W.alloc (.cells #[.int .u8 x] 5)).drew := by
  subst hx
  exact conv_blk (w := (W.alloc (.cells #[.int .u8 (b.toNat : Int)] 5)).drew) (g := W.heap.size) (cap := 1) (l := [b]) (n := 1) rfl (fun j hj => by
    obtain rfl : j = 0 := by simp at hj; exact hj
    show (W.alloc _).cell? _ = _
    rw [cell_blk (heap_alloc_new W _)]
    rfl)
set_option maxHeartbeats 2000000 in
theorem refUnhex_any (S : ByteArray) (w : World) (hl : S.size ≤ 1000000) : Calls Try.prog 12 #[.string S] w fun e w' => UnhP S.data.toList e ∧ Below w.heap.size w w' := by
  have hsl : S.data.toList.length = S.size := by simp
  go_enter Try.func12, Try.ntmps12
  go_wp2_with fail
  refine (lower_any S _ (by omega)).mono ?_
  rintro e w1 ⟨rfl, b1⟩
  generalize hT : (⟨(Hx.lows S.data.toList).toArray⟩ : ByteArray) = T
  have hTl : T.data.toList = Hx.lows S.data.toList := by rw [← hT]
  have hTs : T.size = S.size := by rw [← hT, size_ba]; simp [Hx.lows]
  have HTL := Lib.hid hTl
  have HTS := Lib.hid hTs
  have hTb : T.size ≤ 1000000 := by omega
  have HSL := Lib.hid hsl
  clear hT hTl hTs hsl
  go_wp2_with fail
  go_loopw [5, 6] (fun s i wr => ∃ k : Nat, k ≤ (T.size + 1) / 3 ∧ i = .int .i64 (3 * (k : Int)) ∧ s = .string ⟨(Hx.rbytes T.data.toList k).toArray⟩ ∧ Below w.heap.size w wr) (fun _ i _ => T.size + 3 - (intOf i).toNat)
  case atStart => exact ⟨0, Nat.zero_le _, rfl, rfl, b1⟩
  case round =>
    clear b1
    obtain ⟨k, hk, rfl, rfl, hb⟩ := hrel
    by_cases hlt : 3 * k + 1 < T.size
    · have hi0 : ∀ W : World, (Instr.index 9 (.string T) (.int .i64 (3 * (k : Int)))).run Try.prog W = .ok (.int .u8 (T[3 * k].toNat : Int)) W := by
        intro W; have := idx_str T (3 * k) (by omega) W; simpa using this
      have hi1 : ∀ W : World, (Instr.index 9 (.string T) (.int .i64 (3 * (k : Int) + 1))).run Try.prog W = .ok (.int .u8 (T[3 * k + 1].toNat : Int)) W := by
        intro W; have := idx_str T (3 * k + 1) hlt W; simpa using this
      have hn0 := Hx.num_le T[3 * k]
      have hn1 := Hx.num_le T[3 * k + 1]
      have hsn := Hx.rbytes_snoc T.data.toList k
      have hby : Hx.rbyt T.data.toList k = UInt8.ofNat (16 * Hx.num T[3 * k] + Hx.num T[3 * k + 1]) := by
        unfold Hx.rbyt
        rw [at_str T (3 * k) (by omega), at_str T (3 * k + 1) hlt]
      rw [hby] at hsn
      obtain ⟨bb, hbb⟩ : ∃ b, b = UInt8.ofNat (16 * Hx.num T[3 * k] + Hx.num T[3 * k + 1]) := ⟨_, rfl⟩
      rw [← hbb] at hsn
      have hc := conv_one_drew bb (IntKind.u8.wrap (16 * (Hx.num T[3 * k] : Int) + (Hx.num T[3 * k + 1] : Int))) (by rw [hbb, UInt8.toNat_ofNat', IntKind.wrap_u8']; omega)
      have hlen := Hx.rbytes_len T.data.toList k
      generalize Hx.rbytes T.data.toList k = l at *
      have hsz := size_ba l
      have hl2 : l.length ≤ 1000000 := by omega
      have HSN := Lib.hid hsn
      clear hsn hby hlen hbb
      go_wp2_with fail
      have q1 := IntWalk.i64_in (3 * (k : Int) + 1) (by omega)
      have q2 := IntWalk.i64_in (16 * (Hx.num T[3 * k] : Int)) (by omega)
      have q3 := IntWalk.i64_in (16 * (Hx.num T[3 * k] : Int) + (Hx.num T[3 * k + 1] : Int)) (by omega)
      go_region_with (go_at_call 28; refine (value_any _ _).mono ?_; rintro e w' ⟨rfl, rfl⟩)
      all_goals
        clear q1 q2 q3 hc hi0 hi1
        go_wp2_with fail
        go_roundw
        case rel =>
          refine ⟨k + 1, by omega, by go_num, ?_, (hb.alloc hb.size _).drew⟩
          rw [HSN.out]
          exact congrArg Value.string (app_ba l _)
        case measure => simp [intOf]; omega
    · have hkk : k = (T.size + 1) / 3 := by omega
      have hlen := Hx.rbytes_len T.data.toList k
      have hro : Hx.rbytes T.data.toList k = Hx.routh S.data.toList := by
        unfold Hx.routh
        rw [hkk, HTL.out, HTS.out, HSL.out]
      rw [hro] at hlen ⊢
      have hsz := size_ba (Hx.routh S.data.toList)
      generalize hV : (⟨(Hx.routh S.data.toList).toArray⟩ : ByteArray) = V at *
      have hVl : V.data.toList = Hx.routh S.data.toList := by rw [← hV]
      have HV := Lib.hid hVl
      have hVb : V.size ≤ 1000000 := by omega
      have hTe : T = ⟨(Hx.lows S.data.toList).toArray⟩ := ba_eq _ _ HTL.out
      have HTE := Lib.hid hTe
      clear hlen hro hsz hV hVl hTe hkk
      go_wp2_with fail
      refine (refHex_any V _ (by omega)).mono ?_
      rintro e w2 ⟨rfl, b2⟩
      have a2 := hb.trans (b2.mono hb.size)
      rw [HV.out]
      by_cases hok : Hx.Okh S.data.toList
      · obtain ⟨r1, r2⟩ := Hx.rout_ok _ hok
        have hV2 : V = ⟨(Hx.outh S.data.toList).toArray⟩ := ba_eq _ _ (by rw [HV.out, r1])
        rw [r1, r2, ← HTE.out]
        have hU := Lib.hid (show UnhP S.data.toList (.returned (.tuple #[.string V, .int .i64 0])) from .inl ⟨hok, by rw [hV2]; rfl⟩)
        have t1 : (T.toList != T.toList) = false := by simp
        clear r1 r2 hV2 hok
        go_wp2_with fail
        go_ret2
        exact ⟨hU.out, a2⟩
      · have hne := Hx.rout_no _ hok
        have hU := Lib.hid (show UnhP S.data.toList (tup [] 4) from .inr ⟨hok, rfl⟩)
        generalize hX : (⟨(Hx.hex (Hx.routh S.data.toList)).toArray⟩ : ByteArray) = X
        have t1 : (X.toList == T.toList) = false := by
          rw [beq_eq_false_iff_ne, ByteArray.toList_eq, ByteArray.toList_eq, ← hX, HTL.out]
          exact hne
        clear hX hne hok
        go_wp2_with fail
        go_ret2
        exact ⟨hU.out, a2⟩
end Go.Proofs.Ytheakfhcllgndaa
