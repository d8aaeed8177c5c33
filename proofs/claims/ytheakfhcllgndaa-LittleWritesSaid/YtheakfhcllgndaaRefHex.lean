/- Contracts of the document's own layer 3: Hex. -/
import Derived.Test.YtheakfhcllgndaaRefPut
namespace Go.Proofs.Ytheakfhcllgndaa
open Go.RowKit
theorem dg_cut : ∀ n, n < 16 → (#[48, 49, 50, 51, 52, 53, 54, 55, 56, 57, 97, 98, 99, 100, 101, 102] : Array UInt8).extract n (n + 1) = #[Hx.dg n] := by decide +kernel
theorem slice_dg (n : Nat) (hn : n < 16) (W : World) : (Instr.slice 9 (.string ⟨#[48, 49, 50, 51, 52, 53, 54, 55, 56, 57, 97, 98, 99, 100, 101, 102]⟩) (some (.int .u8 (n : Int))) (some (.int .u8 ((n : Int) + 1))) none).run Try.prog W = .ok (.string ⟨#[Hx.dg n]⟩) W := by
  have h16 : (⟨#[48, 49, 50, 51, 52, 53, 54, 55, 56, 57, 97, 98, 99, 100, 101, 102]⟩ : ByteArray).size = 16 := rfl
  rw [run_slice_string (P := Try.prog) W 9 _ .u8 .u8 n (n + 1) Try.underlying9 (by omega) (by omega) (by rw [h16]; omega)]
  congr 2
  apply ByteArray.ext
  rw [ByteArray.data_extract]
  have e1 : ((n : Int)).toNat = n := by omega
  have e2 : ((n : Int) + 1).toNat = n + 1 := by omega
  rw [e1, e2]
  exact dg_cut n hn
set_option maxHeartbeats 1000000 in
theorem refHex_any (S : ByteArray) (w : World) (hl : S.size ≤ 4294967296) : Calls Try.prog 15 #[.string S] w fun e w' => e = .returned (.string ⟨(Hx.hex S.data.toList).toArray⟩) ∧ Below w.heap.size w w' := by
  go_enter Try.func15, Try.ntmps15
  go_wp2_with fail
  go_loopw [3, 4] (fun s i wr => ∃ k : Nat, k ≤ S.size ∧ i = .int .i64 k ∧ s = .string ⟨(Hx.hex (S.data.toList.take k)).toArray⟩ ∧ Below w.heap.size w wr) (fun _ i _ => S.size - (intOf i).toNat)
  case atStart => exact ⟨0, Nat.zero_le _, rfl, rfl, Below.refl _ _⟩
  case round =>
    obtain ⟨k, hk, rfl, rfl, hb⟩ := hrel
    by_cases hlt : k < S.size
    · have hi0 := idx_str S k hlt
      have hc8 := S[k].toNat_lt
      have hs1 : ∀ W : World, (Instr.slice 9 (.string ⟨#[48, 49, 50, 51, 52, 53, 54, 55, 56, 57, 97, 98, 99, 100, 101, 102]⟩) (some (.int .u8 ((S[k].toNat : Int) / 16))) (some (.int .u8 ((S[k].toNat : Int) / 16 + 1))) none).run Try.prog W = .ok (.string ⟨#[Hx.dg (S[k].toNat / 16)]⟩) W := by
        intro W
        have := slice_dg (S[k].toNat / 16) (Hx.div16 _) W
        rwa [Int.natCast_ediv] at this
      have hs2 : ∀ W : World, (Instr.slice 9 (.string ⟨#[48, 49, 50, 51, 52, 53, 54, 55, 56, 57, 97, 98, 99, 100, 101, 102]⟩) (some (.int .u8 ((S[k].toNat : Int) % 16))) (some (.int .u8 ((S[k].toNat : Int) % 16 + 1))) none).run Try.prog W = .ok (.string ⟨#[Hx.dg (S[k].toNat % 16)]⟩) W := by
        intro W
        have := slice_dg (S[k].toNat % 16) (by omega) W
        rwa [Int.natCast_emod] at this
      have hlen := Hx.hex_len (S.data.toList.take k)
      have hll : (S.data.toList.take k).length = k := by simp; omega
      have hsn : Hx.hex (S.data.toList.take (k + 1)) = (if k = 0 then Hx.hex (S.data.toList.take k) else Hx.hex (S.data.toList.take k) ++ [44]) ++ [Hx.dg (S[k].toNat / 16), Hx.dg (S[k].toNat % 16)] := by
        rw [take_snoc S k hlt, Hx.hex_snoc]
        by_cases h0 : k = 0
        · subst h0; rfl
        · rw [if_neg h0, Hx.hexC_hex _ (by intro e; rw [e] at hll; simp at hll; omega)]
          rfl
      rw [hll] at hlen
      clear hll
      generalize Hx.hex (S.data.toList.take k) = l at *
      have hsz := size_ba l
      have hl2 : l.length ≤ 3 * 4294967296 := by omega
      have HSN := Lib.hid hsn
      clear hlen hsn
      by_cases h0 : 0 < k
      · go_wp2_with fail
        go_quiet (fail)
        go_wp2_with fail
        go_quiet (fail)
        go_wp2_with fail
        go_roundw
        case rel =>
          refine ⟨k + 1, by omega, by go_num, ?_, below_drewN hb _⟩
          rw [HSN.out, if_neg (by omega)]
          congr 1
        case measure => simp [intOf]; omega
      · have hk0 : k ≤ 0 := by omega
        clear h0
        go_wp2_with fail
        go_quiet (fail)
        go_wp2_with fail
        go_quiet (fail)
        go_wp2_with fail
        go_roundw
        case rel =>
          refine ⟨k + 1, by omega, by go_num, ?_, below_drewN hb _⟩
          rw [HSN.out, if_pos (by omega)]
          congr 1
        case measure => simp [intOf]; omega
    · obtain rfl : k = S.size := by omega
      rw [take_all]
      go_wp2_with fail
      go_ret
      exact ⟨rfl, hb⟩
end Go.Proofs.Ytheakfhcllgndaa
