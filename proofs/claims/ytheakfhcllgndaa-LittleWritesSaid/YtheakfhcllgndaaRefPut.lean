/- Contracts of the document's own layer 3: Put. -/
import Derived.Test.YtheakfhcllgndaaUnh2
import Derived.Test.YtheakfhcllgndaaSl
namespace Go.Proofs.Ytheakfhcllgndaa
open Go.RowKit
/-- 'string([]byte{b})'. -/
theorem conv_one (b : UInt8) (x : Int) (hx : x = (b.toNat : Int)) (W : World) : (convert 60 9 (.slice (some ⟨W.heap.size, 0, none⟩) 1 1)).run Try.prog (W.alloc (.cells #[.int .u8 x] 5)) = .ok (.string ⟨#[b]⟩) (W.alloc (.cells #[.int .u8 x] 5)) := by
  subst hx
  exact conv_blk (w := W.alloc (.cells #[.int .u8 (b.toNat : Int)] 5)) (g := W.heap.size) (cap := 1) (l := [b]) (n := 1) rfl (fun j hj => by
    obtain rfl : j = 0 := by simp at hj; exact hj
    rw [cell_blk (heap_alloc_new W _)]
    rfl)
theorem refPut_no (k n : Int) (w : World) (h : k < 1 ∨ 8 < k) : Calls Try.prog 9 #[.int .i64 k, .int .u64 n] w fun e w' => e = .returned (.string ⟨#[]⟩) ∧ w = w' := by
  rcases h with h | h
  · go_enter Try.func9, Try.ntmps9
    go_wp2
    go_ret
    exact ⟨rfl, rfl⟩
  · have h1 : 1 ≤ k := by omega
    go_enter Try.func9, Try.ntmps9
    go_wp2
    go_ret
    exact ⟨rfl, rfl⟩
theorem refPut_yes (k n : Nat) (w : World) (h1 : 1 ≤ k) (h8 : k ≤ 8) (hn : n < 18446744073709551616) : Calls Try.prog 9 #[.int .i64 k, .int .u64 n] w fun e w' => e = .returned (.string ⟨(Le.le k n).toArray⟩) ∧ Below w.heap.size w w' := by
  go_enter Try.func9, Try.ntmps9
  go_wp2_with fail
  go_loopw [1, 5, 6] (fun x s i wr => ∃ j : Nat, j ≤ k ∧ i = .int .i64 j ∧ s = .string ⟨(Le.le j n).toArray⟩ ∧ x = .int .u64 ((n / 256 ^ j : Nat) : Int) ∧ Below w.heap.size w wr) (fun _ _ i _ => k - (intOf i).toNat)
  case atStart => exact ⟨0, Nat.zero_le _, rfl, rfl, by simp, Below.refl _ _⟩
  case round =>
    obtain ⟨j, hj, rfl, rfl, rfl, hb⟩ := hrel
    by_cases hlt : j < k
    · have hm : n / 256 ^ j < 18446744073709551616 := Nat.lt_of_le_of_lt (Nat.div_le_self _ _) hn
      have hl := Le.le_len j n
      have hsn := Le.le_snoc j n
      have hnx : n / 256 ^ (j + 1) = n / 256 ^ j / 256 := by rw [Nat.pow_succ, Nat.div_div_eq_div_mul]
      generalize n / 256 ^ j = m at *
      generalize Le.le j n = l at *
      have hc := conv_one (UInt8.ofNat (m % 256)) ((m : Int) % 256) (by rw [UInt8.toNat_ofNat']; omega)
      have hs1 := size_ba l
      have HL := Lib.hid hl
      have HS := Lib.hid hsn
      have HN := Lib.hid hnx
      have hl2 : l.length ≤ 8 := by omega
      clear hl hsn hnx
      go_wp2_with fail
      go_roundw
      case rel =>
        refine ⟨j + 1, by omega, by go_num, ?_, ?_, hb.alloc hb.size _⟩
        · rw [HS.out]
          exact congrArg Value.string (app_ba l [UInt8.ofNat (m % 256)])
        · rw [HN.out, Int.natCast_ediv]
          rfl
      case measure => simp [intOf]; omega
    · obtain rfl : j = k := by omega
      go_wp2_with fail
      go_ret
      exact ⟨rfl, hb⟩
end Go.Proofs.Ytheakfhcllgndaa
