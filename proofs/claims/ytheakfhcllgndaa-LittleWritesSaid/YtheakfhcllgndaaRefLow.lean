/- Contracts of the document's own layer 3: lower, value. -/
import Derived.Test.YtheakfhcllgndaaRefHex
namespace Go.Proofs.Ytheakfhcllgndaa
open Go.RowKit
theorem value_any (c : UInt8) (w : World) : Calls Try.prog 28 #[.int .u8 (c.toNat : Int)] w fun e w' => e = .returned (.int .i64 ((Hx.num c : Nat) : Int)) ∧ w = w' := by
  have hc := c.toNat_lt
  go_enter Try.func28, Try.ntmps28
  go_wp2_with fail
  go_loop [3] (fun i => ∃ k : Nat, k ≤ 16 ∧ i = .int .i64 k ∧ ∀ j, j < k → Hx.dg j ≠ c) (fun i => 16 - (intOf i).toNat)
  case atStart => exact ⟨0, by omega, rfl, fun j hj => absurd hj (by omega)⟩
  case round =>
    obtain ⟨k, hk, rfl, hne⟩ := hrel
    by_cases hlt : k < 16
    · have hi : ∀ W : World, (Instr.index 9 (.string ⟨#[48, 49, 50, 51, 52, 53, 54, 55, 56, 57, 97, 98, 99, 100, 101, 102]⟩) (.int .i64 (k : Int))).run Try.prog W = .ok (.int .u8 ((Hx.dg k).toNat : Int)) W := by
        intro W
        rw [idx_any _ .i64 k (by simp [ByteArray.size]; omega), dg_at k hlt]
      by_cases he : Hx.dg k = c
      · have hv : (Hx.num c : Int) = (k : Int) := by rw [← he]; exact_mod_cast Hx.num_dg k hlt
        have HV := Lib.hid hv
        have t : (((Hx.dg k).toNat : Int) == (c.toNat : Int)) = true := by rw [he]; simp
        clear hv he hne
        go_wp2_with fail
        go_ret
        exact ⟨ret_int HV.out.symm, rfl⟩
      · have t : (((Hx.dg k).toNat : Int) == (c.toNat : Int)) = false := by
          rw [beq_eq_false_iff_ne]; intro h; apply he; apply UInt8.toNat_inj.1; omega
        have HN := Lib.hid (show ∀ j, j < k + 1 → Hx.dg j ≠ c from fun j hj => by
          by_cases hjk : j = k
          · subst hjk; exact he
          · exact hne j (by omega))
        clear hne
        go_wp2_with fail
        go_round
        case rel => exact ⟨k + 1, by omega, by go_num, HN.out⟩
        case measure => simp [intOf]; omega
    · obtain rfl : k = 16 := by omega
      have HV := Lib.hid (show (Hx.num c : Int) = 16 by exact_mod_cast Hx.num_none c hne)
      clear hne
      go_wp2_with fail
      go_ret
      exact ⟨ret_int HV.out.symm, rfl⟩
theorem bytesRow_size (S : ByteArray) (cap : Nat) (h : S.size ≤ cap) : (bytesRow S cap).size = cap := by
  unfold bytesRow
  have e : S.data.size = S.size := rfl
  rw [Array.size_append, Array.size_map, Array.size_replicate]
  omega
/-- What holds at each round of lower: the first k bytes are put low. -/
structure LowInv (w : World) (S : ByteArray) (k : Nat) (wr : World) : Prop where
  cells : ∀ j (hj : j < S.size), wr.cell? ⟨w.heap.size, j, none⟩ = some (.int .u8 ((if j < k then Hx.low S[j] else S[j]).toNat : Int))
  free : ∀ j, j < S.size → wr.frozen? ⟨w.heap.size, j, none⟩ = false
  below : Below w.heap.size w wr
theorem low_yes (c : UInt8) (h1 : 65 ≤ c.toNat) (h2 : c.toNat ≤ 70) : ((Hx.low c).toNat : Int) = (c.toNat : Int) + 32 := by
  unfold Hx.low
  rw [if_pos ⟨h1, h2⟩, UInt8.toNat_add]
  show (((c.toNat + 32) % 256 : Nat) : Int) = _
  omega
theorem low_no (c : UInt8) (h : ¬ (65 ≤ c.toNat ∧ c.toNat ≤ 70)) : Hx.low c = c := by
  unfold Hx.low
  rw [if_neg h]
theorem LowInv.keep {w wr : World} {S : ByteArray} {k : Nat} (h : LowInv w S k wr) (hk : k < S.size) (hl : Hx.low S[k] = S[k]) : LowInv w S (k + 1) wr := by
  refine ⟨fun j hj => ?_, h.free, h.below⟩
  rw [h.cells j hj]
  by_cases hjk : j = k
  · subst hjk; rw [if_neg (by omega), if_pos (by omega), hl]
  · by_cases hlt : j < k
    · rw [if_pos hlt, if_pos (by omega)]
    · rw [if_neg hlt, if_neg (by omega)]
theorem LowInv.set_ {w wr : World} {S : ByteArray} {k : Nat} (h : LowInv w S k wr) (hk : k < S.size) (x : Int) (hx : x = ((Hx.low S[k]).toNat : Int)) : LowInv w S (k + 1) (wr.setCell ⟨w.heap.size, k, none⟩ (.int .u8 x)) := by
  subst hx
  refine ⟨fun j hj => ?_, fun j hj => by rw [World.frozen?_setCell]; exact h.free j hj, h.below.setCell (Nat.le_refl _) _⟩
  by_cases hjk : j = k
  · subst hjk
    rw [World.cell?_setCell_same' _ _ _ (by rw [h.cells j hj]; rfl), if_pos (by omega)]
  · rw [World.cell?_setCell_other _ _ _ _ (by intro e; apply hjk; injection e with _ e; exact e.symm), h.cells j hj]
    by_cases hlt : j < k
    · rw [if_pos hlt, if_pos (by omega)]
    · rw [if_neg hlt, if_neg (by omega)]
theorem lower_any (S : ByteArray) (w : World) (hl : S.size ≤ 4294967296) : Calls Try.prog 27 #[.string S] w fun e w' => e = .returned (.string ⟨(Hx.lows S.data.toList).toArray⟩) ∧ Below w.heap.size w w' := by
  have hb := fun W => run_bytes_of_string (P := Try.prog) W 9 60 5 S Try.underlying9 Try.underlying60 Try.underlying5
  go_enter Try.func27, Try.ntmps27
  go_wp2_with fail
  clear hb
  go_loopw [10] (fun i wr => ∃ k : Nat, k ≤ S.size ∧ i = .int .i64 k ∧ LowInv w S k wr) (fun i _ => S.size - (intOf i).toNat)
  case atStart =>
    have hge := grownCap_ge w S.size 0 5
    have hbs := bytesRow_size S _ hge
    refine ⟨0, Nat.zero_le _, rfl, fun j hj => ?_, fun j hj => ?_, ((Below.refl _ _).alloc (Nat.le_refl _) _).drew⟩
    · show (w.alloc _).cell? _ = _
      rw [World.cell?_alloc_mark, bytesRow_at S _ j hj]
      rfl
    · show (w.alloc _).frozen? _ = _
      rw [World.frozen?_alloc_mark, hbs]
      have h2 : decide (grownCap w S.size 0 5 ≤ j) = false := by simp; omega
      rw [h2]; rfl
  case round =>
    obtain ⟨k, hk, rfl, hI⟩ := hrel
    by_cases hlt : k < S.size
    · have hc := hI.cells k hlt
      rw [if_neg (by omega)] at hc
      have hf := hI.free k hlt
      have hc8 := S[k].toNat_lt
      by_cases hin : 65 ≤ S[k].toNat ∧ S[k].toNat ≤ 70
      · obtain ⟨hi1, hi2⟩ := hin
        have HS := Lib.hid (hI.set_ hlt _ (low_yes _ hi1 hi2).symm)
        have b1 : 65 ≤ (S[k].toNat : Int) := by omega
        have b2 : (S[k].toNat : Int) ≤ 70 := by omega
        clear hI
        go_wp2_with fail
        go_roundw
        case rel => exact ⟨k + 1, by omega, by go_num, HS.out⟩
        case measure => simp [intOf]; omega
      · have HS := Lib.hid (hI.keep hlt (low_no _ hin))
        clear hI
        by_cases h65 : 65 ≤ S[k].toNat
        · have b1 : 65 ≤ (S[k].toNat : Int) := by omega
          have b2 : 70 < (S[k].toNat : Int) := by omega
          clear hin
          go_wp2_with fail
          go_roundw
          case rel => exact ⟨k + 1, by omega, by go_num, HS.out⟩
          case measure => simp [intOf]; omega
        · have b1 : (S[k].toNat : Int) < 65 := by omega
          clear hin h65
          go_wp2_with fail
          go_roundw
          case rel => exact ⟨k + 1, by omega, by go_num, HS.out⟩
          case measure => simp [intOf]; omega
    · obtain rfl : k = S.size := by omega
      have hlen : (Hx.lows S.data.toList).length = S.size := by simp [Hx.lows]
      have hconv := conv_blk (w := wr) (g := w.heap.size) (cap := grownCap w S.size 0 5) (l := Hx.lows S.data.toList) (n := S.size) hlen.symm (fun j hj => by
        rw [hlen] at hj
        rw [hI.cells j hj, if_pos hj]
        simp only [Hx.lows, List.getElem_map]
        rfl)
      have hbw := hI.below
      clear hlen hI
      go_wp2_with fail
      go_ret
      exact ⟨rfl, hbw⟩
end Go.Proofs.Ytheakfhcllgndaa
