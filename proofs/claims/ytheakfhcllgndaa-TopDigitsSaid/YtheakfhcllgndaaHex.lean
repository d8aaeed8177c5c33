/- Contracts of package little: Hex. -/
import Derived.Test.YtheakfhcllgndaaOut
import Derived.Test.YtheakfhcllgndaaHx
namespace Go.Proofs.Ytheakfhcllgndaa
open Go.RowKit
theorem hex_nil (w : World) : Calls Try.prog 14 #[.string ⟨#[]⟩] w fun e w' => e = .returned (.string ⟨#[]⟩) ∧ w = w' := by
  go_enter Try.func14, Try.ntmps14
  go_wp2
  go_ret
  exact ⟨rfl, rfl⟩
theorem idx_any (S : ByteArray) (kd : IntKind) (k : Nat) (hk : k < S.size) (W : World) : (Instr.index 9 (.string S) (.int kd (k : Int))).run Try.prog W = .ok (.int .u8 (S[k].toNat : Int)) W := by
  rw [run_index_string (P := Try.prog) W 9 S kd k Try.underlying9, dif_pos ⟨by omega, by omega⟩]
  rfl
theorem idx_str (S : ByteArray) (k : Nat) (hk : k < S.size) (W : World) : (Instr.index 9 (.string S) (.int .i64 (k : Int))).run Try.prog W = .ok (.int .u8 (S[k].toNat : Int)) W := idx_any S .i64 k hk W
theorem dg_at : ∀ n, (h : n < 16) → (((⟨#[48, 49, 50, 51, 52, 53, 54, 55, 56, 57, 97, 98, 99, 100, 101, 102]⟩ : ByteArray)[n]'(by simp [ByteArray.size]; omega)).toNat : Int) = ((Hx.dg n).toNat : Int) := by decide +kernel
theorem idx_dg (n : Nat) (hn : n < 16) (W : World) : (Instr.index 9 (.string ⟨#[48, 49, 50, 51, 52, 53, 54, 55, 56, 57, 97, 98, 99, 100, 101, 102]⟩) (.int .u8 (n : Int))).run Try.prog W = .ok (.int .u8 ((Hx.dg n).toNat : Int)) W := by
  rw [idx_any _ .u8 n (by simp [ByteArray.size]; omega), dg_at n hn]
/-- A row of the call's own, the first block that it made: it has room for n bytes, and the first ones are l. -/
structure Buf (w : World) (n : Nat) (l : List UInt8) (wr : World) : Prop where
  cells : ∀ j (hj : j < l.length), wr.cell? ⟨w.heap.size, j, none⟩ = some (.int .u8 (l[j].toNat : Int))
  some_ : ∀ j, j < n → (wr.cell? ⟨w.heap.size, j, none⟩).isSome = true
  free : ∀ j, wr.frozen? ⟨w.heap.size, j, none⟩ = false
  below : Below w.heap.size w wr
  more : w.heap.size < wr.heap.size
theorem Buf.new (w : World) (n : Nat) (z : Array Value) (hz : z.size = n) (t : TypeId) : Buf w n [] (w.alloc (.cells z t)) := by
  have hn : (w.alloc (.cells z t)).heap[w.heap.size]? = some (.cells z t (0, 0)) := heap_alloc_new _ _
  exact ⟨fun j hj => absurd hj (by simp), fun j hj => isSome_blk hn j (by omega), fun j => frozen_blk hn j, (Below.refl _ _).alloc (Nat.le_refl _) _, by simp⟩
theorem Buf.drew {w wr : World} {n : Nat} {l : List UInt8} (h : Buf w n l wr) : Buf w n l wr.drew := ⟨h.cells, h.some_, h.free, h.below.drew, h.more⟩
theorem Buf.alloc {w wr : World} {n : Nat} {l : List UInt8} (h : Buf w n l wr) (o : Obj) : Buf w n l (wr.alloc o) := by
  have hc : ∀ j, (wr.alloc o).cell? ⟨w.heap.size, j, none⟩ = wr.cell? ⟨w.heap.size, j, none⟩ := fun j => World.cell?_alloc_lt _ _ _ h.more
  have hf : ∀ j, (wr.alloc o).frozen? ⟨w.heap.size, j, none⟩ = wr.frozen? ⟨w.heap.size, j, none⟩ := fun j => ((Below.refl wr.heap.size wr).alloc (Nat.le_refl _) o).frozen (p := ⟨w.heap.size, j, none⟩) h.more
  exact ⟨fun j hj => (hc j).trans (h.cells j hj), fun j hj => by rw [hc j]; exact h.some_ j hj, fun j => (hf j).trans (h.free j), h.below.alloc h.below.size o, by have := h.more; simp; omega⟩
theorem setCells_size (g : Nat) : ∀ (vs : List Value) (o : Nat) (W : World), (W.setCells g o vs).heap.size = W.heap.size := by
  intro vs
  induction vs with
  | nil => intro o W; rfl
  | cons v vs ih => intro o W; show ((W.setCell _ v).setCells _ _ vs).heap.size = _; rw [ih]; simp
theorem Buf.put {w wr : World} {n : Nat} {l : List UInt8} (h : Buf w n l wr) (m : List UInt8) (hn : l.length + m.length ≤ n) (vs : List Value) (hv : vs = m.map fun x => Value.int .u8 (x.toNat : Int)) (o : Nat) (ho : o = l.length) : Buf w n (l ++ m) (wr.setCells w.heap.size o vs) := by
  subst hv ho
  have hs : ∀ j, j < (m.map fun x => Value.int .u8 (x.toNat : Int)).length → (wr.cell? ⟨w.heap.size, l.length + j, none⟩).isSome = true := by intro k hk; simp at hk; exact h.some_ _ (by omega)
  refine ⟨fun j hj => ?_, fun j hj => ?_, fun j => by rw [World.frozen?_setCells]; exact h.free j, below_setCells (Nat.le_refl _) _ _ _ h.below, by rw [setCells_size]; exact h.more⟩
  · by_cases hin : j < l.length
    · rw [World.cell?_setCells_out w.heap.size _ _ wr _ (by intro _ _; left; exact hin), h.cells j hin]
      simp [List.getElem_append_left hin]
    · obtain ⟨i, rfl⟩ : ∃ i, j = l.length + i := ⟨j - l.length, by omega⟩
      have hi : i < m.length := by simp at hj; omega
      rw [World.cell?_setCells_in w.heap.size _ _ wr hs i (by simpa using hi)]
      simp
  · by_cases hin : l.length ≤ j ∧ j < l.length + m.length
    · obtain ⟨i, rfl⟩ : ∃ i, j = l.length + i := ⟨j - l.length, by omega⟩
      rw [World.cell?_setCells_in w.heap.size _ _ wr hs i (by simp; omega)]
      rfl
    · rw [World.cell?_setCells_out w.heap.size _ _ wr _ (by intro _ _; simp; omega)]
      exact h.some_ j hj
theorem hex_some (S : ByteArray) (w : World) (hS : 0 < S.size) (hl : S.size ≤ 4294967296) :
    Calls Try.prog 14 #[.string S] w fun e w' => e = .returned (.string ⟨(Hx.hex S.data.toList).toArray⟩) ∧ Below w.heap.size w w' := by
  have he : S.toList.isEmpty = false := by
    have h3 : S.data.toList.length = S.size := by simp
    rw [ByteArray.toList_eq]
    cases h : S.data.toList with
    | nil => rw [h] at h3; simp at h3; omega
    | cons a r => rfl
  have hmk : ∀ W : World, (Instr.makeSlice 60 (.int .i64 0) (.int .i64 (3 * (S.size : Int)))).run Try.prog W = .ok (.slice (some ⟨W.heap.size, 0, none⟩) 0 (3 * S.size)) (W.alloc (.cells (madeCells (Value.cells (.int .u8 0)) (3 * S.size)) 5)) := by
    intro W
    have := make_u8 0 (3 * S.size) (Nat.zero_le _) (by omega) W
    simpa using this
  go_enter Try.func14, Try.ntmps14
  go_wp2_with fail
  clear hmk
  go_loopw [3, 13] (fun v i wr => ∃ k : Nat, k ≤ S.size ∧ i = .int .i64 k ∧ v = .slice (some ⟨w.heap.size, 0, none⟩) (3 * k) (3 * S.size) ∧ Buf w (3 * S.size) (Hx.hexC (S.data.toList.take k)) wr) (fun _ i _ => S.size - (intOf i).toNat)
  case atStart => exact ⟨0, Nat.zero_le _, rfl, rfl, Buf.new _ _ _ (size_madeCells _ _) _⟩
  case round =>
    obtain ⟨k, hk, rfl, rfl, hI⟩ := hrel
    by_cases hlt : k < S.size
    · have hc8 := S[k].toNat_lt
      have hand : bits .and .u8 (S[k].toNat : Int) 15 = ((S[k].toNat % 16 : Nat) : Int) := by
        have := u8_and_nat S[k].toNat 15 (by omega) (by omega)
        rw [nat_mask4] at this
        exact this
      have hi0 := idx_str S k hlt
      have hi1 : ∀ W : World, (Instr.index 9 (.string ⟨#[48, 49, 50, 51, 52, 53, 54, 55, 56, 57, 97, 98, 99, 100, 101, 102]⟩) (.int .u8 ((S[k].toNat : Int) / 16))).run Try.prog W = .ok (.int .u8 ((Hx.dg (S[k].toNat / 16)).toNat : Int)) W := by
        intro W
        have := idx_dg (S[k].toNat / 16) (Hx.div16 _) W
        rwa [Int.natCast_ediv] at this
      have hi2 : ∀ W : World, (Instr.index 9 (.string ⟨#[48, 49, 50, 51, 52, 53, 54, 55, 56, 57, 97, 98, 99, 100, 101, 102]⟩) (.int .u8 ((S[k].toNat : Int) % 16))).run Try.prog W = .ok (.int .u8 ((Hx.dg (S[k].toNat % 16)).toNat : Int)) W := by
        intro W
        have := idx_dg (S[k].toNat % 16) (by omega) W
        rwa [Int.natCast_emod] at this
      go_wp2_with fail
      have hnews : ∀ j u, ([.int .u8 ((Hx.dg (S[k].toNat / 16)).toNat : Int), .int .u8 ((Hx.dg (S[k].toNat % 16)).toNat : Int), .int .u8 44] : List Value)[j]? = some u → (wr.alloc (.cells #[.int .u8 ((Hx.dg (S[k].toNat / 16)).toNat : Int), .int .u8 ((Hx.dg (S[k].toNat % 16)).toNat : Int), .int .u8 44] 5)).drew.cell? ((⟨wr.heap.size, 0, none⟩ : Addr).add j) = some u := by
        intro j u hu
        rw [addr_add]
        show (wr.alloc _).cell? _ = _
        rw [cell_blk (heap_alloc_new _ _)]
        simpa using hu
      have hN := Lib.hid hnews
      have hB2 := (hI.alloc (.cells #[.int .u8 ((Hx.dg (S[k].toNat / 16)).toNat : Int), .int .u8 ((Hx.dg (S[k].toNat % 16)).toNat : Int), .int .u8 44] 5)).drew
      have hF := Lib.hid hB2.free
      have hM := Lib.hid hB2.some_
      have hlen : (Hx.hexC (S.data.toList.take k)).length = 3 * k := by rw [Hx.hexC_len]; simp; omega
      have hP := Lib.hid (show Buf w (3 * S.size) (Hx.hexC (S.data.toList.take (k + 1))) _ from by
        rw [take_snoc S k hlt, Hx.hexC_snoc]
        exact hB2.put (Hx.h3 S[k]) (by rw [hlen]; simp [Hx.h3]; omega) [.int .u8 ((Hx.dg (S[k].toNat / 16)).toNat : Int), .int .u8 ((Hx.dg (S[k].toNat % 16)).toNat : Int), .int .u8 44] rfl (3 * k) hlen.symm)
      clear hlen hB2 hI
      obtain ⟨i0, hi', hz0, hz1, hz2⟩ := info_parts u8_info
      clear hnews
      go_region_law (refine step_append_room rfl (.tmp 16) (.tmp 27) 60 rfl 5 i0 1 Try.underlying60 hi' hz1 w.heap.size 0 (3 * k) (3 * S.size) (by simp [Act.eval]) ⟨wr.heap.size, 0, none⟩ 3 3 [.int .u8 ((Hx.dg (S[k].toNat / 16)).toNat : Int), .int .u8 ((Hx.dg (S[k].toNat % 16)).toNat : Int), .int .u8 44] (by simp [Act.eval]) rfl hN.out (by intro u hu; simp at hu; rcases hu with rfl | rfl | rfl <;> rfl) (by omega) (fun j hj => ⟨hM.out _ (by simp at hj; omega), hF.out _⟩) ?_)
      all_goals
        have hQ := hP.out
        clear hP hF hM hN hi0 hi1 hi2
        generalize (World.setCells _ _ _ _) = wn at hQ ⊢
        go_wp2_with fail
        go_roundw
        case rel => exact ⟨k + 1, by omega, by go_num, rfl, hQ⟩
        case measure => simp [intOf]; omega
    · obtain rfl : k = S.size := by omega
      rw [take_all] at hI
      have hlen : (Hx.hexC S.data.toList).length = 3 * S.size := by rw [Hx.hexC_len]; simp
      have hconv := conv_blk (w := wr) (g := w.heap.size) (cap := 3 * S.size) (l := Hx.hex S.data.toList) (n := 3 * S.size - 1) (by rw [Hx.hex_len]; simp) (fun j hj => by
        have hj' : j < (Hx.hexC S.data.toList).length := by rw [Hx.hex_len] at hj; rw [Hx.hexC_len]; omega
        rw [hI.cells j hj']
        simp only [Hx.hex, List.getElem_dropLast])
      have hbw := hI.below
      clear hlen hI
      go_wp2_with fail
      go_ret
      exact ⟨rfl, hbw⟩
theorem hex_any (S : ByteArray) (w : World) (hl : S.size ≤ 4294967296) :
    Calls Try.prog 14 #[.string S] w fun e w' => e = .returned (.string ⟨(Hx.hex S.data.toList).toArray⟩) ∧ Below w.heap.size w w' := by
  rcases Nat.eq_zero_or_pos S.size with h | h
  · obtain rfl : S = ⟨#[]⟩ := ByteArray.ext (Array.eq_empty_of_size_eq_zero h)
    exact (hex_nil w).mono fun e w' ⟨he, hw⟩ => ⟨he, hw ▸ Below.refl _ _⟩
  · exact hex_some S w h hl
end Go.Proofs.Ytheakfhcllgndaa
