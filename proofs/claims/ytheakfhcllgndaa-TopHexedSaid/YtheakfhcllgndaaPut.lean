/- Contracts of package little: Put. -/
import Derived.Test.YtheakfhcllgndaaWr
import Derived.Laws.IdiomStrings
namespace Go.Proofs.Ytheakfhcllgndaa
open Go.RowKit
theorem cell_blk {w : World} {g : Nat} {t : TypeId} {cs : Array Value} (h : w.heap[g]? = some (.cells cs t (0, 0))) (i : Nat) : w.cell? ⟨g, i, none⟩ = cs[i]? := cell_of_row w g i cs t (0, 0) h
theorem frozen_blk {w : World} {g : Nat} {t : TypeId} {cs : Array Value} (h : w.heap[g]? = some (.cells cs t (0, 0))) (i : Nat) : w.frozen? ⟨g, i, none⟩ = false := by simp [World.frozen?, h]
theorem set_blk {w : World} {g : Nat} {t : TypeId} {cs : Array Value} (h : w.heap[g]? = some (.cells cs t (0, 0))) (i : Nat) (u : Value) : (w.setCell ⟨g, i, none⟩ u).heap[g]? = some (.cells (cs.setIfInBounds i u) t (0, 0)) := by
  simp [World.setCell, Array.getElem?_modify, h]
theorem lt_blk {w : World} {g : Nat} {o : Obj} (h : w.heap[g]? = some o) : g < w.heap.size := by
  rcases Nat.lt_or_ge g w.heap.size with hlt | hge
  · exact hlt
  · rw [Array.getElem?_eq_none hge] at h; cases h
theorem addr_add (g j : Nat) : (⟨g, 0, none⟩ : Addr).add j = ⟨g, j, none⟩ := by unfold Addr.add; split <;> simp_all
/-- 'string(b)' of a block whose first cells are the bytes l. -/
theorem conv_blk {w : World} {g cap : Nat} {l : List UInt8} {n : Nat} (hn : n = l.length) (hc : ∀ j (hj : j < l.length), w.cell? ⟨g, j, none⟩ = some (.int .u8 (l[j].toNat : Int))) :
    (convert 60 9 (.slice (some ⟨g, 0, none⟩) n cap)).run Try.prog w = .ok (.string ⟨l.toArray⟩) w := by
  subst hn
  exact run_convert_bytes_back w 60 9 5 ⟨g, 0, none⟩ cap l Try.underlying60 Try.underlying5 Try.underlying9 (fun j hj => by rw [addr_add]; exact hc j hj)
theorem arr8_len : Try.prog.arrayLen 59 = 8 := by kernel_rfl
theorem arr8_elem : Try.prog.elem 59 = 5 := by kernel_rfl
theorem size_u8 (w : World) : (sizeOf 5).run Try.prog w = .ok 1 w := by kernel_rfl
theorem slice8 (w : World) (g k : Nat) (hk : k ≤ 8) : (Instr.sliceAt 59 (.pointer (some ⟨g, 0, none⟩)) none (some (.int .i64 (k : Int))) none).run Try.prog w = .ok (.slice (some ⟨g, 0, none⟩) k 8) w := by
  rw [run_sliceAt_array_h (P := Try.prog) w 59 ⟨g, 0, none⟩ (by kernel_rfl) .i64 (k : Int) (by omega) (by rw [arr8_len]; omega), arr8_elem, size_u8, arr8_len]
  show Result.ok (slicedAt ⟨g, 0, none⟩ 0 ((k : Int)).toNat 8 1) w = _
  unfold slicedAt
  rw [if_neg (by omega), Int.toNat_natCast]
  rfl
theorem mod_shift (n j : Nat) : ((n : Int) / 2 ^ (8 * j)) % 256 = ((n / 256 ^ j % 256 : Nat) : Int) := by
  rw [pow_256, Int.natCast_emod, Int.natCast_ediv, Int.natCast_pow]
  rfl
theorem put_no (g : Nat) (k n : Int) (w : World) (h : k < 1 ∨ 8 < k) :
    Calls Try.prog 8 #[.pointer (some ⟨g, 0, none⟩), .int .i64 k, .int .u64 n] w fun e w' => e = .returned (.tuple #[]) ∧ w = w' := by
  go_enter Try.func8, Try.ntmps8
  go_wp2_with fail
  refine (isWidth_no k _ h).mono ?_
  rintro e w1 ⟨rfl, rfl⟩
  go_wp2_with fail
  refine bodyPost_ret (results_none rfl _ _ _) rfl ?_
  exact ⟨rfl, rfl⟩
theorem put_yes (B g : Nat) (l : List UInt8) (k n : Nat) (w : World) (h : Wr w B g l) (hl : l.length ≤ 4294967000) (h1 : 1 ≤ k) (h8 : k ≤ 8) (_hn : n < 18446744073709551616) :
    Calls Try.prog 8 #[.pointer (some ⟨g, 0, none⟩), .int .i64 k, .int .u64 n] w fun e w' => e = .returned (.tuple #[]) ∧ Wr w' B g (l ++ Le.le k n) ∧ w.grownBy w' (some g) := by
  go_enter Try.func8, Try.ntmps8
  go_wp2_with fail
  refine (isWidth_yes k _ (by omega) (by omega)).mono ?_
  rintro e w1 ⟨rfl, rfl⟩
  go_wp2_with fail
  go_loopw [12] (fun i wr => ∃ (j : Nat) (cs : Array Value), j ≤ k ∧ i = .int .i64 j ∧ wr.heap[w.heap.size]? = some (.cells cs 59 (0, 0)) ∧ cs.size = 8 ∧ (∀ m, m < j → cs[m]? = some (.int .u8 ((n / 256 ^ m % 256 : Nat) : Int))) ∧ Below w.heap.size w wr) (fun i _ => k - (intOf i).toNat)
  case atStart => exact ⟨0, _, Nat.zero_le _, rfl, heap_alloc_new _ _, rfl, by omega, (Below.refl _ _).alloc (Nat.le_refl _) _⟩
  case round =>
    obtain ⟨j, cs, hj, rfl, hblk, hsz, hcs, hbw⟩ := hrel
    have hlt8 := lt_blk hblk
    have hsize := hbw.size
    by_cases hlt : j < k
    · have hcell : wr.cell? ⟨w.heap.size, j, none⟩ = some (cs[j]'(by omega)) := by rw [cell_blk hblk, Array.getElem?_eq_getElem]
      have hfz := frozen_blk hblk j
      go_wp2_with fail
      go_roundw
      case rel =>
        refine ⟨j + 1, _, by omega, by go_num, set_blk hblk _ _, by simpa using hsz, ?_, hbw.setCell (Nat.le_refl _) _⟩
        intro m hm
        by_cases hmj : m = j
        · subst hmj
          rw [Array.getElem?_setIfInBounds_self_of_lt (by omega), mod_shift]
        · rw [Array.getElem?_setIfInBounds_ne (by omega)]
          exact hcs m (by omega)
      case measure => simp [intOf]; omega
    · obtain rfl : j = k := by omega
      have hconv := conv_blk (w := wr) (g := w.heap.size) (cap := 8) (l := Le.le j n) (n := j) (by rw [Le.le_len]) (by
        intro m hm
        rw [Le.le_len] at hm
        rw [cell_blk hblk, hcs m hm]
        simp only [Le.le, List.getElem_map, List.getElem_range, UInt8.toNat_ofNat']
        congr 3
        omega)
      have hsl := slice8 wr w.heap.size j h8
      have hW : Wr wr B g l := h.below hbw
      have hne : Le.le j n ≠ [] := by intro e; have := congrArg List.length e; rw [Le.le_len] at this; simp at this; omega
      go_wp2_with fail
      refine (wraw_some B g l (Le.le j n) _ hW (by rw [Le.le_len]; omega) hne).mono ?_
      rintro e w1 ⟨rfl, h1, hg1⟩
      go_wp2_with fail
      go_end0
      refine ⟨rfl, h1, only_trans (only_of_below hbw _) hg1⟩
end Go.Proofs.Ytheakfhcllgndaa
