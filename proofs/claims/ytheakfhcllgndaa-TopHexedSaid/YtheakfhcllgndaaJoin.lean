/- Contracts of package scan: Join. -/
import Derived.Test.YtheakfhcllgndaaQuote
import Derived.Test.YtheakfhcllgndaaSl
import Derived.Test.YtheakfhcllgndaaShelf
namespace Go.Proofs.Ytheakfhcllgndaa
open Go.RowKit
/-- A row of strings of the call's own, its first block: it has n places, and the first ones hold l. -/
structure Sb (w : World) (n : Nat) (l : List (List UInt8)) (wr : World) : Prop where
  cells : ∀ j (hj : j < l.length), wr.cell? ⟨w.heap.size, j, none⟩ = some (.string ⟨l[j].toArray⟩)
  some_ : ∀ j, j < n → (wr.cell? ⟨w.heap.size, j, none⟩).isSome = true
  free : ∀ j, wr.frozen? ⟨w.heap.size, j, none⟩ = false
  below : Below w.heap.size w wr
  more : w.heap.size < wr.heap.size
theorem Sb.new (w : World) (n : Nat) (z : Array Value) (hz : z.size = n) (t : TypeId) : Sb w n [] (w.alloc (.cells z t)) := by
  have hn : (w.alloc (.cells z t)).heap[w.heap.size]? = some (.cells z t (0, 0)) := heap_alloc_new _ _
  exact ⟨fun j hj => absurd hj (by simp), fun j hj => isSome_blk hn j (by omega), fun j => frozen_blk hn j, (Below.refl _ _).alloc (Nat.le_refl _) _, by simp⟩
theorem Sb.put {w wr : World} {n : Nat} {l : List (List UInt8)} (h : Sb w n l wr) (s : List UInt8) (hn : l.length < n) (k : Nat) (hk : k = l.length) : Sb w n (l ++ [s]) (wr.setCell ⟨w.heap.size, k, none⟩ (.string ⟨s.toArray⟩)) := by
  subst hk
  have hs := h.some_ l.length hn
  refine ⟨fun j hj => ?_, fun j hj => ?_, fun j => by rw [World.frozen?_setCell]; exact h.free j, h.below.setCell (Nat.le_refl _) _, by simpa using h.more⟩
  · by_cases hjl : j = l.length
    · subst hjl
      rw [World.cell?_setCell_same' _ _ _ hs]
      simp
    · have hj' : j < l.length := by simp at hj; omega
      rw [World.cell?_setCell_other _ _ _ _ (by intro e; apply hjl; injection e with _ e; exact e.symm), h.cells j hj']
      simp [List.getElem_append_left hj']
  · by_cases hjl : j = l.length
    · subst hjl
      rw [World.cell?_setCell_same' _ _ _ hs]; rfl
    · rw [World.cell?_setCell_other _ _ _ _ (by intro e; apply hjl; injection e with _ e; exact e.symm)]
      exact h.some_ j hj
theorem str_info : (Try.prog.info? 9).map (fun i => (i.zero, i.size, i.bytes)) = some (some (.string ⟨#[]⟩), 1, 16) := by kernel_rfl
theorem make_str (n : Nat) (hn : n ≤ 1000000) (w : World) : (Instr.makeSlice 45 (.int .i64 (n : Int)) (.int .i64 (n : Int))).run Try.prog w = .ok (.slice (some ⟨w.heap.size, 0, none⟩) n n) (w.alloc (.cells (madeCells (Value.cells (.string ⟨#[]⟩)) n) 9)) := by
  obtain ⟨i0, hi, hz0, hz1, hz2⟩ := info_parts str_info
  have hr := run_make (P := Try.prog) w 45 9 i0 (.string ⟨#[]⟩) Try.underlying45 hi hz0 .i64 .i64 n n (by omega) (by omega) (by rw [hz2]; omega) (by omega)
  rw [hz1] at hr
  simpa using hr
/-- A line whose fields are l. -/
def lineOf (l : List (List UInt8)) : List UInt8 := Lib.join (l.map qt) [32]
/-- What Join answers. -/
def JoinE (l : List (List UInt8)) (e : Ending) : Prop :=
  (24 < l.length ∧ e = tup [] 6) ∨ (l.length ≤ 24 ∧ (∃ s ∈ l, s.all okc = false) ∧ e = tup [] 2) ∨
    (l.length ≤ 24 ∧ (∀ s ∈ l, s.all okc = true) ∧ ((2048 < (lineOf l).length ∧ e = tup [] 6) ∨ ((lineOf l).length ≤ 2048 ∧ e = tup (lineOf l) 0)))
theorem qt_len (s : List UInt8) : (qt s).length ≤ s.length + 2 := by
  unfold qt
  split
  · simp
  · omega
theorem joinTail_len (M : Nat) : ∀ l : List (List UInt8), (∀ s ∈ l, s.length ≤ M) → (Lib.joinTail [32] l).length ≤ l.length * (M + 1)
  | [], _ => by simp [Lib.joinTail]
  | s :: r, h => by
    have ih := joinTail_len M r (fun t ht => h t (by simp [ht]))
    have hs := h s (by simp)
    have e : Lib.joinTail [32] (s :: r) = ([32] ++ s) ++ Lib.joinTail [32] r := rfl
    rw [e, List.length_append, List.length_append, List.length_cons, List.length_cons, List.length_nil, Nat.add_mul]
    omega
theorem join_len (M : Nat) (l : List (List UInt8)) (h : ∀ s ∈ l, s.length ≤ M) : (Lib.join l [32]).length ≤ l.length * (M + 1) := by
  cases l with
  | nil => simp [Lib.join_nil]
  | cons s r =>
    have hs := h s (by simp)
    have ht := joinTail_len M r (fun t ht => h t (by simp [ht]))
    rw [Lib.join_cons, List.length_append, List.length_cons, Nat.add_mul]
    omega
theorem line_len (M : Nat) (l : List (List UInt8)) (h : ∀ s ∈ l, s.length ≤ M) : (lineOf l).length ≤ l.length * (M + 3) := by
  have := join_len (M + 2) (l.map qt) (fun s hs => by
    obtain ⟨t, ht, rfl⟩ := List.mem_map.1 hs
    have := qt_len t
    have := h t ht
    omega)
  rw [List.length_map] at this
  exact this
set_option maxHeartbeats 1000000 in
theorem join_any (A : Option Addr) (n c : Nat) (hn : n ≤ 9223372036854775807) (ss : List (List UInt8)) (hlz : ss.length = n) (hz : ∀ k, k < n → (ss.getD k []).length ≤ 4294967296) (B : Nat) (w : World) (hB : B ≤ w.heap.size) (hs : Sl w B A n (fun i => .string ⟨(ss.getD i []).toArray⟩)) :
    Calls Try.prog 21 #[.slice A n c] w fun e w' => JoinE ss e ∧ Below w.heap.size w w' := by
  by_cases h24 : 24 < n
  · have HE := Lib.hid (show JoinE ss (tup [] 6) from .inl ⟨by omega, rfl⟩)
    go_enter Try.func21, Try.ntmps21
    go_wp2_with fail
    go_ret2
    exact ⟨HE.out, Below.refl _ _⟩
  · have hmk := make_str n (by omega)
    have HLZ := Lib.hid hlz
    clear hlz
    go_enter Try.func21, Try.ntmps21
    go_wp2_with fail
    clear hmk
    go_loopw [18] (fun i wr => ∃ k : Nat, k ≤ n ∧ i = .int .i64 k ∧ (∀ j, j < k → (ss.getD j []).all okc = true) ∧ Sb w n ((ss.take k).map qt) wr) (fun i _ => n - (intOf i).toNat)
    case atStart => exact ⟨0, Nat.zero_le _, rfl, fun j hj => absurd hj (by omega), Sb.new _ _ _ (size_madeCells _ _) _⟩
    case round =>
      obtain ⟨k, hk, rfl, hok, hI⟩ := hrel
      have hlz := HLZ.out
      by_cases hlt : k < n
      · obtain ⟨ad, rfl, hal, hc⟩ := (hs.below (hI.below.mono hB)).at_ hlt
        change wr.cell? (ad.add k) = some (.string ⟨(ss.getD k []).toArray⟩) at hc
        have hlk := hz k hlt
        have htk : ss.take (k + 1) = ss.take k ++ [ss.getD k []] := by
          rw [List.take_succ_eq_append_getElem (by omega), List.getD_eq_getElem?_getD, List.getElem?_eq_getElem (by omega)]; rfl
        have hmem : ss.getD k [] ∈ ss := by rw [List.getD_eq_getElem?_getD, List.getElem?_eq_getElem (by omega)]; exact List.getElem_mem _
        have hln : ((ss.take k).map qt).length = k := by simp; omega
        have hok2 : (ss.getD k []).all okc = true → ∀ j, j < k + 1 → (ss.getD j []).all okc = true := fun h j hj => by
          by_cases hjk : j = k
          · subst hjk; exact h
          · exact hok j (by omega)
        have hput : Sb w n ((ss.take (k + 1)).map qt) (wr.setCell ⟨w.heap.size, k, none⟩ (.string ⟨(qt (ss.getD k [])).toArray⟩)) := by
          rw [htk, List.map_append]
          exact hI.put (qt (ss.getD k [])) (by omega) k hln.symm
        have hfr := hI.free k
        obtain ⟨v0, hsm⟩ := Option.isSome_iff_exists.1 (hI.some_ k hlt)
        have hbw := hI.below
        have HOK := Lib.hid hok2
        have HPUT := Lib.hid hput
        have HMEM := Lib.hid hmem
        have hszk := size_ba (ss.getD k [])
        clear htk hok2 hput hmem hln hok hI
        generalize hsk : ss.getD k [] = s at *
        clear hsk
        go_wp2_with fail
        refine (quote_any ⟨s.toArray⟩ _ (by omega)).mono ?_
        rintro e w' ⟨hQ, rfl⟩
        change QtE s e at hQ
        rcases hQ with ⟨hy, rfl⟩ | ⟨hno, rfl⟩
        · unfold tup
          have HY := Lib.hid hy
          clear hy
          go_wp2_with fail
          go_roundw
          case rel => exact ⟨k + 1, by omega, by go_num, HOK.out HY.out, HPUT.out⟩
          case measure => simp [intOf]; omega
        · unfold tup
          have HE := Lib.hid (show JoinE ss (tup [] 2) from .inr (.inl ⟨by omega, ⟨s, HMEM.out, hno⟩, rfl⟩))
          clear hno
          go_wp2_with fail
          go_ret2
          exact ⟨HE.out, hbw⟩
      · obtain rfl : k = n := by omega
        rw [List.take_of_length_le (by omega)] at hI
        have hall : ∀ s ∈ ss, s.all okc = true := fun s hs' => by
          obtain ⟨j, hj, rfl⟩ := List.mem_iff_getElem.1 hs'
          have := hok j (by omega)
          rwa [List.getD_eq_getElem?_getD, List.getElem?_eq_getElem (by omega)] at this
        have hbw := hI.below
        by_cases h0 : k = 0
        · have hnil : ss = [] := List.eq_nil_of_length_eq_zero (by omega)
          have HE := Lib.hid (show JoinE ss (tup [] 0) from .inr (.inr ⟨by omega, hall, .inr ⟨by rw [hnil]; simp [lineOf, Lib.join_nil], by rw [hnil]; rfl⟩⟩))
          clear hall hok hI hlz hnil
          subst h0
          go_wp2_with fail
          refine (Try.strings_Join_none _ _ _ _).mono ?_
          rintro e w' ⟨rfl, rfl⟩
          go_wp2_with fail
          go_ret2
          exact ⟨HE.out, hbw⟩
        · have hxs : ((ss.map qt).map fun l => (⟨l.toArray⟩ : ByteArray)).length = k := by simp; omega
          have hmm : ((ss.map qt).map fun l => (⟨l.toArray⟩ : ByteArray)).map (·.data.toList) = ss.map qt := by
            rw [List.map_map]
            conv => rhs; rw [← List.map_id (ss.map qt)]
            apply List.map_congr_left
            intro l _
            simp
          have hll : (lineOf ss).length ≤ 140737488355328 := by
            have := line_len 4294967296 ss (fun s hs' => by
              obtain ⟨j, hj, rfl⟩ := List.mem_iff_getElem.1 hs'
              have := hz j (by omega)
              rwa [List.getD_eq_getElem?_getD, List.getElem?_eq_getElem (by omega)] at this)
            have h2 : ss.length * (4294967296 + 3) ≤ 24 * (4294967296 + 3) := Nat.mul_le_mul_right _ (by omega)
            omega
          have hjoin := Try.strings_Join w.heap.size 0 k ((ss.map qt).map fun l => (⟨l.toArray⟩ : ByteArray)) ⟨#[32]⟩ wr (fun j x hx => by
            rw [List.getElem?_map] at hx
            obtain ⟨l, hl1, hl2⟩ := Option.map_eq_some_iff.1 hx
            have hj : j < (ss.map qt).length := (List.getElem?_eq_some_iff.1 hl1).1
            have := hI.cells j hj
            rw [Nat.zero_add, this, ← hl2]
            rw [List.getElem?_eq_getElem hj] at hl1
            injection hl1 with hl1
            rw [hl1]) hI.more (by rw [hxs]; omega) (by rw [hxs]; exact Nat.le_refl _) (by rw [hmm]; exact hll)
          rw [hmm, hxs] at hjoin
          have HJ : Hid _ := Lib.hid hjoin
          clear hjoin hmm hxs hok hI hlz
          go_wp2_with fail
          refine HJ.out.mono ?_
          rintro e w2 ⟨rfl, b2⟩
          have a2 := hbw.trans (b2.mono hbw.size)
          clear b2 HJ
          have hsz := size_ba (lineOf ss)
          change Hid (∀ s ∈ ss, s.all okc = true) at hall
          by_cases hbig : 2048 < (lineOf ss).length
          · have HE := Lib.hid (show JoinE ss (tup [] 6) from .inr (.inr ⟨by have := HLZ.out; omega, hall.out, .inl ⟨hbig, rfl⟩⟩))
            change (⟨(Lib.join (ss.map qt) [32]).toArray⟩ : ByteArray).size = _ at hsz
            generalize (⟨(Lib.join (ss.map qt) [32]).toArray⟩ : ByteArray) = L at *
            have hL : 2048 < L.size := by omega
            clear hsz hbig
            go_wp2_with fail
            go_ret2
            exact ⟨HE.out, a2⟩
          · have HE := Lib.hid (show JoinE ss (tup (lineOf ss) 0) from .inr (.inr ⟨by have := HLZ.out; omega, hall.out, .inr ⟨by omega, rfl⟩⟩))
            change Hid (JoinE ss (.returned (.tuple #[.string (⟨(Lib.join (ss.map qt) [32]).toArray⟩ : ByteArray), .int .i64 0]))) at HE
            change (⟨(Lib.join (ss.map qt) [32]).toArray⟩ : ByteArray).size = _ at hsz
            generalize (⟨(Lib.join (ss.map qt) [32]).toArray⟩ : ByteArray) = L at *
            have hL : L.size ≤ 2048 := by omega
            clear hsz hbig
            go_wp2_with fail
            go_ret2
            exact ⟨HE.out, a2⟩
end Go.Proofs.Ytheakfhcllgndaa
