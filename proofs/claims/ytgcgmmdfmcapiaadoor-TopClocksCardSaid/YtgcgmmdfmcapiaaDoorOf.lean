/- Contracts of package abbr: twoDigits, Offset. -/
import Derived.Test.YtgcgmmdfmcapiaaDoorCivil2
import Derived.Test.YtgcgmmdfmcapiaaDoorShelf
import Derived.Test.YtgcgmmdfmcapiaaDoorSl
import Derived.Laws.IdiomStrings
import Derived.Lib.LaidTab
import Derived.Lib.AppendIntMem
import Derived.LoopN
import Derived.Handy
namespace Go.Proofs.YtgcgmmdfmcapiaaDoor
open Go.RowKit
/-- The three units of an offset. -/
def Units (w : World) : Prop := Lib.TabIs Tryd.prog w "solstice/abbr.units" .i64 [3600, 60, 1]
theorem gAbbr : Tryd.prog.globalNamed "solstice/abbr.units" = some 0 := by kernel_rfl
theorem Units.u0 {w : World} (h : Units w) : w.cell? ⟨0, 0, none⟩ = some (.int .i64 3600) := Lib.TabIs.cell h gAbbr 0 (by decide)
theorem Units.u1 {w : World} (h : Units w) : w.cell? ⟨0, 1, none⟩ = some (.int .i64 60) := Lib.TabIs.cell h gAbbr 1 (by decide)
theorem Units.u2 {w : World} (h : Units w) : w.cell? ⟨0, 2, none⟩ = some (.int .i64 1) := Lib.TabIs.cell h gAbbr 2 (by decide)
theorem Units.below {w w' : World} (h : Units w) (hb : Below w.heap.size w w') : Units w' := Lib.tabBelow_of_tabIs h w' hb
theorem addr_at (g j : Nat) : (⟨g, 0, none⟩ : Addr).add j = ⟨g, j, none⟩ := by unfold Addr.add; split <;> simp_all
theorem conv_two {w : World} {g cap : Nat} {l : List UInt8} {n : Nat} (hn : n = l.length) (hc : ∀ j (hj : j < l.length), w.cell? ⟨g, j, none⟩ = some (.int .u8 (l[j].toNat : Int))) :
    (convert 64 9 (.slice (some ⟨g, 0, none⟩) n cap)).run Tryd.prog w = .ok (.string ⟨l.toArray⟩) w := by
  subst hn
  exact run_convert_bytes_back w 64 9 5 ⟨g, 0, none⟩ cap l Tryd.underlying64 Tryd.underlying5 Tryd.underlying9 (fun j hj => by rw [addr_at]; exact hc j hj)
/-- Two digits. -/
def dd (n : Int) : List UInt8 := [UInt8.ofNat (48 + n.toNat / 10), UInt8.ofNat (48 + n.toNat % 10)]
theorem dd_cell (n : Int) (w : World) (h0 : 0 ≤ n) (h1 : n < 100) (j : Nat) (hj : j < (dd n).length) :
    (w.alloc (.cells #[.int .u8 (48 + n / 10), .int .u8 (48 + n % 10)] 5)).cell? ⟨w.heap.size, j, none⟩ = some (.int .u8 ((dd n)[j].toNat : Int)) := by
  have hj2 : j < 2 := hj
  have hj3 : j = 0 ∨ j = 1 := by omega
  rcases hj3 with rfl | rfl
  · have e : ((UInt8.ofNat (48 + n.toNat / 10)).toNat : Int) = 48 + n / 10 := by rw [UInt8.toNat_ofNat']; omega
    show _ = some (Value.int .u8 ((UInt8.ofNat (48 + n.toNat / 10)).toNat : Int))
    rw [e]
    go_simp
  · have e : ((UInt8.ofNat (48 + n.toNat % 10)).toNat : Int) = 48 + n % 10 := by rw [UInt8.toNat_ofNat']; omega
    show _ = some (Value.int .u8 ((UInt8.ofNat (48 + n.toNat % 10)).toNat : Int))
    rw [e]
    go_simp
set_option maxRecDepth 100000 in
theorem two_any (n : Int) (w : World) (h0 : 0 ≤ n) (h1 : n < 100) :
    Calls Tryd.prog 18 #[.int .i64 n] w fun e w' => e = .returned (.string ⟨(dd n).toArray⟩) ∧ Below w.heap.size w w' := by
  have hconv := conv_two (w := w.alloc (.cells #[.int .u8 (48 + n / 10), .int .u8 (48 + n % 10)] 5)) (g := w.heap.size) (cap := 2) (l := dd n) (n := 2) rfl (dd_cell n w h0 h1)
  go_enter Tryd.func18, Tryd.ntmps18
  go_wp2_with fail
  go_ret
  exact ⟨rfl, (Below.refl _ _).alloc (Nat.le_refl _) _⟩
theorem dd_len (n : Int) : (dd n).length = 2 := rfl
/-- The text of an offset that is not below nought, behind its sign, and of any. -/
def off0 (t : Int) : List UInt8 := dd (t / 3600) ++ (if t % 3600 = 0 then [] else dd (t % 3600 / 60) ++ (if t % 60 = 0 then [] else dd (t % 60)))
def offT (t : Int) : List UInt8 := if t < 0 then 45 :: off0 (-t) else 43 :: off0 t
theorem bytes_app (a b : List UInt8) : (⟨a.toArray⟩ : ByteArray) ++ ⟨b.toArray⟩ = ⟨(a ++ b).toArray⟩ := by
  apply ByteArray.ext
  simp
theorem ret_te {a b : ByteArray} {z : Int} (h : a = b) : Ending.returned (.tuple #[.string a, .int .i64 z]) = .returned (.tuple #[.string b, .int .i64 z]) := by rw [h]
theorem arr0 (a b c : Value) (W : World) : (Instr.index 44 (.agg #[a, b, c]) (.int .i64 0)).run Tryd.prog W = .ok a W := by kernel_rfl
theorem arr1 (a b c : Value) (W : World) : (Instr.index 44 (.agg #[a, b, c]) (.int .i64 1)).run Tryd.prog W = .ok b W := by kernel_rfl
theorem arr2 (a b c : Value) (W : World) : (Instr.index 44 (.agg #[a, b, c]) (.int .i64 2)).run Tryd.prog W = .ok c W := by kernel_rfl
-- WALKS
set_option maxRecDepth 100000 in
set_option maxHeartbeats 2000000 in
theorem offset_pos1 (t : Int) (w : World) (hE : Units w) (h1 : 0 ≤ t) (h2 : t < 360000) (H1 : Hid (t % 3600 = 0)) :
    Calls Tryd.prog 7 #[.int .i64 t] w fun e w' => e = .returned (.tuple #[.string ⟨(43 :: off0 t).toArray⟩, .int .i64 0]) ∧ Below w.heap.size w w' := by
  have u0 := hE.u0
  have u1 := hE.u1
  have u2 := hE.u2
  have l0 := lt_cell u0
  have i0 := arr0 (.int .i64 3600) (.int .i64 60) (.int .i64 1)
  have i1 := arr1 (.int .i64 3600) (.int .i64 60) (.int .i64 1)
  have i2 := arr2 (.int .i64 3600) (.int .i64 60) (.int .i64 1)
  clear hE
  have t1 : (t % 3600 == 0) = true := by rw [beq_iff_eq]; exact H1.out
  have HE := Lib.hid (show off0 t = dd (t / 3600) by unfold off0; rw [if_pos H1.out, List.append_nil])
  have ht : ¬ 9223372036854775807 < 1 + (dd (t / 3600)).length := by rw [dd_len]; decide
  go_enter Tryd.func7, Tryd.ntmps7
  go_wp2_with fail
  refine wp_loop_rounds 4 ?_
  rw [rounds_succ]
  go_wp2_with fail
  refine (two_any (t / 3600) _ (by omega) (by omega)).mono ?_
  rintro e w1 ⟨rfl, b1⟩
  go_wp2_with fail
  rw [rounds_succ]
  go_wp2_with fail
  go_ret2
  exact ⟨ret_te (by rw [HE.out]; apply ByteArray.ext; simp), b1⟩
set_option maxRecDepth 100000 in
set_option maxHeartbeats 2000000 in
theorem offset_pos2 (t : Int) (w : World) (hE : Units w) (h1 : 0 ≤ t) (h2 : t < 360000) (H1 : Hid (t % 3600 ≠ 0)) (H2 : Hid (t % 60 = 0)) :
    Calls Tryd.prog 7 #[.int .i64 t] w fun e w' => e = .returned (.tuple #[.string ⟨(43 :: off0 t).toArray⟩, .int .i64 0]) ∧ Below w.heap.size w w' := by
  have u0 := hE.u0
  have u1 := hE.u1
  have u2 := hE.u2
  have l0 := lt_cell u0
  have i0 := arr0 (.int .i64 3600) (.int .i64 60) (.int .i64 1)
  have i1 := arr1 (.int .i64 3600) (.int .i64 60) (.int .i64 1)
  have i2 := arr2 (.int .i64 3600) (.int .i64 60) (.int .i64 1)
  clear hE
  have t1 : (t % 3600 == 0) = false := by rw [beq_eq_false_iff_ne]; exact H1.out
  have t2 : (t % 60 == 0) = true := by rw [beq_iff_eq]; exact H2.out
  have HE := Lib.hid (show off0 t = dd (t / 3600) ++ dd (t % 3600 / 60) by unfold off0; rw [if_neg H1.out, if_pos H2.out, List.append_nil])
  have ht : ¬ 9223372036854775807 < 1 + (dd (t / 3600)).length := by rw [dd_len]; decide
  have ht2 : ¬ 9223372036854775807 < 1 + (dd (t / 3600)).length + (dd (t % 3600 / 60)).length := by rw [dd_len, dd_len]; decide
  go_enter Tryd.func7, Tryd.ntmps7
  go_wp2_with fail
  refine wp_loop_rounds 4 ?_
  rw [rounds_succ]
  go_wp2_with fail
  refine (two_any (t / 3600) _ (by omega) (by omega)).mono ?_
  rintro e w1 ⟨rfl, b1⟩
  go_wp2_with fail
  rw [rounds_succ]
  go_wp2_with fail
  refine (two_any (t % 3600 / 60) _ (by omega) (by omega)).mono ?_
  rintro e w2 ⟨rfl, b2⟩
  go_wp2_with fail
  rw [rounds_succ]
  go_wp2_with fail
  go_ret2
  exact ⟨ret_te (by rw [HE.out]; apply ByteArray.ext; simp), b1.trans (b2.mono b1.size)⟩
set_option maxRecDepth 100000 in
set_option maxHeartbeats 2000000 in
theorem offset_pos3 (t : Int) (w : World) (hE : Units w) (h1 : 0 ≤ t) (h2 : t < 360000) (H1 : Hid (t % 3600 ≠ 0)) (H2 : Hid (t % 60 ≠ 0)) :
    Calls Tryd.prog 7 #[.int .i64 t] w fun e w' => e = .returned (.tuple #[.string ⟨(43 :: off0 t).toArray⟩, .int .i64 0]) ∧ Below w.heap.size w w' := by
  have u0 := hE.u0
  have u1 := hE.u1
  have u2 := hE.u2
  have l0 := lt_cell u0
  have i0 := arr0 (.int .i64 3600) (.int .i64 60) (.int .i64 1)
  have i1 := arr1 (.int .i64 3600) (.int .i64 60) (.int .i64 1)
  have i2 := arr2 (.int .i64 3600) (.int .i64 60) (.int .i64 1)
  clear hE
  have t1 : (t % 3600 == 0) = false := by rw [beq_eq_false_iff_ne]; exact H1.out
  have t2 : (t % 60 == 0) = false := by rw [beq_eq_false_iff_ne]; exact H2.out
  have HE := Lib.hid (show off0 t = dd (t / 3600) ++ (dd (t % 3600 / 60) ++ dd (t % 60)) by unfold off0; rw [if_neg H1.out, if_neg H2.out])
  have ht : ¬ 9223372036854775807 < 1 + (dd (t / 3600)).length := by rw [dd_len]; decide
  have ht2 : ¬ 9223372036854775807 < 1 + (dd (t / 3600)).length + (dd (t % 3600 / 60)).length := by rw [dd_len, dd_len]; decide
  have ht3 : ¬ 9223372036854775807 < 1 + (dd (t / 3600)).length + (dd (t % 3600 / 60)).length + (dd (t % 60)).length := by rw [dd_len, dd_len, dd_len]; decide
  go_enter Tryd.func7, Tryd.ntmps7
  go_wp2_with fail
  refine wp_loop_rounds 4 ?_
  rw [rounds_succ]
  go_wp2_with fail
  refine (two_any (t / 3600) _ (by omega) (by omega)).mono ?_
  rintro e w1 ⟨rfl, b1⟩
  go_wp2_with fail
  rw [rounds_succ]
  go_wp2_with fail
  refine (two_any (t % 3600 / 60) _ (by omega) (by omega)).mono ?_
  rintro e w2 ⟨rfl, b2⟩
  go_wp2_with fail
  rw [rounds_succ]
  go_wp2_with fail
  refine (two_any (t % 60) _ (by omega) (by omega)).mono ?_
  rintro e w3 ⟨rfl, b3⟩
  go_wp2_with fail
  rw [rounds_succ]
  go_wp2_with fail
  go_ret2
  exact ⟨ret_te (by rw [HE.out]; apply ByteArray.ext; simp), (b1.trans (b2.mono b1.size)).trans (b3.mono (b1.trans (b2.mono b1.size)).size)⟩
set_option maxRecDepth 100000 in
set_option maxHeartbeats 2000000 in
theorem offset_neg1 (t : Int) (w : World) (hE : Units w) (h1 : 1 ≤ t) (h2 : t < 360000) (H1 : Hid (t % 3600 = 0)) :
    Calls Tryd.prog 7 #[.int .i64 (-t)] w fun e w' => e = .returned (.tuple #[.string ⟨(45 :: off0 t).toArray⟩, .int .i64 0]) ∧ Below w.heap.size w w' := by
  have u0 := hE.u0
  have u1 := hE.u1
  have u2 := hE.u2
  have l0 := lt_cell u0
  have i0 := arr0 (.int .i64 3600) (.int .i64 60) (.int .i64 1)
  have i1 := arr1 (.int .i64 3600) (.int .i64 60) (.int .i64 1)
  have i2 := arr2 (.int .i64 3600) (.int .i64 60) (.int .i64 1)
  clear hE
  have t1 : (t % 3600 == 0) = true := by rw [beq_iff_eq]; exact H1.out
  have HE := Lib.hid (show off0 t = dd (t / 3600) by unfold off0; rw [if_pos H1.out, List.append_nil])
  have ht : ¬ 9223372036854775807 < 1 + (dd (t / 3600)).length := by rw [dd_len]; decide
  go_enter Tryd.func7, Tryd.ntmps7
  go_wp2_with fail
  refine wp_loop_rounds 4 ?_
  rw [rounds_succ]
  go_wp2_with fail
  refine (two_any (t / 3600) _ (by omega) (by omega)).mono ?_
  rintro e w1 ⟨rfl, b1⟩
  go_wp2_with fail
  rw [rounds_succ]
  go_wp2_with fail
  go_ret2
  exact ⟨ret_te (by rw [HE.out]; apply ByteArray.ext; simp), b1⟩
set_option maxRecDepth 100000 in
set_option maxHeartbeats 2000000 in
theorem offset_neg2 (t : Int) (w : World) (hE : Units w) (h1 : 1 ≤ t) (h2 : t < 360000) (H1 : Hid (t % 3600 ≠ 0)) (H2 : Hid (t % 60 = 0)) :
    Calls Tryd.prog 7 #[.int .i64 (-t)] w fun e w' => e = .returned (.tuple #[.string ⟨(45 :: off0 t).toArray⟩, .int .i64 0]) ∧ Below w.heap.size w w' := by
  have u0 := hE.u0
  have u1 := hE.u1
  have u2 := hE.u2
  have l0 := lt_cell u0
  have i0 := arr0 (.int .i64 3600) (.int .i64 60) (.int .i64 1)
  have i1 := arr1 (.int .i64 3600) (.int .i64 60) (.int .i64 1)
  have i2 := arr2 (.int .i64 3600) (.int .i64 60) (.int .i64 1)
  clear hE
  have t1 : (t % 3600 == 0) = false := by rw [beq_eq_false_iff_ne]; exact H1.out
  have t2 : (t % 60 == 0) = true := by rw [beq_iff_eq]; exact H2.out
  have HE := Lib.hid (show off0 t = dd (t / 3600) ++ dd (t % 3600 / 60) by unfold off0; rw [if_neg H1.out, if_pos H2.out, List.append_nil])
  have ht : ¬ 9223372036854775807 < 1 + (dd (t / 3600)).length := by rw [dd_len]; decide
  have ht2 : ¬ 9223372036854775807 < 1 + (dd (t / 3600)).length + (dd (t % 3600 / 60)).length := by rw [dd_len, dd_len]; decide
  go_enter Tryd.func7, Tryd.ntmps7
  go_wp2_with fail
  refine wp_loop_rounds 4 ?_
  rw [rounds_succ]
  go_wp2_with fail
  refine (two_any (t / 3600) _ (by omega) (by omega)).mono ?_
  rintro e w1 ⟨rfl, b1⟩
  go_wp2_with fail
  rw [rounds_succ]
  go_wp2_with fail
  refine (two_any (t % 3600 / 60) _ (by omega) (by omega)).mono ?_
  rintro e w2 ⟨rfl, b2⟩
  go_wp2_with fail
  rw [rounds_succ]
  go_wp2_with fail
  go_ret2
  exact ⟨ret_te (by rw [HE.out]; apply ByteArray.ext; simp), b1.trans (b2.mono b1.size)⟩
set_option maxRecDepth 100000 in
set_option maxHeartbeats 2000000 in
theorem offset_neg3 (t : Int) (w : World) (hE : Units w) (h1 : 1 ≤ t) (h2 : t < 360000) (H1 : Hid (t % 3600 ≠ 0)) (H2 : Hid (t % 60 ≠ 0)) :
    Calls Tryd.prog 7 #[.int .i64 (-t)] w fun e w' => e = .returned (.tuple #[.string ⟨(45 :: off0 t).toArray⟩, .int .i64 0]) ∧ Below w.heap.size w w' := by
  have u0 := hE.u0
  have u1 := hE.u1
  have u2 := hE.u2
  have l0 := lt_cell u0
  have i0 := arr0 (.int .i64 3600) (.int .i64 60) (.int .i64 1)
  have i1 := arr1 (.int .i64 3600) (.int .i64 60) (.int .i64 1)
  have i2 := arr2 (.int .i64 3600) (.int .i64 60) (.int .i64 1)
  clear hE
  have t1 : (t % 3600 == 0) = false := by rw [beq_eq_false_iff_ne]; exact H1.out
  have t2 : (t % 60 == 0) = false := by rw [beq_eq_false_iff_ne]; exact H2.out
  have HE := Lib.hid (show off0 t = dd (t / 3600) ++ (dd (t % 3600 / 60) ++ dd (t % 60)) by unfold off0; rw [if_neg H1.out, if_neg H2.out])
  have ht : ¬ 9223372036854775807 < 1 + (dd (t / 3600)).length := by rw [dd_len]; decide
  have ht2 : ¬ 9223372036854775807 < 1 + (dd (t / 3600)).length + (dd (t % 3600 / 60)).length := by rw [dd_len, dd_len]; decide
  have ht3 : ¬ 9223372036854775807 < 1 + (dd (t / 3600)).length + (dd (t % 3600 / 60)).length + (dd (t % 60)).length := by rw [dd_len, dd_len, dd_len]; decide
  go_enter Tryd.func7, Tryd.ntmps7
  go_wp2_with fail
  refine wp_loop_rounds 4 ?_
  rw [rounds_succ]
  go_wp2_with fail
  refine (two_any (t / 3600) _ (by omega) (by omega)).mono ?_
  rintro e w1 ⟨rfl, b1⟩
  go_wp2_with fail
  rw [rounds_succ]
  go_wp2_with fail
  refine (two_any (t % 3600 / 60) _ (by omega) (by omega)).mono ?_
  rintro e w2 ⟨rfl, b2⟩
  go_wp2_with fail
  rw [rounds_succ]
  go_wp2_with fail
  refine (two_any (t % 60) _ (by omega) (by omega)).mono ?_
  rintro e w3 ⟨rfl, b3⟩
  go_wp2_with fail
  rw [rounds_succ]
  go_wp2_with fail
  go_ret2
  exact ⟨ret_te (by rw [HE.out]; apply ByteArray.ext; simp), (b1.trans (b2.mono b1.size)).trans (b3.mono (b1.trans (b2.mono b1.size)).size)⟩
theorem offset_yes (t : Int) (w : World) (hE : Units w) (h1 : -360000 < t) (h2 : t < 360000) :
    Calls Tryd.prog 7 #[.int .i64 t] w fun e w' => e = .returned (.tuple #[.string ⟨(offT t).toArray⟩, .int .i64 0]) ∧ Below w.heap.size w w' := by
  unfold offT
  by_cases h : t < 0
  · rw [if_pos h]
    obtain ⟨n, hn⟩ : ∃ n, -t = n := ⟨_, rfl⟩
    obtain rfl : t = -n := by omega
    rw [hn]
    clear hn
    by_cases g1 : n % 3600 = 0
    · exact offset_neg1 n w hE (by omega) (by omega) (Lib.hid g1)
    · by_cases g2 : n % 60 = 0
      · exact offset_neg2 n w hE (by omega) (by omega) (Lib.hid g1) (Lib.hid g2)
      · exact offset_neg3 n w hE (by omega) (by omega) (Lib.hid g1) (Lib.hid g2)
  · rw [if_neg h]
    by_cases g1 : t % 3600 = 0
    · exact offset_pos1 t w hE (by omega) h2 (Lib.hid g1)
    · by_cases g2 : t % 60 = 0
      · exact offset_pos2 t w hE (by omega) h2 (Lib.hid g1) (Lib.hid g2)
      · exact offset_pos3 t w hE (by omega) h2 (Lib.hid g1) (Lib.hid g2)
theorem offset_no (t : Int) (w : World) (h : t ≤ -360000 ∨ 360000 ≤ t) :
    Calls Tryd.prog 7 #[.int .i64 t] w fun e w' => e = .returned (.tuple #[.string ⟨#[]⟩, .int .i64 1]) ∧ w = w' := by
  rcases h with h | h
  · go_enter Tryd.func7, Tryd.ntmps7
    go_wp2_with fail
    go_ret2
    exact ⟨rfl, rfl⟩
  · have h' : -360000 < t := by omega
    go_enter Tryd.func7, Tryd.ntmps7
    go_wp2_with fail
    go_ret2
    exact ⟨rfl, rfl⟩
end Go.Proofs.YtgcgmmdfmcapiaaDoor
