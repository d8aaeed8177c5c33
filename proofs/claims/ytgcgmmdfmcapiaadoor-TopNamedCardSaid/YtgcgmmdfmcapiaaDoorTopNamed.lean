/- The walk of stage 4's theorem TopNamed. -/
import Derived.Test.YtgcgmmdfmcapiaaDoorPo2
import Derived.Test.YtgcgmmdfmcapiaaDoorOf4
import Derived.OpenShut
namespace Go.Proofs.YtgcgmmdfmcapiaaDoor
open Go.RowKit
theorem named_in (L : ByteArray) (off : Int) (dst : Bool) (X : ByteArray) (w : World) (hK : Marks w) (hM : Mxa w) (hU : Units w) (hL : Fm.ltr L.data.toList = true) (h1 : -360000 < off) (h2 : off < 360000) (hX : X.data.toList = offT off) :
    Calls Tryd.prog 11 #[.string ⟨#[37, 122]⟩, .string L, .int .i64 off, .bool dst] w fun e w' => e = .returned (.tuple #[.string X, .int .i64 0]) ∧ Below w.heap.size w w' :=
  (of_any ⟨#[37, 122]⟩ L off dst w hK hM hU).mono fun e w' ⟨he, hb⟩ => ⟨by
    have hO : Fm.of [37, 122] L.data.toList off dst = (X.data.toList, 0) := by
      unfold Fm.of
      rw [hL, show Fm.fmt [37, 122] = true by decide +kernel, show Fm.cutF [37, 122] = (1, [], []) by decide +kernel, hX]
      simp only [Bool.and_self, if_true, List.nil_append, List.append_nil]
      rw [if_pos ⟨h1, h2⟩]
    change OfR (Fm.of [37, 122] L.data.toList off dst) e at he
    rw [hO] at he
    exact he, hb⟩
theorem named_out (L : ByteArray) (off : Int) (dst : Bool) (w : World) (hK : Marks w) (hM : Mxa w) (hU : Units w) (hL : Fm.ltr L.data.toList = true) (h : off ≤ -360000 ∨ 360000 ≤ off) :
    Calls Tryd.prog 11 #[.string ⟨#[37, 122]⟩, .string L, .int .i64 off, .bool dst] w fun e w' => e = .returned (.tuple #[.string ⟨#[]⟩, .int .i64 1]) ∧ Below w.heap.size w w' :=
  (of_any ⟨#[37, 122]⟩ L off dst w hK hM hU).mono fun e w' ⟨he, hb⟩ => ⟨by
    have hO : Fm.of [37, 122] L.data.toList off dst = ([], 1) := by
      unfold Fm.of
      rw [hL, show Fm.fmt [37, 122] = true by decide +kernel, show Fm.cutF [37, 122] = (1, [], []) by decide +kernel]
      simp only [Bool.and_self, if_true]
      rw [if_neg (by omega)]
    change OfR (Fm.of [37, 122] L.data.toList off dst) e at he
    rw [hO] at he
    exact he, hb⟩
theorem po_at (X : ByteArray) (a : Int) (w : World) (hU : Units w) (h1 : -360000 < a) (h2 : a < 360000) (hX : X.data.toList = offT a) : Calls Tryd.prog 8 #[.string X] w fun e w' => e = .returned (.tuple #[.int .i64 a, .int .i64 0]) ∧ Below w.heap.size w w' := by
  have hz : X.data.toList.length = X.size := by simp
  have hl := offT_len a
  have h := po_any X w hU (by rw [hX] at hz; omega)
  rw [hX, po_offT a h1 h2] at h
  exact h
set_option maxRecDepth 100000 in
set_option maxHeartbeats 1000000 in
theorem named_main (a b : Int) (dst : Bool) (X Y : ByteArray) (v : Bool) (w : World) (hK : Hid (Marks w)) (hM : Hid (Mxa w)) (hU : Hid (Units w)) (a1 : -360000 < a) (a2 : a < 360000) (b1 : -360000 < b) (b2 : b < 360000) (hX : Hid (X.data.toList = offT a)) (hY : Hid (Y.data.toList = offT b))
    (t1 : (X.toList == Y.toList) = v) (t2 : (a == b) = v) : Calls Tryd.prog 5 #[.int .i64 a, .int .i64 b, .bool dst] w fun e w' => e = .returned (.bool true) ∧ Below w.heap.size w w' := by
  go_enter Tryd.func5, Tryd.ntmps5
  go_wp2_with fail
  refine (begins4_any _ hU.out).mono ?_
  rintro e w1 ⟨rfl, d1⟩
  go_wp2_with fail
  refine (named_in ⟨#[83]⟩ a dst X _ (hK.out.below d1) (hM.out.below d1) (hU.out.below d1) (by decide +kernel) a1 a2 hX.out).mono ?_
  rintro e w2 ⟨rfl, g2⟩
  have d2 := d1.trans (g2.mono d1.size)
  go_wp2_with fail
  refine (named_in ⟨#[]⟩ b (!dst) Y _ (hK.out.below d2) (hM.out.below d2) (hU.out.below d2) (by decide +kernel) b1 b2 hY.out).mono ?_
  rintro e w3 ⟨rfl, g3⟩
  have d3 := d2.trans (g3.mono d2.size)
  go_wp2_with fail
  refine (po_at X a _ (hU.out.below d3) a1 a2 hX.out).mono ?_
  rintro e w4 ⟨rfl, g4⟩
  have d4 := d3.trans (g4.mono d3.size)
  go_wp2_with fail
  refine (cletter_yes X _ (by rw [hX.out]; exact offT_ltr a a1 a2)).mono ?_
  rintro e w5 ⟨rfl, g5⟩
  have d5 := d4.trans (g5.mono d4.size)
  go_wp2_with fail
  refine (fcheck_yes X _ (hK.out.below d5) (hM.out.below d5) (by rw [hX.out]; exact offT_fmt a a1 a2)).mono ?_
  rintro e w6 ⟨rfl, g6⟩
  have d6 := d5.trans (g6.mono d5.size)
  go_wp2_with fail
  go_ret
  exact ⟨rfl, d6⟩
set_option maxRecDepth 100000 in
set_option maxHeartbeats 1000000 in
theorem named_bout (a b : Int) (dst : Bool) (X : ByteArray) (w : World) (hK : Hid (Marks w)) (hM : Hid (Mxa w)) (hU : Hid (Units w)) (a1 : -360000 < a) (a2 : a < 360000) (hX : Hid (X.data.toList = offT a)) (hb : Hid (b ≤ -360000 ∨ 360000 ≤ b)) :
    Calls Tryd.prog 5 #[.int .i64 a, .int .i64 b, .bool dst] w fun e w' => e = .returned (.bool true) ∧ Below w.heap.size w w' := by
  go_enter Tryd.func5, Tryd.ntmps5
  go_wp2_with fail
  refine (begins4_any _ hU.out).mono ?_
  rintro e w1 ⟨rfl, d1⟩
  go_wp2_with fail
  refine (named_in ⟨#[83]⟩ a dst X _ (hK.out.below d1) (hM.out.below d1) (hU.out.below d1) (by decide +kernel) a1 a2 hX.out).mono ?_
  rintro e w2 ⟨rfl, g2⟩
  have d2 := d1.trans (g2.mono d1.size)
  go_wp2_with fail
  refine (named_out ⟨#[]⟩ b (!dst) _ (hK.out.below d2) (hM.out.below d2) (hU.out.below d2) (by decide +kernel) hb.out).mono ?_
  rintro e w3 ⟨rfl, g3⟩
  have d3 := d2.trans (g3.mono d2.size)
  go_wp2_with fail
  go_ret
  exact ⟨rfl, d3⟩
set_option maxRecDepth 100000 in
set_option maxHeartbeats 1000000 in
theorem named_aout (a b : Int) (dst : Bool) (r : ByteArray × Int) (w : World) (hK : Hid (Marks w)) (hM : Hid (Mxa w)) (hU : Hid (Units w)) (ha : Hid (a ≤ -360000 ∨ 360000 ≤ a))
    (hB : Hid (∀ W, Below w.heap.size w W → Calls Tryd.prog 11 #[.string ⟨#[37, 122]⟩, .string ⟨#[]⟩, .int .i64 b, .bool (!dst)] W fun e w' => e = .returned (.tuple #[.string r.1, .int .i64 r.2]) ∧ Below W.heap.size W w')) :
    Calls Tryd.prog 5 #[.int .i64 a, .int .i64 b, .bool dst] w fun e w' => e = .returned (.bool true) ∧ Below w.heap.size w w' := by
  have hx := ha.out
  rcases hx with h | h
  · have t1 : decide (-360000 < a) = false := by simp; omega
    go_enter Tryd.func5, Tryd.ntmps5
    go_wp2_with fail
    refine (begins4_any _ hU.out).mono ?_
    rintro e w1 ⟨rfl, d1⟩
    go_wp2_with fail
    refine (named_out ⟨#[83]⟩ a dst _ (hK.out.below d1) (hM.out.below d1) (hU.out.below d1) (by decide +kernel) ha.out).mono ?_
    rintro e w2 ⟨rfl, g2⟩
    have d2 := d1.trans (g2.mono d1.size)
    go_wp2_with fail
    refine (hB.out _ d2).mono ?_
    rintro e w3 ⟨rfl, g3⟩
    have d3 := d2.trans (g3.mono d2.size)
    go_wp2_with fail
    go_ret
    exact ⟨rfl, d3⟩
  · have t1 : decide (a < 360000) = false := by simp; omega
    have t2 : -360000 < a := by omega
    go_enter Tryd.func5, Tryd.ntmps5
    go_wp2_with fail
    refine (begins4_any _ hU.out).mono ?_
    rintro e w1 ⟨rfl, d1⟩
    go_wp2_with fail
    refine (named_out ⟨#[83]⟩ a dst _ (hK.out.below d1) (hM.out.below d1) (hU.out.below d1) (by decide +kernel) ha.out).mono ?_
    rintro e w2 ⟨rfl, g2⟩
    have d2 := d1.trans (g2.mono d1.size)
    go_wp2_with fail
    refine (hB.out _ d2).mono ?_
    rintro e w3 ⟨rfl, g3⟩
    have d3 := d2.trans (g3.mono d2.size)
    go_wp2_with fail
    go_ret
    exact ⟨rfl, d3⟩
theorem walkTopNamed (a : Int) (_ : (Lit.int .i64 a).wf = true) (b : Int) (_ : (Lit.int .i64 b).wf = true) (dst : Bool) (w : World) (hK : Marks w) (hX : Mxa w) (hU : Units w) :
    Calls Tryd.prog 5 #[.int .i64 a, .int .i64 b, .bool dst] w fun e w' => e = .returned (.bool true) ∧ Below w.heap.size w w' := by
  by_cases ha : -360000 < a ∧ a < 360000
  · obtain ⟨X, hx⟩ : ∃ X : ByteArray, X.data.toList = offT a := ⟨⟨(offT a).toArray⟩, by simp⟩
    by_cases hb : -360000 < b ∧ b < 360000
    · obtain ⟨Y, hy⟩ : ∃ Y : ByteArray, Y.data.toList = offT b := ⟨⟨(offT b).toArray⟩, by simp⟩
      by_cases he : a = b
      · exact named_main a b dst X Y true w (Lib.hid hK) (Lib.hid hX) (Lib.hid hU) ha.1 ha.2 hb.1 hb.2 (Lib.hid hx) (Lib.hid hy) (by rw [ByteArray.toList_eq, ByteArray.toList_eq, beq_iff_eq, hx, hy, he]) (by rw [beq_iff_eq]; exact he)
      · exact named_main a b dst X Y false w (Lib.hid hK) (Lib.hid hX) (Lib.hid hU) ha.1 ha.2 hb.1 hb.2 (Lib.hid hx) (Lib.hid hy) (by rw [ByteArray.toList_eq, ByteArray.toList_eq, beq_eq_false_iff_ne, hx, hy]; exact fun h => he (offT_inj ha.1 ha.2 hb.1 hb.2 h)) (by rw [beq_eq_false_iff_ne]; exact he)
    · exact named_bout a b dst X w (Lib.hid hK) (Lib.hid hX) (Lib.hid hU) ha.1 ha.2 (Lib.hid hx) (Lib.hid (by omega))
  · by_cases hb : -360000 < b ∧ b < 360000
    · obtain ⟨Y, hy⟩ : ∃ Y : ByteArray, Y.data.toList = offT b := ⟨⟨(offT b).toArray⟩, by simp⟩
      exact named_aout a b dst (Y, 0) w (Lib.hid hK) (Lib.hid hX) (Lib.hid hU) (Lib.hid (by omega)) (Lib.hid fun W hW => named_in ⟨#[]⟩ b (!dst) Y W (hK.below hW) (hX.below hW) (hU.below hW) (by decide +kernel) hb.1 hb.2 hy)
    · exact named_aout a b dst (⟨#[]⟩, 1) w (Lib.hid hK) (Lib.hid hX) (Lib.hid hU) (Lib.hid (by omega)) (Lib.hid fun W hW => named_out ⟨#[]⟩ b (!dst) W (hK.below hW) (hX.below hW) (hU.below hW) (by decide +kernel) (by omega))
end Go.Proofs.YtgcgmmdfmcapiaaDoor
