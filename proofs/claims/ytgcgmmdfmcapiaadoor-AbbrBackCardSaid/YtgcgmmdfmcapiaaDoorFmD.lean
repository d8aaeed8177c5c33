/- Contracts of package abbr: isLetter, CheckLetter, cut, isFormat, Check, Of. -/
import Derived.Test.YtgcgmmdfmcapiaaDoorFmC
import Derived.OwnWalk
namespace Go.Proofs.YtgcgmmdfmcapiaaDoor
open Go.RowKit
def markL : List (List UInt8) := [[37, 115], [37, 122], [47]]
/-- What the calls below read of package-level variables: the marks, and the length up to which the library looks for a byte by itself. -/
def Marks (w : World) : Prop := StrsAre Tryd.prog w "solstice/abbr.marks" markL
def Mxa (w : World) : Prop := ∃ m : Int, w.cell? ⟨4, 0, none⟩ = some (.int .i64 m)
theorem gMarks : Tryd.prog.globalNamed "solstice/abbr.marks" = some 1 := by kernel_rfl
theorem Marks.m0 {w : World} (h : Marks w) : w.cell? ⟨1, 0, none⟩ = some (.string ⟨#[37, 115]⟩) := StrsAre.cell h gMarks 0 _ rfl
theorem Marks.m1 {w : World} (h : Marks w) : w.cell? ⟨1, 1, none⟩ = some (.string ⟨#[37, 122]⟩) := StrsAre.cell h gMarks 1 _ rfl
theorem Marks.m2 {w : World} (h : Marks w) : w.cell? ⟨1, 2, none⟩ = some (.string ⟨#[47]⟩) := StrsAre.cell h gMarks 2 _ rfl
theorem Marks.below {w w' : World} (h : Marks w) (hb : Below w.heap.size w w') : Marks w' := StrsAre.below h hb
theorem Mxa.below {w w' : World} (h : Mxa w) (hb : Below w.heap.size w w') : Mxa w' := by
  obtain ⟨m, hm⟩ := h
  exact ⟨m, (hb.cell (lt_cell hm)).trans hm⟩
theorem acut_is (s sep a b : ByteArray) (ok : Bool) (w : World) (hM : Mxa w) (hs : s.size < 4294967281) (h1 : (⟨(Lib.cut s.data.toList sep.data.toList).1.toArray⟩ : ByteArray) = a) (h2 : (⟨(Lib.cut s.data.toList sep.data.toList).2.1.toArray⟩ : ByteArray) = b) (h3 : (Lib.cut s.data.toList sep.data.toList).2.2 = ok) :
    Calls Tryd.prog 37 #[.string s, .string sep] w fun e w' => e = .returned (.tuple #[.string a, .string b, .bool ok]) ∧ Below w.heap.size w w' := by
  subst h1 h2 h3
  obtain ⟨m, hm⟩ := hM
  exact (Tryd.strings_Cut s sep m w hs hm).mono fun _ _ ⟨he, n, hw⟩ => ⟨he, by rw [hw]; exact below_drewN (Below.refl _ _) n⟩
theorem sl_one {W : World} {g : Nat} {s : ByteArray} (hg : g < W.heap.size) (hc : W.cell? ⟨g, 0, none⟩ = some (.string s)) : Sl W W.heap.size (some ⟨g, 0, none⟩) 1 (fun i => .string ([s].getD i ByteArray.empty)) := by
  intro _
  refine ⟨⟨g, 0, none⟩, rfl, hg, fun i hi => ?_⟩
  obtain rfl : i = 0 := by omega
  rw [addr_at]
  exact hc
theorem sl_two {W : World} {g : Nat} {s t : ByteArray} (hg : g < W.heap.size) (hc : W.cell? ⟨g, 0, none⟩ = some (.string s)) (hd : W.cell? ⟨g, 1, none⟩ = some (.string t)) : Sl W W.heap.size (some ⟨g, 0, none⟩) 2 (fun i => .string ([s, t].getD i ByteArray.empty)) := by
  intro _
  refine ⟨⟨g, 0, none⟩, rfl, hg, fun i hi => ?_⟩
  have hi2 : i = 0 ∨ i = 1 := by omega
  rcases hi2 with rfl | rfl
  · rw [addr_at]
    exact hc
  · rw [addr_at]
    exact hd
theorem signs_1 (s : ByteArray) (v : Bool) (g : Nat) (W : World) (hs : s.size ≤ 4294967296) (hg : g < W.heap.size) (hc : W.cell? ⟨g, 0, none⟩ = some (.string s)) (hv : Fm.sgs s.data.toList = v) :
    Calls Tryd.prog 36 #[.slice (some ⟨g, 0, none⟩) 1 1] W fun e w' => e = .returned (.bool v) ∧ Below W.heap.size W w' := by
  have h := signs_any (some ⟨g, 0, none⟩) 1 1 [s] rfl (by omega) (fun i hi => by
    obtain rfl : i = 0 := by omega
    exact hs) W _ (Nat.le_refl _) (sl_one hg hc)
  have e : [s].all (fun s => Fm.sgs s.data.toList) = v := by simpa using hv
  rw [e] at h
  exact h
theorem signs_2 (s t : ByteArray) (v : Bool) (g : Nat) (W : World) (hs : s.size ≤ 4294967296) (ht : t.size ≤ 4294967296) (hg : g < W.heap.size) (hc : W.cell? ⟨g, 0, none⟩ = some (.string s)) (hd : W.cell? ⟨g, 1, none⟩ = some (.string t)) (hv : (Fm.sgs s.data.toList && Fm.sgs t.data.toList) = v) :
    Calls Tryd.prog 36 #[.slice (some ⟨g, 0, none⟩) 2 2] W fun e w' => e = .returned (.bool v) ∧ Below W.heap.size W w' := by
  have h := signs_any (some ⟨g, 0, none⟩) 2 2 [s, t] rfl (by omega) (fun i hi => by
    have hi2 : i = 0 ∨ i = 1 := by omega
    rcases hi2 with rfl | rfl
    · exact hs
    · exact ht) W _ (Nat.le_refl _) (sl_two hg hc hd)
  have e : [s, t].all (fun s => Fm.sgs s.data.toList) = v := by simpa using hv
  rw [e] at h
  exact h
theorem toList_ne {S : ByteArray} {l : List UInt8} (h : S.data.toList ≠ l) : (S.toList == l) = false ∧ ¬ S.toList = l := by
  rw [ByteArray.toList_eq]
  exact ⟨by rw [beq_eq_false_iff_ne]; exact h, h⟩
theorem letter_any (s : ByteArray) (w : World) : Calls Tryd.prog 21 #[.string s] w fun e w' => e = .returned (.bool (Fm.ltr s.data.toList)) ∧ Below w.heap.size w w' := by
  have hz : s.data.toList.length = s.size := by simp
  by_cases h1 : s.size ≤ 32
  · by_cases h2 : s.data.toList = [45]
    · obtain rfl : s = ⟨#[45]⟩ := ByteArray.ext (Array.toList_inj.1 h2)
      clear h2 hz h1
      go_enter Tryd.func21, Tryd.ntmps21
      go_wp2_with fail
      go_ret
      exact ⟨rfl, Below.refl _ _⟩
    · obtain ⟨n1, n2⟩ := toList_ne h2
      obtain ⟨v, hv⟩ : ∃ v, Fm.sgs s.data.toList = v := ⟨_, rfl⟩
      have HE := Lib.hid (show v = Fm.ltr s.data.toList by unfold Fm.ltr; rw [hv, hz]; simp [h1, h2])
      have HV := Lib.hid hv
      clear hv h2 hz
      go_enter Tryd.func21, Tryd.ntmps21
      go_wp2_with fail
      refine (signs_1 s v w.heap.size _ (by omega) (by simp) (by go_simp) HV.out).mono ?_
      rintro e w1 ⟨rfl, b1⟩
      have a1 : Below w.heap.size w w1 := ((Below.refl _ _).alloc (Nat.le_refl _) _).trans (b1.mono (by simp))
      go_wp2_with fail
      go_ret
      exact ⟨ret_bool HE.out, a1⟩
  · have HE := Lib.hid (show false = Fm.ltr s.data.toList by unfold Fm.ltr; rw [hz]; simp [h1])
    have h1' : 32 < s.size := by omega
    clear hz h1
    go_enter Tryd.func21, Tryd.ntmps21
    go_wp2_with fail
    go_ret
    exact ⟨ret_bool HE.out, Below.refl _ _⟩
theorem letter_is (s : ByteArray) (v : Bool) (w : World) (h : Fm.ltr s.data.toList = v) : Calls Tryd.prog 21 #[.string s] w fun e w' => e = .returned (.bool v) ∧ Below w.heap.size w w' := by
  subst h
  exact letter_any s w
theorem cletter_yes (s : ByteArray) (w : World) (h : Fm.ltr s.data.toList = true) : Calls Tryd.prog 10 #[.string s] w fun e w' => e = .returned (.int .i64 0) ∧ Below w.heap.size w w' := by
  have H := Lib.hid h
  clear h
  go_enter Tryd.func10, Tryd.ntmps10
  go_wp2_with fail
  refine (letter_is s true _ H.out).mono ?_
  rintro e w1 ⟨rfl, b1⟩
  go_wp2_with fail
  go_ret
  exact ⟨rfl, b1⟩
theorem cletter_no (s : ByteArray) (w : World) (h : Fm.ltr s.data.toList = false) : Calls Tryd.prog 10 #[.string s] w fun e w' => e = .returned (.int .i64 2) ∧ Below w.heap.size w w' := by
  have H := Lib.hid h
  clear h
  go_enter Tryd.func10, Tryd.ntmps10
  go_wp2_with fail
  refine (letter_is s false _ H.out).mono ?_
  rintro e w1 ⟨rfl, b1⟩
  go_wp2_with fail
  go_ret
  exact ⟨rfl, b1⟩
theorem sarr0 (a b c : Value) (W : World) : (Instr.index 66 (.agg #[a, b, c]) (.int .i64 0)).run Tryd.prog W = .ok a W := by kernel_rfl
theorem sarr1 (a b c : Value) (W : World) : (Instr.index 66 (.agg #[a, b, c]) (.int .i64 1)).run Tryd.prog W = .ok b W := by kernel_rfl
theorem sarr2 (a b c : Value) (W : World) : (Instr.index 66 (.agg #[a, b, c]) (.int .i64 2)).run Tryd.prog W = .ok c W := by kernel_rfl
/-- What cut answers. -/
def CutR (l : List UInt8) (e : Ending) : Prop := e = .returned (.tuple #[.int .i64 ((Fm.cutF l).1 : Nat), .string ⟨(Fm.cutF l).2.1.toArray⟩, .string ⟨(Fm.cutF l).2.2.toArray⟩])
theorem cutR_of {l : List UInt8} {m : Nat} {a b : ByteArray} (h : Fm.cutF l = (m, a.data.toList, b.data.toList)) : CutR l (.returned (.tuple #[.int .i64 (m : Int), .string a, .string b])) := by
  unfold CutR
  rw [h]
set_option maxHeartbeats 1000000 in
theorem fcut_any (s : ByteArray) (w : World) (hK : Marks w) (hM : Mxa w) (hs : s.size ≤ 1000) : Calls Tryd.prog 22 #[.string s] w fun e w' => CutR s.data.toList e ∧ Below w.heap.size w w' := by
  have m0 := hK.m0
  have m1 := hK.m1
  have m2 := hK.m2
  have l0 := lt_cell m0
  have i0 := sarr0 (.string ⟨#[37, 115]⟩) (.string ⟨#[37, 122]⟩) (.string ⟨#[47]⟩)
  have i1 := sarr1 (.string ⟨#[37, 115]⟩) (.string ⟨#[37, 122]⟩) (.string ⟨#[47]⟩)
  have i2 := sarr2 (.string ⟨#[37, 115]⟩) (.string ⟨#[37, 122]⟩) (.string ⟨#[47]⟩)
  have HM := Lib.hid hM
  clear hK hM
  obtain ⟨a0_, ha0⟩ : ∃ a, (⟨(Lib.cut s.data.toList [37, 115]).1.toArray⟩ : ByteArray) = a := ⟨_, rfl⟩
  obtain ⟨b0_, hb0⟩ : ∃ b, (⟨(Lib.cut s.data.toList [37, 115]).2.1.toArray⟩ : ByteArray) = b := ⟨_, rfl⟩
  have ea0 : a0_.data.toList = (Lib.cut s.data.toList [37, 115]).1 := by rw [← ha0]
  have eb0 : b0_.data.toList = (Lib.cut s.data.toList [37, 115]).2.1 := by rw [← hb0]
  cases h0 : (Lib.cut s.data.toList [37, 115]).2.2 with
  | true =>
    have HE := Lib.hid (cutR_of (show Fm.cutF s.data.toList = (0, a0_.data.toList, b0_.data.toList) by unfold Fm.cutF; rw [if_pos h0, ea0, eb0]))
    have HA0 := Lib.hid ha0
    have HB0 := Lib.hid hb0
    have H0 := Lib.hid h0
    clear ha0 hb0 h0 ea0 eb0
    go_enter Tryd.func22, Tryd.ntmps22
    go_wp2_with fail
    refine wp_loop_rounds 4 ?_
    rw [rounds_succ]
    go_wp2_with fail
    refine (acut_is s ⟨#[37, 115]⟩ a0_ b0_ true _ HM.out (by omega) HA0.out HB0.out H0.out).mono ?_
    rintro e w1 ⟨rfl, b1⟩
    have a1 := b1
    go_wp2_with fail
    go_ret3
    exact ⟨HE.out, a1⟩
  | false =>
    obtain ⟨a1_, ha1⟩ : ∃ a, (⟨(Lib.cut s.data.toList [37, 122]).1.toArray⟩ : ByteArray) = a := ⟨_, rfl⟩
    obtain ⟨b1_, hb1⟩ : ∃ b, (⟨(Lib.cut s.data.toList [37, 122]).2.1.toArray⟩ : ByteArray) = b := ⟨_, rfl⟩
    have ea1 : a1_.data.toList = (Lib.cut s.data.toList [37, 122]).1 := by rw [← ha1]
    have eb1 : b1_.data.toList = (Lib.cut s.data.toList [37, 122]).2.1 := by rw [← hb1]
    cases h1 : (Lib.cut s.data.toList [37, 122]).2.2 with
    | true =>
      have HE := Lib.hid (cutR_of (show Fm.cutF s.data.toList = (1, a1_.data.toList, b1_.data.toList) by unfold Fm.cutF; rw [if_neg (show ¬ (Lib.cut s.data.toList [37, 115]).2.2 = true by rw [h0]; simp), if_pos h1, ea1, eb1]))
      have HA0 := Lib.hid ha0
      have HB0 := Lib.hid hb0
      have H0 := Lib.hid h0
      have HA1 := Lib.hid ha1
      have HB1 := Lib.hid hb1
      have H1 := Lib.hid h1
      clear ha0 hb0 h0 ea0 eb0 ha1 hb1 h1 ea1 eb1
      go_enter Tryd.func22, Tryd.ntmps22
      go_wp2_with fail
      refine wp_loop_rounds 4 ?_
      rw [rounds_succ]
      go_wp2_with fail
      refine (acut_is s ⟨#[37, 115]⟩ a0_ b0_ false _ HM.out (by omega) HA0.out HB0.out H0.out).mono ?_
      rintro e w1 ⟨rfl, b1⟩
      have a1 := b1
      go_wp2_with fail
      rw [rounds_succ]
      go_wp2_with fail
      refine (acut_is s ⟨#[37, 122]⟩ a1_ b1_ true _ (HM.out.below a1) (by omega) HA1.out HB1.out H1.out).mono ?_
      rintro e w2 ⟨rfl, b2⟩
      have a2 := a1.trans (b2.mono a1.size)
      go_wp2_with fail
      go_ret3
      exact ⟨HE.out, a2⟩
    | false =>
      obtain ⟨a2_, ha2⟩ : ∃ a, (⟨(Lib.cut s.data.toList [47]).1.toArray⟩ : ByteArray) = a := ⟨_, rfl⟩
      obtain ⟨b2_, hb2⟩ : ∃ b, (⟨(Lib.cut s.data.toList [47]).2.1.toArray⟩ : ByteArray) = b := ⟨_, rfl⟩
      have ea2 : a2_.data.toList = (Lib.cut s.data.toList [47]).1 := by rw [← ha2]
      have eb2 : b2_.data.toList = (Lib.cut s.data.toList [47]).2.1 := by rw [← hb2]
      cases h2 : (Lib.cut s.data.toList [47]).2.2 with
      | true =>
        have HE := Lib.hid (cutR_of (show Fm.cutF s.data.toList = (2, a2_.data.toList, b2_.data.toList) by unfold Fm.cutF; rw [if_neg (show ¬ (Lib.cut s.data.toList [37, 115]).2.2 = true by rw [h0]; simp), if_neg (show ¬ (Lib.cut s.data.toList [37, 122]).2.2 = true by rw [h1]; simp), if_pos h2, ea2, eb2]))
        have HA0 := Lib.hid ha0
        have HB0 := Lib.hid hb0
        have H0 := Lib.hid h0
        have HA1 := Lib.hid ha1
        have HB1 := Lib.hid hb1
        have H1 := Lib.hid h1
        have HA2 := Lib.hid ha2
        have HB2 := Lib.hid hb2
        have H2 := Lib.hid h2
        clear ha0 hb0 h0 ea0 eb0 ha1 hb1 h1 ea1 eb1 ha2 hb2 h2 ea2 eb2
        go_enter Tryd.func22, Tryd.ntmps22
        go_wp2_with fail
        refine wp_loop_rounds 4 ?_
        rw [rounds_succ]
        go_wp2_with fail
        refine (acut_is s ⟨#[37, 115]⟩ a0_ b0_ false _ HM.out (by omega) HA0.out HB0.out H0.out).mono ?_
        rintro e w1 ⟨rfl, b1⟩
        have a1 := b1
        go_wp2_with fail
        rw [rounds_succ]
        go_wp2_with fail
        refine (acut_is s ⟨#[37, 122]⟩ a1_ b1_ false _ (HM.out.below a1) (by omega) HA1.out HB1.out H1.out).mono ?_
        rintro e w2 ⟨rfl, b2⟩
        have a2 := a1.trans (b2.mono a1.size)
        go_wp2_with fail
        rw [rounds_succ]
        go_wp2_with fail
        refine (acut_is s ⟨#[47]⟩ a2_ b2_ true _ (HM.out.below a2) (by omega) HA2.out HB2.out H2.out).mono ?_
        rintro e w3 ⟨rfl, b3⟩
        have a3 := a2.trans (b3.mono a2.size)
        go_wp2_with fail
        go_ret3
        exact ⟨HE.out, a3⟩
      | false =>
        have HE := Lib.hid (cutR_of (a := s) (b := ⟨#[]⟩) (show Fm.cutF s.data.toList = (3, s.data.toList, []) by unfold Fm.cutF; rw [if_neg (show ¬ (Lib.cut s.data.toList [37, 115]).2.2 = true by rw [h0]; simp), if_neg (show ¬ (Lib.cut s.data.toList [37, 122]).2.2 = true by rw [h1]; simp), if_neg (show ¬ (Lib.cut s.data.toList [47]).2.2 = true by rw [h2]; simp)]))
        have HA0 := Lib.hid ha0
        have HB0 := Lib.hid hb0
        have H0 := Lib.hid h0
        have HA1 := Lib.hid ha1
        have HB1 := Lib.hid hb1
        have H1 := Lib.hid h1
        have HA2 := Lib.hid ha2
        have HB2 := Lib.hid hb2
        have H2 := Lib.hid h2
        clear ha0 hb0 h0 ea0 eb0 ha1 hb1 h1 ea1 eb1 ha2 hb2 h2 ea2 eb2
        go_enter Tryd.func22, Tryd.ntmps22
        go_wp2_with fail
        refine wp_loop_rounds 4 ?_
        rw [rounds_succ]
        go_wp2_with fail
        refine (acut_is s ⟨#[37, 115]⟩ a0_ b0_ false _ HM.out (by omega) HA0.out HB0.out H0.out).mono ?_
        rintro e w1 ⟨rfl, b1⟩
        have a1 := b1
        go_wp2_with fail
        rw [rounds_succ]
        go_wp2_with fail
        refine (acut_is s ⟨#[37, 122]⟩ a1_ b1_ false _ (HM.out.below a1) (by omega) HA1.out HB1.out H1.out).mono ?_
        rintro e w2 ⟨rfl, b2⟩
        have a2 := a1.trans (b2.mono a1.size)
        go_wp2_with fail
        rw [rounds_succ]
        go_wp2_with fail
        refine (acut_is s ⟨#[47]⟩ a2_ b2_ false _ (HM.out.below a2) (by omega) HA2.out HB2.out H2.out).mono ?_
        rintro e w3 ⟨rfl, b3⟩
        have a3 := a2.trans (b3.mono a2.size)
        go_wp2_with fail
        rw [rounds_succ]
        go_wp2_with fail
        go_ret3
        exact ⟨HE.out, a3⟩
end Go.Proofs.YtgcgmmdfmcapiaaDoor
