/- Contracts of package abbr: isFormat, Check, Of. -/
import Derived.Test.YtgcgmmdfmcapiaaDoorFmD
namespace Go.Proofs.YtgcgmmdfmcapiaaDoor
open Go.RowKit
theorem fcut_is (s : ByteArray) (m : Nat) (a b : ByteArray) (w : World) (hK : Marks w) (hM : Mxa w) (hs : s.size ≤ 1000) (h : Fm.cutF s.data.toList = (m, a.data.toList, b.data.toList)) :
    Calls Tryd.prog 22 #[.string s] w fun e w' => e = .returned (.tuple #[.int .i64 (m : Int), .string a, .string b]) ∧ Below w.heap.size w w' :=
  (fcut_any s w hK hM hs).mono fun _ _ ⟨he, hb⟩ => ⟨by unfold CutR at he; rw [h] at he; exact he, hb⟩
theorem ne_empty {S : ByteArray} (h : S.data.toList ≠ []) : S.toList.isEmpty = false := by
  rw [ByteArray.toList_eq]
  simpa using h
theorem fmt_of {s : ByteArray} {m : Nat} {a b : ByteArray} (h : Fm.cutF s.data.toList = (m, a.data.toList, b.data.toList)) (h1 : 1 ≤ s.size) (h2 : s.size ≤ 32) : Fm.fmt s.data.toList = Fm.fits m a.data.toList b.data.toList := by
  have hz : s.data.toList.length = s.size := by simp
  unfold Fm.fmt
  rw [h, hz]
  simp [h1, h2]
/-- The parts of a format lie within it. -/
theorem cut_small {s : ByteArray} {m : Nat} {a b : ByteArray} (h : Fm.cutF s.data.toList = (m, a.data.toList, b.data.toList)) : a.size ≤ s.size ∧ b.size ≤ s.size := by
  have hz : s.data.toList.length = s.size := by simp
  have ha : a.data.toList.length = a.size := by simp
  have hb : b.data.toList.length = b.size := by simp
  obtain ⟨m', a', b', hc, hw⟩ := Fm.cutF_cases s.data.toList
  rw [h] at hc
  injection hc with e1 e2
  injection e2 with e2 e3
  subst e1 e2 e3
  rcases hw with ⟨_, e⟩ | ⟨_, e⟩ | ⟨_, e⟩ | ⟨_, e, e2⟩
  · have := congrArg List.length e
    simp only [List.length_append, List.length_cons, List.length_nil] at this
    omega
  · have := congrArg List.length e
    simp only [List.length_append, List.length_cons, List.length_nil] at this
    omega
  · have := congrArg List.length e
    simp only [List.length_append, List.length_cons, List.length_nil] at this
    omega
  · have := congrArg List.length e
    rw [e2] at hb
    simp only [List.length_nil] at hb
    omega
/-- isFormat of parts that are no two: any signs. -/
theorem format_m (s a b : ByteArray) (m : Nat) (v : Bool) (w : World) (hK : Hid (Marks w)) (hM : Hid (Mxa w)) (h1 : 1 ≤ s.size) (h2 : s.size ≤ 32) (hc : Hid (Fm.cutF s.data.toList = (m, a.data.toList, b.data.toList))) (hm : (((m : Nat) : Int) == 2) = false) (ha : a.size ≤ 32) (hb : b.size ≤ 32) (hv : Hid ((Fm.sgs a.data.toList && Fm.sgs b.data.toList) = v)) :
    Calls Tryd.prog 20 #[.string s] w fun e w' => e = .returned (.bool v) ∧ Below w.heap.size w w' := by
  go_enter Tryd.func20, Tryd.ntmps20
  go_wp2_with fail
  refine (fcut_is s m a b _ hK.out hM.out (by omega) hc.out).mono ?_
  rintro e w1 ⟨rfl, b1⟩
  go_wp2_with fail
  refine (signs_2 a b v w1.heap.size _ (by omega) (by omega) (by simp) (by go_simp) (by go_simp) hv.out).mono ?_
  rintro e w2 ⟨rfl, b2⟩
  have a2 : Below w.heap.size w w2 := (b1.alloc b1.size _).trans (b2.mono (by have := b1.size; simp; omega))
  go_wp2_with fail
  go_ret
  exact ⟨rfl, a2⟩
theorem format_2 (s a b : ByteArray) (v : Bool) (w : World) (hK : Hid (Marks w)) (hM : Hid (Mxa w)) (h1 : 1 ≤ s.size) (h2 : s.size ≤ 32) (hc : Hid (Fm.cutF s.data.toList = (2, a.data.toList, b.data.toList))) (na : a.toList.isEmpty = false) (nb : b.toList.isEmpty = false) (ha : a.size ≤ 32) (hb : b.size ≤ 32) (hv : Hid ((Fm.sgs a.data.toList && Fm.sgs b.data.toList) = v)) :
    Calls Tryd.prog 20 #[.string s] w fun e w' => e = .returned (.bool v) ∧ Below w.heap.size w w' := by
  go_enter Tryd.func20, Tryd.ntmps20
  go_wp2_with fail
  refine (fcut_is s 2 a b _ hK.out hM.out (by omega) hc.out).mono ?_
  rintro e w1 ⟨rfl, b1⟩
  go_wp2_with fail
  refine (signs_2 a b v w1.heap.size _ (by omega) (by omega) (by simp) (by go_simp) (by go_simp) hv.out).mono ?_
  rintro e w2 ⟨rfl, b2⟩
  have a2 : Below w.heap.size w w2 := (b1.alloc b1.size _).trans (b2.mono (by have := b1.size; simp; omega))
  go_wp2_with fail
  go_ret
  exact ⟨rfl, a2⟩
theorem format_2a (s b : ByteArray) (w : World) (hK : Hid (Marks w)) (hM : Hid (Mxa w)) (h1 : 1 ≤ s.size) (h2 : s.size ≤ 32) (hc : Hid (Fm.cutF s.data.toList = (2, [], b.data.toList))) :
    Calls Tryd.prog 20 #[.string s] w fun e w' => e = .returned (.bool false) ∧ Below w.heap.size w w' := by
  go_enter Tryd.func20, Tryd.ntmps20
  go_wp2_with fail
  refine (fcut_is s 2 ⟨#[]⟩ b _ hK.out hM.out (by omega) hc.out).mono ?_
  rintro e w1 ⟨rfl, b1⟩
  go_wp2_with fail
  go_ret
  exact ⟨rfl, b1⟩
theorem format_2b (s a : ByteArray) (w : World) (hK : Hid (Marks w)) (hM : Hid (Mxa w)) (h1 : 1 ≤ s.size) (h2 : s.size ≤ 32) (hc : Hid (Fm.cutF s.data.toList = (2, a.data.toList, []))) (na : a.toList.isEmpty = false) :
    Calls Tryd.prog 20 #[.string s] w fun e w' => e = .returned (.bool false) ∧ Below w.heap.size w w' := by
  go_enter Tryd.func20, Tryd.ntmps20
  go_wp2_with fail
  refine (fcut_is s 2 a ⟨#[]⟩ _ hK.out hM.out (by omega) hc.out).mono ?_
  rintro e w1 ⟨rfl, b1⟩
  go_wp2_with fail
  go_ret
  exact ⟨rfl, b1⟩
theorem empty_of {a : ByteArray} (h : a.data.toList = []) : a = ⟨#[]⟩ := ByteArray.ext (Array.toList_inj.1 h)
theorem format_any (s : ByteArray) (w : World) (hK : Marks w) (hM : Mxa w) :
    Calls Tryd.prog 20 #[.string s] w fun e w' => e = .returned (.bool (Fm.fmt s.data.toList)) ∧ Below w.heap.size w w' := by
  have hz : s.data.toList.length = s.size := by simp
  by_cases h1 : 1 ≤ s.size
  · by_cases h2 : s.size ≤ 32
    · obtain ⟨m, a0, b0, hc, hw⟩ := Fm.cutF_cases s.data.toList
      obtain ⟨a, rfl⟩ : ∃ a : ByteArray, a.data.toList = a0 := ⟨⟨a0.toArray⟩, by simp⟩
      obtain ⟨b, rfl⟩ : ∃ b : ByteArray, b.data.toList = b0 := ⟨⟨b0.toArray⟩, by simp⟩
      rw [fmt_of hc h1 h2]
      obtain ⟨ha, hb⟩ := cut_small hc
      by_cases h3 : m = 2
      · subst h3
        by_cases h4 : a.data.toList = []
        · rw [show Fm.fits 2 a.data.toList b.data.toList = false by unfold Fm.fits; rw [h4]; simp]
          exact format_2a s b w (Lib.hid hK) (Lib.hid hM) h1 h2 (Lib.hid (by rw [hc, h4]))
        · by_cases h5 : b.data.toList = []
          · rw [show Fm.fits 2 a.data.toList b.data.toList = false by unfold Fm.fits; rw [h5]; simp]
            exact format_2b s a w (Lib.hid hK) (Lib.hid hM) h1 h2 (Lib.hid (by rw [hc, h5])) (ne_empty h4)
          · rw [show Fm.fits 2 a.data.toList b.data.toList = (Fm.sgs a.data.toList && Fm.sgs b.data.toList) by
              unfold Fm.fits
              rw [show a.data.toList.isEmpty = false by simpa using h4, show b.data.toList.isEmpty = false by simpa using h5]
              simp]
            exact format_2 s a b _ w (Lib.hid hK) (Lib.hid hM) h1 h2 (Lib.hid hc) (ne_empty h4) (ne_empty h5) (by omega) (by omega) (Lib.hid rfl)
      · rw [show Fm.fits m a.data.toList b.data.toList = (Fm.sgs a.data.toList && Fm.sgs b.data.toList) by
          unfold Fm.fits
          rw [show (m == 2) = false by simpa using h3]
          simp]
        exact format_m s a b m _ w (Lib.hid hK) (Lib.hid hM) h1 h2 (Lib.hid hc) (by rw [beq_eq_false_iff_ne]; omega) (by omega) (by omega) (Lib.hid rfl)
    · have HE := Lib.hid (show false = Fm.fmt s.data.toList by unfold Fm.fmt; rw [hz]; simp [h2])
      have h2' : 32 < s.size := by omega
      clear hz h2
      go_enter Tryd.func20, Tryd.ntmps20
      go_wp2_with fail
      go_ret
      exact ⟨ret_bool HE.out, Below.refl _ _⟩
  · have HE := Lib.hid (show false = Fm.fmt s.data.toList by unfold Fm.fmt; rw [hz]; simp [h1])
    have h1' : s.size < 1 := by omega
    clear hz h1
    go_enter Tryd.func20, Tryd.ntmps20
    go_wp2_with fail
    go_ret
    exact ⟨ret_bool HE.out, Below.refl _ _⟩
theorem format_is (s : ByteArray) (v : Bool) (w : World) (hK : Marks w) (hM : Mxa w) (h : Fm.fmt s.data.toList = v) :
    Calls Tryd.prog 20 #[.string s] w fun e w' => e = .returned (.bool v) ∧ Below w.heap.size w w' := by
  subst h
  exact format_any s w hK hM
theorem fcheck_yes (s : ByteArray) (w : World) (hK : Marks w) (hM : Mxa w) (h : Fm.fmt s.data.toList = true) : Calls Tryd.prog 9 #[.string s] w fun e w' => e = .returned (.int .i64 0) ∧ Below w.heap.size w w' := by
  have H := Lib.hid (format_is s true w hK hM h)
  clear h hK hM
  go_enter Tryd.func9, Tryd.ntmps9
  go_wp2_with fail
  refine (H.out).mono ?_
  rintro e w1 ⟨rfl, b1⟩
  go_wp2_with fail
  go_ret
  exact ⟨rfl, b1⟩
theorem fcheck_no (s : ByteArray) (w : World) (hK : Marks w) (hM : Mxa w) (h : Fm.fmt s.data.toList = false) : Calls Tryd.prog 9 #[.string s] w fun e w' => e = .returned (.int .i64 2) ∧ Below w.heap.size w w' := by
  have H := Lib.hid (format_is s false w hK hM h)
  clear h hK hM
  go_enter Tryd.func9, Tryd.ntmps9
  go_wp2_with fail
  refine (H.out).mono ?_
  rintro e w1 ⟨rfl, b1⟩
  go_wp2_with fail
  go_ret
  exact ⟨rfl, b1⟩
end Go.Proofs.YtgcgmmdfmcapiaaDoor
