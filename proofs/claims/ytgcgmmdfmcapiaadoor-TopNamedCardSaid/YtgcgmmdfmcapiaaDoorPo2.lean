/- Contracts of package abbr: readUnits of any text, read, ParseOffset; an offset is read from its text. -/
import Derived.Test.YtgcgmmdfmcapiaaDoorPo
namespace Go.Proofs.YtgcgmmdfmcapiaaDoor
open Go.RowKit
namespace Fm
theorem ru_odd : ∀ (us : List Int) (l : List UInt8), l.length % 2 = 1 → ru us l = none
  | _, [], h => by simp at h
  | [], [_], _ => rfl
  | _ :: _, [_], _ => rfl
  | [], _ :: _ :: _, _ => rfl
  | u :: us, c :: d :: l, h => by
    have h' : l.length % 2 = 1 := by simp only [List.length_cons] at h; omega
    unfold ru
    rw [ru_odd us l h']
    split <;> rfl
theorem ru_long : ∀ (us : List Int) (l : List UInt8), 2 * us.length < l.length → ru us l = none
  | _, [], h => by simp at h
  | [], [_], _ => rfl
  | _ :: _, [_], _ => rfl
  | [], _ :: _ :: _, _ => rfl
  | u :: us, c :: d :: l, h => by
    have h' : 2 * us.length < l.length := by simp only [List.length_cons] at h; omega
    unfold ru
    rw [ru_long us l h']
    split <;> rfl
theorem ru2 (u : Int) (us : List Int) (c d : UInt8) (l : List UInt8) : ru (u :: us) (c :: d :: l) = if isd c && isd d then (ru us l).map fun x => u * dg c d + x else none := rfl
theorem ru0 (us : List Int) : ru us [] = some 0 := by cases us <;> rfl
end Fm
theorem list2 {l : List UInt8} (h : l.length = 2) : ∃ a b, l = [a, b] := by
  match l, h with
  | [a, b], _ => exact ⟨a, b, rfl⟩
theorem list4 {l : List UInt8} (h : l.length = 4) : ∃ a b c d, l = [a, b, c, d] := by
  match l, h with
  | [a, b, c, d], _ => exact ⟨a, b, c, d, rfl⟩
theorem list6 {l : List UInt8} (h : l.length = 6) : ∃ a b c d e f, l = [a, b, c, d, e, f] := by
  match l, h with
  | [a, b, c, d, e, f], _ => exact ⟨a, b, c, d, e, f, rfl⟩
theorem of_list {S : ByteArray} {l : List UInt8} (h : S.data.toList = l) : S = ⟨l.toArray⟩ := ByteArray.ext (Array.toList_inj.1 (by rw [h]))
theorem ruR_none {r : Option Int} (h : r = none) : RuR r (.returned (.tuple #[.int .i64 0, .bool false])) := by subst h; exact rfl
theorem ruR_some {r : Option Int} {v : Int} (h : r = some v) : RuR r (.returned (.tuple #[.int .i64 v, .bool true])) := by subst h; exact rfl
theorem units_any (S : ByteArray) (w : World) (hU : Units w) (hs : S.size ≤ 4294967296) : Calls Tryd.prog 35 #[.string S] w fun e w' => RuR (Fm.ru [3600, 60, 1] S.data.toList) e ∧ Below w.heap.size w w' := by
  have hz : S.data.toList.length = S.size := by simp
  by_cases ho : S.size % 2 = 1
  · have HE := Lib.hid (ruR_none (Fm.ru_odd [3600, 60, 1] S.data.toList (by omega)))
    have t1 : ((S.size : Int) % 2 != 0) = true := by rw [bne_iff_ne]; omega
    clear hz ho
    go_enter Tryd.func35, Tryd.ntmps35
    go_wp2_with fail
    go_ret2
    exact ⟨HE.out, Below.refl _ _⟩
  · by_cases hl : 6 < S.size
    · have HE := Lib.hid (ruR_none (Fm.ru_long [3600, 60, 1] S.data.toList (by simp; omega)))
      have t1 : ((S.size : Int) % 2 != 0) = false := by rw [bne_eq_false_iff_eq]; omega
      clear hz ho
      go_enter Tryd.func35, Tryd.ntmps35
      go_wp2_with fail
      go_ret2
      exact ⟨HE.out, Below.refl _ _⟩
    · have hk : S.size = 0 ∨ S.size = 2 ∨ S.size = 4 ∨ S.size = 6 := by omega
      rcases hk with h | h | h | h
      · have hl0 : S.data.toList = [] := List.eq_nil_of_length_eq_zero (by omega)
        obtain rfl := of_list hl0
        exact (units_0_0 w hU).mono fun _ _ ⟨he, hb⟩ => ⟨by rw [he]; exact ruR_some rfl, hb⟩
      · obtain ⟨c0, c1, hl0⟩ := list2 (hz.trans h)
        obtain rfl := of_list hl0
        clear hl0 hz h hs ho hl
        show Calls Tryd.prog 35 _ w fun e w' => RuR (Fm.ru [3600, 60, 1] [c0, c1]) e ∧ Below w.heap.size w w'
        cases h0 : Fm.isd c0 with
        | false => exact (units_1_0 c0 c1 w hU h0).mono fun _ _ ⟨he, hb⟩ => ⟨by rw [he]; exact ruR_none (by rw [Fm.ru2, h0]; rfl), hb⟩
        | true =>
          cases h1 : Fm.isd c1 with
          | false => exact (units_1_1 c0 c1 w hU h0 h1).mono fun _ _ ⟨he, hb⟩ => ⟨by rw [he]; exact ruR_none (by rw [Fm.ru2, h0, h1]; rfl), hb⟩
          | true => exact (units_1_2 c0 c1 w hU h0 h1).mono fun _ _ ⟨he, hb⟩ => ⟨by rw [he]; exact ruR_some (by rw [Fm.ru2, h0, h1, Fm.ru0]; simp [Fm.dg]), hb⟩
      · obtain ⟨c0, c1, c2, c3, hl0⟩ := list4 (hz.trans h)
        obtain rfl := of_list hl0
        clear hl0 hz h hs ho hl
        show Calls Tryd.prog 35 _ w fun e w' => RuR (Fm.ru [3600, 60, 1] [c0, c1, c2, c3]) e ∧ Below w.heap.size w w'
        cases h0 : Fm.isd c0 with
        | false => exact (units_2_0 c0 c1 c2 c3 w hU h0).mono fun _ _ ⟨he, hb⟩ => ⟨by rw [he]; exact ruR_none (by rw [Fm.ru2, h0]; rfl), hb⟩
        | true =>
          cases h1 : Fm.isd c1 with
          | false => exact (units_2_1 c0 c1 c2 c3 w hU h0 h1).mono fun _ _ ⟨he, hb⟩ => ⟨by rw [he]; exact ruR_none (by rw [Fm.ru2, h0, h1]; rfl), hb⟩
          | true =>
            cases h2 : Fm.isd c2 with
            | false => exact (units_2_2 c0 c1 c2 c3 w hU h0 h1 h2).mono fun _ _ ⟨he, hb⟩ => ⟨by rw [he]; exact ruR_none (by rw [Fm.ru2, h0, h1, Fm.ru2, h2]; rfl), hb⟩
            | true =>
              cases h3 : Fm.isd c3 with
              | false => exact (units_2_3 c0 c1 c2 c3 w hU h0 h1 h2 h3).mono fun _ _ ⟨he, hb⟩ => ⟨by rw [he]; exact ruR_none (by rw [Fm.ru2, h0, h1, Fm.ru2, h2, h3]; rfl), hb⟩
              | true => exact (units_2_4 c0 c1 c2 c3 w hU h0 h1 h2 h3).mono fun _ _ ⟨he, hb⟩ => ⟨by rw [he]; exact ruR_some (by rw [Fm.ru2, h0, h1, Fm.ru2, h2, h3, Fm.ru0]; simp [Fm.dg]), hb⟩
      · obtain ⟨c0, c1, c2, c3, c4, c5, hl0⟩ := list6 (hz.trans h)
        obtain rfl := of_list hl0
        clear hl0 hz h hs ho hl
        show Calls Tryd.prog 35 _ w fun e w' => RuR (Fm.ru [3600, 60, 1] [c0, c1, c2, c3, c4, c5]) e ∧ Below w.heap.size w w'
        cases h0 : Fm.isd c0 with
        | false => exact (units_3_0 c0 c1 c2 c3 c4 c5 w hU h0).mono fun _ _ ⟨he, hb⟩ => ⟨by rw [he]; exact ruR_none (by rw [Fm.ru2, h0]; rfl), hb⟩
        | true =>
          cases h1 : Fm.isd c1 with
          | false => exact (units_3_1 c0 c1 c2 c3 c4 c5 w hU h0 h1).mono fun _ _ ⟨he, hb⟩ => ⟨by rw [he]; exact ruR_none (by rw [Fm.ru2, h0, h1]; rfl), hb⟩
          | true =>
            cases h2 : Fm.isd c2 with
            | false => exact (units_3_2 c0 c1 c2 c3 c4 c5 w hU h0 h1 h2).mono fun _ _ ⟨he, hb⟩ => ⟨by rw [he]; exact ruR_none (by rw [Fm.ru2, h0, h1, Fm.ru2, h2]; rfl), hb⟩
            | true =>
              cases h3 : Fm.isd c3 with
              | false => exact (units_3_3 c0 c1 c2 c3 c4 c5 w hU h0 h1 h2 h3).mono fun _ _ ⟨he, hb⟩ => ⟨by rw [he]; exact ruR_none (by rw [Fm.ru2, h0, h1, Fm.ru2, h2, h3]; rfl), hb⟩
              | true =>
                cases h4 : Fm.isd c4 with
                | false => exact (units_3_4 c0 c1 c2 c3 c4 c5 w hU h0 h1 h2 h3 h4).mono fun _ _ ⟨he, hb⟩ => ⟨by rw [he]; exact ruR_none (by rw [Fm.ru2, h0, h1, Fm.ru2, h2, h3, Fm.ru2, h4]; rfl), hb⟩
                | true =>
                  cases h5 : Fm.isd c5 with
                  | false => exact (units_3_5 c0 c1 c2 c3 c4 c5 w hU h0 h1 h2 h3 h4 h5).mono fun _ _ ⟨he, hb⟩ => ⟨by rw [he]; exact ruR_none (by rw [Fm.ru2, h0, h1, Fm.ru2, h2, h3, Fm.ru2, h4, h5]; rfl), hb⟩
                  | true => exact (units_3_6 c0 c1 c2 c3 c4 c5 w hU h0 h1 h2 h3 h4 h5).mono fun _ _ ⟨he, hb⟩ => ⟨by rw [he]; exact ruR_some (by rw [Fm.ru2, h0, h1, Fm.ru2, h2, h3, Fm.ru2, h4, h5, Fm.ru0]; simp [Fm.dg]; omega), hb⟩
theorem ru_bd : ∀ {us : List Int} {l : List UInt8} {v : Int}, (∀ u ∈ us, 0 ≤ u ∧ u ≤ 3600) → Fm.ru us l = some v → 0 ≤ v ∧ v ≤ 400000 * us.length
  | us, [], v, _, h => by
    rw [Fm.ru0] at h
    injection h with h
    omega
  | [], [_], v, _, h => by cases h
  | _ :: _, [_], v, _, h => by cases h
  | [], _ :: _ :: _, v, _, h => by cases h
  | u :: us, c :: d :: l, v, hu, h => by
    rw [Fm.ru2] at h
    split at h
    · rename_i hcd
      rw [Bool.and_eq_true] at hcd
      obtain ⟨x, hx, rfl⟩ := Option.map_eq_some_iff.1 h
      have ih := ru_bd (fun y hy => hu y (List.mem_cons_of_mem _ hy)) hx
      have h1 := isd_bd hcd.1
      have h2 := isd_bd hcd.2
      have hu0 := hu u (List.mem_cons_self ..)
      have hd0 : 0 ≤ Fm.dg c d := by unfold Fm.dg; omega
      have hd1 : Fm.dg c d ≤ 99 := by unfold Fm.dg; omega
      have m0 : 0 ≤ u * Fm.dg c d := Int.mul_nonneg hu0.1 hd0
      have m1 : u * Fm.dg c d ≤ 3600 * 99 := Int.mul_le_mul hu0.2 hd1 hd0 (by omega)
      have e : ((u :: us).length : Int) = (us.length : Int) + 1 := by simp
      omega
    · cases h
/-- What read answers. -/
theorem read_any (s : ByteArray) (w : World) (hU : Units w) (hs : s.size ≤ 4294967296) : Calls Tryd.prog 19 #[.string s] w fun e w' => RuR (Fm.rd s.data.toList) e ∧ Below w.heap.size w w' := by
  have hz : s.data.toList.length = s.size := by simp
  by_cases h0 : s.size = 0
  · have hl0 : s.data.toList = [] := List.eq_nil_of_length_eq_zero (by omega)
    obtain rfl := of_list hl0
    clear hl0 hz h0 hU
    go_enter Tryd.func19, Tryd.ntmps19
    go_wp2_with fail
    go_ret2
    exact ⟨rfl, Below.refl _ _⟩
  · have hp : 0 < s.size := by omega
    have ne : s.toList.isEmpty = false := ne_empty (by intro h; rw [h] at hz; simp at hz; omega)
    have i0 := aidx s .i64 0 hp
    have i0 : ∀ W : World, (Instr.index 9 (.string s) (.int .i64 0)).run Tryd.prog W = .ok (.int .u8 (s[0].toNat : Int)) W := i0
    have hd : s.data.toList = s[0] :: (s.extract 1 s.size).data.toList := by
      rw [Lib.extract_to_end]
      have h1 := List.drop_eq_getElem_cons (l := s.data.toList) (i := 0) (by omega)
      have h2 : s.data.toList = s.data[0] :: s.data.toList.tail := by simpa using h1
      rw [List.drop_one]
      exact h2
    have hxs : (s.extract 1 s.size).size ≤ 4294967296 := by simp; omega
    obtain ⟨T, hT⟩ : ∃ T, s.extract 1 s.size = T := ⟨_, rfl⟩
    obtain ⟨c, hc⟩ : ∃ c, s[0] = c := ⟨_, rfl⟩
    rw [hT] at hd hxs
    rw [hc] at hd i0
    have hu := units_any T w hU hxs
    by_cases c1 : c = 43
    · subst c1
      rw [hd, show Fm.rd (43 :: T.data.toList) = Fm.ru [3600, 60, 1] T.data.toList from rfl]
      cases hr : Fm.ru [3600, 60, 1] T.data.toList with
      | none =>
        rw [hr] at hu
        have HU := Lib.hid hu
        have HE := Lib.hid (ruR_none (rfl : (none : Option Int) = none))
        clear hr hu hd hc hz
        go_enter Tryd.func19, Tryd.ntmps19
        go_wp2_with fail
        refine (HU.out).mono ?_
        rintro e w1 ⟨rfl, b1⟩
        go_wp2_with fail
        go_ret2
        exact ⟨HE.out, b1⟩
      | some v =>
        rw [hr] at hu
        have HU := Lib.hid hu
        have HE := Lib.hid (ruR_some (rfl : some v = some v))
        clear hr hu hd hc hz
        go_enter Tryd.func19, Tryd.ntmps19
        go_wp2_with fail
        refine (HU.out).mono ?_
        rintro e w1 ⟨rfl, b1⟩
        go_wp2_with fail
        go_ret2
        exact ⟨HE.out, b1⟩
    · by_cases c2 : c = 45
      · subst c2
        rw [hd, show Fm.rd (45 :: T.data.toList) = (Fm.ru [3600, 60, 1] T.data.toList).map fun x => -x from rfl]
        cases hr : Fm.ru [3600, 60, 1] T.data.toList with
        | none =>
          rw [hr] at hu
          have HU := Lib.hid hu
          have HE := Lib.hid (ruR_none (rfl : (none : Option Int).map (fun x => -x) = none))
          clear hr hu hd hc hz
          go_enter Tryd.func19, Tryd.ntmps19
          go_wp2_with fail
          refine (HU.out).mono ?_
          rintro e w1 ⟨rfl, b1⟩
          go_wp2_with fail
          go_ret2
          exact ⟨HE.out, b1⟩
        | some v =>
          have hb := ru_bd (by decide) hr
          have hv1 : v ≤ 1200000 := by have := hb.2; simp at this; omega
          have hv0 := hb.1
          rw [hr] at hu
          have HU := Lib.hid hu
          have HE := Lib.hid (ruR_some (rfl : (some v).map (fun x => -x) = some (-v)))
          clear hr hu hd hc hz hb
          go_enter Tryd.func19, Tryd.ntmps19
          go_wp2_with fail
          refine (HU.out).mono ?_
          rintro e w1 ⟨rfl, b1⟩
          go_wp2_with fail
          go_ret2
          exact ⟨HE.out, b1⟩
      · have HE := Lib.hid (ruR_none (show Fm.rd (c :: T.data.toList) = none by show (if c = 43 then Fm.ru [3600, 60, 1] T.data.toList else if c = 45 then (Fm.ru [3600, 60, 1] T.data.toList).map (fun x => -x) else none) = none; rw [if_neg c1, if_neg c2]))
        have e1 : ¬ c.toNat = 43 := fun h => c1 (UInt8.toNat_inj.1 h)
        have e2 : ¬ c.toNat = 45 := fun h => c2 (UInt8.toNat_inj.1 h)
        have t1 : ((c.toNat : Int) != 43) = true := by rw [bne_iff_ne]; omega
        have t2 : ((c.toNat : Int) != 45) = true := by rw [bne_iff_ne]; omega
        rw [hd]
        clear hd hc hz c1 c2 e1 e2 hu hU
        go_enter Tryd.func19, Tryd.ntmps19
        go_wp2_with fail
        go_ret2
        exact ⟨HE.out, Below.refl _ _⟩
theorem read_some {s : ByteArray} {v : Int} {w : World} (hU : Units w) (hs : s.size ≤ 4294967296) (h : Fm.rd s.data.toList = some v) : Calls Tryd.prog 19 #[.string s] w fun e w' => e = .returned (.tuple #[.int .i64 v, .bool true]) ∧ Below w.heap.size w w' := by
  have := read_any s w hU hs
  rw [h] at this
  exact this
theorem read_none {s : ByteArray} {w : World} (hU : Units w) (hs : s.size ≤ 4294967296) (h : Fm.rd s.data.toList = none) : Calls Tryd.prog 19 #[.string s] w fun e w' => e = .returned (.tuple #[.int .i64 0, .bool false]) ∧ Below w.heap.size w w' := by
  have := read_any s w hU hs
  rw [h] at this
  exact this
/-- What ParseOffset answers. -/
def PoR (r : Option Int) (e : Ending) : Prop := match r with
  | some v => e = .returned (.tuple #[.int .i64 v, .int .i64 0])
  | none => e = .returned (.tuple #[.int .i64 0, .int .i64 4])
theorem po_any (s : ByteArray) (w : World) (hU : Units w) (hs : s.size ≤ 4294967296) : Calls Tryd.prog 8 #[.string s] w fun e w' => PoR (Fm.po s.data.toList) e ∧ Below w.heap.size w w' := by
  have HU := Lib.hid hU
  clear hU
  cases hr : Fm.rd s.data.toList with
  | none =>
    have HE := Lib.hid (show PoR (Fm.po s.data.toList) (.returned (.tuple #[.int .i64 0, .int .i64 4])) by unfold Fm.po; rw [hr]; exact rfl)
    have HR := Lib.hid hr
    clear hr
    go_enter Tryd.func8, Tryd.ntmps8
    go_wp2_with fail
    refine (read_none HU.out hs HR.out).mono ?_
    rintro e w1 ⟨rfl, b1⟩
    go_wp2_with fail
    go_ret2
    exact ⟨HE.out, b1⟩
  | some v =>
    by_cases hv : -360000 < v ∧ v < 360000
    · obtain ⟨X, hX⟩ : ∃ X : ByteArray, X.data.toList = offT v := ⟨⟨(offT v).toArray⟩, by simp⟩
      by_cases he : offT v = s.data.toList
      · have HE := Lib.hid (show PoR (Fm.po s.data.toList) (.returned (.tuple #[.int .i64 v, .int .i64 0])) by unfold Fm.po; rw [hr]; simp only [if_pos (And.intro hv.1 (And.intro hv.2 he))]; exact rfl)
        have HR := Lib.hid hr
        have HX := Lib.hid hX
        obtain ⟨v1, v2⟩ := hv
        have hxs : X = s := ByteArray.ext (Array.toList_inj.1 (by rw [hX, he]))
        subst hxs
        clear hr he hX
        go_enter Tryd.func8, Tryd.ntmps8
        go_wp2_with fail
        refine (read_some HU.out hs HR.out).mono ?_
        rintro e w1 ⟨rfl, b1⟩
        go_wp2_with fail
        refine (offset_at v X _ (HU.out.below b1) v1 v2 HX.out).mono ?_
        rintro e w2 ⟨rfl, b2⟩
        go_wp2_with fail
        go_ret2
        exact ⟨HE.out, b1.trans (b2.mono b1.size)⟩
      · have HE := Lib.hid (show PoR (Fm.po s.data.toList) (.returned (.tuple #[.int .i64 0, .int .i64 4])) by unfold Fm.po; rw [hr]; simp only [if_neg (fun h : -360000 < v ∧ v < 360000 ∧ offT v = s.data.toList => he h.2.2)]; exact rfl)
        have HR := Lib.hid hr
        have HX := Lib.hid hX
        obtain ⟨v1, v2⟩ := hv
        have t1 : (X.toList == s.toList) = false := by rw [ByteArray.toList_eq, ByteArray.toList_eq, beq_eq_false_iff_ne, hX]; exact he
        clear hr he hX
        go_enter Tryd.func8, Tryd.ntmps8
        go_wp2_with fail
        refine (read_some HU.out hs HR.out).mono ?_
        rintro e w1 ⟨rfl, b1⟩
        go_wp2_with fail
        refine (offset_at v X _ (HU.out.below b1) v1 v2 HX.out).mono ?_
        rintro e w2 ⟨rfl, b2⟩
        go_wp2_with fail
        go_ret2
        exact ⟨HE.out, b1.trans (b2.mono b1.size)⟩
    · have HE := Lib.hid (show PoR (Fm.po s.data.toList) (.returned (.tuple #[.int .i64 0, .int .i64 4])) by unfold Fm.po; rw [hr]; simp only [if_neg (fun h : -360000 < v ∧ v < 360000 ∧ offT v = s.data.toList => hv ⟨h.1, h.2.1⟩)]; exact rfl)
      have HR := Lib.hid hr
      have HV := Lib.hid (show v ≤ -360000 ∨ 360000 ≤ v by omega)
      clear hr hv
      go_enter Tryd.func8, Tryd.ntmps8
      go_wp2_with fail
      refine (read_some HU.out hs HR.out).mono ?_
      rintro e w1 ⟨rfl, b1⟩
      go_wp2_with fail
      refine (offset_no v _ HV.out).mono ?_
      rintro e w' ⟨rfl, rfl⟩
      go_wp2_with fail
      go_ret2
      exact ⟨HE.out, b1⟩
theorem dd_isd (n : Int) (h0 : 0 ≤ n) (h1 : n < 100) : Fm.isd (UInt8.ofNat (48 + n.toNat / 10)) = true ∧ Fm.isd (UInt8.ofNat (48 + n.toNat % 10)) = true ∧ Fm.dg (UInt8.ofNat (48 + n.toNat / 10)) (UInt8.ofNat (48 + n.toNat % 10)) = n := by
  have e1 : (UInt8.ofNat (48 + n.toNat / 10)).toNat = 48 + n.toNat / 10 := by rw [UInt8.toNat_ofNat']; omega
  have e2 : (UInt8.ofNat (48 + n.toNat % 10)).toNat = 48 + n.toNat % 10 := by rw [UInt8.toNat_ofNat']; omega
  refine ⟨?_, ?_, ?_⟩
  · unfold Fm.isd
    rw [e1, decide_eq_true_eq]
    omega
  · unfold Fm.isd
    rw [e2, decide_eq_true_eq]
    omega
  · unfold Fm.dg
    rw [e1, e2]
    omega
theorem dd_ru (u : Int) (us : List Int) (n : Int) (l : List UInt8) (h0 : 0 ≤ n) (h1 : n < 100) : Fm.ru (u :: us) (dd n ++ l) = (Fm.ru us l).map fun x => u * n + x := by
  obtain ⟨d1, d2, d3⟩ := dd_isd n h0 h1
  show Fm.ru (u :: us) (UInt8.ofNat (48 + n.toNat / 10) :: UInt8.ofNat (48 + n.toNat % 10) :: l) = _
  rw [Fm.ru2, d1, d2, d3]
  rfl
theorem ru_off0 (t : Int) (h0 : 0 ≤ t) (h1 : t < 360000) : Fm.ru [3600, 60, 1] (off0 t) = some t := by
  unfold off0
  rw [dd_ru _ _ _ _ (by omega) (by omega)]
  by_cases h2 : t % 3600 = 0
  · rw [if_pos h2, Fm.ru0]
    show some (3600 * (t / 3600) + 0) = some t
    congr 1
    omega
  · rw [if_neg h2, dd_ru _ _ _ _ (by omega) (by omega)]
    by_cases h3 : t % 60 = 0
    · rw [if_pos h3, Fm.ru0]
      show some (3600 * (t / 3600) + (60 * (t % 3600 / 60) + 0)) = some t
      congr 1
      omega
    · rw [if_neg h3]
      have e := dd_ru 1 [] (t % 60) [] (by omega) (by omega)
      rw [List.append_nil] at e
      rw [e, Fm.ru0]
      show some (3600 * (t / 3600) + (60 * (t % 3600 / 60) + (1 * (t % 60) + 0))) = some t
      congr 1
      omega
theorem rd_offT (t : Int) (h0 : -360000 < t) (h1 : t < 360000) : Fm.rd (offT t) = some t := by
  unfold offT
  by_cases h : t < 0
  · rw [if_pos h]
    show (Fm.ru [3600, 60, 1] (off0 (-t))).map (fun x => -x) = some t
    rw [ru_off0 (-t) (by omega) (by omega)]
    show some (- -t) = some t
    rw [Int.neg_neg]
  · rw [if_neg h]
    exact ru_off0 t (by omega) h1
theorem po_offT (t : Int) (h0 : -360000 < t) (h1 : t < 360000) : Fm.po (offT t) = some t := by
  unfold Fm.po
  rw [rd_offT t h0 h1]
  simp [h0, h1]
theorem po_text {s : List UInt8} {v : Int} (h : Fm.po s = some v) : -360000 < v ∧ v < 360000 ∧ offT v = s := by
  unfold Fm.po at h
  cases hr : Fm.rd s with
  | none => rw [hr] at h; cases h
  | some x =>
    rw [hr] at h
    by_cases hc : -360000 < x ∧ x < 360000 ∧ offT x = s
    · simp only [if_pos hc] at h
      injection h with h
      subst h
      exact hc
    · simp only [if_neg hc] at h
      cases h
theorem offT_inj {a b : Int} (a1 : -360000 < a) (a2 : a < 360000) (b1 : -360000 < b) (b2 : b < 360000) (h : offT a = offT b) : a = b := by
  have e := po_offT a a1 a2
  rw [h, po_offT b b1 b2] at e
  injection e with e
  exact e.symm
/-- An offset's text has signs alone. -/
theorem dd_sgs (n : Int) (h0 : 0 ≤ n) (h1 : n < 100) : Fm.sgs (dd n) = true := by
  have e1 : (UInt8.ofNat (48 + n.toNat / 10)).toNat = 48 + n.toNat / 10 := by rw [UInt8.toNat_ofNat']; omega
  have e2 : (UInt8.ofNat (48 + n.toNat % 10)).toNat = 48 + n.toNat % 10 := by rw [UInt8.toNat_ofNat']; omega
  show (Fm.sg (UInt8.ofNat (48 + n.toNat / 10)) && (Fm.sg (UInt8.ofNat (48 + n.toNat % 10)) && true)) = true
  have s1 : Fm.sg (UInt8.ofNat (48 + n.toNat / 10)) = true := by
    unfold Fm.sg
    rw [e1, decide_eq_true_eq]
    omega
  have s2 : Fm.sg (UInt8.ofNat (48 + n.toNat % 10)) = true := by
    unfold Fm.sg
    rw [e2, decide_eq_true_eq]
    omega
  rw [s1, s2]
  rfl
theorem sgs_app (a b : List UInt8) : Fm.sgs (a ++ b) = (Fm.sgs a && Fm.sgs b) := by simp [Fm.sgs]
theorem off0_sgs (t : Int) (h0 : 0 ≤ t) (h1 : t < 360000) : Fm.sgs (off0 t) = true := by
  unfold off0
  rw [sgs_app, dd_sgs _ (by omega) (by omega)]
  by_cases h2 : t % 3600 = 0
  · rw [if_pos h2]
    rfl
  · rw [if_neg h2, sgs_app, dd_sgs _ (by omega) (by omega)]
    by_cases h3 : t % 60 = 0
    · rw [if_pos h3]
      rfl
    · rw [if_neg h3, dd_sgs _ (by omega) (by omega)]
      rfl
theorem offT_sgs (t : Int) (h0 : -360000 < t) (h1 : t < 360000) : Fm.sgs (offT t) = true := by
  unfold offT
  by_cases h : t < 0
  · rw [if_pos h]
    show (Fm.sg 45 && Fm.sgs (off0 (-t))) = true
    rw [off0_sgs _ (by omega) (by omega)]
    rfl
  · rw [if_neg h]
    show (Fm.sg 43 && Fm.sgs (off0 t)) = true
    rw [off0_sgs _ (by omega) (by omega)]
    rfl
theorem offT_ltr (t : Int) (h0 : -360000 < t) (h1 : t < 360000) : Fm.ltr (offT t) = true := by
  have hl := offT_len t
  unfold Fm.ltr
  rw [offT_sgs t h0 h1, show decide ((offT t).length ≤ 32) = true by simp; omega]
  have : offT t ≠ [45] := fun h => by rw [h] at hl; simp at hl
  simp [this]
theorem offT_fmt (t : Int) (h0 : -360000 < t) (h1 : t < 360000) : Fm.fmt (offT t) = true := by
  have hl := offT_len t
  exact Fm.fmt_signs (offT_sgs t h0 h1) (by omega) (by omega)
end Go.Proofs.YtgcgmmdfmcapiaaDoor
