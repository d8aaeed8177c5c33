/- The contract of clock.Parse, second part: all pieces together. -/
import Derived.Test.YtgcgmmdfmcapiaaGreatDoorParse
namespace Go.Proofs.YtgcgmmdfmcapiaaGreatDoor
open Go.RowKit
theorem read_some (s : ByteArray) (vs : List Int) (w : World) (hE : Env w) (hs : s.size ≤ 4096) (hG : Hid (Txt.G 0 [] s.data.toList = some vs)) :
    Calls Tryz.prog 54 #[.string s] w fun e w' => e = .returned (.tuple #[.agg #[.int .i64 (vs.getD 0 0), .int .i64 (vs.getD 1 0), .int .i64 (vs.getD 2 0)], .bool true]) ∧ Below w.heap.size w w' := by
  have hQ := pieces_Q s
  rw [hG.out] at hQ
  have hn := pieces_len s
  match hp : pieces s with
  | [] => rw [hp] at hn; simp at hn
  | [p0] =>
    rw [hp] at hQ
    simp only [List.map_cons, List.map_nil, Txt.Q] at hQ
    cases h0 : Txt.piece 0 p0.data.toList with
    | none => rw [h0] at hQ; cases hQ
    | some v0 =>
      rw [h0] at hQ
      injection hQ with hQ
      subst hQ
      exact read_1_yes s p0 v0 w hE hs hp h0
  | [p0, p1] =>
    rw [hp] at hQ
    simp only [List.map_cons, List.map_nil, Txt.Q] at hQ
    cases h0 : Txt.piece 0 p0.data.toList with
    | none => rw [h0] at hQ; cases hQ
    | some v0 =>
      cases h1 : Txt.piece (0 + 1) p1.data.toList with
      | none => rw [h0, h1] at hQ; cases hQ
      | some v1 =>
        rw [h0, h1] at hQ
        injection hQ with hQ
        subst hQ
        exact read_2_yes s p0 p1 v0 v1 w hE hs hp h0 h1
  | [p0, p1, p2] =>
    rw [hp] at hQ
    simp only [List.map_cons, List.map_nil, Txt.Q] at hQ
    cases h0 : Txt.piece 0 p0.data.toList with
    | none => rw [h0] at hQ; cases hQ
    | some v0 =>
      cases h1 : Txt.piece (0 + 1) p1.data.toList with
      | none => rw [h0, h1] at hQ; cases hQ
      | some v1 =>
        cases h2 : Txt.piece (0 + 1 + 1) p2.data.toList with
        | none => rw [h0, h1, h2] at hQ; cases hQ
        | some v2 =>
          rw [h0, h1, h2] at hQ
          injection hQ with hQ
          subst hQ
          exact read_3_yes s p0 p1 p2 v0 v1 v2 w hE hs hp h0 h1 h2
  | _ :: _ :: _ :: _ :: _ => rw [hp] at hn; simp at hn
theorem read_none (s : ByteArray) (w : World) (hE : Env w) (hs : s.size ≤ 4096) (hG : Hid (Txt.G 0 [] s.data.toList = none)) :
    ∃ a b c : Int, Calls Tryz.prog 54 #[.string s] w fun e w' => e = .returned (.tuple #[.agg #[.int .i64 a, .int .i64 b, .int .i64 c], .bool false]) ∧ Below w.heap.size w w' := by
  have hQ := pieces_Q s
  rw [hG.out] at hQ
  have hn := pieces_len s
  match hp : pieces s with
  | [] => rw [hp] at hn; simp at hn
  | [p0] =>
    rw [hp] at hQ
    simp only [List.map_cons, List.map_nil, Txt.Q] at hQ
    cases h0 : Txt.piece 0 p0.data.toList with
    | none => exact ⟨_, _, _, read_1_no0 s p0 w hE hs hp h0⟩
    | some v0 => rw [h0] at hQ; cases hQ
  | [p0, p1] =>
    rw [hp] at hQ
    simp only [List.map_cons, List.map_nil, Txt.Q] at hQ
    cases h0 : Txt.piece 0 p0.data.toList with
    | none => exact ⟨_, _, _, read_2_no0 s p0 p1 w hE hs hp h0⟩
    | some v0 =>
      cases h1 : Txt.piece (0 + 1) p1.data.toList with
      | none => exact ⟨_, _, _, read_2_no1 s p0 p1 v0 w hE hs hp h0 h1⟩
      | some v1 => rw [h0, h1] at hQ; cases hQ
  | [p0, p1, p2] =>
    rw [hp] at hQ
    simp only [List.map_cons, List.map_nil, Txt.Q] at hQ
    cases h0 : Txt.piece 0 p0.data.toList with
    | none => exact ⟨_, _, _, read_3_no0 s p0 p1 p2 w hE hs hp h0⟩
    | some v0 =>
      cases h1 : Txt.piece (0 + 1) p1.data.toList with
      | none => exact ⟨_, _, _, read_3_no1 s p0 p1 p2 v0 w hE hs hp h0 h1⟩
      | some v1 =>
        cases h2 : Txt.piece (0 + 1 + 1) p2.data.toList with
        | none => exact ⟨_, _, _, read_3_no2 s p0 p1 p2 v0 v1 w hE hs hp h0 h1 h2⟩
        | some v2 => rw [h0, h1, h2] at hQ; cases hQ
  | _ :: _ :: _ :: _ :: _ => rw [hp] at hn; simp at hn
/-- How many seconds the pieces are. -/
def secs (vs : List Int) : Int := vs.getD 0 0 * 3600 + vs.getD 1 0 * 60 + vs.getD 2 0
/-- The time that a text tells, and why not. -/
def parseL (l : List UInt8) : Int × Int :=
  match Txt.G 0 [] (Lib.trimPrefix l [45]) with
  | none => (0, 4)
  | some vs => if -604800 ≤ (if Lib.hasPrefix l [45] then -(secs vs) else secs vs) ∧ (if Lib.hasPrefix l [45] then -(secs vs) else secs vs) ≤ 604800 then ((if Lib.hasPrefix l [45] then -(secs vs) else secs vs), 0) else (0, 1)
theorem G_bd (s : List UInt8) : ∀ (idx : Nat) (p : List UInt8) (vs : List Int), Txt.G idx p s = some vs → ∀ v ∈ vs, 0 ≤ v ∧ v < 1000 := by
  induction s with
  | nil =>
    intro idx p vs h v hv
    unfold Txt.G at h
    cases hp : Txt.piece idx p with
    | none => rw [hp] at h; cases h
    | some x =>
      rw [hp] at h
      cases h
      have := piece_bd idx p x hp
      simp only [List.mem_cons, List.mem_nil_iff, or_false] at hv
      subst hv
      omega
  | cons c r ih =>
    intro idx p vs h v hv
    unfold Txt.G at h
    split at h
    · split at h
      · cases h
      · cases hp : Txt.piece idx p with
        | none => rw [hp] at h; cases h
        | some x =>
          rw [hp] at h
          simp only [Option.bind_some] at h
          cases hg : Txt.G (idx + 1) [] r with
          | none => rw [hg] at h; cases h
          | some ws =>
            rw [hg] at h
            cases h
            rcases List.mem_cons.1 hv with rfl | hv
            · have := piece_bd idx p _ hp
              omega
            · exact ih (idx + 1) [] ws hg v hv
    · exact ih idx _ vs h v hv
theorem getD_bd (vs : List Int) (h : ∀ v ∈ vs, 0 ≤ v ∧ v < 1000) (i : Nat) : 0 ≤ vs.getD i 0 ∧ vs.getD i 0 < 1000 := by
  by_cases hi : i < vs.length
  · rw [List.getD_eq_getElem?_getD, List.getElem?_eq_getElem hi]
    exact h _ (List.getElem_mem hi)
  · rw [List.getD_eq_getElem?_getD, List.getElem?_eq_none (by omega)]
    simp
theorem trim_size (l : List UInt8) : (Lib.trimPrefix l [45]).length ≤ l.length := by
  unfold Lib.trimPrefix
  split
  · simp
  · exact Nat.le_refl _
theorem cparse_none (s : ByteArray) (w : World) (hE : Env w) (hs : s.size ≤ 4096) (hG : Hid (Txt.G 0 [] (Lib.trimPrefix s.data.toList [45]) = none)) :
    Calls Tryz.prog 30 #[.string s] w fun e w' => e = .returned (.tuple #[.int .i64 0, .int .i64 4]) ∧ Below w.heap.size w w' := by
  have ht : (⟨(Lib.trimPrefix s.data.toList [45]).toArray⟩ : ByteArray).size ≤ 4096 := by
    have := trim_size s.data.toList
    rw [← Lib.size_eq] at this
    show (Lib.trimPrefix s.data.toList [45]).toArray.size ≤ 4096
    simp only [List.size_toArray]
    omega
  go_enter Tryz.func30, Tryz.ntmps30
  go_wp2_with fail
  refine (Tryz.strings_CutPrefix s ⟨#[45]⟩ _).mono ?_
  rintro e w' ⟨rfl, rfl⟩
  go_wp2_with fail
  obtain ⟨a, b, c, hr⟩ := read_none ⟨(Lib.trimPrefix s.data.toList [45]).toArray⟩ w' hE ht hG
  refine hr.mono ?_
  rintro e w1 ⟨rfl, hb1⟩
  go_wp2_with fail
  go_ret2
  exact ⟨rfl, hb1.alloc hb1.size _⟩
theorem trim_small (s : ByteArray) (hs : s.size ≤ 4096) : (⟨(Lib.trimPrefix s.data.toList [45]).toArray⟩ : ByteArray).size ≤ 4096 := by
  have := trim_size s.data.toList
  rw [← Lib.size_eq] at this
  show (Lib.trimPrefix s.data.toList [45]).toArray.size ≤ 4096
  simp only [List.size_toArray]
  omega
theorem parse_neg_in (s : ByteArray) (vs : List Int) (w : World) (hE : Env w) (hs : s.size ≤ 4096) (hG : Hid (Txt.G 0 [] (Lib.trimPrefix s.data.toList [45]) = some vs)) (a b c : Int) (ha : Hid (vs.getD 0 0 = a)) (hb : Hid (vs.getD 1 0 = b)) (hc : Hid (vs.getD 2 0 = c))
    (a1 : 0 ≤ a) (a2 : a < 1000) (b1 : 0 ≤ b) (b2 : b < 1000) (c1 : 0 ≤ c) (c2 : c < 1000) (hp : Lib.hasPrefix s.data.toList [45] = true) (x1 : -604800 ≤ -(a * 3600 + b * 60 + c)) (x2 : -(a * 3600 + b * 60 + c) ≤ 604800) :
    Calls Tryz.prog 30 #[.string s] w fun e w' => e = .returned (.tuple #[.int .i64 (-(a * 3600 + b * 60 + c)), .int .i64 0]) ∧ Below w.heap.size w w' := by
  have ht := trim_small s hs
  go_enter Tryz.func30, Tryz.ntmps30
  go_wp2_with fail
  refine (Tryz.strings_CutPrefix s ⟨#[45]⟩ _).mono ?_
  rintro e w' ⟨rfl, rfl⟩
  go_wp2_with fail
  have hr := read_some ⟨(Lib.trimPrefix s.data.toList [45]).toArray⟩ vs w' hE ht hG
  rw [ha.out, hb.out, hc.out] at hr
  refine hr.mono ?_
  rintro e w1 ⟨rfl, hb1⟩
  have hE1 := hE.below hb1
  clear hr
  go_wp2_with fail
  refine (together_any a b c _ (hE1.alloc _) a1 a2 b1 b2 c1 c2).mono ?_
  rintro e w2 ⟨rfl, hb2⟩
  go_wp2_with fail
  refine (isTime_yes (-(a * 3600 + b * 60 + c)) _ x1 x2).mono ?_
  rintro e w' ⟨rfl, rfl⟩
  go_wp2_with fail
  go_ret2
  exact ⟨rfl, (hb1.alloc hb1.size _).trans (hb2.mono (by have := hb1.size; simp; omega))⟩
theorem parse_neg_out (s : ByteArray) (vs : List Int) (w : World) (hE : Env w) (hs : s.size ≤ 4096) (hG : Hid (Txt.G 0 [] (Lib.trimPrefix s.data.toList [45]) = some vs)) (a b c : Int) (ha : Hid (vs.getD 0 0 = a)) (hb : Hid (vs.getD 1 0 = b)) (hc : Hid (vs.getD 2 0 = c))
    (a1 : 0 ≤ a) (a2 : a < 1000) (b1 : 0 ≤ b) (b2 : b < 1000) (c1 : 0 ≤ c) (c2 : c < 1000) (hp : Lib.hasPrefix s.data.toList [45] = true) (hx : Hid (-(a * 3600 + b * 60 + c) < -604800 ∨ 604800 < -(a * 3600 + b * 60 + c))) :
    Calls Tryz.prog 30 #[.string s] w fun e w' => e = .returned (.tuple #[.int .i64 0, .int .i64 1]) ∧ Below w.heap.size w w' := by
  have ht := trim_small s hs
  go_enter Tryz.func30, Tryz.ntmps30
  go_wp2_with fail
  refine (Tryz.strings_CutPrefix s ⟨#[45]⟩ _).mono ?_
  rintro e w' ⟨rfl, rfl⟩
  go_wp2_with fail
  have hr := read_some ⟨(Lib.trimPrefix s.data.toList [45]).toArray⟩ vs w' hE ht hG
  rw [ha.out, hb.out, hc.out] at hr
  refine hr.mono ?_
  rintro e w1 ⟨rfl, hb1⟩
  have hE1 := hE.below hb1
  clear hr
  go_wp2_with fail
  refine (together_any a b c _ (hE1.alloc _) a1 a2 b1 b2 c1 c2).mono ?_
  rintro e w2 ⟨rfl, hb2⟩
  go_wp2_with fail
  refine (isTime_no (-(a * 3600 + b * 60 + c)) _ hx.out).mono ?_
  rintro e w' ⟨rfl, rfl⟩
  go_wp2_with fail
  go_ret2
  exact ⟨rfl, (hb1.alloc hb1.size _).trans (hb2.mono (by have := hb1.size; simp; omega))⟩
theorem parse_pos_in (s : ByteArray) (vs : List Int) (w : World) (hE : Env w) (hs : s.size ≤ 4096) (hG : Hid (Txt.G 0 [] (Lib.trimPrefix s.data.toList [45]) = some vs)) (a b c : Int) (ha : Hid (vs.getD 0 0 = a)) (hb : Hid (vs.getD 1 0 = b)) (hc : Hid (vs.getD 2 0 = c))
    (a1 : 0 ≤ a) (a2 : a < 1000) (b1 : 0 ≤ b) (b2 : b < 1000) (c1 : 0 ≤ c) (c2 : c < 1000) (hp : Lib.hasPrefix s.data.toList [45] = false) (x1 : -604800 ≤ a * 3600 + b * 60 + c) (x2 : a * 3600 + b * 60 + c ≤ 604800) :
    Calls Tryz.prog 30 #[.string s] w fun e w' => e = .returned (.tuple #[.int .i64 (a * 3600 + b * 60 + c), .int .i64 0]) ∧ Below w.heap.size w w' := by
  have ht := trim_small s hs
  go_enter Tryz.func30, Tryz.ntmps30
  go_wp2_with fail
  refine (Tryz.strings_CutPrefix s ⟨#[45]⟩ _).mono ?_
  rintro e w' ⟨rfl, rfl⟩
  go_wp2_with fail
  have hr := read_some ⟨(Lib.trimPrefix s.data.toList [45]).toArray⟩ vs w' hE ht hG
  rw [ha.out, hb.out, hc.out] at hr
  refine hr.mono ?_
  rintro e w1 ⟨rfl, hb1⟩
  have hE1 := hE.below hb1
  clear hr
  go_wp2_with fail
  refine (together_any a b c _ (hE1.alloc _) a1 a2 b1 b2 c1 c2).mono ?_
  rintro e w2 ⟨rfl, hb2⟩
  go_wp2_with fail
  refine (isTime_yes (a * 3600 + b * 60 + c) _ x1 x2).mono ?_
  rintro e w' ⟨rfl, rfl⟩
  go_wp2_with fail
  go_ret2
  exact ⟨rfl, (hb1.alloc hb1.size _).trans (hb2.mono (by have := hb1.size; simp; omega))⟩
theorem parse_pos_out (s : ByteArray) (vs : List Int) (w : World) (hE : Env w) (hs : s.size ≤ 4096) (hG : Hid (Txt.G 0 [] (Lib.trimPrefix s.data.toList [45]) = some vs)) (a b c : Int) (ha : Hid (vs.getD 0 0 = a)) (hb : Hid (vs.getD 1 0 = b)) (hc : Hid (vs.getD 2 0 = c))
    (a1 : 0 ≤ a) (a2 : a < 1000) (b1 : 0 ≤ b) (b2 : b < 1000) (c1 : 0 ≤ c) (c2 : c < 1000) (hp : Lib.hasPrefix s.data.toList [45] = false) (hx : Hid (a * 3600 + b * 60 + c < -604800 ∨ 604800 < a * 3600 + b * 60 + c)) :
    Calls Tryz.prog 30 #[.string s] w fun e w' => e = .returned (.tuple #[.int .i64 0, .int .i64 1]) ∧ Below w.heap.size w w' := by
  have ht := trim_small s hs
  go_enter Tryz.func30, Tryz.ntmps30
  go_wp2_with fail
  refine (Tryz.strings_CutPrefix s ⟨#[45]⟩ _).mono ?_
  rintro e w' ⟨rfl, rfl⟩
  go_wp2_with fail
  have hr := read_some ⟨(Lib.trimPrefix s.data.toList [45]).toArray⟩ vs w' hE ht hG
  rw [ha.out, hb.out, hc.out] at hr
  refine hr.mono ?_
  rintro e w1 ⟨rfl, hb1⟩
  have hE1 := hE.below hb1
  clear hr
  go_wp2_with fail
  refine (together_any a b c _ (hE1.alloc _) a1 a2 b1 b2 c1 c2).mono ?_
  rintro e w2 ⟨rfl, hb2⟩
  go_wp2_with fail
  refine (isTime_no (a * 3600 + b * 60 + c) _ hx.out).mono ?_
  rintro e w' ⟨rfl, rfl⟩
  go_wp2_with fail
  go_ret2
  exact ⟨rfl, (hb1.alloc hb1.size _).trans (hb2.mono (by have := hb1.size; simp; omega))⟩
theorem parse_any (s : ByteArray) (w : World) (hE : Env w) (hs : s.size ≤ 4096) :
    Calls Tryz.prog 30 #[.string s] w fun e w' => e = .returned (.tuple #[.int .i64 (parseL s.data.toList).1, .int .i64 (parseL s.data.toList).2]) ∧ Below w.heap.size w w' := by
  unfold parseL
  cases hG : Txt.G 0 [] (Lib.trimPrefix s.data.toList [45]) with
  | none => exact cparse_none s w hE hs hG
  | some vs =>
    have hb := G_bd _ _ _ _ hG
    have b0 := getD_bd vs hb 0
    have b1 := getD_bd vs hb 1
    have b2 := getD_bd vs hb 2
    simp only [secs]
    by_cases hp : Lib.hasPrefix s.data.toList [45] = true
    · simp only [if_pos hp]
      by_cases hx : -604800 ≤ -(vs.getD 0 0 * 3600 + vs.getD 1 0 * 60 + vs.getD 2 0) ∧ -(vs.getD 0 0 * 3600 + vs.getD 1 0 * 60 + vs.getD 2 0) ≤ 604800
      · rw [if_pos hx]
        exact parse_neg_in s vs w hE hs hG _ _ _ rfl rfl rfl b0.1 b0.2 b1.1 b1.2 b2.1 b2.2 hp hx.1 hx.2
      · rw [if_neg hx]
        exact parse_neg_out s vs w hE hs hG _ _ _ rfl rfl rfl b0.1 b0.2 b1.1 b1.2 b2.1 b2.2 hp (Lib.hid (by omega))
    · simp only [if_neg hp]
      have hp := eq_false_of_ne_true hp
      by_cases hx : -604800 ≤ (vs.getD 0 0 * 3600 + vs.getD 1 0 * 60 + vs.getD 2 0) ∧ (vs.getD 0 0 * 3600 + vs.getD 1 0 * 60 + vs.getD 2 0) ≤ 604800
      · rw [if_pos hx]
        exact parse_pos_in s vs w hE hs hG _ _ _ rfl rfl rfl b0.1 b0.2 b1.1 b1.2 b2.1 b2.2 hp hx.1 hx.2
      · rw [if_neg hx]
        exact parse_pos_out s vs w hE hs hG _ _ _ rfl rfl rfl b0.1 b0.2 b1.1 b1.2 b2.1 b2.2 hp (Lib.hid (by omega))
end Go.Proofs.YtgcgmmdfmcapiaaGreatDoor
