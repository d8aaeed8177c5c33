/- Contracts of package day: Parse, of what read answers; and of a text that begins with last. -/
import Derived.Test.YtgcgmmdfmcapiaaGreatDoorDayIn
namespace Go.Proofs.YtgcgmmdfmcapiaaGreatDoor
open Go.RowKit
/-- The right one of what was read. -/
def Dy.sift (o : Option (Int × Int × Int)) : Option (Int × Int × Int) :=
  match o with
  | none => none
  | some (k, n, d) => if Dy.right k n d then some (k, n, d) else none
theorem prs_sift (s : ByteArray) : Dy.prs s = Dy.sift (Dy.rd s) := rfl
/-- What Parse answers. -/
def PrsE (o : Option (Int × Int × Int)) (e : Ending) : Prop :=
  (∃ k n d : Int, o = some (k, n, d) ∧ Dy.right k n d = true ∧ e = .returned (.tuple #[.agg #[.int .u8 k, .int .i64 n, .int .i64 d], .int .i64 0])) ∨
  (o = none ∧ e = .returned (.tuple #[.agg #[.int .u8 0, .int .i64 0, .int .i64 0], .int .i64 4]))
set_option maxHeartbeats 1000000 in
theorem parse_none (s : ByteArray) (w : World) (hread : ∀ W, Below w.heap.size w W → Calls Tryz.prog 84 #[.string s] W fun e w' => DayE none e ∧ Below W.heap.size W w') :
    Calls Tryz.prog 64 #[.string s] w fun e w' => e = .returned (.tuple #[.agg #[.int .u8 0, .int .i64 0, .int .i64 0], .int .i64 4]) ∧ Below w.heap.size w w' := by
  have HR := Lib.hid hread
  clear hread
  go_enter Tryz.func64, Tryz.ntmps64
  go_wp2_with fail
  refine (HR.out _ ((Below.refl _ _).alloc (Nat.le_refl _) _)).mono ?_
  rintro e w1 ⟨⟨_, _, _, ho, _⟩ | ⟨_, k, n, d, rfl⟩, b1⟩
  · cases ho
  obtain ⟨hc, hf⟩ := bcell b1
  have hz : w.heap.size < w1.heap.size := by have := b1.size; simp at this; omega
  have a1 : Below w.heap.size w w1 := ((Below.refl _ _).alloc (Nat.le_refl _) _).trans (b1.mono (by simp))
  go_wp2_with fail
  refine bodyPost_ret (v := .tuple #[.agg #[.int .u8 0, .int .i64 0, .int .i64 0], .int .i64 4]) (by simp [results, Tryz.results64, go_sem, hc, hz]) rfl ⟨rfl, ?_⟩
  repeat (first | exact Below.refl _ _ | assumption | refine below_drewN ?_ _ | refine Below.drew ?_ | refine Below.setCell ?_ (by first | omega | (simp; done) | (simp; omega)) _ | refine Below.alloc ?_ (by first | omega | (simp; done) | (simp; omega)) _)
set_option maxHeartbeats 1000000 in
theorem parse_wrong (s : ByteArray) (w : World) (k n d : Int) (hn : Dy.right k n d = false) (hread : ∀ W, Below w.heap.size w W → Calls Tryz.prog 84 #[.string s] W fun e w' => e = .returned (.tuple #[.agg #[.int .u8 k, .int .i64 n, .int .i64 d], .bool true]) ∧ Below W.heap.size W w') :
    Calls Tryz.prog 64 #[.string s] w fun e w' => e = .returned (.tuple #[.agg #[.int .u8 0, .int .i64 0, .int .i64 0], .int .i64 4]) ∧ Below w.heap.size w w' := by
  have HR := Lib.hid hread
  have HN := Lib.hid hn
  clear hread hn
  go_enter Tryz.func64, Tryz.ntmps64
  go_wp2_with fail
  refine (HR.out _ ((Below.refl _ _).alloc (Nat.le_refl _) _)).mono ?_
  rintro e w1 ⟨rfl, b1⟩
  obtain ⟨hc, hf⟩ := bcell b1
  have hz : w.heap.size < w1.heap.size := by have := b1.size; simp at this; omega
  have a1 : Below w.heap.size w w1 := ((Below.refl _ _).alloc (Nat.le_refl _) _).trans (b1.mono (by simp))
  go_wp2_with fail
  refine (isRight_no k n d _ HN.out).mono ?_
  rintro e w2 ⟨rfl, b2⟩
  obtain ⟨hc2, hf2⟩ := bcell b2
  have hz1 : w1.heap.size < w2.heap.size := by have := b2.size; simp at this; omega
  have hz2 : w.heap.size < w2.heap.size := by omega
  have hz3 : w.heap.size < w1.heap.size + 1 := by omega
  have hz4 : w.heap.size ≠ w1.heap.size := by omega
  have a2 : Below w.heap.size w w2 := by
    refine Below.trans ?_ (b2.mono ?_)
    · repeat (first | exact Below.refl _ _ | assumption | refine below_drewN ?_ _ | refine Below.drew ?_ | refine Below.setCell ?_ (by first | omega | (simp; done) | (simp; omega)) _ | refine Below.alloc ?_ (by first | omega | (simp; done) | (simp; omega)) _)
    · simp; omega
  go_wp2_with fail
  refine bodyPost_ret (v := .tuple #[.agg #[.int .u8 0, .int .i64 0, .int .i64 0], .int .i64 4]) (by simp [results, Tryz.results64, go_sem, hc, hz, hc2, hz3]) rfl ⟨rfl, ?_⟩
  repeat (first | exact Below.refl _ _ | assumption | refine below_drewN ?_ _ | refine Below.drew ?_ | refine Below.setCell ?_ (by first | omega | (simp; done) | (simp; omega)) _ | refine Below.alloc ?_ (by first | omega | (simp; done) | (simp; omega)) _)
set_option maxHeartbeats 1000000 in
theorem parse_some (s : ByteArray) (w : World) (k n d : Int) (hn : Dy.right k n d = true) (hread : ∀ W, Below w.heap.size w W → Calls Tryz.prog 84 #[.string s] W fun e w' => e = .returned (.tuple #[.agg #[.int .u8 k, .int .i64 n, .int .i64 d], .bool true]) ∧ Below W.heap.size W w') :
    Calls Tryz.prog 64 #[.string s] w fun e w' => e = .returned (.tuple #[.agg #[.int .u8 k, .int .i64 n, .int .i64 d], .int .i64 0]) ∧ Below w.heap.size w w' := by
  have HR := Lib.hid hread
  have HN := Lib.hid hn
  clear hread hn
  go_enter Tryz.func64, Tryz.ntmps64
  go_wp2_with fail
  refine (HR.out _ ((Below.refl _ _).alloc (Nat.le_refl _) _)).mono ?_
  rintro e w1 ⟨rfl, b1⟩
  obtain ⟨hc, hf⟩ := bcell b1
  have hz : w.heap.size < w1.heap.size := by have := b1.size; simp at this; omega
  have a1 : Below w.heap.size w w1 := ((Below.refl _ _).alloc (Nat.le_refl _) _).trans (b1.mono (by simp))
  go_wp2_with fail
  refine (isRight_yes k n d _ HN.out).mono ?_
  rintro e w2 ⟨rfl, b2⟩
  obtain ⟨hc2, hf2⟩ := bcell b2
  have hz1 : w1.heap.size < w2.heap.size := by have := b2.size; simp at this; omega
  have hz2 : w.heap.size < w2.heap.size := by omega
  have hz3 : w.heap.size < w1.heap.size + 1 := by omega
  have hz4 : w.heap.size ≠ w1.heap.size := by omega
  have a2 : Below w.heap.size w w2 := by
    refine Below.trans ?_ (b2.mono ?_)
    · repeat (first | exact Below.refl _ _ | assumption | refine below_drewN ?_ _ | refine Below.drew ?_ | refine Below.setCell ?_ (by first | omega | (simp; done) | (simp; omega)) _ | refine Below.alloc ?_ (by first | omega | (simp; done) | (simp; omega)) _)
    · simp; omega
  go_wp2_with fail
  refine bodyPost_ret (v := .tuple #[.agg #[.int .u8 k, .int .i64 n, .int .i64 d], .int .i64 0]) (by simp [results, Tryz.results64, go_sem, hc, hz, hc2, hz3]) rfl ⟨rfl, ?_⟩
  repeat (first | exact Below.refl _ _ | assumption | refine below_drewN ?_ _ | refine Below.drew ?_ | refine Below.setCell ?_ (by first | omega | (simp; done) | (simp; omega)) _ | refine Below.alloc ?_ (by first | omega | (simp; done) | (simp; omega)) _)
theorem drop_size (s : ByteArray) : (s.extract 4 s.size).size ≤ s.size := by
  rw [ByteArray.size_extract]
  omega
theorem rd_last {s : ByteArray} {p : Int} (h : Dy.isLast s = true) (hp : Wd.pick (s.extract 4 s.size) Wd.week = p) (h0 : 0 ≤ p) : Dy.rd s = some (1, 0, p) := by
  unfold Dy.rd
  rw [if_pos h, hp, if_pos h0]
theorem rd_last_no {s : ByteArray} (h : Dy.isLast s = true) (hp : Wd.pick (s.extract 4 s.size) Wd.week = -1) : Dy.rd s = none := by
  unfold Dy.rd
  rw [if_pos h, hp, if_neg (by omega)]
theorem read_last (s : ByteArray) (w : World) (hs : s.size ≤ 4294967296) (h : Hid (Dy.isLast s = true)) :
    Calls Tryz.prog 84 #[.string s] w fun e w' => DayE (Dy.rd s) e ∧ Below w.heap.size w w' := by
  have hd := drop_size s
  rcases pick6 (s.extract 4 s.size) with hp | ⟨p1, p2⟩
  · have HE := Lib.hid (show DayE (Dy.rd s) (.returned (.tuple #[.agg #[.int .u8 1, .int .i64 0, .int .i64 (-1)], .bool false])) from .inr ⟨rd_last_no h.out hp, _, _, _, rfl⟩)
    have HP := Lib.hid hp
    have HD := Lib.hid hd
    clear hp hd
    go_enter Tryz.func84, Tryz.ntmps84
    go_wp2_with fail
    refine (cutLast_yes s _ hs h.out).mono ?_
    rintro e w1 ⟨rfl, b1⟩
    obtain ⟨hc, hf⟩ := bcell b1
    have hz : w.heap.size < w1.heap.size := by have := b1.size; simp at this; omega
    have a1 : Below w.heap.size w w1 := ((Below.refl _ _).alloc (Nat.le_refl _) _).trans (b1.mono (by simp))
    go_wp2_with fail
    refine (onWeekday_no 1 0 (s.extract 4 s.size) _ (by have := HD.out; omega) HP).mono ?_
    rintro e w2 ⟨rfl, b2⟩
    obtain ⟨hc2, hf2⟩ := bcell b2
    have hz2 : w.heap.size < w2.heap.size := by have := b2.size; omega
    have a2 := a1.trans (b2.mono a1.size)
    go_wp2_with fail
    refine bodyPost_ret (v := .tuple #[.agg #[.int .u8 1, .int .i64 0, .int .i64 (-1)], .bool false]) (by simp [results, Tryz.results84, go_sem, hc, hz, hc2]) rfl ⟨HE.out, ?_⟩
    repeat (first | exact Below.refl _ _ | assumption | refine below_drewN ?_ _ | refine Below.drew ?_ | refine Below.setCell ?_ (by first | omega | (simp; done) | (simp; omega)) _ | refine Below.alloc ?_ (by first | omega | (simp; done) | (simp; omega)) _)
  · obtain ⟨p, hp⟩ : ∃ p, Wd.pick (s.extract 4 s.size) Wd.week = p := ⟨_, rfl⟩
    rw [hp] at p1 p2
    have HE := Lib.hid (show DayE (Dy.rd s) (.returned (.tuple #[.agg #[.int .u8 1, .int .i64 0, .int .i64 p], .bool true])) from .inl ⟨1, 0, p, rd_last h.out hp p1, by omega, by omega, p1, p2, rfl⟩)
    have HP := Lib.hid hp
    have HD := Lib.hid hd
    clear hp hd
    go_enter Tryz.func84, Tryz.ntmps84
    go_wp2_with fail
    refine (cutLast_yes s _ hs h.out).mono ?_
    rintro e w1 ⟨rfl, b1⟩
    obtain ⟨hc, hf⟩ := bcell b1
    have hz : w.heap.size < w1.heap.size := by have := b1.size; simp at this; omega
    have a1 : Below w.heap.size w w1 := ((Below.refl _ _).alloc (Nat.le_refl _) _).trans (b1.mono (by simp))
    go_wp2_with fail
    refine (onWeekday_yes 1 0 p (s.extract 4 s.size) _ (by have := HD.out; omega) HP p1).mono ?_
    rintro e w2 ⟨rfl, b2⟩
    obtain ⟨hc2, hf2⟩ := bcell b2
    have hz2 : w.heap.size < w2.heap.size := by have := b2.size; omega
    have a2 := a1.trans (b2.mono a1.size)
    go_wp2_with fail
    refine bodyPost_ret (v := .tuple #[.agg #[.int .u8 1, .int .i64 0, .int .i64 p], .bool true]) (by simp [results, Tryz.results84, go_sem, hc, hz, hc2]) rfl ⟨HE.out, ?_⟩
    repeat (first | exact Below.refl _ _ | assumption | refine below_drewN ?_ _ | refine Below.drew ?_ | refine Below.setCell ?_ (by first | omega | (simp; done) | (simp; omega)) _ | refine Below.alloc ?_ (by first | omega | (simp; done) | (simp; omega)) _)
theorem dayE_some {k n d : Int} {e : Ending} (he : DayE (some (k, n, d)) e) : e = .returned (.tuple #[.agg #[.int .u8 k, .int .i64 n, .int .i64 d], .bool true]) := by
  rcases he with ⟨k', n', d', ho, _, _, _, _, he⟩ | ⟨ho, _⟩
  · injection ho with ho
    injection ho with h1 ho
    injection ho with h2 h3
    rw [h1, h2, h3]
    exact he
  · cases ho
/-- Parse, of what read answers. -/
theorem parse_of (s : ByteArray) (w : World) (hread : ∀ W, Below w.heap.size w W → Calls Tryz.prog 84 #[.string s] W fun e w' => DayE (Dy.rd s) e ∧ Below W.heap.size W w') :
    Calls Tryz.prog 64 #[.string s] w fun e w' => PrsE (Dy.prs s) e ∧ Below w.heap.size w w' := by
  cases hr : Dy.rd s with
  | none =>
    rw [hr] at hread
    refine (parse_none s w hread).mono fun e w' ⟨he, hb⟩ => ⟨.inr ⟨?_, he⟩, hb⟩
    rw [prs_sift, hr]
    rfl
  | some x =>
    obtain ⟨k, n, d⟩ := x
    rw [hr] at hread
    have hread' : ∀ W, Below w.heap.size w W → Calls Tryz.prog 84 #[.string s] W fun e w' => e = .returned (.tuple #[.agg #[.int .u8 k, .int .i64 n, .int .i64 d], .bool true]) ∧ Below W.heap.size W w' := fun W hW => (hread W hW).mono fun e w' ⟨he, hb⟩ => ⟨dayE_some he, hb⟩
    cases hn : Dy.right k n d with
    | false =>
      refine (parse_wrong s w k n d hn hread').mono fun e w' ⟨he, hb⟩ => ⟨.inr ⟨?_, he⟩, hb⟩
      rw [prs_sift, hr]
      show (if Dy.right k n d = true then some (k, n, d) else none) = none
      rw [hn]
      rfl
    | true =>
      refine (parse_some s w k n d hn hread').mono fun e w' ⟨he, hb⟩ => ⟨.inl ⟨k, n, d, ?_, hn, he⟩, hb⟩
      rw [prs_sift, hr]
      show (if Dy.right k n d = true then some (k, n, d) else none) = some (k, n, d)
      rw [hn]
      rfl
theorem prsE_some {o : Option (Int × Int × Int)} {k n d : Int} {e : Ending} (h : PrsE o e) (ho : o = some (k, n, d)) : e = .returned (.tuple #[.agg #[.int .u8 k, .int .i64 n, .int .i64 d], .int .i64 0]) := by
  subst ho
  rcases h with ⟨k', n', d', ho, _, he⟩ | ⟨ho, _⟩
  · injection ho with ho
    injection ho with h1 ho
    injection ho with h2 h3
    rw [h1, h2, h3]
    exact he
  · cases ho
theorem prsE_none {o : Option (Int × Int × Int)} {e : Ending} (h : PrsE o e) (ho : o = none) : e = .returned (.tuple #[.agg #[.int .u8 0, .int .i64 0, .int .i64 0], .int .i64 4]) := by
  subst ho
  rcases h with ⟨k', n', d', ho, _, he⟩ | ⟨_, he⟩
  · cases ho
  · exact he
theorem parse_last (s : ByteArray) (k n d : Int) (w : World) (hs : s.size ≤ 4294967296) (h : Dy.isLast s = true) (hp : Dy.prs s = some (k, n, d)) :
    Calls Tryz.prog 64 #[.string s] w fun e w' => e = .returned (.tuple #[.agg #[.int .u8 k, .int .i64 n, .int .i64 d], .int .i64 0]) ∧ Below w.heap.size w w' :=
  (parse_of s w fun W _ => read_last s W hs (Lib.hid h)).mono fun _ _ ⟨he, hb⟩ => ⟨prsE_some he hp, hb⟩
end Go.Proofs.YtgcgmmdfmcapiaaGreatDoor
