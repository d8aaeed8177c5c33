/- Contracts of package word: the names, and their beginnings. -/
import Derived.Test.YtgcgmmdfmcapiaaGreatDoorWord
namespace Go.Proofs.YtgcgmmdfmcapiaaGreatDoor
open Go.RowKit
namespace Wd
/-- The names of the days of the week, and of the months. -/
def week : List ByteArray := [⟨#[83, 117, 110, 100, 97, 121]⟩, ⟨#[77, 111, 110, 100, 97, 121]⟩, ⟨#[84, 117, 101, 115, 100, 97, 121]⟩, ⟨#[87, 101, 100, 110, 101, 115, 100, 97, 121]⟩, ⟨#[84, 104, 117, 114, 115, 100, 97, 121]⟩, ⟨#[70, 114, 105, 100, 97, 121]⟩, ⟨#[83, 97, 116, 117, 114, 100, 97, 121]⟩]
def mons : List ByteArray := [⟨#[74, 97, 110, 117, 97, 114, 121]⟩, ⟨#[70, 101, 98, 114, 117, 97, 114, 121]⟩, ⟨#[77, 97, 114, 99, 104]⟩, ⟨#[65, 112, 114, 105, 108]⟩, ⟨#[77, 97, 121]⟩, ⟨#[74, 117, 110, 101]⟩, ⟨#[74, 117, 108, 121]⟩, ⟨#[65, 117, 103, 117, 115, 116]⟩, ⟨#[83, 101, 112, 116, 101, 109, 98, 101, 114]⟩, ⟨#[79, 99, 116, 111, 98, 101, 114]⟩, ⟨#[78, 111, 118, 101, 109, 98, 101, 114]⟩, ⟨#[68, 101, 99, 101, 109, 98, 101, 114]⟩]
/-- The name at the place i of a list. -/
def nth (l : List ByteArray) (i : Nat) : ByteArray := l.getD i ByteArray.empty
/-- The first three letters of it. -/
def three (l : List ByteArray) (i : Nat) : ByteArray := (nth l i).extract 0 3
theorem week_back : ∀ i, i < 7 → pick (three week i) week = i ∧ (three week i).size = 3 ∧ (nth week i).size ≤ 9 ∧ 3 ≤ (nth week i).size := by decide +kernel
theorem mons_back : ∀ i, i < 12 → pick (three mons i) mons = i ∧ (three mons i).size = 3 ∧ (nth mons i).size ≤ 9 ∧ 3 ≤ (nth mons i).size := by decide +kernel
theorem pick_ge (s : ByteArray) (l : List ByteArray) : -1 ≤ pick s l := by
  rcases pick_place s l with h | ⟨_, k, h, _, _⟩ <;> omega
theorem pick_lt (s : ByteArray) (l : List ByteArray) : pick s l < l.length := by
  rcases pick_place s l with h | ⟨_, k, h, _, _⟩ <;> omega
end Wd
theorem sl_alloc (w : World) (L : List ByteArray) (cs : Array Value) (t : TypeId) (h : cs = (L.map Value.string).toArray) : Sl (w.alloc (.cells cs t)) (w.alloc (.cells cs t)).heap.size (some ⟨w.heap.size, 0, none⟩) L.length (fun i => .string (L.getD i ByteArray.empty)) := by
  subst h
  refine fun _ => ⟨_, rfl, by simp, fun i hi => ?_⟩
  have e : (⟨w.heap.size, 0, none⟩ : Addr).add i = ⟨w.heap.size, i, none⟩ := by unfold Addr.add; split <;> simp_all
  show _ = some (Value.string (L.getD i ByteArray.empty))
  rw [e, World.cell?_alloc_new, List.getD_eq_getElem?_getD, List.getElem?_eq_getElem hi]
  simp [hi]
theorem Sl.drew {w : World} {B : Nat} {A : Option Addr} {n : Nat} {v : Nat → Value} (h : Sl w B A n v) : Sl w.drew B A n v := h
theorem weekdays_any (w : World) : Calls Tryz.prog 82 #[] w fun e w' => e = .returned (.slice (some ⟨w.heap.size, 0, none⟩) 7 7) ∧ Sl w' w'.heap.size (some ⟨w.heap.size, 0, none⟩) 7 (fun i => .string (Wd.week.getD i ByteArray.empty)) ∧ Below w.heap.size w w' := by
  go_enter Tryz.func82, Tryz.ntmps82
  go_wp2_with fail
  go_ret
  exact ⟨rfl, sl_alloc w Wd.week _ _ rfl, (Below.refl _ _).alloc (Nat.le_refl _) _⟩
theorem months_any (w : World) : Calls Tryz.prog 61 #[] w fun e w' => e = .returned (.slice (some ⟨w.heap.size, 0, none⟩) 12 12) ∧ Sl w' w'.heap.size (some ⟨w.heap.size, 0, none⟩) 12 (fun i => .string (Wd.mons.getD i ByteArray.empty)) ∧ Below w.heap.size w w' := by
  go_enter Tryz.func61, Tryz.ntmps61
  go_wp2_with fail
  go_ret
  exact ⟨rfl, sl_alloc w Wd.mons _ _ rfl, (Below.refl _ _).alloc (Nat.le_refl _) _⟩
theorem text_yes (i : Nat) (A : Option Addr) (n c : Nat) (L : List ByteArray) (w : World) (hi : i < n) (_hn : n ≤ 100) (h3 : 3 ≤ (L.getD i ByteArray.empty).size) (h9 : (L.getD i ByteArray.empty).size ≤ 100) (hS : Sl w w.heap.size A n (fun i => .string (L.getD i ByteArray.empty))) :
    Calls Tryz.prog 60 #[.int .i64 i, .slice A n c] w fun e w' => e = .returned (.string ((L.getD i ByteArray.empty).extract 0 3)) ∧ w = w' := by
  obtain ⟨ad, rfl, hal, hc⟩ := hS.at_ hi
  change w.cell? (ad.add i) = some (.string (L.getD i ByteArray.empty)) at hc
  generalize L.getD i ByteArray.empty = X at *
  go_enter Tryz.func60, Tryz.ntmps60
  go_wp2_with fail
  go_ret
  exact ⟨rfl, rfl⟩
theorem text_no (i : Int) (A : Option Addr) (n c : Nat) (w : World) (hi : i < 0 ∨ n ≤ i) (hn : n ≤ 100) :
    Calls Tryz.prog 60 #[.int .i64 i, .slice A n c] w fun e w' => e = .returned (.string ⟨#[]⟩) ∧ w = w' := by
  rcases hi with h | h
  · go_enter Tryz.func60, Tryz.ntmps60
    go_wp2_with fail
    go_ret
    exact ⟨rfl, rfl⟩
  · have t0 : decide (i < 0) = false := by simp; omega
    have t1 : decide ((n : Int) ≤ i) = true := by simp; omega
    go_enter Tryz.func60, Tryz.ntmps60
    go_wp2_with fail
    go_ret
    exact ⟨rfl, rfl⟩
theorem size_week : ∀ i, i < 7 → (Wd.week.getD i ByteArray.empty).size ≤ 4294967296 := fun i h => by have := (Wd.week_back i h).2.2.1; unfold Wd.nth at this; omega
theorem size_mons : ∀ i, i < 12 → (Wd.mons.getD i ByteArray.empty).size ≤ 4294967296 := fun i h => by have := (Wd.mons_back i h).2.2.1; unfold Wd.nth at this; omega

theorem weekdayWord_any (s : ByteArray) (w : World) (hs : s.size ≤ 4294967296) : Calls Tryz.prog 112 #[.string s] w fun e w' => e = .returned (.int .i64 (Wd.pick s Wd.week)) ∧ Below w.heap.size w w' := by
  have hb1 := Wd.pick_ge s Wd.week
  have hb2 : Wd.pick s Wd.week < 7 := Wd.pick_lt s Wd.week
  go_enter Tryz.func112, Tryz.ntmps112
  go_wp2_with fail
  refine (weekdays_any _).mono ?_
  rintro e w1 ⟨rfl, hS, b1⟩
  go_wp2_with fail
  refine (pick_any s _ 7 _ Wd.week rfl (by omega) hs size_week w1 w1.heap.size (Nat.le_refl _) hS).mono ?_
  rintro e w2 ⟨rfl, b2⟩
  have a2 := b1.trans (b2.mono b1.size)
  clear hS b1 b2
  go_wp2_with fail
  go_ret
  exact ⟨rfl, a2⟩
theorem monthWord_any (s : ByteArray) (w : World) (hs : s.size ≤ 4294967296) : Calls Tryz.prog 83 #[.string s] w fun e w' => e = .returned (.int .i64 (Wd.pick s Wd.mons + 1)) ∧ Below w.heap.size w w' := by
  have hb1 := Wd.pick_ge s Wd.mons
  have hb2 : Wd.pick s Wd.mons < 12 := Wd.pick_lt s Wd.mons
  go_enter Tryz.func83, Tryz.ntmps83
  go_wp2_with fail
  refine (months_any _).mono ?_
  rintro e w1 ⟨rfl, hS, b1⟩
  go_wp2_with fail
  refine (pick_any s _ 12 _ Wd.mons rfl (by omega) hs size_mons w1 w1.heap.size (Nat.le_refl _) hS).mono ?_
  rintro e w2 ⟨rfl, b2⟩
  have a2 := b1.trans (b2.mono b1.size)
  clear hS b1 b2
  go_wp2_with fail
  go_ret
  exact ⟨rfl, a2⟩
theorem weekdaytext_yes (i : Nat) (w : World) (hi : i < 7) : Calls Tryz.prog 58 #[.int .i64 (i)] w fun e w' => e = .returned (.string (Wd.three Wd.week i)) ∧ Below w.heap.size w w' := by
  obtain ⟨_, _, h9, h3⟩ := Wd.week_back i hi
  unfold Wd.nth at h9 h3
  go_enter Tryz.func58, Tryz.ntmps58
  go_wp2_with fail
  refine (weekdays_any _).mono ?_
  rintro e w1 ⟨rfl, hS, b1⟩
  go_wp2_with fail
  refine (text_yes i _ 7 _ Wd.week w1 hi (by omega) h3 (by omega) hS).mono ?_
  rintro e w' ⟨rfl, rfl⟩
  clear hS h9 h3
  go_wp2_with fail
  go_ret
  exact ⟨rfl, b1⟩
theorem weekdaytext_no (n : Int) (w : World) (h1 : -9223372036854775807 ≤ n) (h2 : n ≤ 9223372036854775807) (h : n < 0 ∨ 6 < n) : Calls Tryz.prog 58 #[.int .i64 n] w fun e w' => e = .returned (.string ⟨#[]⟩) ∧ Below w.heap.size w w' := by
  have hh := Lib.hid h
  clear h
  go_enter Tryz.func58, Tryz.ntmps58
  go_wp2_with fail
  refine (weekdays_any _).mono ?_
  rintro e w1 ⟨rfl, hS, b1⟩
  go_wp2_with fail
  refine (text_no (n) _ 7 _ w1 (by have := hh.out; omega) (by omega)).mono ?_
  rintro e w' ⟨rfl, rfl⟩
  clear hS
  go_wp2_with fail
  go_ret
  exact ⟨rfl, b1⟩
theorem monthtext_yes (i : Nat) (w : World) (hi : i < 12) : Calls Tryz.prog 34 #[.int .i64 (i + 1)] w fun e w' => e = .returned (.string (Wd.three Wd.mons i)) ∧ Below w.heap.size w w' := by
  obtain ⟨_, _, h9, h3⟩ := Wd.mons_back i hi
  unfold Wd.nth at h9 h3
  go_enter Tryz.func34, Tryz.ntmps34
  go_wp2_with fail
  refine (months_any _).mono ?_
  rintro e w1 ⟨rfl, hS, b1⟩
  go_wp2_with fail
  refine (text_yes i _ 12 _ Wd.mons w1 hi (by omega) h3 (by omega) hS).mono ?_
  rintro e w' ⟨rfl, rfl⟩
  clear hS h9 h3
  go_wp2_with fail
  go_ret
  exact ⟨rfl, b1⟩
theorem monthtext_no (n : Int) (w : World) (h1 : -9223372036854775807 ≤ n) (h2 : n ≤ 9223372036854775807) (h : n < 1 ∨ 12 < n) : Calls Tryz.prog 34 #[.int .i64 n] w fun e w' => e = .returned (.string ⟨#[]⟩) ∧ Below w.heap.size w w' := by
  have hh := Lib.hid h
  clear h
  go_enter Tryz.func34, Tryz.ntmps34
  go_wp2_with fail
  refine (months_any _).mono ?_
  rintro e w1 ⟨rfl, hS, b1⟩
  go_wp2_with fail
  refine (text_no (n - 1) _ 12 _ w1 (by have := hh.out; omega) (by omega)).mono ?_
  rintro e w' ⟨rfl, rfl⟩
  clear hS
  go_wp2_with fail
  go_ret
  exact ⟨rfl, b1⟩
theorem monthtext_least (n : Int) (w : World) (h1 : -9223372036854775808 ≤ n) (h2 : n < -9223372036854775807) : Calls Tryz.prog 34 #[.int .i64 n] w fun e w' => e = .returned (.string ⟨#[]⟩) ∧ Below w.heap.size w w' := by
  go_enter Tryz.func34, Tryz.ntmps34
  go_wp2_with fail
  refine (months_any _).mono ?_
  rintro e w1 ⟨rfl, hS, b1⟩
  go_wp2_with fail
  refine (text_no _ _ 12 _ w1 ?_ (by omega)).mono ?_
  · simp only [wrap64]; omega
  rintro e w' ⟨rfl, rfl⟩
  clear hS
  go_wp2_with fail
  go_ret
  exact ⟨rfl, b1⟩
end Go.Proofs.YtgcgmmdfmcapiaaGreatDoor
