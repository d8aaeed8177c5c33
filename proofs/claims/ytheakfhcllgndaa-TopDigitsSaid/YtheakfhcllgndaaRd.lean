/- Contracts of package little: the reader. -/
import Derived.Test.YtheakfhcllgndaaProg
import Derived.Test.YtheakfhcllgndaaLe
import Derived.WalkKit
import Derived.LoopTactic
import Derived.Deep.QuietTactic
import Derived.Below
import Derived.Calls
namespace Go.Proofs.Ytheakfhcllgndaa
open Go.RowKit
theorem isWidth_yes (n : Int) (w : World) (h1 : 1 ≤ n) (h2 : n ≤ 8) : Calls Try.prog 25 #[.int .i64 n] w fun e w' => e = .returned (.bool true) ∧ w = w' := by
  go_enter Try.func25, Try.ntmps25
  go_wp2
  go_ret
  exact ⟨rfl, rfl⟩
theorem isWidth_no (n : Int) (w : World) (h : n < 1 ∨ 8 < n) : Calls Try.prog 25 #[.int .i64 n] w fun e w' => e = .returned (.bool false) ∧ w = w' := by
  rcases h with h | h
  · have t : decide (1 ≤ n) = false := by simp; omega
    clear h
    go_enter Try.func25, Try.ntmps25
    go_wp2
    go_ret
    exact ⟨rfl, rfl⟩
  · have h1 : 1 ≤ n := by omega
    have t : decide (n ≤ 8) = false := by simp; omega
    go_enter Try.func25, Try.ntmps25
    go_wp2
    go_ret
    exact ⟨rfl, rfl⟩
/-- A reader at block g: what is left, and whether it is bad. -/
structure Rd (w : World) (B g : Nat) (l : List UInt8) (bad : Bool) : Prop where
  base : B ≤ g
  lt : g < w.heap.size
  rest : w.cell? ⟨g, 0, none⟩ = some (.string ⟨l.toArray⟩)
  isBad : w.cell? ⟨g, 1, none⟩ = some (.bool bad)
  f0 : w.frozen? ⟨g, 0, none⟩ = false
  f1 : w.frozen? ⟨g, 1, none⟩ = false
theorem Rd.below {w w' : World} {B g : Nat} {l : List UInt8} {bad : Bool} (h : Rd w B g l bad) (hb : Below w.heap.size w w') : Rd w' B g l bad :=
  ⟨h.base, Nat.lt_of_lt_of_le h.lt hb.size, (hb.cell (p := ⟨g, 0, none⟩) h.lt).trans h.rest, (hb.cell (p := ⟨g, 1, none⟩) h.lt).trans h.isBad, (hb.frozen (p := ⟨g, 0, none⟩) h.lt).trans h.f0, (hb.frozen (p := ⟨g, 1, none⟩) h.lt).trans h.f1⟩
theorem Rd.set0 {w : World} {B g : Nat} {l : List UInt8} {bad : Bool} (h : Rd w B g l bad) (l' : List UInt8) : Rd (w.setCell ⟨g, 0, none⟩ (.string ⟨l'.toArray⟩)) B g l' bad := by
  have h0 := h.rest
  have h1 := h.isBad
  have h2 := h.f0
  have h3 := h.f1
  exact ⟨h.base, by simpa using h.lt, by go_simp, by go_simp, by go_simp, by go_simp⟩
theorem Rd.set1 {w : World} {B g : Nat} {l : List UInt8} {bad : Bool} (h : Rd w B g l bad) (b : Bool) : Rd (w.setCell ⟨g, 1, none⟩ (.bool b)) B g l b := by
  have h0 := h.rest
  have h1 := h.isBad
  have h2 := h.f0
  have h3 := h.f1
  exact ⟨h.base, by simpa using h.lt, by go_simp, by go_simp, by go_simp, by go_simp⟩
theorem open_any (s : ByteArray) (w : World) : Calls Try.prog 16 #[.string s] w fun e w' => e = .returned (.pointer (some ⟨w.heap.size, 0, none⟩)) ∧ Rd w' w.heap.size w.heap.size s.data.toList false ∧ Below w.heap.size w w' := by
  go_enter Try.func16, Try.ntmps16
  go_wp2
  go_ret
  refine ⟨rfl, ⟨Nat.le_refl _, by simp, by simp [go_sem], by simp [go_sem], by simp [go_sem], by simp [go_sem]⟩, ?_⟩
  repeat (first | exact Below.refl _ _ | assumption | refine below_drewN ?_ _ | refine Below.drew ?_ | refine Below.setCell ?_ (by first | omega | (simp; done) | (simp; omega)) _ | refine Below.alloc ?_ (by first | omega | (simp; done) | (simp; omega)) _)
theorem left_any (B g : Nat) (l : List UInt8) (bad : Bool) (w : World) (h : Rd w B g l bad) (_hl : l.length ≤ 4294967296) :
    Calls Try.prog 17 #[.pointer (some ⟨g, 0, none⟩)] w fun e w' => e = .returned (.int .i64 (l.length : Int)) ∧ w = w' := by
  have h0 := h.rest
  have h1 := h.f0
  have h2 := h.lt
  go_enter Try.func17, Try.ntmps17
  go_wp2
  go_ret
  exact ⟨by simp, rfl⟩
theorem bad_any (B g : Nat) (l : List UInt8) (bad : Bool) (w : World) (h : Rd w B g l bad) :
    Calls Try.prog 19 #[.pointer (some ⟨g, 0, none⟩)] w fun e w' => e = .returned (.bool bad) ∧ w = w' := by
  have h0 := h.isBad
  have h1 := h.f1
  have h2 := h.lt
  go_enter Try.func19, Try.ntmps19
  go_wp2
  go_ret
  exact ⟨rfl, rfl⟩
theorem fail_any (B g : Nat) (l : List UInt8) (bad : Bool) (w : World) (h : Rd w B g l bad) :
    Calls Try.prog 32 #[.pointer (some ⟨g, 0, none⟩)] w fun e w' => e = .returned (.tuple #[]) ∧ Rd w' B g [] true ∧ Below g w w' := by
  have h0 := h.rest
  have hb := h.isBad
  have h1 := h.f0
  have hf := h.f1
  have h2 := h.lt
  go_enter Try.func32, Try.ntmps32
  go_wp2
  go_end0
  refine ⟨rfl, (h.set0 []).set1 true, ?_⟩
  have h3 := h.base
  repeat (first | exact Below.refl _ _ | assumption | refine below_drewN ?_ _ | refine Below.drew ?_ | refine Below.setCell ?_ (by first | omega | (simp; done) | (simp; omega)) _ | refine Below.alloc ?_ (by first | omega | (simp; done) | (simp; omega)) _)
theorem ret_bytes {a b : ByteArray} (h : a = b) : Ending.returned (.string a) = .returned (.string b) := by rw [h]
theorem ret_int {k : IntKind} {a b : Int} (h : a = b) : Ending.returned (.int k a) = .returned (.int k b) := by rw [h]
theorem take_ba (l : List UInt8) (n : Nat) : (⟨l.toArray⟩ : ByteArray).extract 0 n = ⟨(l.take n).toArray⟩ := by
  apply ByteArray.ext
  simp
theorem drop_ba (l : List UInt8) (n : Nat) : (⟨l.toArray⟩ : ByteArray).extract n l.length = ⟨(l.drop n).toArray⟩ := by
  apply ByteArray.ext
  simp [List.take_of_length_le]
theorem rraw_no (B g : Nat) (l : List UInt8) (bad : Bool) (n : Int) (w : World) (h : Rd w B g l bad) (hl : l.length ≤ 4294967296) (hn : n < 0 ∨ (l.length : Int) < n) :
    Calls Try.prog 24 #[.pointer (some ⟨g, 0, none⟩), .int .i64 n] w fun e w' => e = .returned (.string ⟨#[]⟩) ∧ Rd w' B g [] true ∧ Below g w w' := by
  rcases hn with hn | hn
  · go_enter Try.func24, Try.ntmps24
    go_wp2_with fail
    refine (fail_any B g l bad _ h).mono ?_
    rintro e w1 ⟨rfl, h1, hb1⟩
    go_wp2_with fail
    go_ret
    exact ⟨rfl, h1, hb1⟩
  · have hn0 : 0 ≤ n := by omega
    go_enter Try.func24, Try.ntmps24
    go_wp2_with fail
    refine (left_any B g l bad _ h hl).mono ?_
    rintro e w1 ⟨rfl, rfl⟩
    go_wp2_with fail
    refine (fail_any B g l bad _ h).mono ?_
    rintro e w1 ⟨rfl, h1, hb1⟩
    go_wp2_with fail
    go_ret
    exact ⟨rfl, h1, hb1⟩
theorem rraw_yes (B g : Nat) (l : List UInt8) (bad : Bool) (n : Nat) (w : World) (h : Rd w B g l bad) (hl : l.length ≤ 4294967296) (hn : n ≤ l.length) :
    Calls Try.prog 24 #[.pointer (some ⟨g, 0, none⟩), .int .i64 n] w fun e w' => e = .returned (.string ⟨(l.take n).toArray⟩) ∧ Rd w' B g (l.drop n) bad ∧ Below g w w' := by
  by_cases h0 : n = 0
  · subst h0
    go_enter Try.func24, Try.ntmps24
    go_wp2_with fail
    refine (left_any B g l bad _ h hl).mono ?_
    rintro e w1 ⟨rfl, rfl⟩
    go_wp2_with fail
    go_ret
    exact ⟨rfl, h, Below.refl _ _⟩
  · have t1 : ((n : Int) == 0) = false := by rw [beq_eq_false_iff_ne]; omega
    have hr := h.rest
    have hb := h.isBad
    have h1 := h.f0
    have hf := h.f1
    have h2 := h.lt
    have hs : (⟨l.toArray⟩ : ByteArray).size = l.length := by simp [ByteArray.size]
    go_enter Try.func24, Try.ntmps24
    go_wp2_with fail
    refine (left_any B g l bad _ h hl).mono ?_
    rintro e w1 ⟨rfl, rfl⟩
    go_wp2_with fail
    go_ret
    refine ⟨ret_bytes (take_ba l n), ?_, ?_⟩
    · rw [drop_ba]
      exact h.set0 _
    · have h3 := h.base
      repeat (first | exact Below.refl _ _ | assumption | refine below_drewN ?_ _ | refine Below.drew ?_ | refine Below.setCell ?_ (by first | omega | (simp; done) | (simp; omega)) _ | refine Below.alloc ?_ (by first | omega | (simp; done) | (simp; omega)) _)
end Go.Proofs.Ytheakfhcllgndaa
