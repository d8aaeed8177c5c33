/- Days of a month, as they are told: which are right, their texts, and what a text tells. No program but the names' lists. -/
import Derived.Test.YtgcgmmdfmcapiaaGreatDoorNames
import Derived.Lib.IndexMore
import Derived.Lib.ItoaNum
namespace Go.Proofs.YtgcgmmdfmcapiaaGreatDoor
namespace Dy
/-- Is it a right day? k: how it is told; n: the day of the month; d: the day of the week. -/
def right (k n d : Int) : Bool := decide ((k = 0 ∧ 1 ≤ n ∧ n ≤ 31 ∧ d = 0) ∨ (k = 1 ∧ n = 0 ∧ 0 ≤ d ∧ d ≤ 6) ∨ ((k = 2 ∨ k = 3) ∧ 1 ≤ n ∧ n ≤ 31 ∧ 0 ≤ d ∧ d ≤ 6))
theorem right_iff (k n d : Int) : right k n d = true ↔ ((k = 0 ∧ 1 ≤ n ∧ n ≤ 31 ∧ d = 0) ∨ (k = 1 ∧ n = 0 ∧ 0 ≤ d ∧ d ≤ 6) ∨ ((k = 2 ∨ k = 3) ∧ 1 ≤ n ∧ n ≤ 31 ∧ 0 ≤ d ∧ d ≤ 6)) := decide_eq_true_iff
/-- The digits of a number below a hundred. -/
def dig (n : Nat) : List UInt8 := if n < 10 then [UInt8.ofNat (48 + n)] else [UInt8.ofNat (48 + n / 10), UInt8.ofNat (48 + n % 10)]
theorem dig_eq (n : Nat) (h : n < 100) : Lib.decDigits n = dig n := by
  unfold dig
  by_cases h1 : n < 10
  · rw [if_pos h1, Lib.decDigits, dif_pos h1]
  · rw [if_neg h1, Lib.decDigits, dif_neg h1, Lib.decDigits, dif_pos (by omega)]
    rfl
/-- The number of one or two digits. -/
def isd (c : UInt8) : Bool := decide (48 ≤ c.toNat) && decide (c.toNat ≤ 57)
def num : List UInt8 → Option Int
  | [a] => if isd a then some ((a.toNat : Int) - 48) else none
  | [a, b] => if isd a && isd b then some (10 * ((a.toNat : Int) - 48) + ((b.toNat : Int) - 48)) else none
  | _ => none
def lastW : ByteArray := ⟨#[108, 97, 115, 116]⟩
/-- A day of the week, from the day on, or up to it, that digits tell. -/
def beside (k : Int) (a b : ByteArray) : Option (Int × Int × Int) :=
  match num b.data.toList with
  | none => none
  | some n => if 0 ≤ Wd.pick a Wd.week then some (k, n, Wd.pick a Wd.week) else none
def isLast (s : ByteArray) : Bool := decide (4 ≤ s.size) && Wd.one (s.extract 0 4) lastW
/-- What s tells, right or not. -/
def rd (s : ByteArray) : Option (Int × Int × Int) :=
  if isLast s then (if 0 ≤ Wd.pick (s.extract 4 s.size) Wd.week then some (1, 0, Wd.pick (s.extract 4 s.size) Wd.week) else none)
  else if (Lib.cut s.data.toList [62, 61]).2.2 then beside 2 ⟨(Lib.cut s.data.toList [62, 61]).1.toArray⟩ ⟨(Lib.cut s.data.toList [62, 61]).2.1.toArray⟩
  else if (Lib.cut s.data.toList [60, 61]).2.2 then beside 3 ⟨(Lib.cut s.data.toList [60, 61]).1.toArray⟩ ⟨(Lib.cut s.data.toList [60, 61]).2.1.toArray⟩
  else match num s.data.toList with
    | none => none
    | some n => some (0, n, 0)
/-- The right day that s tells. -/
def prs (s : ByteArray) : Option (Int × Int × Int) :=
  match rd s with
  | none => none
  | some (k, n, d) => if right k n d then some (k, n, d) else none
theorem prs_right {s : ByteArray} {k n d : Int} (h : prs s = some (k, n, d)) : right k n d = true := by
  unfold prs at h
  cases hr : rd s with
  | none => rw [hr] at h; cases h
  | some x =>
    obtain ⟨k', n', d'⟩ := x
    rw [hr] at h
    simp only at h
    by_cases hx : right k' n' d' = true
    · rw [if_pos hx] at h
      injection h with h
      injection h with h1 h
      injection h with h2 h3
      rw [← h1, ← h2, ← h3]
      exact hx
    · rw [if_neg hx] at h; cases h
/-- The text of a day. -/
def txt (k n d : Int) : ByteArray :=
  if k = 1 then lastW ++ Wd.three Wd.week d.toNat
  else if k = 2 then Wd.three Wd.week d.toNat ++ ⟨#[62, 61]⟩ ++ ⟨(dig n.toNat).toArray⟩
  else if k = 3 then Wd.three Wd.week d.toNat ++ ⟨#[60, 61]⟩ ++ ⟨(dig n.toNat).toArray⟩
  else ⟨(dig n.toNat).toArray⟩
set_option maxRecDepth 100000 in
theorem back0 : ∀ n, n < 32 → 1 ≤ n → prs (txt 0 (n : Nat) 0) = some ((0 : Int), ((n : Nat) : Int), (0 : Int)) := by decide +kernel
set_option maxRecDepth 100000 in
theorem back1 : ∀ d, d < 7 → prs (txt 1 0 (d : Nat)) = some ((1 : Int), (0 : Int), ((d : Nat) : Int)) := by decide +kernel
def backs (k : Int) : Bool := (List.range 32).all fun n => (List.range 7).all fun d => decide (n = 0) || decide (prs (txt k (n : Nat) (d : Nat)) = some (k, ((n : Nat) : Int), ((d : Nat) : Int)))
set_option maxRecDepth 100000 in
theorem backs2 : backs 2 = true := by decide +kernel
set_option maxRecDepth 100000 in
theorem backs3 : backs 3 = true := by decide +kernel
theorem back_of {k : Int} (h : backs k = true) (n d : Nat) (h1 : n < 32) (h2 : 1 ≤ n) (h3 : d < 7) : prs (txt k (n : Nat) (d : Nat)) = some (k, ((n : Nat) : Int), ((d : Nat) : Int)) := by
  unfold backs at h
  have h4 := List.all_eq_true.1 (List.all_eq_true.1 h n (List.mem_range.2 h1)) d (List.mem_range.2 h3)
  rcases Bool.or_eq_true_iff.1 h4 with h5 | h5
  · have := of_decide_eq_true h5; omega
  · exact of_decide_eq_true h5
set_option maxRecDepth 100000 in
theorem size0 : ∀ n, n < 32 → (txt 0 (n : Nat) 0).size ≤ 20 := by decide +kernel
/-- A right day is read from its text. -/
theorem back {k n d : Int} (h : right k n d = true) : prs (txt k n d) = some (k, n, d) := by
  rw [right_iff] at h
  rcases h with ⟨rfl, h1, h2, rfl⟩ | ⟨rfl, rfl, h1, h2⟩ | ⟨rfl | rfl, h1, h2, h3, h4⟩
  · have := back0 n.toNat (by omega) (by omega)
    rwa [show ((n.toNat : Nat) : Int) = n by omega] at this
  · have := back1 d.toNat (by omega)
    rwa [show ((d.toNat : Nat) : Int) = d by omega] at this
  · have := back_of backs2 n.toNat d.toNat (by omega) (by omega) (by omega)
    rwa [show ((d.toNat : Nat) : Int) = d by omega, show ((n.toNat : Nat) : Int) = n by omega] at this
  · have := back_of backs3 n.toNat d.toNat (by omega) (by omega) (by omega)
    rwa [show ((d.toNat : Nat) : Int) = d by omega, show ((n.toNat : Nat) : Int) = n by omega] at this
theorem dig_len (n : Nat) : (dig n).length ≤ 2 := by
  unfold dig
  split <;> simp
/-- The last day up to x that is the day d of the week. -/
def upto (x d : Int) : Int := x - ((x + 4) % 7 - d) % 7
/-- The number of a right day of a month of so many days that begins on the day b. -/
def find (k n d b len : Int) : Int :=
  if k = 1 then upto (b + len - 1) d else if k = 2 then upto (b + n + 5) d else if k = 3 then upto (b + n - 1) d else b + n - 1
end Dy
end Go.Proofs.YtgcgmmdfmcapiaaGreatDoor
