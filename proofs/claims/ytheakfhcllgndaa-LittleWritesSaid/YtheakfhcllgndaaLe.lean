/- Plain lists of bytes: numbers as bytes, the lowest first, and bytes as text (chapter 3). Imports nothing of the program. -/
import Derived.Lib.Hide
namespace Go.Proofs.Ytheakfhcllgndaa
namespace Le
/-- What bytes tell, the lowest first. -/
def val : List UInt8 → Nat
  | [] => 0
  | c :: r => c.toNat + 256 * val r
/-- The first k bytes of n. -/
def le (k n : Nat) : List UInt8 := (List.range k).map fun i => UInt8.ofNat (n / 256 ^ i % 256)
theorem le_len (k n : Nat) : (le k n).length = k := by simp [le]
theorem le_zero (n : Nat) : le 0 n = [] := rfl
theorem le_snoc (k n : Nat) : le (k + 1) n = le k n ++ [UInt8.ofNat (n / 256 ^ k % 256)] := by
  unfold le
  rw [List.range_succ, List.map_append]
  rfl
theorem le_succ (k n : Nat) : le (k + 1) n = UInt8.ofNat (n % 256) :: le k (n / 256) := by
  unfold le
  rw [List.range_succ_eq_map, List.map_cons, List.map_map]
  congr 1
  · simp
  · apply List.map_congr_left
    intro i _
    simp only [Function.comp_apply, Nat.pow_succ]
    rw [Nat.mul_comm, Nat.div_div_eq_div_mul]
theorem val_lt (l : List UInt8) : val l < 256 ^ l.length := by
  induction l with
  | nil => simp [val]
  | cons c r ih =>
    have := c.toNat_lt
    simp only [val, List.length_cons, Nat.pow_succ]
    omega
theorem val_app (a b : List UInt8) : val (a ++ b) = val a + 256 ^ a.length * val b := by
  induction a with
  | nil => simp [val]
  | cons c r ih =>
    simp only [List.cons_append, val, ih, List.length_cons, Nat.pow_succ, Nat.mul_add]
    rw [Nat.mul_comm (256 ^ r.length) 256, Nat.mul_assoc]
    omega
theorem val_snoc (a : List UInt8) (c : UInt8) : val (a ++ [c]) = val a + 256 ^ a.length * c.toNat := by
  rw [val_app]; simp [val]
theorem val_le (k n : Nat) : val (le k n) = n % 256 ^ k := by
  induction k generalizing n with
  | zero => simp [le, val, Nat.mod_one]
  | succ k ih =>
    rw [le_succ, val, ih]
    have e1 : (UInt8.ofNat (n % 256)).toNat = n % 256 := by
      rw [UInt8.toNat_ofNat']; omega
    rw [e1, Nat.pow_succ, Nat.mul_comm (256 ^ k) 256, Nat.mod_mul]
theorem le_val (l : List UInt8) : le l.length (val l) = l := by
  induction l with
  | nil => rfl
  | cons c r ih =>
    have h := c.toNat_lt
    rw [List.length_cons, le_succ, val]
    have e1 : (c.toNat + 256 * val r) % 256 = c.toNat := by omega
    have e2 : (c.toNat + 256 * val r) / 256 = val r := by omega
    rw [e1, e2, ih]
    simp
end Le
end Go.Proofs.Ytheakfhcllgndaa
