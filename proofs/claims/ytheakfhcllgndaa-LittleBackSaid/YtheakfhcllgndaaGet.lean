/- Contracts of package little: Get and Signed. -/
import Derived.Test.YtheakfhcllgndaaRd
import Derived.Outline
import Derived.Laws.BitsAllLaws
import Derived.Laws.Bits64
namespace Go.Proofs.Ytheakfhcllgndaa
open Go.RowKit
theorem pow_256 (k : Nat) : 256 ^ k = 2 ^ (8 * k) := by rw [Nat.pow_mul]
theorem or_put (a c k : Nat) (ha : a < 256 ^ k) (hc : c < 256) (hk : k < 8) : bits .or .u64 (a : Int) (IntKind.u64.wrap (IntKind.u64.wrap (c : Int) * 2 ^ (8 * k))) = ((a + 256 ^ k * c : Nat) : Int) := by
  have e1 : IntKind.u64.wrap (c : Int) = (c : Int) := by rw [IntKind.wrap_u64]; omega
  have hp : 2 ^ (8 * k) ≤ 2 ^ 56 := Nat.pow_le_pow_right (by omega) (by omega)
  have hx : c * 2 ^ (8 * k) < 18446744073709551616 := by
    have : c * 2 ^ (8 * k) ≤ 255 * 2 ^ 56 := Nat.mul_le_mul (by omega) hp
    omega
  have e2 : (c : Int) * 2 ^ (8 * k) = ((c * 2 ^ (8 * k) : Nat) : Int) := by push_cast; rfl
  have e3 : IntKind.u64.wrap ((c * 2 ^ (8 * k) : Nat) : Int) = ((c * 2 ^ (8 * k) : Nat) : Int) := by rw [IntKind.wrap_u64]; omega
  rw [pow_256] at ha ⊢
  rw [e1, e2, e3, u64_or_nat _ _ (by omega) hx, Nat.or_comm, nat_join (8 * k) _ _ (by simp) ha]
  rw [Nat.mul_comm c]
  omega
theorem take_snoc (s : ByteArray) (k : Nat) (h : k < s.size) : s.data.toList.take (k + 1) = s.data.toList.take k ++ [s[k]] := by
  rw [List.take_succ_eq_append_getElem (by simpa using h)]; rfl
theorem take_all (s : ByteArray) : s.data.toList.take s.size = s.data.toList := List.take_of_length_le (by simp)
theorem get_no (B g : Nat) (l : List UInt8) (bad : Bool) (n : Int) (w : World) (h : Rd w B g l bad) (hl : l.length ≤ 4294967296) (hn : n < 1 ∨ 8 < n ∨ (l.length : Int) < n) :
    Calls Try.prog 23 #[.pointer (some ⟨g, 0, none⟩), .int .i64 n] w fun e w' => e = .returned (.int .u64 0) ∧ Rd w' B g [] true ∧ Below g w w' := by
  by_cases h8 : n < 1 ∨ 8 < n
  · clear hn
    go_enter Try.func23, Try.ntmps23
    go_wp2_with fail
    refine (isWidth_no n _ h8).mono ?_
    rintro e w1 ⟨rfl, rfl⟩
    go_wp2_with fail
    refine (fail_any B g l bad _ h).mono ?_
    rintro e w1 ⟨rfl, h1, hb1⟩
    go_wp2_with fail
    go_ret
    exact ⟨rfl, h1, hb1⟩
  · have h9 : n < 0 ∨ (l.length : Int) < n := by omega
    have H9 := Lib.hid h9
    have h10 : 1 ≤ n := by omega
    have h11 : n ≤ 8 := by omega
    clear hn h8 h9
    go_enter Try.func23, Try.ntmps23
    go_wp2_with fail
    refine (isWidth_yes n _ h10 h11).mono ?_
    rintro e w1 ⟨rfl, rfl⟩
    go_wp2_with fail
    refine (rraw_no B g l bad n _ h hl H9.out).mono ?_
    rintro e w1 ⟨rfl, h1, hb1⟩
    go_wp2_with fail
    refine wp_loop_rounds 1 ?_
    rw [rounds_succ]
    go_wp2_with fail
    go_ret
    exact ⟨rfl, h1, hb1⟩
theorem get_yes (B g : Nat) (l : List UInt8) (bad : Bool) (n : Nat) (w : World) (h : Rd w B g l bad) (hl : l.length ≤ 4294967296) (h1 : 1 ≤ n) (h8 : n ≤ 8) (hn : n ≤ l.length) :
    Calls Try.prog 23 #[.pointer (some ⟨g, 0, none⟩), .int .i64 n] w fun e w' => e = .returned (.int .u64 (Le.val (l.take n) : Nat)) ∧ Rd w' B g (l.drop n) bad ∧ Below g w w' := by
  go_enter Try.func23, Try.ntmps23
  go_wp2_with fail
  refine (isWidth_yes n _ (by omega) (by omega)).mono ?_
  rintro e w1 ⟨rfl, rfl⟩
  go_wp2_with fail
  refine (rraw_yes B g l bad n _ h hl hn).mono ?_
  rintro e w1 ⟨rfl, hr, hb1⟩
  generalize hS : (⟨(l.take n).toArray⟩ : ByteArray) = S
  have hsz : S.size = n := by subst hS; simp [ByteArray.size]; omega
  have hd : S.data.toList = l.take n := by subst hS; rfl
  have HS := Lib.hid hS
  have HD := Lib.hid hd
  clear hS hd
  obtain rfl : n = S.size := hsz.symm
  go_wp2_with fail
  go_loop [6, 18] (fun x i => ∃ k : Nat, k ≤ S.size ∧ i = .int .i64 k ∧ x = .int .u64 (Le.val (S.data.toList.take k) : Nat)) (fun _ i => S.size - (intOf i).toNat)
  case atStart => exact ⟨0, Nat.zero_le _, rfl, rfl⟩
  case round =>
    obtain ⟨k, hk, rfl, rfl⟩ := hrel
    by_cases hlt : k < S.size
    · go_wp2_with fail
      go_round
      case rel =>
        refine ⟨k + 1, by omega, by go_num, ?_⟩
        have hlen : (S.data.toList.take k).length = k := by simp; omega
        rw [take_snoc S k hlt, Le.val_snoc, or_put _ _ k (by have := Le.val_lt (S.data.toList.take k); rw [hlen] at this; exact this) (S[k].toNat_lt) (by omega), hlen]
      case measure => simp [intOf]; omega
    · go_wp2_with fail
      go_ret
      obtain rfl : k = S.size := by omega
      refine ⟨ret_int ?_, hr, hb1⟩
      rw [take_all, HD.out]
/-- What k bytes of value v tell, if the highest bit is a sign. -/
def sgn (k v : Nat) : Int := wrap64 (IntKind.u64.wrap (v * 2 ^ (8 * (8 - k)))) / 2 ^ (8 * (8 - k))
theorem sgn_8 (v : Nat) : sgn 8 v = wrap64 v := by
  unfold sgn
  simp only [Nat.sub_self, Nat.mul_zero, Int.pow_zero, Int.mul_one, Int.ediv_one, IntKind.wrap_u64, wrap64]
  omega
theorem sgn_4 (v : Nat) (_h : v < 4294967296) : sgn 4 v = wrap32 v := by
  unfold sgn
  have e : (2 : Int) ^ (8 * (8 - 4)) = 4294967296 := by decide
  rw [e]
  simp only [IntKind.wrap_u64, wrap64, wrap32]
  omega
theorem signed_yes (B g : Nat) (l : List UInt8) (n : Nat) (w : World) (h : Rd w B g l false) (hl : l.length ≤ 4294967296) (h1 : 1 ≤ n) (h8 : n ≤ 8) (hn : n ≤ l.length) :
    Calls Try.prog 18 #[.pointer (some ⟨g, 0, none⟩), .int .i64 n] w fun e w' => e = .returned (.int .i64 (sgn n (Le.val (l.take n)))) ∧ Rd w' B g (l.drop n) false ∧ Below g w w' := by
  have hv := Le.val_lt (l.take n)
  generalize hV : Le.val (l.take n) = V at *
  have HV := Lib.hid hV
  clear hV
  go_enter Try.func18, Try.ntmps18
  go_wp2_with fail
  refine (get_yes B g l false n _ h hl h1 h8 hn).mono ?_
  rintro e w1 ⟨rfl, hr, hb1⟩
  rw [HV.out]
  go_wp2_with fail
  refine (bad_any B g _ false _ hr).mono ?_
  rintro e w1 ⟨rfl, rfl⟩
  go_wp2_with fail
  go_ret
  exact ⟨rfl, hr, hb1⟩
end Go.Proofs.Ytheakfhcllgndaa
