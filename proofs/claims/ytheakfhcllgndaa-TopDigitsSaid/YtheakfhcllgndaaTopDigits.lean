/- The walk of stage 2's theorem TopDigits. -/
import Derived.Test.YtheakfhcllgndaaBegins2
import Derived.Deep.RegionWith
import Derived.IntWalk
import Derived.OpenShut
namespace Go.Proofs.Ytheakfhcllgndaa
open Go.RowKit
def encK (k : Nat) (l : List Int) : List UInt8 := l.flatMap fun x => Le.le k x.toNat
theorem encK_len (k : Nat) (l : List Int) : (encK k l).length = k * l.length := by
  induction l with
  | nil => rfl
  | cons a r ih => show (Le.le k a.toNat ++ encK k r).length = _; rw [List.length_append, ih, Le.le_len, List.length_cons, Nat.mul_add]; omega
theorem encK_snoc (k : Nat) (l : List Int) (j : Nat) (h : j < l.length) : encK k (l.take (j + 1)) = encK k (l.take j) ++ Le.le k (l.getD j 0).toNat := by
  unfold encK
  rw [List.take_succ_eq_append_getElem h, List.flatMap_append, List.getD_eq_getElem?_getD, List.getElem?_eq_getElem h]
  simp only [List.flatMap_cons, List.flatMap_nil, List.append_nil, Option.getD_some]
theorem encK_drop (k : Nat) (l : List Int) (j : Nat) (h : j < l.length) : encK k (l.drop j) = Le.le k (l.getD j 0).toNat ++ encK k (l.drop (j + 1)) := by
  unfold encK
  rw [List.drop_eq_getElem_cons h, List.flatMap_cons, List.getD_eq_getElem?_getD, List.getElem?_eq_getElem h]
  rfl
theorem take_le' (k n : Nat) (r : List UInt8) : (Le.le k n ++ r).take k = Le.le k n := by
  have := List.take_left (l₁ := Le.le k n) (l₂ := r); rwa [Le.le_len] at this
theorem drop_le' (k n : Nat) (r : List UInt8) : (Le.le k n ++ r).drop k = r := by
  have := List.drop_left (l₁ := Le.le k n) (l₂ := r); rwa [Le.le_len] at this
theorem shifts (k n : Nat) (_h1 : 1 ≤ k) (h8 : k ≤ 8) (_hn : n < 18446744073709551616) : IntKind.u64.wrap ((n : Int) * 2 ^ (64 - 8 * k)) / 2 ^ (64 - 8 * k) = ((n % 256 ^ k : Nat) : Int) := by
  have e1 : ((n : Int) * 2 ^ (64 - 8 * k)) = ((n * 2 ^ (64 - 8 * k) : Nat) : Int) := by rw [Int.natCast_mul, Int.natCast_pow]; rfl
  have e2 : (18446744073709551616 : Nat) = 256 ^ k * 2 ^ (64 - 8 * k) := by rw [pow_256, ← Nat.pow_add, show 8 * k + (64 - 8 * k) = 64 by omega]
  have e3 : ((18446744073709551616 : Int)) = ((256 ^ k * 2 ^ (64 - 8 * k) : Nat) : Int) := by rw [← e2]; rfl
  have e4 : ((2 : Int) ^ (64 - 8 * k)) = ((2 ^ (64 - 8 * k) : Nat) : Int) := by rw [Int.natCast_pow]; rfl
  rw [IntKind.wrap_u64, e1, e3, e4, ← Int.natCast_emod, ← Int.natCast_ediv]
  congr 1
  rw [Nat.mul_mod_mul_right, Nat.mul_div_cancel _ (Nat.pow_pos (by omega))]
set_option maxRecDepth 100000 in
set_option maxHeartbeats 2000000 in
theorem topDigits_in (A : Option Addr) (n c : Nat) (hn : n ≤ 60) (k : Nat) (h1 : 1 ≤ k) (h8 : k ≤ 8) (zs : List Int) (hlz : zs.length = n) (hz : ∀ k, k < n → 0 ≤ zs.getD k 0 ∧ zs.getD k 0 ≤ 18446744073709551615) (w : World) (hs : Sl w w.heap.size A n (fun i => .int .u64 (zs.getD i 0))) :
    Calls Try.prog 6 #[.slice A n c, .int .i64 k] w fun e w' => e = .returned (.bool true) ∧ Below w.heap.size w w' := by
  have HLZ := Lib.hid hlz
  have HZ := Lib.hid hz
  clear hlz hz
  go_enter Try.func6, Try.ntmps6
  go_wp2_with fail
  refine (begins2 _).mono ?_
  rintro e w1 ⟨rfl, a1⟩
  go_wp2_with fail
  have W0 := Wr.new w1 w1.heap.size (Nat.le_refl _) 26
  have a2 : Below w.heap.size w (w1.alloc (.cells #[.pointer none, .int .i64 0] 26)) := a1.alloc a1.size _
  have hg := a1.size
  generalize hG : w1.heap.size = G at *
  clear a1 hG
  go_loopw [28] (fun i wr => ∃ j : Nat, j ≤ n ∧ i = .int .i64 j ∧ Wr wr G G (encK k (zs.take j)) ∧ Below w.heap.size w wr) (fun i _ => n - (intOf i).toNat)
  case atStart => exact ⟨0, Nat.zero_le _, rfl, W0, a2⟩
  case round =>
    clear W0 a2
    obtain ⟨j, hj, rfl, W1, a3⟩ := hrel
    have hlz := HLZ.out
    by_cases hlt : j < n
    · obtain ⟨ad, rfl, hal, hc⟩ := (hs.below a3).at_ hlt
      have hlen : (encK k (zs.take j)).length ≤ 480 := by
        rw [encK_len]
        have : (zs.take j).length ≤ 60 := by simp; omega
        have := Nat.mul_le_mul h8 this
        omega
      have hsn := encK_snoc k zs j (by omega)
      have hb := HZ.out j hlt
      change wr.cell? (ad.add j) = some (.int .u64 (zs.getD j 0)) at hc
      generalize zs.getD j 0 = x at hc hsn hb
      have HSN := Lib.hid hsn
      clear hlz hsn
      go_wp2_with fail
      refine (put_lit G G _ k x.toNat _ _ W1 (by omega) h1 h8 (by omega) rfl k x rfl (by omega)).mono ?_
      rintro e w2 ⟨rfl, W2, g2⟩
      have a4 := a3.trans ((below_only g2 (Nat.le_refl _) W1.lt).mono hg)
      rw [← HSN.out] at W2
      clear W1 g2 a3 HSN
      go_wp2_with fail
      go_roundw
      case rel => exact ⟨j + 1, by omega, by go_num, W2, a4⟩
      case measure => simp [intOf]; omega
    · obtain rfl : j = n := by omega
      rw [List.take_of_length_le (by omega)] at W1
      have hlen : (encK k zs).length ≤ 480 := by
        rw [encK_len, hlz]
        have := Nat.mul_le_mul h8 hn
        omega
      clear hlz
      go_wp2_with fail
      refine (out_lit G G (encK k zs) _ _ W1 (by omega) rfl).mono ?_
      rintro e w2 ⟨rfl, b2⟩
      have a4 := a3.trans (b2.mono a3.size)
      clear W1 b2 a3
      have hsz := size_ba (encK k zs)
      go_wp2_with fail
      refine (hex_any ⟨(encK k zs).toArray⟩ _ (by omega)).mono ?_
      rintro e w3 ⟨rfl, b3⟩
      have a5 := a4.trans (b3.mono a4.size)
      clear b3 a4
      have hsz2 := size_ba (Hx.hex (encK k zs))
      have hhl := Hx.hex_len (encK k zs)
      clear hsz
      go_wp2_with fail
      refine (unhex_lit ⟨(Hx.hex (encK k zs)).toArray⟩ ⟨(encK k zs).toArray⟩ _ (by omega) (Hx.ok_hex _).1 (by rw [(Hx.ok_hex _).2])).mono ?_
      rintro e w4 ⟨rfl, b4⟩
      have a6 := a5.trans (b4.mono a5.size)
      clear b4 a5 hhl hsz2
      go_wp2_with fail
      refine (open_lit _ (encK k zs) rfl _).mono ?_
      rintro e w5 ⟨rfl, R5, b5⟩
      have a7 := a6.trans (b5.mono a6.size)
      have hg2 := a6.size
      generalize hG2 : w4.heap.size = G2 at *
      clear b5 a6 hG2 hlen
      go_wp2_with fail
      go_loopw [52] (fun i wr => ∃ m : Nat, m ≤ j ∧ i = .int .i64 m ∧ Rd wr G2 G2 (encK k (zs.drop m)) false ∧ Below w.heap.size w wr) (fun i _ => j - (intOf i).toNat)
      case atStart => exact ⟨0, Nat.zero_le _, rfl, R5, a7⟩
      case round =>
        clear R5 a7
        obtain ⟨m, hm, rfl, R6, a8⟩ := hrel
        have hlz := HLZ.out
        by_cases hlt2 : m < j
        · obtain ⟨ad, rfl, hal, hc⟩ := (hs.below a8).at_ hlt2
          have hlen : (encK k (zs.drop m)).length ≤ 480 := by
            rw [encK_len]
            have : (zs.drop m).length ≤ 60 := by simp; omega
            have := Nat.mul_le_mul h8 this
            omega
          have hb := HZ.out m hlt2
          change wr.cell? (ad.add m) = some (.int .u64 (zs.getD m 0)) at hc
          rw [encK_drop k zs m (by omega)] at R6 hlen
          generalize zs.getD m 0 = x at hc R6 hlen hb
          obtain ⟨x, rfl⟩ : ∃ y : Nat, x = y := ⟨x.toNat, by omega⟩
          rw [Int.toNat_natCast] at R6 hlen
          generalize hr : encK k (zs.drop (m + 1)) = r at *
          have HR := Lib.hid hr
          have hsh : ((x : Int) % 256 ^ k != IntKind.u64.wrap ((x : Int) * 2 ^ (64 - 8 * (k : Int)).toNat) / 2 ^ (64 - 8 * (k : Int)).toNat) = false := by
            have hsh := shifts k x h1 h8 (by omega)
            rw [show (64 - 8 * (k : Int)).toNat = 64 - 8 * k by omega, bne_eq_false_iff_eq, hsh, Int.natCast_emod, Int.natCast_pow]
            rfl
          have R7 := R6.below (Below.refl _ _).drew
          have hv : (Le.val ((Le.le k x ++ r).take k) : Int) = ((x % 256 ^ k : Nat) : Int) := by rw [take_le', Le.val_le]
          have hkl : k ≤ (Le.le k x ++ r).length := by rw [List.length_append, Le.le_len]; omega
          have HV := Lib.hid hv
          have HSH := Lib.hid hsh
          clear hlz hr hv hsh R6
          go_wp2_with fail
          have q1 := IntWalk.i64_in (8 * (k : Int)) (by omega)
          have q2 := IntWalk.i64_in (64 - 8 * (k : Int)) (by omega)
          go_region_with (go_at_call 23; refine (get_lit G2 G2 _ false k _ r _ R7 (by omega) h1 h8 hkl HV.out (drop_le' _ _ _) k rfl).mono ?_; rintro e w6 ⟨rfl, R8, b8⟩)
          have a9 := a8.drew.trans (b8.mono hg2)
          clear q1 q2 R7 b8 a8
          have s1 := HSH.out
          go_wp2_with fail
          go_roundw
          case rel => exact ⟨m + 1, by omega, by go_num, by rw [HR.out]; exact R8, a9⟩
          case measure => simp [intOf]; omega
        · obtain rfl : m = j := by omega
          rw [List.drop_of_length_le (by omega)] at R6
          change Rd wr G2 G2 [] false at R6
          clear hlz
          go_wp2_with fail
          refine (left_lit G2 G2 [] false 0 _ R6 (by simp) rfl).mono ?_
          rintro e w' ⟨rfl, rfl⟩
          go_wp2_with fail
          refine (bad_any G2 G2 [] false _ R6).mono ?_
          rintro e w' ⟨rfl, rfl⟩
          go_wp2_with fail
          go_ret
          exact ⟨rfl, a8⟩
theorem topDigits_out (A : Option Addr) (n c : Nat) (hn : n ≤ maxLen) (k : Int) (h : 60 < n ∨ k < 1 ∨ 8 < k) (w : World) :
    Calls Try.prog 6 #[.slice A n c, .int .i64 k] w fun e w' => e = .returned (.bool true) ∧ Below w.heap.size w w' := by
  unfold maxLen at hn
  by_cases h60 : 60 < n
  · clear h
    go_enter Try.func6, Try.ntmps6
    go_wp2_with fail
    refine (begins2 _).mono ?_
    rintro e w1 ⟨rfl, a1⟩
    go_wp2_with fail
    go_ret
    exact ⟨rfl, a1⟩
  · by_cases hk : k < 1
    · clear h
      go_enter Try.func6, Try.ntmps6
      go_wp2_with fail
      refine (begins2 _).mono ?_
      rintro e w1 ⟨rfl, a1⟩
      go_wp2_with fail
      go_ret
      exact ⟨rfl, a1⟩
    · have hk8 : 8 < k := by omega
      clear h
      go_enter Try.func6, Try.ntmps6
      go_wp2_with fail
      refine (begins2 _).mono ?_
      rintro e w1 ⟨rfl, a1⟩
      go_wp2_with fail
      go_ret
      exact ⟨rfl, a1⟩
theorem walkTopDigits (A : Option Addr) (n c : Nat) (hn : n ≤ maxLen) (zs : List Int) (hlz : zs.length = n) (hz : ∀ k, k < n → (Lit.int .u64 (zs.getD k 0)).wf = true) (k : Int) (hk : (Lit.int .i64 k).wf = true) (w : World) (hs : Sl w w.heap.size A n (fun i => .int .u64 (zs.getD i 0))) :
    Calls Try.prog 6 #[.slice A n c, .int .i64 k] w fun e w' => e = .returned (.bool true) ∧ Below w.heap.size w w' := by
  by_cases h : 60 < n ∨ k < 1 ∨ 8 < k
  · exact topDigits_out A n c hn k h w
  · obtain ⟨k, rfl⟩ : ∃ m : Nat, k = m := ⟨k.toNat, by omega⟩
    exact topDigits_in A n c (by omega) k (by omega) (by omega) zs hlz (fun j hj => bounds_u64 (hz j hj)) w hs
end Go.Proofs.Ytheakfhcllgndaa
