/- Hx, Kind, Quote, Join, CutL, Scope, Cut, Cut0, Cut1, Cut2, CutA, one behind the other. -/
import Derived.Lib.Hide
import Derived.Test.YtkcbmnboccjnnaaGreatDoorMd
import Derived.Test.YtkcbmnboccjnnaaGreatDoorMb
import Derived.Test.YtkcbmnboccjnnaaGreatDoorShelf
import Derived.Scope
import Derived.ScopeJumps
import Derived.WalkMore
import Derived.OwnWalk
import Derived.Outline
import Derived.Lib.BufferRead
/- Plain lists of bytes: bytes told by their digits (chapter 3). Imports nothing of the program. -/

namespace Go.Proofs.YtkcbmnboccjnnaaGreatDoor
namespace Hx
/-- A digit. -/
def dg (n : Nat) : UInt8 := if n < 10 then UInt8.ofNat (48 + n) else UInt8.ofNat (87 + n)
def h2 (c : UInt8) : List UInt8 := [dg (c.toNat / 16), dg (c.toNat % 16)]
def h3 (c : UInt8) : List UInt8 := [dg (c.toNat / 16), dg (c.toNat % 16), 44]
def hexC (l : List UInt8) : List UInt8 := l.flatMap h3
def hex (l : List UInt8) : List UInt8 := (hexC l).dropLast
theorem hexC_nil : hexC [] = [] := rfl
theorem hexC_cons (c : UInt8) (r : List UInt8) : hexC (c :: r) = dg (c.toNat / 16) :: dg (c.toNat % 16) :: 44 :: hexC r := rfl
theorem hexC_snoc (l : List UInt8) (c : UInt8) : hexC (l ++ [c]) = hexC l ++ h3 c := by simp [hexC]
theorem hexC_len (l : List UInt8) : (hexC l).length = 3 * l.length := by
  induction l with
  | nil => rfl
  | cons c r ih => rw [hexC_cons]; simp only [List.length_cons, ih]; omega
theorem hex_len (l : List UInt8) : (hex l).length = 3 * l.length - 1 := by unfold hex; rw [List.length_dropLast, hexC_len]
theorem hex_nil : hex [] = [] := rfl
theorem hex_snoc (l : List UInt8) (c : UInt8) : hex (l ++ [c]) = hexC l ++ h2 c := by
  unfold hex
  rw [hexC_snoc, List.dropLast_append_of_ne_nil (by simp [h3])]
  rfl
theorem hexC_hex (l : List UInt8) (h : l ≠ []) : hexC l = hex l ++ [44] := by
  obtain ⟨r, c, rfl⟩ : ∃ r c, l = r ++ [c] := ⟨l.dropLast, l.getLast h, (List.dropLast_concat_getLast h).symm⟩
  rw [hex_snoc, hexC_snoc]
  simp [h2, h3]
theorem hexC_at (l : List UInt8) : ∀ k, (hk : k < l.length) → (hexC l)[3 * k]? = some (dg (l[k].toNat / 16)) ∧ (hexC l)[3 * k + 1]? = some (dg (l[k].toNat % 16)) ∧ (hexC l)[3 * k + 2]? = some 44 := by
  induction l with
  | nil => intro k hk; simp at hk
  | cons c r ih =>
    intro k hk
    rw [hexC_cons]
    cases k with
    | zero => exact ⟨rfl, rfl, rfl⟩
    | succ k =>
      have hk' : k < r.length := by simpa using hk
      obtain ⟨a, b, d⟩ := ih k hk'
      rw [show 3 * (k + 1) = 3 * k + 1 + 1 + 1 by omega, show 3 * k + 1 + 1 + 1 + 1 = (3 * k + 1) + 1 + 1 + 1 by omega, show 3 * k + 1 + 1 + 1 + 2 = (3 * k + 2) + 1 + 1 + 1 by omega]
      simp only [List.getElem?_cons_succ, List.getElem_cons_succ]
      exact ⟨a, b, d⟩
theorem hex_at (l : List UInt8) (i : Nat) (h : i < 3 * l.length - 1) : (hex l)[i]? = (hexC l)[i]? := by
  unfold hex
  rw [List.getElem?_dropLast, if_pos (by rw [hexC_len]; exact h)]
/-- What a digit counts, or -1. -/
def val (c : UInt8) : Int :=
  if 48 ≤ c.toNat ∧ c.toNat ≤ 57 then (c.toNat : Int) - 48 else if 97 ≤ c.toNat ∧ c.toNat ≤ 102 then (c.toNat : Int) - 97 + 10 else if 65 ≤ c.toNat ∧ c.toNat ≤ 70 then (c.toNat : Int) - 65 + 10 else -1
/-- The letters A to F as a to f. -/
def low (c : UInt8) : UInt8 := if 65 ≤ c.toNat ∧ c.toNat ≤ 70 then c + 32 else c
/-- What a small digit counts, or 16. -/
def num (c : UInt8) : Nat :=
  if 48 ≤ c.toNat ∧ c.toNat ≤ 57 then c.toNat - 48 else if 97 ≤ c.toNat ∧ c.toNat ≤ 102 then c.toNat - 87 else 16
theorem all_bytes {P : UInt8 → Prop} (h : ∀ n, n < 256 → P (UInt8.ofNat n)) (c : UInt8) : P c := by
  have := h c.toNat c.toNat_lt
  simpa using this
theorem val_bd (c : UInt8) : -1 ≤ val c ∧ val c < 16 := by unfold val; split <;> (try split) <;> (try split) <;> omega
theorem num_low (c : UInt8) : 0 ≤ val c → (num (low c) : Int) = val c ∧ dg (val c).toNat = low c := by
  revert c
  apply all_bytes
  decide +kernel
theorem low_dg (c : UInt8) : val c < 0 → ∀ n, n < 16 → low c ≠ dg n := by
  revert c
  apply all_bytes
  decide +kernel
theorem low_comma (c : UInt8) : low c = 44 ↔ c = 44 := by
  revert c
  apply all_bytes
  decide +kernel
theorem val_dg : ∀ n, n < 16 → val (dg n) = n := by decide +kernel
theorem num_dg : ∀ n, n < 16 → num (dg n) = n := by decide +kernel
theorem num_none (c : UInt8) : (∀ n, n < 16 → dg n ≠ c) → num c = 16 := by
  revert c
  apply all_bytes
  decide +kernel
theorem num_le (c : UInt8) : num c ≤ 16 := by unfold num; split <;> (try split) <;> omega
def at_ (s : List UInt8) (i : Nat) : UInt8 := s.getD i 0
/-- The first j bytes of digits are right. -/
def Good (s : List UInt8) (j : Nat) : Prop := ∀ k, k < j → 0 ≤ val (at_ s (3 * k)) ∧ 0 ≤ val (at_ s (3 * k + 1)) ∧ (0 < k → at_ s (3 * k - 1) = 44)
def byt (s : List UInt8) (k : Nat) : UInt8 := UInt8.ofNat (16 * (val (at_ s (3 * k))).toNat + (val (at_ s (3 * k + 1))).toNat)
def bytes (s : List UInt8) (j : Nat) : List UInt8 := (List.range j).map (byt s)
theorem bytes_snoc (s : List UInt8) (j : Nat) : bytes s (j + 1) = bytes s j ++ [byt s j] := by unfold bytes; rw [List.range_succ, List.map_append]; rfl
theorem bytes_len (s : List UInt8) (j : Nat) : (bytes s j).length = j := by simp [bytes]
/-- The digits of bytes. -/
def Okh (s : List UInt8) : Prop := s = [] ∨ (s.length % 3 = 2 ∧ Good s ((s.length + 1) / 3))
def outh (s : List UInt8) : List UInt8 := bytes s ((s.length + 1) / 3)
theorem outh_len (s : List UInt8) : (outh s).length = (s.length + 1) / 3 := bytes_len _ _
theorem at_of {s : List UInt8} {i : Nat} {c : UInt8} (h : s[i]? = some c) : at_ s i = c := by unfold at_; rw [List.getD_eq_getElem?_getD, h]; rfl
theorem div16 (c : UInt8) : c.toNat / 16 < 16 := by have := c.toNat_lt; omega
theorem ofNat_split (c : UInt8) : UInt8.ofNat (16 * (c.toNat / 16) + c.toNat % 16) = c := by
  rw [show 16 * (c.toNat / 16) + c.toNat % 16 = c.toNat by omega]; simp
theorem hex_parts (l : List UInt8) (k : Nat) (hk : k < l.length) : at_ (hex l) (3 * k) = dg (l[k].toNat / 16) ∧ at_ (hex l) (3 * k + 1) = dg (l[k].toNat % 16) ∧ (0 < k → at_ (hex l) (3 * k - 1) = 44) := by
  obtain ⟨a, b, _⟩ := hexC_at l k hk
  refine ⟨at_of (by rw [hex_at _ _ (by omega)]; exact a), at_of (by rw [hex_at _ _ (by omega)]; exact b), fun h0 => ?_⟩
  obtain ⟨j, rfl⟩ : ∃ j, k = j + 1 := ⟨k - 1, by omega⟩
  rw [show 3 * (j + 1) - 1 = 3 * j + 2 by omega]
  exact at_of (by rw [hex_at _ _ (by omega)]; exact (hexC_at l j (by omega)).2.2)
/-- Bytes are read from their digits. -/
theorem ok_hex (l : List UInt8) : Okh (hex l) ∧ outh (hex l) = l := by
  have hlen := hex_len l
  rcases Nat.eq_zero_or_pos l.length with h0 | h0
  · have := List.eq_nil_of_length_eq_zero h0
    subst this
    exact ⟨.inl rfl, rfl⟩
  · have hj : ((hex l).length + 1) / 3 = l.length := by omega
    refine ⟨.inr ⟨by omega, ?_⟩, ?_⟩
    · rw [hj]
      intro k hk
      obtain ⟨a, b, c⟩ := hex_parts l k hk
      rw [a, b, val_dg _ (div16 _), val_dg _ (by omega)]
      exact ⟨by omega, by omega, c⟩
    · unfold outh bytes
      rw [hj]
      apply List.ext_getElem
      · simp
      · intro k h1 h2
        obtain ⟨a, b, c⟩ := hex_parts l k h2
        simp only [List.getElem_map, List.getElem_range, byt]
        rw [a, b, val_dg _ (div16 _), val_dg _ (by omega), Int.toNat_natCast, Int.toNat_natCast, ofNat_split]
/-- What is read of digits has as many. -/
theorem len_out (s : List UInt8) (h : Okh s) : (hex (outh s)).length = s.length := by
  rw [hex_len, outh_len]
  rcases h with rfl | ⟨h, _⟩
  · rfl
  · omega
/-- The document's own way: bytes of whatever digits, told by their digits again. -/
def rbyt (t : List UInt8) (k : Nat) : UInt8 := UInt8.ofNat (16 * num (at_ t (3 * k)) + num (at_ t (3 * k + 1)))
def rbytes (t : List UInt8) (j : Nat) : List UInt8 := (List.range j).map (rbyt t)
theorem rbytes_snoc (s : List UInt8) (j : Nat) : rbytes s (j + 1) = rbytes s j ++ [rbyt s j] := by unfold rbytes; rw [List.range_succ, List.map_append]; rfl
theorem rbytes_len (s : List UInt8) (j : Nat) : (rbytes s j).length = j := by simp [rbytes]
def lows (s : List UInt8) : List UInt8 := s.map low
def routh (s : List UInt8) : List UInt8 := rbytes (lows s) ((s.length + 1) / 3)
theorem at_lows (s : List UInt8) (i : Nat) (h : i < s.length) : at_ (lows s) i = low (at_ s i) := by
  unfold at_ lows
  simp [List.getD_eq_getElem?_getD, List.getElem?_eq_getElem h]
theorem routh_len (s : List UInt8) : (routh s).length = (s.length + 1) / 3 := rbytes_len _ _
theorem rout_ok (s : List UInt8) (h : Okh s) : routh s = outh s ∧ hex (outh s) = lows s := by
  rcases h with rfl | ⟨hm, hg⟩
  · exact ⟨rfl, rfl⟩
  · have key : ∀ k, k < (s.length + 1) / 3 → rbyt (lows s) k = byt s k ∧ (byt s k).toNat / 16 = (val (at_ s (3 * k))).toNat ∧ (byt s k).toNat % 16 = (val (at_ s (3 * k + 1))).toNat := by
      intro k hk
      obtain ⟨a, b, c⟩ := hg k hk
      have e1 := num_low _ a
      have e2 := num_low _ b
      have b1 := val_bd (at_ s (3 * k))
      have b2 := val_bd (at_ s (3 * k + 1))
      have n1 : num (low (at_ s (3 * k))) = (val (at_ s (3 * k))).toNat := by omega
      have n2 : num (low (at_ s (3 * k + 1))) = (val (at_ s (3 * k + 1))).toNat := by omega
      refine ⟨?_, ?_, ?_⟩
      · unfold rbyt byt
        rw [at_lows _ _ (by omega), at_lows _ _ (by omega), n1, n2]
      · unfold byt
        rw [UInt8.toNat_ofNat']
        omega
      · unfold byt
        rw [UInt8.toNat_ofNat']
        omega
    refine ⟨?_, ?_⟩
    · unfold routh outh rbytes bytes
      apply List.map_congr_left
      intro k hk
      exact (key k (List.mem_range.1 hk)).1
    · have hlen : (hex (outh s)).length = s.length := len_out s (.inr ⟨hm, hg⟩)
      apply List.ext_getElem
      · rw [hlen]; simp [lows]
      · intro i h1 h2
        rw [hlen] at h1
        have hk : i / 3 < (outh s).length := by rw [outh_len]; omega
        have hk' : i / 3 < (s.length + 1) / 3 := by rw [outh_len] at hk; exact hk
        obtain ⟨a, b, c⟩ := hex_parts (outh s) (i / 3) hk
        have hb : (outh s)[i / 3] = byt s (i / 3) := by simp [outh, bytes]
        obtain ⟨_, k2, k3⟩ := key _ hk'
        rw [hb, k2] at a
        rw [hb, k3] at b
        obtain ⟨g1, g2, g3⟩ := hg _ hk'
        have e1 := (num_low _ g1).2
        have e2 := (num_low _ g2).2
        have hx : ∀ (l : List UInt8) (h : i < l.length), l[i] = at_ l i := fun l h => by unfold at_; rw [List.getD_eq_getElem?_getD, List.getElem?_eq_getElem h]; rfl
        rw [hx, hx, at_lows _ _ h1]
        have h3 : i = 3 * (i / 3) ∨ i = 3 * (i / 3) + 1 ∨ i = 3 * (i / 3) + 2 := by omega
        rcases h3 with h3 | h3 | h3
        · rw [h3, a, e1]
        · rw [h3, b, e2]
        · have hn : i / 3 + 1 < (outh s).length := by rw [outh_len]; omega
          have p1 := (hex_parts (outh s) (i / 3 + 1) hn).2.2 (by omega)
          have p2 := (hg (i / 3 + 1) (by rw [outh_len] at hn; exact hn)).2.2 (by omega)
          rw [show 3 * (i / 3 + 1) - 1 = i by omega] at p1 p2
          rw [p1, p2]
          rfl
theorem rout_no (s : List UInt8) (h : ¬ Okh s) : hex (routh s) ≠ lows s := by
  intro he
  apply h
  have hlen := congrArg List.length he
  rw [hex_len, routh_len] at hlen
  simp only [lows, List.length_map] at hlen
  rcases Nat.eq_zero_or_pos s.length with h0 | h0
  · exact .inl (List.eq_nil_of_length_eq_zero h0)
  · refine .inr ⟨by omega, fun k hk => ?_⟩
    have hk' : k < (routh s).length := by rw [routh_len]; exact hk
    obtain ⟨a, b, c⟩ := hex_parts (routh s) k hk'
    rw [he] at a b c
    rw [at_lows _ _ (by omega)] at a b
    refine ⟨?_, ?_, fun h0 => ?_⟩
    · rcases Int.lt_or_le (val (at_ s (3 * k))) 0 with hv | hv
      · exact absurd a (low_dg _ hv _ (div16 _))
      · exact hv
    · rcases Int.lt_or_le (val (at_ s (3 * k + 1))) 0 with hv | hv
      · exact absurd b (low_dg _ hv _ (by omega))
      · exact hv
    · have := c h0
      rw [at_lows _ _ (by omega)] at this
      exact (low_comma _).1 this
end Hx
end Go.Proofs.YtkcbmnboccjnnaaGreatDoor
/- Contracts of package scan: kindOf, kindAt. -/


namespace Go.Proofs.YtkcbmnboccjnnaaGreatDoor
open Go.RowKit
/-- What a byte does in a line: 0 it belongs to a field, 1 it parts fields, 2 it may be in a comment alone, 3 quotes, 4 it begins a comment. -/
def knd (c : UInt8) : Nat := if c = 32 ∨ c = 9 ∨ c = 13 then 1 else if c.toNat < 32 ∨ c = 127 then 2 else if c = 34 then 3 else if c = 35 then 4 else 0
theorem knd_cases (c : UInt8) : (knd c = 1 ∧ (c.toNat = 32 ∨ c.toNat = 9 ∨ c.toNat = 13)) ∨ (knd c = 2 ∧ c.toNat ≠ 32 ∧ c.toNat ≠ 9 ∧ c.toNat ≠ 13 ∧ (c.toNat < 32 ∨ c.toNat = 127)) ∨ (knd c = 3 ∧ c.toNat = 34) ∨ (knd c = 4 ∧ c.toNat = 35) ∨ (knd c = 0 ∧ 32 < c.toNat ∧ c.toNat ≠ 127 ∧ c.toNat ≠ 34 ∧ c.toNat ≠ 35) := by
  revert c
  apply Hx.all_bytes
  decide +kernel
theorem kindOf_any (c : UInt8) (w : World) : Calls Tryz.prog 159 #[.int .u8 (c.toNat : Int)] w fun e w' => e = .returned (.int .i64 ((knd c : Nat) : Int)) ∧ w = w' := by
  have hc := c.toNat_lt
  rcases knd_cases c with ⟨hk, h⟩ | ⟨hk, h1, h2, h3, h⟩ | ⟨hk, h⟩ | ⟨hk, h⟩ | ⟨hk, h1, h2, h3, h4⟩
  · rw [hk]
    generalize c.toNat = x at *
    clear hk
    rcases h with rfl | rfl | rfl
    all_goals
      go_enter Tryz.func159, Tryz.ntmps159
      go_wp2
      go_ret
      exact ⟨rfl, rfl⟩
  · rw [hk]
    generalize c.toNat = x at *
    clear hk
    have t1 : ((x : Int) == 32) = false := by rw [beq_eq_false_iff_ne]; omega
    have t2 : ((x : Int) == 9) = false := by rw [beq_eq_false_iff_ne]; omega
    have t3 : ((x : Int) == 13) = false := by rw [beq_eq_false_iff_ne]; omega
    clear h1 h2 h3
    rcases h with h | h
    · have h' : (x : Int) < 32 := by omega
      go_enter Tryz.func159, Tryz.ntmps159
      go_wp2
      go_ret
      exact ⟨rfl, rfl⟩
    · subst h
      clear t1 t2 t3
      go_enter Tryz.func159, Tryz.ntmps159
      go_wp2
      go_ret
      exact ⟨rfl, rfl⟩
  · rw [hk, h]
    go_enter Tryz.func159, Tryz.ntmps159
    go_wp2
    go_ret
    exact ⟨rfl, rfl⟩
  · rw [hk, h]
    go_enter Tryz.func159, Tryz.ntmps159
    go_wp2
    go_ret
    exact ⟨rfl, rfl⟩
  · rw [hk]
    generalize c.toNat = x at *
    clear hk
    have t1 : ((x : Int) == 32) = false := by rw [beq_eq_false_iff_ne]; omega
    have t2 : ((x : Int) == 9) = false := by rw [beq_eq_false_iff_ne]; omega
    have t3 : ((x : Int) == 13) = false := by rw [beq_eq_false_iff_ne]; omega
    have t4 : ((x : Int) == 127) = false := by rw [beq_eq_false_iff_ne]; omega
    have t5 : ((x : Int) == 34) = false := by rw [beq_eq_false_iff_ne]; omega
    have t6 : ((x : Int) == 35) = false := by rw [beq_eq_false_iff_ne]; omega
    have h' : 32 < (x : Int) := by omega
    clear h2 h3 h4
    go_enter Tryz.func159, Tryz.ntmps159
    go_wp2
    go_ret
    exact ⟨rfl, rfl⟩
theorem kindAt_in (S : ByteArray) (k : Nat) (hk : k < S.size) (_hl : S.size ≤ 4294967296) (w : World) : Calls Tryz.prog 144 #[.string S, .int .i64 k] w fun e w' => e = .returned (.int .i64 ((knd S[k] : Nat) : Int)) ∧ w = w' := by
  have hi := idx_str S k hk
  go_enter Tryz.func144, Tryz.ntmps144
  go_wp2_with fail
  refine (kindOf_any S[k] _).mono ?_
  rintro e w' ⟨rfl, rfl⟩
  go_wp2_with fail
  go_ret
  exact ⟨rfl, rfl⟩
theorem kindAt_end (S : ByteArray) (k : Nat) (hk : S.size ≤ k) (_hl : k ≤ 4294967296) (w : World) : Calls Tryz.prog 144 #[.string S, .int .i64 k] w fun e w' => e = .returned (.int .i64 5) ∧ w = w' := by
  go_enter Tryz.func144, Tryz.ntmps144
  go_wp2_with fail
  go_ret
  exact ⟨rfl, rfl⟩
end Go.Proofs.YtkcbmnboccjnnaaGreatDoor
/- Contracts of package scan: Quote. -/

namespace Go.Proofs.YtkcbmnboccjnnaaGreatDoor
open Go.RowKit
def okc (c : UInt8) : Bool := decide (knd c ≠ 2) && decide (knd c ≠ 3)
def wantq (c : UInt8) : Bool := decide (knd c = 1) || decide (knd c = 4)
/-- A text as it may stand in a line as one field. -/
def qt (s : List UInt8) : List UInt8 := if (s.isEmpty || s.any wantq) = true then 34 :: (s ++ [34]) else s
theorem any_snoc (l : List UInt8) (c : UInt8) : (l ++ [c]).any wantq = (l.any wantq || wantq c) := by simp
theorem allok_snoc (l : List UInt8) (c : UInt8) : (l ++ [c]).all okc = (l.all okc && okc c) := by simp
theorem empty_ba (S : ByteArray) : S.toList.isEmpty = S.data.toList.isEmpty := by rw [ByteArray.toList_eq]
/-- What Quote answers. -/
def QtE (l : List UInt8) (e : Ending) : Prop := (l.all okc = true ∧ e = tup (qt l) 0) ∨ (l.all okc = false ∧ e = tup [] 2)
set_option maxHeartbeats 1000000 in
theorem quote_any (S : ByteArray) (w : World) (hl : S.size ≤ 4294967296) :
    Calls Tryz.prog 124 #[.string S] w fun e w' => QtE S.data.toList e ∧ w = w' := by
  go_enter Tryz.func124, Tryz.ntmps124
  go_wp2_with fail
  go_loop [4, 10] (fun q i => ∃ k : Nat, k ≤ S.size ∧ i = .int .i64 k ∧ q = .bool (S.data.toList.isEmpty || (S.data.toList.take k).any wantq) ∧ Hid ((S.data.toList.take k).all okc = true)) (fun _ i => S.size - (intOf i).toNat)
  case atStart => exact ⟨0, Nat.zero_le _, rfl, congrArg Value.bool (by rw [ByteArray.toList_eq]; simp), rfl⟩
  case round =>
    obtain ⟨k, hk, rfl, rfl, hok⟩ := hrel
    by_cases hlt : k < S.size
    · have hi := idx_str S k hlt
      have HA := Lib.hid (show (S.data.toList.take (k + 1)).any wantq = ((S.data.toList.take k).any wantq || wantq S[k]) by rw [take_snoc S k hlt, any_snoc])
      have HO := Lib.hid (show (S.data.toList.take (k + 1)).all okc = okc S[k] by rw [take_snoc S k hlt, allok_snoc, hok.out]; rfl)
      have hbad : okc S[k] = false → S.data.toList.all okc = false := fun h => by
        rw [List.all_eq_false]
        exact ⟨S[k], by have : S[k] = S.data.toList[k]'(by simpa using hlt) := rfl; rw [this]; exact List.getElem_mem _, by rw [h]; simp⟩
      have HB := Lib.hid hbad
      clear hbad
      generalize hq : (S.data.toList.isEmpty || (S.data.toList.take k).any wantq) = q
      have HQ := Lib.hid hq
      clear hq hok
      generalize S[k] = c at *
      have hw : wantq c = (decide (knd c = 1) || decide (knd c = 4)) := rfl
      have ho : okc c = (decide (knd c ≠ 2) && decide (knd c ≠ 3)) := rfl
      rcases knd_cases c with ⟨hkd, -⟩ | ⟨hkd, -⟩ | ⟨hkd, -⟩ | ⟨hkd, -⟩ | ⟨hkd, -⟩
      · rw [hkd] at hw ho
        have HW := Lib.hid hw
        have HC := Lib.hid ho
        have HK := Lib.hid hkd
        clear hw ho hkd
        go_wp2_with fail
        refine (kindOf_any c _).mono ?_
        rintro e w' ⟨rfl, rfl⟩
        rw [HK.out]
        go_wp2_with fail
        go_round
        case rel =>
          refine ⟨k + 1, by omega, by go_num, ?_, by rw [HO.out, HC.out]; rfl⟩
          rw [HA.out, HW.out, ← Bool.or_assoc, HQ.out]
          cases q <;> rfl
        case measure => simp [intOf]; omega
      · rw [hkd] at hw ho
        have HW := Lib.hid hw
        have HC := Lib.hid ho
        have HK := Lib.hid hkd
        clear hw ho hkd
        go_wp2_with fail
        refine (kindOf_any c _).mono ?_
        rintro e w' ⟨rfl, rfl⟩
        rw [HK.out]
        go_wp2_with fail
        go_ret2
        refine ⟨?_, rfl⟩
        have hz : okc c = false := by rw [HC.out]; rfl
        have hy := HB.out hz
        refine .inr ⟨hy, ?_⟩
        rfl
      · rw [hkd] at hw ho
        have HW := Lib.hid hw
        have HC := Lib.hid ho
        have HK := Lib.hid hkd
        clear hw ho hkd
        go_wp2_with fail
        refine (kindOf_any c _).mono ?_
        rintro e w' ⟨rfl, rfl⟩
        rw [HK.out]
        go_wp2_with fail
        go_ret2
        refine ⟨?_, rfl⟩
        have hz : okc c = false := by rw [HC.out]; rfl
        have hy := HB.out hz
        refine .inr ⟨hy, ?_⟩
        rfl
      · rw [hkd] at hw ho
        have HW := Lib.hid hw
        have HC := Lib.hid ho
        have HK := Lib.hid hkd
        clear hw ho hkd
        go_wp2_with fail
        refine (kindOf_any c _).mono ?_
        rintro e w' ⟨rfl, rfl⟩
        rw [HK.out]
        go_wp2_with fail
        go_round
        case rel =>
          refine ⟨k + 1, by omega, by go_num, ?_, by rw [HO.out, HC.out]; rfl⟩
          rw [HA.out, HW.out, ← Bool.or_assoc, HQ.out]
          cases q <;> rfl
        case measure => simp [intOf]; omega
      · rw [hkd] at hw ho
        have HW := Lib.hid hw
        have HC := Lib.hid ho
        have HK := Lib.hid hkd
        clear hw ho hkd
        go_wp2_with fail
        refine (kindOf_any c _).mono ?_
        rintro e w' ⟨rfl, rfl⟩
        rw [HK.out]
        go_wp2_with fail
        go_round
        case rel =>
          refine ⟨k + 1, by omega, by go_num, ?_, by rw [HO.out, HC.out]; rfl⟩
          rw [HA.out, HW.out, ← Bool.or_assoc, HQ.out]
          cases q <;> rfl
        case measure => simp [intOf]; omega
    · obtain rfl : k = S.size := by omega
      rw [take_all] at hok ⊢
      have hsz : S.data.toList.length = S.size := by simp
      by_cases hw : (S.data.toList.isEmpty || S.data.toList.any wantq) = true
      · have hq : qt S.data.toList = 34 :: (S.data.toList ++ [34]) := by unfold qt; rw [if_pos hw]
        rw [hw]
        have HE := Lib.hid (show QtE S.data.toList (tup (34 :: (S.data.toList ++ [34])) 0) from .inl ⟨hok.out, by rw [hq]⟩)
        clear hw hq hok hsz
        go_wp2_with fail
        go_ret2
        refine ⟨?_, rfl⟩
        have e1 : (⟨#[34]⟩ : ByteArray) ++ S ++ ⟨#[34]⟩ = ⟨(34 :: (S.data.toList ++ [34])).toArray⟩ := by
          apply ByteArray.ext
          simp
        have := HE.out
        unfold tup at this
        rw [← e1] at this
        exact this
      · have hq : qt S.data.toList = S.data.toList := by unfold qt; rw [if_neg hw]
        rw [Bool.not_eq_true] at hw
        rw [hw]
        have HE := Lib.hid (show QtE S.data.toList (tup S.data.toList 0) from .inl ⟨hok.out, by rw [hq]⟩)
        clear hw hq hok hsz
        go_wp2_with fail
        go_ret2
        exact ⟨HE.out, rfl⟩
end Go.Proofs.YtkcbmnboccjnnaaGreatDoor
/- Contracts of package scan: Join. -/



namespace Go.Proofs.YtkcbmnboccjnnaaGreatDoor
open Go.RowKit
/-- A row of strings of the call's own, its first block: it has n places, and the first ones hold l. -/
structure Sb (w : World) (n : Nat) (l : List (List UInt8)) (wr : World) : Prop where
  cells : ∀ j (hj : j < l.length), wr.cell? ⟨w.heap.size, j, none⟩ = some (.string ⟨l[j].toArray⟩)
  some_ : ∀ j, j < n → (wr.cell? ⟨w.heap.size, j, none⟩).isSome = true
  free : ∀ j, wr.frozen? ⟨w.heap.size, j, none⟩ = false
  below : Below w.heap.size w wr
  more : w.heap.size < wr.heap.size
theorem Sb.new (w : World) (n : Nat) (z : Array Value) (hz : z.size = n) (t : TypeId) : Sb w n [] (w.alloc (.cells z t)) := by
  have hn : (w.alloc (.cells z t)).heap[w.heap.size]? = some (.cells z t (0, 0)) := heap_alloc_new _ _
  exact ⟨fun j hj => absurd hj (by simp), fun j hj => isSome_blk hn j (by omega), fun j => frozen_blk hn j, (Below.refl _ _).alloc (Nat.le_refl _) _, by simp⟩
theorem Sb.put {w wr : World} {n : Nat} {l : List (List UInt8)} (h : Sb w n l wr) (s : List UInt8) (hn : l.length < n) (k : Nat) (hk : k = l.length) : Sb w n (l ++ [s]) (wr.setCell ⟨w.heap.size, k, none⟩ (.string ⟨s.toArray⟩)) := by
  subst hk
  have hs := h.some_ l.length hn
  refine ⟨fun j hj => ?_, fun j hj => ?_, fun j => by rw [World.frozen?_setCell]; exact h.free j, h.below.setCell (Nat.le_refl _) _, by simpa using h.more⟩
  · by_cases hjl : j = l.length
    · subst hjl
      rw [World.cell?_setCell_same' _ _ _ hs]
      simp
    · have hj' : j < l.length := by simp at hj; omega
      rw [World.cell?_setCell_other _ _ _ _ (by intro e; apply hjl; injection e with _ e; exact e.symm), h.cells j hj']
      simp [List.getElem_append_left hj']
  · by_cases hjl : j = l.length
    · subst hjl
      rw [World.cell?_setCell_same' _ _ _ hs]; rfl
    · rw [World.cell?_setCell_other _ _ _ _ (by intro e; apply hjl; injection e with _ e; exact e.symm)]
      exact h.some_ j hj
theorem str_info : (Tryz.prog.info? 9).map (fun i => (i.zero, i.size, i.bytes)) = some (some (.string ⟨#[]⟩), 1, 16) := by kernel_rfl
theorem make_str (n : Nat) (hn : n ≤ 1000000) (w : World) : (Instr.makeSlice 35 (.int .i64 (n : Int)) (.int .i64 (n : Int))).run Tryz.prog w = .ok (.slice (some ⟨w.heap.size, 0, none⟩) n n) (w.alloc (.cells (madeCells (Value.cells (.string ⟨#[]⟩)) n) 9)) := by
  obtain ⟨i0, hi, hz0, hz1, hz2⟩ := info_parts str_info
  have hr := run_make (P := Tryz.prog) w 35 9 i0 (.string ⟨#[]⟩) Tryz.underlying35 hi hz0 .i64 .i64 n n (by omega) (by omega) (by rw [hz2]; omega) (by omega)
  rw [hz1] at hr
  simpa using hr
/-- A line whose fields are l. -/
def lineOf (l : List (List UInt8)) : List UInt8 := Lib.join (l.map qt) [32]
/-- What Join answers. -/
def JoinE (l : List (List UInt8)) (e : Ending) : Prop :=
  (24 < l.length ∧ e = tup [] 6) ∨ (l.length ≤ 24 ∧ (∃ s ∈ l, s.all okc = false) ∧ e = tup [] 2) ∨
    (l.length ≤ 24 ∧ (∀ s ∈ l, s.all okc = true) ∧ ((2048 < (lineOf l).length ∧ e = tup [] 6) ∨ ((lineOf l).length ≤ 2048 ∧ e = tup (lineOf l) 0)))
theorem qt_len (s : List UInt8) : (qt s).length ≤ s.length + 2 := by
  unfold qt
  split
  · simp
  · omega
theorem joinTail_len (M : Nat) : ∀ l : List (List UInt8), (∀ s ∈ l, s.length ≤ M) → (Lib.joinTail [32] l).length ≤ l.length * (M + 1)
  | [], _ => by simp [Lib.joinTail]
  | s :: r, h => by
    have ih := joinTail_len M r (fun t ht => h t (by simp [ht]))
    have hs := h s (by simp)
    have e : Lib.joinTail [32] (s :: r) = ([32] ++ s) ++ Lib.joinTail [32] r := rfl
    rw [e, List.length_append, List.length_append, List.length_cons, List.length_cons, List.length_nil, Nat.add_mul]
    omega
theorem join_len (M : Nat) (l : List (List UInt8)) (h : ∀ s ∈ l, s.length ≤ M) : (Lib.join l [32]).length ≤ l.length * (M + 1) := by
  cases l with
  | nil => simp [Lib.join_nil]
  | cons s r =>
    have hs := h s (by simp)
    have ht := joinTail_len M r (fun t ht => h t (by simp [ht]))
    rw [Lib.join_cons, List.length_append, List.length_cons, Nat.add_mul]
    omega
theorem line_len (M : Nat) (l : List (List UInt8)) (h : ∀ s ∈ l, s.length ≤ M) : (lineOf l).length ≤ l.length * (M + 3) := by
  have := join_len (M + 2) (l.map qt) (fun s hs => by
    obtain ⟨t, ht, rfl⟩ := List.mem_map.1 hs
    have := qt_len t
    have := h t ht
    omega)
  rw [List.length_map] at this
  exact this
set_option maxHeartbeats 1000000 in
theorem join_any (A : Option Addr) (n c : Nat) (hn : n ≤ 9223372036854775807) (ss : List (List UInt8)) (hlz : ss.length = n) (hz : ∀ k, k < n → (ss.getD k []).length ≤ 4294967296) (B : Nat) (w : World) (hB : B ≤ w.heap.size) (hs : Sl w B A n (fun i => .string ⟨(ss.getD i []).toArray⟩)) :
    Calls Tryz.prog 75 #[.slice A n c] w fun e w' => JoinE ss e ∧ Below w.heap.size w w' := by
  by_cases h24 : 24 < n
  · have HE := Lib.hid (show JoinE ss (tup [] 6) from .inl ⟨by omega, rfl⟩)
    go_enter Tryz.func75, Tryz.ntmps75
    go_wp2_with fail
    go_ret2
    exact ⟨HE.out, Below.refl _ _⟩
  · have hmk := make_str n (by omega)
    have HLZ := Lib.hid hlz
    clear hlz
    go_enter Tryz.func75, Tryz.ntmps75
    go_wp2_with fail
    clear hmk
    go_loopw [18] (fun i wr => ∃ k : Nat, k ≤ n ∧ i = .int .i64 k ∧ (∀ j, j < k → (ss.getD j []).all okc = true) ∧ Sb w n ((ss.take k).map qt) wr) (fun i _ => n - (intOf i).toNat)
    case atStart => exact ⟨0, Nat.zero_le _, rfl, fun j hj => absurd hj (by omega), Sb.new _ _ _ (size_madeCells _ _) _⟩
    case round =>
      obtain ⟨k, hk, rfl, hok, hI⟩ := hrel
      have hlz := HLZ.out
      by_cases hlt : k < n
      · obtain ⟨ad, rfl, hal, hc⟩ := (hs.below (hI.below.mono hB)).at_ hlt
        change wr.cell? (ad.add k) = some (.string ⟨(ss.getD k []).toArray⟩) at hc
        have hlk := hz k hlt
        have htk : ss.take (k + 1) = ss.take k ++ [ss.getD k []] := by
          rw [List.take_succ_eq_append_getElem (by omega), List.getD_eq_getElem?_getD, List.getElem?_eq_getElem (by omega)]; rfl
        have hmem : ss.getD k [] ∈ ss := by rw [List.getD_eq_getElem?_getD, List.getElem?_eq_getElem (by omega)]; exact List.getElem_mem _
        have hln : ((ss.take k).map qt).length = k := by simp; omega
        have hok2 : (ss.getD k []).all okc = true → ∀ j, j < k + 1 → (ss.getD j []).all okc = true := fun h j hj => by
          by_cases hjk : j = k
          · subst hjk; exact h
          · exact hok j (by omega)
        have hput : Sb w n ((ss.take (k + 1)).map qt) (wr.setCell ⟨w.heap.size, k, none⟩ (.string ⟨(qt (ss.getD k [])).toArray⟩)) := by
          rw [htk, List.map_append]
          exact hI.put (qt (ss.getD k [])) (by omega) k hln.symm
        have hfr := hI.free k
        obtain ⟨v0, hsm⟩ := Option.isSome_iff_exists.1 (hI.some_ k hlt)
        have hbw := hI.below
        have HOK := Lib.hid hok2
        have HPUT := Lib.hid hput
        have HMEM := Lib.hid hmem
        have hszk := size_ba (ss.getD k [])
        clear htk hok2 hput hmem hln hok hI
        generalize hsk : ss.getD k [] = s at *
        clear hsk
        go_wp2_with fail
        refine (quote_any ⟨s.toArray⟩ _ (by omega)).mono ?_
        rintro e w' ⟨hQ, rfl⟩
        change QtE s e at hQ
        rcases hQ with ⟨hy, rfl⟩ | ⟨hno, rfl⟩
        · unfold tup
          have HY := Lib.hid hy
          clear hy
          go_wp2_with fail
          go_roundw
          case rel => exact ⟨k + 1, by omega, by go_num, HOK.out HY.out, HPUT.out⟩
          case measure => simp [intOf]; omega
        · unfold tup
          have HE := Lib.hid (show JoinE ss (tup [] 2) from .inr (.inl ⟨by omega, ⟨s, HMEM.out, hno⟩, rfl⟩))
          clear hno
          go_wp2_with fail
          go_ret2
          exact ⟨HE.out, hbw⟩
      · obtain rfl : k = n := by omega
        rw [List.take_of_length_le (by omega)] at hI
        have hall : ∀ s ∈ ss, s.all okc = true := fun s hs' => by
          obtain ⟨j, hj, rfl⟩ := List.mem_iff_getElem.1 hs'
          have := hok j (by omega)
          rwa [List.getD_eq_getElem?_getD, List.getElem?_eq_getElem (by omega)] at this
        have hbw := hI.below
        by_cases h0 : k = 0
        · have hnil : ss = [] := List.eq_nil_of_length_eq_zero (by omega)
          have HE := Lib.hid (show JoinE ss (tup [] 0) from .inr (.inr ⟨by omega, hall, .inr ⟨by rw [hnil]; simp [lineOf, Lib.join_nil], by rw [hnil]; rfl⟩⟩))
          clear hall hok hI hlz hnil
          subst h0
          go_wp2_with fail
          refine (Tryz.strings_Join_none _ _ _ _).mono ?_
          rintro e w' ⟨rfl, rfl⟩
          go_wp2_with fail
          go_ret2
          exact ⟨HE.out, hbw⟩
        · have hxs : ((ss.map qt).map fun l => (⟨l.toArray⟩ : ByteArray)).length = k := by simp; omega
          have hmm : ((ss.map qt).map fun l => (⟨l.toArray⟩ : ByteArray)).map (·.data.toList) = ss.map qt := by
            rw [List.map_map]
            conv => rhs; rw [← List.map_id (ss.map qt)]
            apply List.map_congr_left
            intro l _
            simp
          have hll : (lineOf ss).length ≤ 140737488355328 := by
            have := line_len 4294967296 ss (fun s hs' => by
              obtain ⟨j, hj, rfl⟩ := List.mem_iff_getElem.1 hs'
              have := hz j (by omega)
              rwa [List.getD_eq_getElem?_getD, List.getElem?_eq_getElem (by omega)] at this)
            have h2 : ss.length * (4294967296 + 3) ≤ 24 * (4294967296 + 3) := Nat.mul_le_mul_right _ (by omega)
            omega
          have hjoin := Tryz.strings_Join w.heap.size 0 k ((ss.map qt).map fun l => (⟨l.toArray⟩ : ByteArray)) ⟨#[32]⟩ wr (fun j x hx => by
            rw [List.getElem?_map] at hx
            obtain ⟨l, hl1, hl2⟩ := Option.map_eq_some_iff.1 hx
            have hj : j < (ss.map qt).length := (List.getElem?_eq_some_iff.1 hl1).1
            have := hI.cells j hj
            rw [Nat.zero_add, this, ← hl2]
            rw [List.getElem?_eq_getElem hj] at hl1
            injection hl1 with hl1
            rw [hl1]) hI.more (by rw [hxs]; omega) (by rw [hxs]; exact Nat.le_refl _) (by rw [hmm]; exact hll)
          rw [hmm, hxs] at hjoin
          have HJ : Hid _ := Lib.hid hjoin
          clear hjoin hmm hxs hok hI hlz
          go_wp2_with fail
          refine HJ.out.mono ?_
          rintro e w2 ⟨rfl, b2⟩
          have a2 := hbw.trans (b2.mono hbw.size)
          clear b2 HJ
          have hsz := size_ba (lineOf ss)
          change Hid (∀ s ∈ ss, s.all okc = true) at hall
          by_cases hbig : 2048 < (lineOf ss).length
          · have HE := Lib.hid (show JoinE ss (tup [] 6) from .inr (.inr ⟨by have := HLZ.out; omega, hall.out, .inl ⟨hbig, rfl⟩⟩))
            change (⟨(Lib.join (ss.map qt) [32]).toArray⟩ : ByteArray).size = _ at hsz
            generalize (⟨(Lib.join (ss.map qt) [32]).toArray⟩ : ByteArray) = L at *
            have hL : 2048 < L.size := by omega
            clear hsz hbig
            go_wp2_with fail
            go_ret2
            exact ⟨HE.out, a2⟩
          · have HE := Lib.hid (show JoinE ss (tup (lineOf ss) 0) from .inr (.inr ⟨by have := HLZ.out; omega, hall.out, .inr ⟨by omega, rfl⟩⟩))
            change Hid (JoinE ss (.returned (.tuple #[.string (⟨(Lib.join (ss.map qt) [32]).toArray⟩ : ByteArray), .int .i64 0]))) at HE
            change (⟨(Lib.join (ss.map qt) [32]).toArray⟩ : ByteArray).size = _ at hsz
            generalize (⟨(Lib.join (ss.map qt) [32]).toArray⟩ : ByteArray) = L at *
            have hL : L.size ≤ 2048 := by omega
            clear hsz hbig
            go_wp2_with fail
            go_ret2
            exact ⟨HE.out, a2⟩
end Go.Proofs.YtkcbmnboccjnnaaGreatDoor
/- Plain lists of bytes: how a line is cut into its fields (chapter 4), and that what was joined is cut again. -/

namespace Go.Proofs.YtkcbmnboccjnnaaGreatDoor
/-- What cutting a line answers: the fields, each with its column; or a column, and why. -/
abbrev CRes := Sum (List (List UInt8 × Nat)) (Nat × Nat)
/-- Where a line is gone through: between fields; in one, with its text so far and where it began; in quotes, and where they began. -/
abbrev CSt := Option (List UInt8 × Nat × Option Nat)
def cutL : List UInt8 → CSt → List (List UInt8 × Nat) → Nat → CRes
  | [], none, fs, _ => .inl fs
  | [], some (t, b, none), fs, _ => .inl (fs ++ [(t, b + 1)])
  | [], some (_, _, some q), _, _ => .inr (q + 1, 5)
  | c :: r, none, fs, i => if knd c = 1 then cutL r none fs (i + 1) else if knd c = 2 then .inr (i + 1, 4) else if knd c = 4 then .inl fs else if fs.length = 24 then .inr (i + 1, 6) else if knd c = 0 then cutL r (some ([c], i, none)) fs (i + 1) else cutL r (some ([], i, some i)) fs (i + 1)
  | c :: r, some (t, b, none), fs, i => if knd c = 0 then cutL r (some ((t ++ [c]), b, none)) fs (i + 1) else if knd c = 3 then cutL r (some (t, b, some i)) fs (i + 1) else if knd c = 1 then cutL r none (fs ++ [(t, b + 1)]) (i + 1) else if knd c = 2 then .inr (i + 1, 4) else .inl (fs ++ [(t, b + 1)])
  | c :: r, some (t, b, some q), fs, i => if knd c = 2 then .inr (i + 1, 4) else if knd c = 3 then cutL r (some (t, b, none)) fs (i + 1) else cutL r (some ((t ++ [c]), b, some q)) fs (i + 1)
/-- The texts of fields. -/
def texts (r : CRes) : Option (List (List UInt8)) := match r with
  | .inl fs => some (fs.map (·.1))
  | .inr _ => none
theorem knd_kinds (c : UInt8) : knd c = 0 ∨ knd c = 1 ∨ knd c = 2 ∨ knd c = 3 ∨ knd c = 4 := by
  rcases knd_cases c with ⟨h, _⟩ | ⟨h, _⟩ | ⟨h, _⟩ | ⟨h, _⟩ | ⟨h, _⟩ <;> omega
theorem okc_kinds {c : UInt8} (h : okc c = true) : knd c ≠ 2 ∧ knd c ≠ 3 := by
  unfold okc at h
  simpa using h
theorem wantq_no {c : UInt8} (h : wantq c = false) : knd c ≠ 1 ∧ knd c ≠ 4 := by
  unfold wantq at h
  simpa using h
/-- A text that needs no quotes is one field's. -/
theorem cut_plain (s r : List UInt8) : ∀ (t : List UInt8) (b i : Nat) (fs : List (List UInt8 × Nat)), (∀ c ∈ s, knd c = 0) → cutL (s ++ r) (some (t, b, none)) fs i = cutL r (some ((t ++ s), b, none)) fs (i + s.length) := by
  induction s with
  | nil => intro t b i fs _; simp
  | cons c s ih =>
    intro t b i fs h
    rw [List.cons_append]
    conv => lhs; unfold cutL
    rw [if_pos (h c (by simp)), ih _ _ _ _ (fun x hx => h x (by simp [hx]))]
    simp only [List.append_assoc, List.singleton_append, List.length_cons]
    congr 1
    omega
/-- What is within quotes is one field's. -/
theorem cut_quo (s r : List UInt8) : ∀ (t : List UInt8) (b q i : Nat) (fs : List (List UInt8 × Nat)), (∀ c ∈ s, okc c = true) → cutL (s ++ 34 :: r) (some (t, b, some q)) fs i = cutL r (some ((t ++ s), b, none)) fs (i + s.length + 1) := by
  induction s with
  | nil =>
    intro t b q i fs _
    rw [List.nil_append, List.append_nil]
    conv => lhs; unfold cutL
    rw [if_neg (by decide), if_pos (by decide)]
    rfl
  | cons c s ih =>
    intro t b q i fs h
    obtain ⟨h2, h3⟩ := okc_kinds (h c (by simp))
    rw [List.cons_append]
    conv => lhs; unfold cutL
    rw [if_neg h2, if_neg h3, ih _ _ _ _ _ (fun x hx => h x (by simp [hx]))]
    simp only [List.append_assoc, List.singleton_append, List.length_cons]
    congr 1
    omega
/-- A text as it may stand in a line is one field's. -/
theorem cut_qt (s r : List UInt8) (i : Nat) (fs : List (List UInt8 × Nat)) (hs : ∀ c ∈ s, okc c = true) (hf : fs.length < 24) : ∃ i', cutL (qt s ++ r) none fs i = cutL r (some (s, i, none)) fs i' := by
  unfold qt
  split
  · refine ⟨i + 1 + s.length + 1, ?_⟩
    rw [List.cons_append]
    conv => lhs; unfold cutL
    rw [if_neg (by decide), if_neg (by decide), if_neg (by decide), if_neg (by omega), if_neg (by decide), List.append_assoc]
    show cutL (s ++ 34 :: r) (some ([], i, some i)) fs (i + 1) = _
    rw [cut_quo s r _ _ _ _ _ hs]
    rfl
  · rename_i hq
    rw [Bool.not_eq_true, Bool.or_eq_false_iff] at hq
    obtain ⟨he, ha⟩ := hq
    have hk : ∀ c ∈ s, knd c = 0 := fun c hc => by
      have h1 := okc_kinds (hs c hc)
      have h2 : wantq c = false := by
        rw [List.any_eq_false] at ha
        simpa using ha c hc
      have h3 := wantq_no h2
      rcases knd_kinds c with h | h | h | h | h <;> omega
    cases s with
    | nil => cases he
    | cons c s =>
      refine ⟨i + 1 + s.length, ?_⟩
      have h0 := hk c (by simp)
      rw [List.cons_append]
      conv => lhs; unfold cutL
      rw [if_neg (by omega), if_neg (by omega), if_neg (by omega), if_neg (by omega), if_pos h0, cut_plain s r _ _ _ _ (fun x hx => hk x (by simp [hx]))]
      rfl
theorem cut_joined : ∀ (l : List (List UInt8)) (s : List UInt8) (b i : Nat) (fs : List (List UInt8 × Nat)), (∀ x ∈ l, ∀ c ∈ x, okc c = true) → fs.length + 1 + l.length ≤ 24 →
    texts (cutL (Lib.joinTail [32] (l.map qt)) (some (s, b, none)) fs i) = some (fs.map (·.1) ++ s :: l) := by
  intro l
  induction l with
  | nil =>
    intro s b i fs _ _
    show texts (cutL [] (some (s, b, none)) fs i) = _
    unfold cutL
    simp [texts]
  | cons x l ih =>
    intro s b i fs h hn
    have e : Lib.joinTail [32] ((x :: l).map qt) = 32 :: (qt x ++ Lib.joinTail [32] (l.map qt)) := rfl
    rw [e]
    conv => lhs; unfold cutL
    rw [if_neg (by decide), if_neg (by decide), if_pos (by decide)]
    simp only [List.length_cons] at hn
    obtain ⟨i', he⟩ := cut_qt x (Lib.joinTail [32] (l.map qt)) (i + 1) (fs ++ [(s, b + 1)]) (h x (by simp)) (by simp; omega)
    rw [he, ih x _ _ _ (fun y hy => h y (by simp [hy])) (by simp; omega)]
    simp
/-- The fields of what was joined are those that were joined. -/
theorem cut_line (l : List (List UInt8)) (h : ∀ x ∈ l, x.all okc = true) (hn : l.length ≤ 24) : texts (cutL (lineOf l) none [] 0) = some l := by
  have h' : ∀ x ∈ l, ∀ c ∈ x, okc c = true := fun x hx c hc => List.all_eq_true.1 (h x hx) c hc
  cases l with
  | nil => rfl
  | cons x l =>
    unfold lineOf
    rw [List.map_cons, Lib.join_cons]
    obtain ⟨i', he⟩ := cut_qt x (Lib.joinTail [32] (l.map qt)) 0 [] (h' x (by simp)) (by simp)
    rw [he, cut_joined l x _ _ _ (fun y hy => h' y (by simp [hy])) (by simp at hn ⊢; omega)]
    rfl
end Go.Proofs.YtkcbmnboccjnnaaGreatDoor
/- A scope in which the run jumps between three labels: what holds at each jump, and a measure that every pass from a label lowers. Imports nothing of the program. -/


namespace Go.Proofs.YtkcbmnboccjnnaaGreatDoor
/-- By a goto to a label l: J l; any other way out as Q says. -/
def jumps (J : Nat → Act → World → Prop) (Q : Exit → Act → World → Prop) : Exit → Act → World → Prop
  | .goto l, a, w => J l a w
  | .normal, a, w => Q .normal a w
  | .exit i, a, w => Q (.exit i) a w
  | .ret, a, w => Q .ret a w
  | .panic ch, a, w => Q (.panic ch) a w
  | .outgrown, a, w => Q .outgrown a w
theorem jumps_ret {J : Nat → Act → World → Prop} {Q : Exit → Act → World → Prop} {a : Act} {w : World} : jumps J Q .ret a w = Q .ret a w := rfl
theorem wp_labels {P : Program} {a : Act} {w : World} {Q : Exit → Act → World → Prop} {c : Code} (J : Nat → Act → World → Prop) (μ : Nat → Act → World → Nat) (rest : Nat → Code) (hf : ∀ l a w, J l a w → findLabel c l = some (rest l))
    (first : c.wp P (jumps J Q) a w) (pass : ∀ l a w, J l a w → (rest l).wp P (jumps (fun l' a' w' => J l' a' w' ∧ μ l' a' w' < μ l a w) Q) a w) : (Code.scope c).wp P Q a w := by
  intro b k cs
  have key : ∀ n l a w, μ l a w = n → J l a w → ∃ e a' w', Q e a' w' ∧ Arrives P (lone (b.at a (.code (rest l) :: .inScope c :: k)) cs w) b k cs e a' w' := by
    intro n
    induction n using Nat.strongRecOn with
    | _ n ih =>
      intro l a w hn hJ
      obtain ⟨e, a₁, w₁, hq, harr⟩ := pass l a w hJ b (.inScope c :: k) cs
      cases e with
      | normal => exact ⟨.normal, a₁, w₁, hq, Steps.trans harr (.one step_inScope)⟩
      | exit id => exact ⟨.exit id, a₁, w₁, hq, fun k' hk => harr k' (by simp [exitTo, hk])⟩
      | goto l' =>
        obtain ⟨hJ', hlt⟩ := hq
        have hg : gotoIn l' (.inScope c :: k) = some (.code (rest l') :: .inScope c :: k) := by simp [gotoIn, hf l' a₁ w₁ hJ']
        obtain ⟨e₂, a₂, w₂, hq₂, harr₂⟩ := ih _ (by omega) l' a₁ w₁ rfl hJ'
        exact ⟨e₂, a₂, w₂, hq₂, .of_steps (harr _ hg) harr₂⟩
      | ret => exact ⟨_, a₁, w₁, hq, harr⟩
      | panic ch => exact ⟨_, a₁, w₁, hq, harr⟩
      | outgrown => exact ⟨_, a₁, w₁, hq, harr⟩
  obtain ⟨e, a₁, w₁, hq, harr⟩ := first b (.inScope c :: k) cs
  cases e with
  | normal => exact ⟨.normal, a₁, w₁, hq, .head step_scope (Steps.trans harr (.one step_inScope))⟩
  | exit id => exact ⟨.exit id, a₁, w₁, hq, fun k' hk => .head step_scope (harr k' (by simp [exitTo, hk]))⟩
  | goto l' =>
    have hg : gotoIn l' (.inScope c :: k) = some (.code (rest l') :: .inScope c :: k) := by simp [gotoIn, hf l' a₁ w₁ hq]
    obtain ⟨e₂, a₂, w₂, hq₂, harr₂⟩ := key _ l' a₁ w₁ rfl hq
    exact ⟨e₂, a₂, w₂, hq₂, .of_steps (.head step_scope (harr _ hg)) harr₂⟩
  | ret => exact ⟨_, a₁, w₁, hq, .of_steps (.one step_scope) harr⟩
  | panic ch => exact ⟨_, a₁, w₁, hq, .of_steps (.one step_scope) harr⟩
  | outgrown => exact ⟨_, a₁, w₁, hq, .of_steps (.one step_scope) harr⟩
end Go.Proofs.YtkcbmnboccjnnaaGreatDoor
/- Contracts of package scan: cut, first part: what holds at each jump, and the passes. -/






namespace Go.Proofs.YtkcbmnboccjnnaaGreatDoor
open Go.RowKit
/-- The cells of fields. -/
def fcells (fs : List (List UInt8 × Nat)) : List Value := fs.flatMap fun x => [.string ⟨x.1.toArray⟩, .int .i64 (x.2 : Int)]
theorem fcells_snoc (fs : List (List UInt8 × Nat)) (x : List UInt8 × Nat) : fcells (fs ++ [x]) = fcells fs ++ [.string ⟨x.1.toArray⟩, .int .i64 (x.2 : Int)] := by simp [fcells]
theorem fcells_len (fs : List (List UInt8 × Nat)) : (fcells fs).length = fs.length * 2 := by
  induction fs with
  | nil => rfl
  | cons x r ih => show (.string ⟨x.1.toArray⟩ :: .int .i64 (x.2 : Int) :: fcells r).length = _; simp only [List.length_cons, ih]; omega
def firstScope : Code → Option Code
  | .scope c => some c
  | .seq a b => match firstScope a with
    | some c => some c
    | none => firstScope b
  | _ => none
noncomputable def cutBody : Code := (Tryz.f89.body.bind firstScope).getD .skip
noncomputable def cutRest (l : Nat) : Code := (findLabel cutBody l).getD .skip
/-- What stands behind a label's mark. -/
def behind : Code → Code
  | .seq .skip x => x
  | .seq a _ => behind a
  | x => x
/-- What holds wherever the run jumps to label l. -/
def CutJ (w0 : World) (S : ByteArray) (R : CRes) (l : Nat) (a : Act) (w : World) : Prop :=
  a.defers = [] ∧ a.tmps.size = 80 ∧ a.tmps.getD 0 undef = .string S ∧ Below w0.heap.size w0 w ∧ ∃ (fs : List (List UInt8 × Nat)) (vf : Value) (i : Nat), i ≤ S.size ∧ a.tmps.getD 7 undef = .int .i64 i ∧ a.tmps.getD 5 undef = vf ∧ w.ownsRow w0.heap.size 102 2 vf fs.length (fcells fs) ∧
    ((l = 0 ∧ fs.length ≤ i ∧ cutL (S.data.toList.drop i) none fs i = R) ∨
     (l = 1 ∧ fs.length + 1 ≤ i ∧ ∃ (t : List UInt8) (vt : Value) (b : Nat), b ≤ i ∧ t.length ≤ i ∧ a.tmps.getD 6 undef = vt ∧ a.tmps.getD 8 undef = .int .i64 b ∧ w.ownsRow w0.heap.size 5 1 vt t.length (Lib.byteCells t) ∧ cutL (S.data.toList.drop i) (some (t, b, none)) fs i = R) ∨
     (l = 2 ∧ fs.length + 1 ≤ i ∧ ∃ (t : List UInt8) (vt : Value) (b q : Nat), b ≤ i ∧ t.length ≤ i ∧ q ≤ i ∧ a.tmps.getD 6 undef = vt ∧ a.tmps.getD 8 undef = .int .i64 b ∧ a.tmps.getD 9 undef = .int .i64 q ∧ w.ownsRow w0.heap.size 5 1 vt t.length (Lib.byteCells t) ∧ cutL (S.data.toList.drop i) (some (t, b, some q)) fs i = R))
def cutM (S : ByteArray) (l : Nat) (a : Act) (_ : World) : Nat := 2 * (S.size - (intOf (a.tmps.getD 7 undef)).toNat) + (if l = 0 then 0 else 1)
/-- What cut answers. -/
def CutE (w0 : World) (R : CRes) (e : Ending) (w : World) : Prop :=
  Below w0.heap.size w0 w ∧ match R with
  | .inl fs => ∃ v, e = .returned (.tuple #[v, .int .i64 0, .int .i64 0]) ∧ w.ownsRow w0.heap.size 102 2 v fs.length (fcells fs)
  | .inr (c, y) => e = .returned (.tuple #[.slice none 0 0, .int .i64 (c : Int), .int .i64 (y : Int)])
theorem frame_cons {n : Nat} {l : List Value} (h : l.length = n + 1) : ∃ x r, l = x :: r ∧ r.length = n := by
  cases l with
  | nil => simp at h
  | cons x r => exact ⟨x, r, rfl, by simpa using h⟩
theorem field_info : (Tryz.prog.info? 102).map (fun i => (i.zero, i.size, i.bytes)) = some (some (.agg #[.string ⟨#[]⟩, .int .i64 0]), 2, 24) := by kernel_rfl
/-- 'string(b)', b a slice of the call's own. -/
theorem conv_own {w : World} {base : Nat} {v : Value} {l : List UInt8} (h : w.ownsRow base 5 1 v l.length (Lib.byteCells l)) : (convert 85 9 v).run Tryz.prog w = .ok (.string ⟨l.toArray⟩) w := by
  have hc := @World.ownsRow.cells _ _ _ _ _ _ _ h
  rcases h.2 with ⟨rfl, h0⟩ | ⟨g, cap, cur, rfl, _⟩
  · have : l = [] := List.eq_nil_of_length_eq_zero h0
    subst this
    exact Lib.run_convert_nil_bytes w 85 9 5 0 Tryz.underlying85 Tryz.underlying5 Tryz.underlying9
  · exact conv_blk rfl (fun j hj => by
      have := hc (g := g) rfl j (.int .u8 (l[j].toNat : Int)) (by simp [Lib.byteCells, hj])
      rwa [addr_add] at this)
theorem own_ne {w : World} {b b' : Nat} {e e' : TypeId} {s s' n n' : Nat} {v v' : Value} {xs xs' : List Value} (h : w.ownsRow b e s v n xs) (h' : w.ownsRow b' e' s' v' n' xs') (hne : e ≠ e') : v.ownBlock = none ∨ v.ownBlock ≠ v'.ownBlock := by
  rcases h.2 with ⟨rfl, _⟩ | ⟨g, cap, cur, rfl, _, hg, _⟩
  · exact .inl rfl
  · rcases h'.2 with ⟨rfl, _⟩ | ⟨g', cap', cur', rfl, _, hg', _⟩
    · right; simp [Value.ownBlock]
    · right
      intro he
      have : g = g' := by simpa [Value.ownBlock] using he
      subst this
      rw [hg] at hg'
      injection hg' with hg'
      injection hg' with _ ht
      exact hne ht
theorem own_form {w : World} {b : Nat} {e : TypeId} {s n : Nat} {v : Value} {xs : List Value} (h : w.ownsRow b e s v n xs) : ∃ A c, v = .slice A n c := by
  rcases h.2 with ⟨rfl, rfl⟩ | ⟨g, cap, cur, rfl, _⟩
  · exact ⟨_, _, rfl⟩
  · exact ⟨_, _, rfl⟩
theorem own_base {w : World} {b : Nat} {e : TypeId} {s n : Nat} {v : Value} {xs : List Value} (h : w.ownsRow b e s v n xs) : ∀ k, v.ownBlock = some k → b ≤ k := fun k hk => (h.lt k hk).1
theorem wpList_pushb {w : World} {ops : Array Oper} {rest : List Oper} {o : Oper} {a : Act} {Q : Exit → Act → World → Prop} (hgd : o.guard = none) (s x : Operand)
    (ho : o.op = .call { callee := .builtin .append, args := #[s, x], argTypes := #[85, 85] }) (base : Nat) (v : Value) (t : List UInt8) (hown : w.ownsRow base 5 1 v t.length (Lib.byteCells t)) (hs : a.eval s = v) (g : Nat) (c : UInt8)
    (hx : a.eval x = .slice (some ⟨g, 0, none⟩) 1 1) (hc : w.cell? ⟨g, 0, none⟩ = some (.int .u8 (c.toNat : Int))) (hlen : t.length ≤ 4096) (hbase : base ≤ w.heap.size)
    (h : ∀ v' w', w'.ownsRow base 5 1 v' (t ++ [c]).length (Lib.byteCells (t ++ [c])) → w.grownBy w' v.ownBlock → wpList Tryz.prog ops Q rest (a.put o.dst v') w') : wpList Tryz.prog ops Q (o :: rest) a w := by
  obtain ⟨i0, hi, hz0, hz1, hz2⟩ := info_parts u8_info
  refine wpList_append_own w hgd s x 85 ho base 5 i0 (.int .u8 0) 1 1 Tryz.underlying85 hi hz0 hz1 hz2 rfl (by omega) v t.length (Lib.byteCells t) hs hown ⟨g, 0, none⟩ 1 1 [.int .u8 (c.toNat : Int)] hx rfl (fun j u hu => ?_) (fun u hu => ?_) (by unfold maxLen; omega) (by omega) hbase (fun v' w' h1 h2 _ => ?_)
  · match j with
    | 0 => rw [addr_add, hc]; simpa using hu
    | j + 1 => simp at hu
  · simp at hu; subst hu; rfl
  · refine h v' w' ?_ h2
    rw [Lib.byteCells_append, List.length_append]
    exact h1
theorem wpList_pushf {w : World} {ops : Array Oper} {rest : List Oper} {o : Oper} {a : Act} {Q : Exit → Act → World → Prop} (hgd : o.guard = none) (s x : Operand)
    (ho : o.op = .call { callee := .builtin .append, args := #[s, x], argTypes := #[72, 72] }) (base : Nat) (v : Value) (fs : List (List UInt8 × Nat)) (hown : w.ownsRow base 102 2 v fs.length (fcells fs)) (hs : a.eval s = v) (g : Nat) (t : List UInt8) (b : Nat)
    (hx : a.eval x = .slice (some ⟨g, 0, none⟩) 1 1) (hc0 : w.cell? ⟨g, 0, none⟩ = some (.string ⟨t.toArray⟩)) (hc1 : w.cell? ⟨g, 1, none⟩ = some (.int .i64 (b : Int))) (hlen : fs.length ≤ 4096) (hbase : base ≤ w.heap.size)
    (h : ∀ v' w', w'.ownsRow base 102 2 v' (fs ++ [(t, b)]).length (fcells (fs ++ [(t, b)])) → w.grownBy w' v.ownBlock → wpList Tryz.prog ops Q rest (a.put o.dst v') w') : wpList Tryz.prog ops Q (o :: rest) a w := by
  obtain ⟨i0, hi, hz0, hz1, hz2⟩ := info_parts field_info
  refine wpList_append_own w hgd s x 72 ho base 102 i0 (.agg #[.string ⟨#[]⟩, .int .i64 0]) 2 24 Tryz.underlying72 hi hz0 hz1 hz2 rfl (by omega) v fs.length (fcells fs) hs hown ⟨g, 0, none⟩ 1 1 [.string ⟨t.toArray⟩, .int .i64 (b : Int)] hx rfl (fun j u hu => ?_) (fun u hu => ?_) (by unfold maxLen; omega) (by omega) hbase (fun v' w' h1 h2 _ => ?_)
  · match j with
    | 0 => rw [addr_add, hc0]; simpa using hu
    | 1 => rw [addr_add, hc1]; simpa using hu
    | j + 2 => simp at hu
  · simp at hu
    rcases hu with rfl | rfl <;> rfl
  · refine h v' w' ?_ h2
    rw [fcells_snoc, List.length_append]
    exact h1
end Go.Proofs.YtkcbmnboccjnnaaGreatDoor
/- Contracts of package scan: cut, the pass from between two fields. -/

namespace Go.Proofs.YtkcbmnboccjnnaaGreatDoor
open Go.RowKit
set_option maxRecDepth 100000 in
set_option maxHeartbeats 4000000 in
theorem cut_pass0 (w0 : World) (S : ByteArray) (hS : S.size ≤ 2048) (R : CRes) (a : Act) (w : World) (h : CutJ w0 S R 0 a w) :
    (behind (cutRest 0)).wp Tryz.prog (jumps (fun l' a' w' => CutJ w0 S R l' a' w' ∧ cutM S l' a' w' < cutM S 0 a w) (bodyPost Tryz.prog Tryz.f89 (CutE w0 R))) a w := by
  obtain ⟨⟨l⟩, ds⟩ := a
  obtain ⟨hd, hl, hJ⟩ := h
  change ds = [] at hd
  change l.length = 79 + 1 at hl
  subst hd
  obtain ⟨t0, l, rfl, hl0⟩ := frame_cons hl
  clear hl
  obtain ⟨t1, l, rfl, hl1⟩ := frame_cons hl0
  clear hl0
  obtain ⟨t2, l, rfl, hl2⟩ := frame_cons hl1
  clear hl1
  obtain ⟨t3, l, rfl, hl3⟩ := frame_cons hl2
  clear hl2
  obtain ⟨t4, l, rfl, hl4⟩ := frame_cons hl3
  clear hl3
  obtain ⟨t5, l, rfl, hl5⟩ := frame_cons hl4
  clear hl4
  obtain ⟨t6, l, rfl, hl6⟩ := frame_cons hl5
  clear hl5
  obtain ⟨t7, l, rfl, hl7⟩ := frame_cons hl6
  clear hl6
  obtain ⟨t8, l, rfl, hl8⟩ := frame_cons hl7
  clear hl7
  obtain ⟨t9, l, rfl, hl9⟩ := frame_cons hl8
  clear hl8
  obtain ⟨t10, l, rfl, hl10⟩ := frame_cons hl9
  clear hl9
  obtain ⟨t11, l, rfl, hl11⟩ := frame_cons hl10
  clear hl10
  obtain ⟨t12, l, rfl, hl12⟩ := frame_cons hl11
  clear hl11
  obtain ⟨t13, l, rfl, hl13⟩ := frame_cons hl12
  clear hl12
  obtain ⟨t14, l, rfl, hl14⟩ := frame_cons hl13
  clear hl13
  obtain ⟨t15, l, rfl, hl15⟩ := frame_cons hl14
  clear hl14
  obtain ⟨t16, l, rfl, hl16⟩ := frame_cons hl15
  clear hl15
  obtain ⟨t17, l, rfl, hl17⟩ := frame_cons hl16
  clear hl16
  obtain ⟨t18, l, rfl, hl18⟩ := frame_cons hl17
  clear hl17
  obtain ⟨t19, l, rfl, hl19⟩ := frame_cons hl18
  clear hl18
  obtain ⟨t20, l, rfl, hl20⟩ := frame_cons hl19
  clear hl19
  obtain ⟨t21, l, rfl, hl21⟩ := frame_cons hl20
  clear hl20
  obtain ⟨t22, l, rfl, hl22⟩ := frame_cons hl21
  clear hl21
  obtain ⟨t23, l, rfl, hl23⟩ := frame_cons hl22
  clear hl22
  obtain ⟨t24, l, rfl, hl24⟩ := frame_cons hl23
  clear hl23
  obtain ⟨t25, l, rfl, hl25⟩ := frame_cons hl24
  clear hl24
  obtain ⟨t26, l, rfl, hl26⟩ := frame_cons hl25
  clear hl25
  obtain ⟨t27, l, rfl, hl27⟩ := frame_cons hl26
  clear hl26
  obtain ⟨t28, l, rfl, hl28⟩ := frame_cons hl27
  clear hl27
  obtain ⟨t29, l, rfl, hl29⟩ := frame_cons hl28
  clear hl28
  obtain ⟨t30, l, rfl, hl30⟩ := frame_cons hl29
  clear hl29
  obtain ⟨t31, l, rfl, hl31⟩ := frame_cons hl30
  clear hl30
  obtain ⟨t32, l, rfl, hl32⟩ := frame_cons hl31
  clear hl31
  obtain ⟨t33, l, rfl, hl33⟩ := frame_cons hl32
  clear hl32
  obtain ⟨t34, l, rfl, hl34⟩ := frame_cons hl33
  clear hl33
  obtain ⟨t35, l, rfl, hl35⟩ := frame_cons hl34
  clear hl34
  obtain ⟨t36, l, rfl, hl36⟩ := frame_cons hl35
  clear hl35
  obtain ⟨t37, l, rfl, hl37⟩ := frame_cons hl36
  clear hl36
  obtain ⟨t38, l, rfl, hl38⟩ := frame_cons hl37
  clear hl37
  obtain ⟨t39, l, rfl, hl39⟩ := frame_cons hl38
  clear hl38
  obtain ⟨t40, l, rfl, hl40⟩ := frame_cons hl39
  clear hl39
  obtain ⟨t41, l, rfl, hl41⟩ := frame_cons hl40
  clear hl40
  obtain ⟨t42, l, rfl, hl42⟩ := frame_cons hl41
  clear hl41
  obtain ⟨t43, l, rfl, hl43⟩ := frame_cons hl42
  clear hl42
  obtain ⟨t44, l, rfl, hl44⟩ := frame_cons hl43
  clear hl43
  obtain ⟨t45, l, rfl, hl45⟩ := frame_cons hl44
  clear hl44
  obtain ⟨t46, l, rfl, hl46⟩ := frame_cons hl45
  clear hl45
  obtain ⟨t47, l, rfl, hl47⟩ := frame_cons hl46
  clear hl46
  obtain ⟨t48, l, rfl, hl48⟩ := frame_cons hl47
  clear hl47
  obtain ⟨t49, l, rfl, hl49⟩ := frame_cons hl48
  clear hl48
  obtain ⟨t50, l, rfl, hl50⟩ := frame_cons hl49
  clear hl49
  obtain ⟨t51, l, rfl, hl51⟩ := frame_cons hl50
  clear hl50
  obtain ⟨t52, l, rfl, hl52⟩ := frame_cons hl51
  clear hl51
  obtain ⟨t53, l, rfl, hl53⟩ := frame_cons hl52
  clear hl52
  obtain ⟨t54, l, rfl, hl54⟩ := frame_cons hl53
  clear hl53
  obtain ⟨t55, l, rfl, hl55⟩ := frame_cons hl54
  clear hl54
  obtain ⟨t56, l, rfl, hl56⟩ := frame_cons hl55
  clear hl55
  obtain ⟨t57, l, rfl, hl57⟩ := frame_cons hl56
  clear hl56
  obtain ⟨t58, l, rfl, hl58⟩ := frame_cons hl57
  clear hl57
  obtain ⟨t59, l, rfl, hl59⟩ := frame_cons hl58
  clear hl58
  obtain ⟨t60, l, rfl, hl60⟩ := frame_cons hl59
  clear hl59
  obtain ⟨t61, l, rfl, hl61⟩ := frame_cons hl60
  clear hl60
  obtain ⟨t62, l, rfl, hl62⟩ := frame_cons hl61
  clear hl61
  obtain ⟨t63, l, rfl, hl63⟩ := frame_cons hl62
  clear hl62
  obtain ⟨t64, l, rfl, hl64⟩ := frame_cons hl63
  clear hl63
  obtain ⟨t65, l, rfl, hl65⟩ := frame_cons hl64
  clear hl64
  obtain ⟨t66, l, rfl, hl66⟩ := frame_cons hl65
  clear hl65
  obtain ⟨t67, l, rfl, hl67⟩ := frame_cons hl66
  clear hl66
  obtain ⟨t68, l, rfl, hl68⟩ := frame_cons hl67
  clear hl67
  obtain ⟨t69, l, rfl, hl69⟩ := frame_cons hl68
  clear hl68
  obtain ⟨t70, l, rfl, hl70⟩ := frame_cons hl69
  clear hl69
  obtain ⟨t71, l, rfl, hl71⟩ := frame_cons hl70
  clear hl70
  obtain ⟨t72, l, rfl, hl72⟩ := frame_cons hl71
  clear hl71
  obtain ⟨t73, l, rfl, hl73⟩ := frame_cons hl72
  clear hl72
  obtain ⟨t74, l, rfl, hl74⟩ := frame_cons hl73
  clear hl73
  obtain ⟨t75, l, rfl, hl75⟩ := frame_cons hl74
  clear hl74
  obtain ⟨t76, l, rfl, hl76⟩ := frame_cons hl75
  clear hl75
  obtain ⟨t77, l, rfl, hl77⟩ := frame_cons hl76
  clear hl76
  obtain ⟨t78, l, rfl, hl78⟩ := frame_cons hl77
  clear hl77
  obtain ⟨t79, l, rfl, hl79⟩ := frame_cons hl78
  clear hl78
  obtain rfl := List.eq_nil_of_length_eq_zero hl79
  clear hl79
  obtain ⟨h0, hb, fs, vf, i, hi, h7, h5, hof, (⟨_, hfi, hR⟩ | ⟨h, _⟩ | ⟨h, _⟩)⟩ := hJ
  · change t0 = _ at h0
    change t7 = _ at h7
    change t5 = _ at h5
    subst h0 h7 h5
    conv => arg 2; whnf
    by_cases hlt : i < S.size
    · have hd : S.data.toList.drop i = S[i] :: S.data.toList.drop (i + 1) := by
        rw [List.drop_eq_getElem_cons (by simpa using hlt)]; rfl
      rw [hd] at hR
      unfold cutL at hR
      rcases knd_cases S[i] with ⟨hk, -⟩ | ⟨hk, -⟩ | ⟨hk, -⟩ | ⟨hk, -⟩ | ⟨hk, -⟩
      · rw [hk, if_pos rfl] at hR
        have HK := Lib.hid hk
        have HR := Lib.hid hR
        have HO := Lib.hid hof
        have HB := Lib.hid hb
        clear hk hR hd hof hb
        go_wp2_with fail
        refine (kindAt_in S i hlt (by omega) _).mono ?_
        rintro e w' ⟨rfl, rfl⟩
        rw [HK.out]
        go_wp2_with fail
        go_step3
        show CutJ w0 S R 0 _ _ ∧ cutM S 0 _ _ < cutM S 0 _ _
        refine ⟨⟨rfl, rfl, rfl, HB.out, fs, _, i + 1, by omega, rfl, rfl, HO.out, .inl ⟨rfl, by omega, HR.out⟩⟩, ?_⟩
        simp [cutM, intOf]
        omega
      · rw [hk, if_neg (by decide), if_pos rfl] at hR
        have HK := Lib.hid hk
        have HR := Lib.hid hR
        have HO := Lib.hid hof
        have HB := Lib.hid hb
        clear hk hR hd hof hb
        go_wp2_with fail
        refine (kindAt_in S i hlt (by omega) _).mono ?_
        rintro e w' ⟨rfl, rfl⟩
        rw [HK.out]
        go_wp2_with fail
        rw [jumps_ret]
        go_ret3
        exact ⟨HB.out, by rw [← HR.out]; rfl⟩
      · rw [hk, if_neg (by decide), if_neg (by decide), if_neg (by decide)] at hR
        obtain ⟨A, cp, rfl⟩ := own_form hof
        by_cases h24 : fs.length = 24
        · rw [if_pos h24] at hR
          have HK := Lib.hid hk
          have HR := Lib.hid hR
          have HO := Lib.hid hof
          have HB := Lib.hid hb
          clear hk hR hd hof hb
          have t24 : ((fs.length : Int) == 24) = true := by rw [h24]; rfl
          clear h24
          go_wp2_with fail
          refine (kindAt_in S i hlt (by omega) _).mono ?_
          rintro e w' ⟨rfl, rfl⟩
          rw [HK.out]
          go_wp2_with fail
          rw [jumps_ret]
          go_ret3
          exact ⟨HB.out, by rw [← HR.out]; rfl⟩
        · rw [if_neg h24, if_neg (by decide)] at hR
          have HK := Lib.hid hk
          have HR := Lib.hid hR
          have HO := Lib.hid hof
          have HB := Lib.hid hb
          clear hk hR hd hof hb
          have t24 : ((fs.length : Int) == 24) = false := by rw [beq_eq_false_iff_ne]; omega
          clear h24
          go_wp2_with fail
          refine (kindAt_in S i hlt (by omega) _).mono ?_
          rintro e w' ⟨rfl, rfl⟩
          rw [HK.out]
          go_wp2_with fail
          go_step3
          go_wp2_with fail
          refine (kindAt_in S i hlt (by omega) _).mono ?_
          rintro e w' ⟨rfl, rfl⟩
          rw [HK.out]
          go_wp2_with fail
          go_step3
          show CutJ w0 S R 2 _ _ ∧ cutM S 2 _ _ < cutM S 0 _ _
          refine ⟨⟨rfl, rfl, rfl, HB.out, fs, _, i + 1, by omega, rfl, rfl, HO.out, .inr (.inr ⟨rfl, by omega, [], _, i, i, by omega, Nat.zero_le _, by omega, rfl, rfl, rfl, World.ownsRow_nil _ _ _ _, HR.out⟩)⟩, ?_⟩
          simp [cutM, intOf]
          omega
      · rw [hk, if_neg (by decide), if_neg (by decide), if_pos rfl] at hR
        have HK := Lib.hid hk
        have HR := Lib.hid hR
        have HO := Lib.hid hof
        have HB := Lib.hid hb
        clear hk hR hd hof hb
        go_wp2_with fail
        refine (kindAt_in S i hlt (by omega) _).mono ?_
        rintro e w' ⟨rfl, rfl⟩
        rw [HK.out]
        go_wp2_with fail
        rw [jumps_ret]
        go_ret3
        exact ⟨HB.out, by rw [← HR.out]; exact ⟨_, rfl, HO.out⟩⟩
      · rw [hk, if_neg (by decide), if_neg (by decide), if_neg (by decide)] at hR
        obtain ⟨A, cp, rfl⟩ := own_form hof
        by_cases h24 : fs.length = 24
        · rw [if_pos h24] at hR
          have HK := Lib.hid hk
          have HR := Lib.hid hR
          have HO := Lib.hid hof
          have HB := Lib.hid hb
          clear hk hR hd hof hb
          have t24 : ((fs.length : Int) == 24) = true := by rw [h24]; rfl
          clear h24
          go_wp2_with fail
          refine (kindAt_in S i hlt (by omega) _).mono ?_
          rintro e w' ⟨rfl, rfl⟩
          rw [HK.out]
          go_wp2_with fail
          rw [jumps_ret]
          go_ret3
          exact ⟨HB.out, by rw [← HR.out]; rfl⟩
        · rw [if_neg h24, if_pos rfl] at hR
          have HK := Lib.hid hk
          have HR := Lib.hid hR
          have HO := Lib.hid hof
          have HB := Lib.hid hb
          clear hk hR hd hof hb
          have t24 : ((fs.length : Int) == 24) = false := by rw [beq_eq_false_iff_ne]; omega
          have hi0 := idx_str S i hlt
          clear h24
          go_wp2_with fail
          refine (kindAt_in S i hlt (by omega) _).mono ?_
          rintro e w' ⟨rfl, rfl⟩
          rw [HK.out]
          go_wp2_with fail
          go_step3
          go_wp2_with fail
          refine (kindAt_in S i hlt (by omega) _).mono ?_
          rintro e w' ⟨rfl, rfl⟩
          rw [HK.out]
          go_wp2_with (at_builtin; refine wpList_pushb rfl (.tmp 36) (.tmp 40) rfl w0.heap.size (.slice none 0 0) [] (World.ownsRow_nil _ _ _ _) rfl w.heap.size S[i] rfl (by rw [cell_blk (heap_alloc_new _ _)]; rfl) (Nat.zero_le _) (by have := HB.out.size; simp; omega) ?_; intro v1 w1 hown1 hg1)
          have hOf := (HO.out.alloc (.cells #[.int .u8 (S[i].toNat : Int)] 5)).kept hg1 (Classical.em _)
          have hsz := HB.out.size
          have hBb := (HB.out.alloc hsz (.cells #[.int .u8 (S[i].toNat : Int)] 5)).grown hg1 (by simp; omega) (fun k hk => by cases hk)
          have H1 := Lib.hid hown1
          have H2 := Lib.hid hOf
          have H3 := Lib.hid hBb
          clear hown1 hg1 hOf hBb hi0
          go_wp2_with fail
          go_step3
          show CutJ w0 S R 1 _ _ ∧ cutM S 1 _ _ < cutM S 0 _ _
          refine ⟨⟨rfl, rfl, rfl, H3.out, fs, _, i + 1, by omega, rfl, rfl, H2.out, .inr (.inl ⟨rfl, by omega, [S[i]], v1, i, by omega, by simp, rfl, rfl, H1.out, HR.out⟩)⟩, ?_⟩
          simp [cutM, intOf]
          omega
    · rw [List.drop_of_length_le (by simp; omega)] at hR
      unfold cutL at hR
      have HR := Lib.hid hR
      have HO := Lib.hid hof
      have HB := Lib.hid hb
      clear hR hof hb
      go_wp2_with fail
      refine (kindAt_end S i (by omega) (by omega) _).mono ?_
      rintro e w' ⟨rfl, rfl⟩
      go_wp2_with fail
      rw [jumps_ret]
      go_ret3
      exact ⟨HB.out, by rw [← HR.out]; exact ⟨_, rfl, HO.out⟩⟩
  · cases h
  · cases h
end Go.Proofs.YtkcbmnboccjnnaaGreatDoor
/- Contracts of package scan: cut, the pass from within a field. -/

namespace Go.Proofs.YtkcbmnboccjnnaaGreatDoor
open Go.RowKit
set_option maxRecDepth 100000 in
set_option maxHeartbeats 4000000 in
theorem cut_pass1 (w0 : World) (S : ByteArray) (hS : S.size ≤ 2048) (R : CRes) (a : Act) (w : World) (h : CutJ w0 S R 1 a w) :
    (behind (cutRest 1)).wp Tryz.prog (jumps (fun l' a' w' => CutJ w0 S R l' a' w' ∧ cutM S l' a' w' < cutM S 1 a w) (bodyPost Tryz.prog Tryz.f89 (CutE w0 R))) a w := by
  obtain ⟨⟨l⟩, ds⟩ := a
  obtain ⟨hd, hl, hJ⟩ := h
  change ds = [] at hd
  change l.length = 79 + 1 at hl
  subst hd
  obtain ⟨t0, l, rfl, hl0⟩ := frame_cons hl
  clear hl
  obtain ⟨t1, l, rfl, hl1⟩ := frame_cons hl0
  clear hl0
  obtain ⟨t2, l, rfl, hl2⟩ := frame_cons hl1
  clear hl1
  obtain ⟨t3, l, rfl, hl3⟩ := frame_cons hl2
  clear hl2
  obtain ⟨t4, l, rfl, hl4⟩ := frame_cons hl3
  clear hl3
  obtain ⟨t5, l, rfl, hl5⟩ := frame_cons hl4
  clear hl4
  obtain ⟨t6, l, rfl, hl6⟩ := frame_cons hl5
  clear hl5
  obtain ⟨t7, l, rfl, hl7⟩ := frame_cons hl6
  clear hl6
  obtain ⟨t8, l, rfl, hl8⟩ := frame_cons hl7
  clear hl7
  obtain ⟨t9, l, rfl, hl9⟩ := frame_cons hl8
  clear hl8
  obtain ⟨t10, l, rfl, hl10⟩ := frame_cons hl9
  clear hl9
  obtain ⟨t11, l, rfl, hl11⟩ := frame_cons hl10
  clear hl10
  obtain ⟨t12, l, rfl, hl12⟩ := frame_cons hl11
  clear hl11
  obtain ⟨t13, l, rfl, hl13⟩ := frame_cons hl12
  clear hl12
  obtain ⟨t14, l, rfl, hl14⟩ := frame_cons hl13
  clear hl13
  obtain ⟨t15, l, rfl, hl15⟩ := frame_cons hl14
  clear hl14
  obtain ⟨t16, l, rfl, hl16⟩ := frame_cons hl15
  clear hl15
  obtain ⟨t17, l, rfl, hl17⟩ := frame_cons hl16
  clear hl16
  obtain ⟨t18, l, rfl, hl18⟩ := frame_cons hl17
  clear hl17
  obtain ⟨t19, l, rfl, hl19⟩ := frame_cons hl18
  clear hl18
  obtain ⟨t20, l, rfl, hl20⟩ := frame_cons hl19
  clear hl19
  obtain ⟨t21, l, rfl, hl21⟩ := frame_cons hl20
  clear hl20
  obtain ⟨t22, l, rfl, hl22⟩ := frame_cons hl21
  clear hl21
  obtain ⟨t23, l, rfl, hl23⟩ := frame_cons hl22
  clear hl22
  obtain ⟨t24, l, rfl, hl24⟩ := frame_cons hl23
  clear hl23
  obtain ⟨t25, l, rfl, hl25⟩ := frame_cons hl24
  clear hl24
  obtain ⟨t26, l, rfl, hl26⟩ := frame_cons hl25
  clear hl25
  obtain ⟨t27, l, rfl, hl27⟩ := frame_cons hl26
  clear hl26
  obtain ⟨t28, l, rfl, hl28⟩ := frame_cons hl27
  clear hl27
  obtain ⟨t29, l, rfl, hl29⟩ := frame_cons hl28
  clear hl28
  obtain ⟨t30, l, rfl, hl30⟩ := frame_cons hl29
  clear hl29
  obtain ⟨t31, l, rfl, hl31⟩ := frame_cons hl30
  clear hl30
  obtain ⟨t32, l, rfl, hl32⟩ := frame_cons hl31
  clear hl31
  obtain ⟨t33, l, rfl, hl33⟩ := frame_cons hl32
  clear hl32
  obtain ⟨t34, l, rfl, hl34⟩ := frame_cons hl33
  clear hl33
  obtain ⟨t35, l, rfl, hl35⟩ := frame_cons hl34
  clear hl34
  obtain ⟨t36, l, rfl, hl36⟩ := frame_cons hl35
  clear hl35
  obtain ⟨t37, l, rfl, hl37⟩ := frame_cons hl36
  clear hl36
  obtain ⟨t38, l, rfl, hl38⟩ := frame_cons hl37
  clear hl37
  obtain ⟨t39, l, rfl, hl39⟩ := frame_cons hl38
  clear hl38
  obtain ⟨t40, l, rfl, hl40⟩ := frame_cons hl39
  clear hl39
  obtain ⟨t41, l, rfl, hl41⟩ := frame_cons hl40
  clear hl40
  obtain ⟨t42, l, rfl, hl42⟩ := frame_cons hl41
  clear hl41
  obtain ⟨t43, l, rfl, hl43⟩ := frame_cons hl42
  clear hl42
  obtain ⟨t44, l, rfl, hl44⟩ := frame_cons hl43
  clear hl43
  obtain ⟨t45, l, rfl, hl45⟩ := frame_cons hl44
  clear hl44
  obtain ⟨t46, l, rfl, hl46⟩ := frame_cons hl45
  clear hl45
  obtain ⟨t47, l, rfl, hl47⟩ := frame_cons hl46
  clear hl46
  obtain ⟨t48, l, rfl, hl48⟩ := frame_cons hl47
  clear hl47
  obtain ⟨t49, l, rfl, hl49⟩ := frame_cons hl48
  clear hl48
  obtain ⟨t50, l, rfl, hl50⟩ := frame_cons hl49
  clear hl49
  obtain ⟨t51, l, rfl, hl51⟩ := frame_cons hl50
  clear hl50
  obtain ⟨t52, l, rfl, hl52⟩ := frame_cons hl51
  clear hl51
  obtain ⟨t53, l, rfl, hl53⟩ := frame_cons hl52
  clear hl52
  obtain ⟨t54, l, rfl, hl54⟩ := frame_cons hl53
  clear hl53
  obtain ⟨t55, l, rfl, hl55⟩ := frame_cons hl54
  clear hl54
  obtain ⟨t56, l, rfl, hl56⟩ := frame_cons hl55
  clear hl55
  obtain ⟨t57, l, rfl, hl57⟩ := frame_cons hl56
  clear hl56
  obtain ⟨t58, l, rfl, hl58⟩ := frame_cons hl57
  clear hl57
  obtain ⟨t59, l, rfl, hl59⟩ := frame_cons hl58
  clear hl58
  obtain ⟨t60, l, rfl, hl60⟩ := frame_cons hl59
  clear hl59
  obtain ⟨t61, l, rfl, hl61⟩ := frame_cons hl60
  clear hl60
  obtain ⟨t62, l, rfl, hl62⟩ := frame_cons hl61
  clear hl61
  obtain ⟨t63, l, rfl, hl63⟩ := frame_cons hl62
  clear hl62
  obtain ⟨t64, l, rfl, hl64⟩ := frame_cons hl63
  clear hl63
  obtain ⟨t65, l, rfl, hl65⟩ := frame_cons hl64
  clear hl64
  obtain ⟨t66, l, rfl, hl66⟩ := frame_cons hl65
  clear hl65
  obtain ⟨t67, l, rfl, hl67⟩ := frame_cons hl66
  clear hl66
  obtain ⟨t68, l, rfl, hl68⟩ := frame_cons hl67
  clear hl67
  obtain ⟨t69, l, rfl, hl69⟩ := frame_cons hl68
  clear hl68
  obtain ⟨t70, l, rfl, hl70⟩ := frame_cons hl69
  clear hl69
  obtain ⟨t71, l, rfl, hl71⟩ := frame_cons hl70
  clear hl70
  obtain ⟨t72, l, rfl, hl72⟩ := frame_cons hl71
  clear hl71
  obtain ⟨t73, l, rfl, hl73⟩ := frame_cons hl72
  clear hl72
  obtain ⟨t74, l, rfl, hl74⟩ := frame_cons hl73
  clear hl73
  obtain ⟨t75, l, rfl, hl75⟩ := frame_cons hl74
  clear hl74
  obtain ⟨t76, l, rfl, hl76⟩ := frame_cons hl75
  clear hl75
  obtain ⟨t77, l, rfl, hl77⟩ := frame_cons hl76
  clear hl76
  obtain ⟨t78, l, rfl, hl78⟩ := frame_cons hl77
  clear hl77
  obtain ⟨t79, l, rfl, hl79⟩ := frame_cons hl78
  clear hl78
  obtain rfl := List.eq_nil_of_length_eq_zero hl79
  clear hl79
  obtain ⟨h0, hb, fs, vf, i, hi, h7, h5, hof, (⟨h, _⟩ | ⟨_, hfi, t, vt, b, hbi, hti, h6, h8, hot, hR⟩ | ⟨h, _⟩)⟩ := hJ
  · cases h
  · change t0 = _ at h0
    change t7 = _ at h7
    change t5 = _ at h5
    change t6 = _ at h6
    change t8 = _ at h8
    subst h0 h7 h5 h6 h8
    conv => arg 2; whnf
    have hcv := conv_own hot
    by_cases hlt : i < S.size
    · have hd : S.data.toList.drop i = S[i] :: S.data.toList.drop (i + 1) := by
        rw [List.drop_eq_getElem_cons (by simpa using hlt)]; rfl
      rw [hd] at hR
      unfold cutL at hR
      rcases knd_cases S[i] with ⟨hk, -⟩ | ⟨hk, -⟩ | ⟨hk, -⟩ | ⟨hk, -⟩ | ⟨hk, -⟩
      · rw [hk, if_neg (by decide), if_neg (by decide), if_pos rfl] at hR
        have hR : cutL (S.data.toList.drop i) none (fs ++ [(t, b + 1)]) i = R := by
          rw [hd]; unfold cutL; rw [hk, if_pos rfl]; exact hR
        have HK := Lib.hid hk
        have HR := Lib.hid hR
        have HO := Lib.hid hof
        have HT := Lib.hid hot
        have HB := Lib.hid hb
        clear hk hd hR hof hot hb
        go_wp2_with fail
        refine (kindAt_in S i hlt (by omega) _).mono ?_
        rintro e w' ⟨rfl, rfl⟩
        rw [HK.out]
        go_wp2_with (at_builtin; refine wpList_pushf rfl (.tmp 49) (.tmp 55) rfl w0.heap.size t5 fs (HO.out.alloc _) rfl w.heap.size t (b + 1) rfl (by rw [cell_blk (heap_alloc_new _ _)]; rfl) (by rw [cell_blk (heap_alloc_new _ _)]; rfl) (by omega) (by have := HB.out.size; simp; omega) ?_; intro v1 w1 hown1 hg1)
        have hsz := HB.out.size
        have hBb := (HB.out.alloc hsz (.cells #[.string ⟨t.toArray⟩, .int .i64 ((b : Int) + 1)] 102)).grown hg1 (by simp; omega) (own_base HO.out)
        have H1 := Lib.hid hown1
        have H3 := Lib.hid hBb
        clear hown1 hg1 hBb hcv
        go_wp2_with fail
        go_step3
        show CutJ w0 S R 0 _ _ ∧ cutM S 0 _ _ < cutM S 1 _ _
        refine ⟨⟨rfl, rfl, rfl, H3.out, fs ++ [(t, b + 1)], v1, i, by omega, rfl, rfl, H1.out, .inl ⟨rfl, by simp; omega, HR.out⟩⟩, ?_⟩
        simp [cutM, intOf]
      · rw [hk, if_neg (by decide), if_neg (by decide), if_neg (by decide), if_pos rfl] at hR
        have hR : cutL (S.data.toList.drop i) none (fs ++ [(t, b + 1)]) i = R := by
          rw [hd]; unfold cutL; rw [hk, if_neg (by decide), if_pos rfl]; exact hR
        have HK := Lib.hid hk
        have HR := Lib.hid hR
        have HO := Lib.hid hof
        have HT := Lib.hid hot
        have HB := Lib.hid hb
        clear hk hd hR hof hot hb
        go_wp2_with fail
        refine (kindAt_in S i hlt (by omega) _).mono ?_
        rintro e w' ⟨rfl, rfl⟩
        rw [HK.out]
        go_wp2_with (at_builtin; refine wpList_pushf rfl (.tmp 49) (.tmp 55) rfl w0.heap.size t5 fs (HO.out.alloc _) rfl w.heap.size t (b + 1) rfl (by rw [cell_blk (heap_alloc_new _ _)]; rfl) (by rw [cell_blk (heap_alloc_new _ _)]; rfl) (by omega) (by have := HB.out.size; simp; omega) ?_; intro v1 w1 hown1 hg1)
        have hsz := HB.out.size
        have hBb := (HB.out.alloc hsz (.cells #[.string ⟨t.toArray⟩, .int .i64 ((b : Int) + 1)] 102)).grown hg1 (by simp; omega) (own_base HO.out)
        have H1 := Lib.hid hown1
        have H3 := Lib.hid hBb
        clear hown1 hg1 hBb hcv
        go_wp2_with fail
        go_step3
        show CutJ w0 S R 0 _ _ ∧ cutM S 0 _ _ < cutM S 1 _ _
        refine ⟨⟨rfl, rfl, rfl, H3.out, fs ++ [(t, b + 1)], v1, i, by omega, rfl, rfl, H1.out, .inl ⟨rfl, by simp; omega, HR.out⟩⟩, ?_⟩
        simp [cutM, intOf]
      · rw [hk, if_neg (by decide), if_pos rfl] at hR
        have HK := Lib.hid hk
        have HR := Lib.hid hR
        have HO := Lib.hid hof
        have HT := Lib.hid hot
        have HB := Lib.hid hb
        clear hk hd hR hof hot hb
        clear hcv
        go_wp2_with fail
        refine (kindAt_in S i hlt (by omega) _).mono ?_
        rintro e w' ⟨rfl, rfl⟩
        rw [HK.out]
        go_wp2_with fail
        go_step3
        show CutJ w0 S R 2 _ _ ∧ cutM S 2 _ _ < cutM S 1 _ _
        refine ⟨⟨rfl, rfl, rfl, HB.out, fs, _, i + 1, by omega, rfl, rfl, HO.out, .inr (.inr ⟨rfl, by omega, t, _, b, i, by omega, by omega, by omega, rfl, rfl, rfl, HT.out, HR.out⟩)⟩, ?_⟩
        simp [cutM, intOf]
        omega
      · rw [hk, if_neg (by decide), if_neg (by decide), if_neg (by decide), if_neg (by decide)] at hR
        have hR : cutL (S.data.toList.drop i) none (fs ++ [(t, b + 1)]) i = R := by
          rw [hd]; unfold cutL; rw [hk, if_neg (by decide), if_neg (by decide), if_pos rfl]; exact hR
        have HK := Lib.hid hk
        have HR := Lib.hid hR
        have HO := Lib.hid hof
        have HT := Lib.hid hot
        have HB := Lib.hid hb
        clear hk hd hR hof hot hb
        go_wp2_with fail
        refine (kindAt_in S i hlt (by omega) _).mono ?_
        rintro e w' ⟨rfl, rfl⟩
        rw [HK.out]
        go_wp2_with (at_builtin; refine wpList_pushf rfl (.tmp 49) (.tmp 55) rfl w0.heap.size t5 fs (HO.out.alloc _) rfl w.heap.size t (b + 1) rfl (by rw [cell_blk (heap_alloc_new _ _)]; rfl) (by rw [cell_blk (heap_alloc_new _ _)]; rfl) (by omega) (by have := HB.out.size; simp; omega) ?_; intro v1 w1 hown1 hg1)
        have hsz := HB.out.size
        have hBb := (HB.out.alloc hsz (.cells #[.string ⟨t.toArray⟩, .int .i64 ((b : Int) + 1)] 102)).grown hg1 (by simp; omega) (own_base HO.out)
        have H1 := Lib.hid hown1
        have H3 := Lib.hid hBb
        clear hown1 hg1 hBb hcv
        go_wp2_with fail
        go_step3
        show CutJ w0 S R 0 _ _ ∧ cutM S 0 _ _ < cutM S 1 _ _
        refine ⟨⟨rfl, rfl, rfl, H3.out, fs ++ [(t, b + 1)], v1, i, by omega, rfl, rfl, H1.out, .inl ⟨rfl, by simp; omega, HR.out⟩⟩, ?_⟩
        simp [cutM, intOf]
      · rw [hk, if_pos rfl] at hR
        have hi0 := idx_str S i hlt
        have HK := Lib.hid hk
        have HR := Lib.hid hR
        have HO := Lib.hid hof
        have HT := Lib.hid hot
        have HB := Lib.hid hb
        clear hk hd hR hof hot hb
        clear hcv
        go_wp2_with fail
        refine (kindAt_in S i hlt (by omega) _).mono ?_
        rintro e w' ⟨rfl, rfl⟩
        rw [HK.out]
        go_wp2_with (at_builtin; refine wpList_pushb rfl (.tmp 36) (.tmp 40) rfl w0.heap.size t6 t (HT.out.alloc _) rfl w.heap.size S[i] rfl (by rw [cell_blk (heap_alloc_new _ _)]; rfl) (by omega) (by have := HB.out.size; simp; omega) ?_; intro v1 w1 hown1 hg1)
        have hOf := (HO.out.alloc (.cells #[.int .u8 (S[i].toNat : Int)] 5)).kept hg1 (own_ne HO.out HT.out (by decide))
        have hsz := HB.out.size
        have hBb := (HB.out.alloc hsz (.cells #[.int .u8 (S[i].toNat : Int)] 5)).grown hg1 (by simp; omega) (own_base HT.out)
        have H1 := Lib.hid hown1
        have H2 := Lib.hid hOf
        have H3 := Lib.hid hBb
        clear hown1 hg1 hOf hBb hi0
        go_wp2_with fail
        go_step3
        show CutJ w0 S R 1 _ _ ∧ cutM S 1 _ _ < cutM S 1 _ _
        refine ⟨⟨rfl, rfl, rfl, H3.out, fs, _, i + 1, by omega, rfl, rfl, H2.out, .inr (.inl ⟨rfl, by omega, t ++ [S[i]], v1, b, by omega, by simp; omega, rfl, rfl, H1.out, HR.out⟩)⟩, ?_⟩
        simp [cutM, intOf]
        omega
    · have hR : cutL (S.data.toList.drop i) none (fs ++ [(t, b + 1)]) i = R := by
        rw [List.drop_of_length_le (by simp; omega)] at hR ⊢
        unfold cutL at hR ⊢
        exact hR
      have HR := Lib.hid hR
      have HO := Lib.hid hof
      have HT := Lib.hid hot
      have HB := Lib.hid hb
      clear  hR hof hot hb
      go_wp2_with fail
      refine (kindAt_end S i (by omega) (by omega) _).mono ?_
      rintro e w' ⟨rfl, rfl⟩
      go_wp2_with (at_builtin; refine wpList_pushf rfl (.tmp 49) (.tmp 55) rfl w0.heap.size t5 fs (HO.out.alloc _) rfl w.heap.size t (b + 1) rfl (by rw [cell_blk (heap_alloc_new _ _)]; rfl) (by rw [cell_blk (heap_alloc_new _ _)]; rfl) (by omega) (by have := HB.out.size; simp; omega) ?_; intro v1 w1 hown1 hg1)
      have hsz := HB.out.size
      have hBb := (HB.out.alloc hsz (.cells #[.string ⟨t.toArray⟩, .int .i64 ((b : Int) + 1)] 102)).grown hg1 (by simp; omega) (own_base HO.out)
      have H1 := Lib.hid hown1
      have H3 := Lib.hid hBb
      clear hown1 hg1 hBb hcv
      go_wp2_with fail
      go_step3
      show CutJ w0 S R 0 _ _ ∧ cutM S 0 _ _ < cutM S 1 _ _
      refine ⟨⟨rfl, rfl, rfl, H3.out, fs ++ [(t, b + 1)], v1, i, by omega, rfl, rfl, H1.out, .inl ⟨rfl, by simp; omega, HR.out⟩⟩, ?_⟩
      simp [cutM, intOf]
  · cases h
end Go.Proofs.YtkcbmnboccjnnaaGreatDoor
/- Contracts of package scan: cut, the pass from within quotes. -/

namespace Go.Proofs.YtkcbmnboccjnnaaGreatDoor
open Go.RowKit
set_option maxRecDepth 100000 in
set_option maxHeartbeats 4000000 in
theorem cut_pass2 (w0 : World) (S : ByteArray) (hS : S.size ≤ 2048) (R : CRes) (a : Act) (w : World) (h : CutJ w0 S R 2 a w) :
    (behind (cutRest 2)).wp Tryz.prog (jumps (fun l' a' w' => CutJ w0 S R l' a' w' ∧ cutM S l' a' w' < cutM S 2 a w) (bodyPost Tryz.prog Tryz.f89 (CutE w0 R))) a w := by
  obtain ⟨⟨l⟩, ds⟩ := a
  obtain ⟨hd, hl, hJ⟩ := h
  change ds = [] at hd
  change l.length = 79 + 1 at hl
  subst hd
  obtain ⟨t0, l, rfl, hl0⟩ := frame_cons hl
  clear hl
  obtain ⟨t1, l, rfl, hl1⟩ := frame_cons hl0
  clear hl0
  obtain ⟨t2, l, rfl, hl2⟩ := frame_cons hl1
  clear hl1
  obtain ⟨t3, l, rfl, hl3⟩ := frame_cons hl2
  clear hl2
  obtain ⟨t4, l, rfl, hl4⟩ := frame_cons hl3
  clear hl3
  obtain ⟨t5, l, rfl, hl5⟩ := frame_cons hl4
  clear hl4
  obtain ⟨t6, l, rfl, hl6⟩ := frame_cons hl5
  clear hl5
  obtain ⟨t7, l, rfl, hl7⟩ := frame_cons hl6
  clear hl6
  obtain ⟨t8, l, rfl, hl8⟩ := frame_cons hl7
  clear hl7
  obtain ⟨t9, l, rfl, hl9⟩ := frame_cons hl8
  clear hl8
  obtain ⟨t10, l, rfl, hl10⟩ := frame_cons hl9
  clear hl9
  obtain ⟨t11, l, rfl, hl11⟩ := frame_cons hl10
  clear hl10
  obtain ⟨t12, l, rfl, hl12⟩ := frame_cons hl11
  clear hl11
  obtain ⟨t13, l, rfl, hl13⟩ := frame_cons hl12
  clear hl12
  obtain ⟨t14, l, rfl, hl14⟩ := frame_cons hl13
  clear hl13
  obtain ⟨t15, l, rfl, hl15⟩ := frame_cons hl14
  clear hl14
  obtain ⟨t16, l, rfl, hl16⟩ := frame_cons hl15
  clear hl15
  obtain ⟨t17, l, rfl, hl17⟩ := frame_cons hl16
  clear hl16
  obtain ⟨t18, l, rfl, hl18⟩ := frame_cons hl17
  clear hl17
  obtain ⟨t19, l, rfl, hl19⟩ := frame_cons hl18
  clear hl18
  obtain ⟨t20, l, rfl, hl20⟩ := frame_cons hl19
  clear hl19
  obtain ⟨t21, l, rfl, hl21⟩ := frame_cons hl20
  clear hl20
  obtain ⟨t22, l, rfl, hl22⟩ := frame_cons hl21
  clear hl21
  obtain ⟨t23, l, rfl, hl23⟩ := frame_cons hl22
  clear hl22
  obtain ⟨t24, l, rfl, hl24⟩ := frame_cons hl23
  clear hl23
  obtain ⟨t25, l, rfl, hl25⟩ := frame_cons hl24
  clear hl24
  obtain ⟨t26, l, rfl, hl26⟩ := frame_cons hl25
  clear hl25
  obtain ⟨t27, l, rfl, hl27⟩ := frame_cons hl26
  clear hl26
  obtain ⟨t28, l, rfl, hl28⟩ := frame_cons hl27
  clear hl27
  obtain ⟨t29, l, rfl, hl29⟩ := frame_cons hl28
  clear hl28
  obtain ⟨t30, l, rfl, hl30⟩ := frame_cons hl29
  clear hl29
  obtain ⟨t31, l, rfl, hl31⟩ := frame_cons hl30
  clear hl30
  obtain ⟨t32, l, rfl, hl32⟩ := frame_cons hl31
  clear hl31
  obtain ⟨t33, l, rfl, hl33⟩ := frame_cons hl32
  clear hl32
  obtain ⟨t34, l, rfl, hl34⟩ := frame_cons hl33
  clear hl33
  obtain ⟨t35, l, rfl, hl35⟩ := frame_cons hl34
  clear hl34
  obtain ⟨t36, l, rfl, hl36⟩ := frame_cons hl35
  clear hl35
  obtain ⟨t37, l, rfl, hl37⟩ := frame_cons hl36
  clear hl36
  obtain ⟨t38, l, rfl, hl38⟩ := frame_cons hl37
  clear hl37
  obtain ⟨t39, l, rfl, hl39⟩ := frame_cons hl38
  clear hl38
  obtain ⟨t40, l, rfl, hl40⟩ := frame_cons hl39
  clear hl39
  obtain ⟨t41, l, rfl, hl41⟩ := frame_cons hl40
  clear hl40
  obtain ⟨t42, l, rfl, hl42⟩ := frame_cons hl41
  clear hl41
  obtain ⟨t43, l, rfl, hl43⟩ := frame_cons hl42
  clear hl42
  obtain ⟨t44, l, rfl, hl44⟩ := frame_cons hl43
  clear hl43
  obtain ⟨t45, l, rfl, hl45⟩ := frame_cons hl44
  clear hl44
  obtain ⟨t46, l, rfl, hl46⟩ := frame_cons hl45
  clear hl45
  obtain ⟨t47, l, rfl, hl47⟩ := frame_cons hl46
  clear hl46
  obtain ⟨t48, l, rfl, hl48⟩ := frame_cons hl47
  clear hl47
  obtain ⟨t49, l, rfl, hl49⟩ := frame_cons hl48
  clear hl48
  obtain ⟨t50, l, rfl, hl50⟩ := frame_cons hl49
  clear hl49
  obtain ⟨t51, l, rfl, hl51⟩ := frame_cons hl50
  clear hl50
  obtain ⟨t52, l, rfl, hl52⟩ := frame_cons hl51
  clear hl51
  obtain ⟨t53, l, rfl, hl53⟩ := frame_cons hl52
  clear hl52
  obtain ⟨t54, l, rfl, hl54⟩ := frame_cons hl53
  clear hl53
  obtain ⟨t55, l, rfl, hl55⟩ := frame_cons hl54
  clear hl54
  obtain ⟨t56, l, rfl, hl56⟩ := frame_cons hl55
  clear hl55
  obtain ⟨t57, l, rfl, hl57⟩ := frame_cons hl56
  clear hl56
  obtain ⟨t58, l, rfl, hl58⟩ := frame_cons hl57
  clear hl57
  obtain ⟨t59, l, rfl, hl59⟩ := frame_cons hl58
  clear hl58
  obtain ⟨t60, l, rfl, hl60⟩ := frame_cons hl59
  clear hl59
  obtain ⟨t61, l, rfl, hl61⟩ := frame_cons hl60
  clear hl60
  obtain ⟨t62, l, rfl, hl62⟩ := frame_cons hl61
  clear hl61
  obtain ⟨t63, l, rfl, hl63⟩ := frame_cons hl62
  clear hl62
  obtain ⟨t64, l, rfl, hl64⟩ := frame_cons hl63
  clear hl63
  obtain ⟨t65, l, rfl, hl65⟩ := frame_cons hl64
  clear hl64
  obtain ⟨t66, l, rfl, hl66⟩ := frame_cons hl65
  clear hl65
  obtain ⟨t67, l, rfl, hl67⟩ := frame_cons hl66
  clear hl66
  obtain ⟨t68, l, rfl, hl68⟩ := frame_cons hl67
  clear hl67
  obtain ⟨t69, l, rfl, hl69⟩ := frame_cons hl68
  clear hl68
  obtain ⟨t70, l, rfl, hl70⟩ := frame_cons hl69
  clear hl69
  obtain ⟨t71, l, rfl, hl71⟩ := frame_cons hl70
  clear hl70
  obtain ⟨t72, l, rfl, hl72⟩ := frame_cons hl71
  clear hl71
  obtain ⟨t73, l, rfl, hl73⟩ := frame_cons hl72
  clear hl72
  obtain ⟨t74, l, rfl, hl74⟩ := frame_cons hl73
  clear hl73
  obtain ⟨t75, l, rfl, hl75⟩ := frame_cons hl74
  clear hl74
  obtain ⟨t76, l, rfl, hl76⟩ := frame_cons hl75
  clear hl75
  obtain ⟨t77, l, rfl, hl77⟩ := frame_cons hl76
  clear hl76
  obtain ⟨t78, l, rfl, hl78⟩ := frame_cons hl77
  clear hl77
  obtain ⟨t79, l, rfl, hl79⟩ := frame_cons hl78
  clear hl78
  obtain rfl := List.eq_nil_of_length_eq_zero hl79
  clear hl79
  obtain ⟨h0, hb, fs, vf, i, hi, h7, h5, hof, (⟨h, _⟩ | ⟨h, _⟩ | ⟨_, hfi, t, vt, b, q, hbi, hti, hqi, h6, h8, h9, hot, hR⟩)⟩ := hJ
  · cases h
  · cases h
  · change t0 = _ at h0
    change t7 = _ at h7
    change t5 = _ at h5
    change t6 = _ at h6
    change t8 = _ at h8
    change t9 = _ at h9
    subst h0 h7 h5 h6 h8 h9
    conv => arg 2; whnf
    by_cases hlt : i < S.size
    · have hd : S.data.toList.drop i = S[i] :: S.data.toList.drop (i + 1) := by
        rw [List.drop_eq_getElem_cons (by simpa using hlt)]; rfl
      rw [hd] at hR
      unfold cutL at hR
      rcases knd_cases S[i] with ⟨hk, -⟩ | ⟨hk, -⟩ | ⟨hk, -⟩ | ⟨hk, -⟩ | ⟨hk, -⟩
      · rw [hk, if_neg (by decide), if_neg (by decide)] at hR
        have hi0 := idx_str S i hlt
        have HK := Lib.hid hk
        have HR := Lib.hid hR
        have HO := Lib.hid hof
        have HT := Lib.hid hot
        have HB := Lib.hid hb
        clear hk hd hR hof hot hb
        go_wp2_with fail
        refine (kindAt_in S i hlt (by omega) _).mono ?_
        rintro e w' ⟨rfl, rfl⟩
        rw [HK.out]
        go_wp2_with (at_builtin; refine wpList_pushb rfl (.tmp 72) (.tmp 76) rfl w0.heap.size t6 t (HT.out.alloc _) rfl w.heap.size S[i] rfl (by rw [cell_blk (heap_alloc_new _ _)]; rfl) (by omega) (by have := HB.out.size; simp; omega) ?_; intro v1 w1 hown1 hg1)
        have hOf := (HO.out.alloc (.cells #[.int .u8 (S[i].toNat : Int)] 5)).kept hg1 (own_ne HO.out HT.out (by decide))
        have hsz := HB.out.size
        have hBb := (HB.out.alloc hsz (.cells #[.int .u8 (S[i].toNat : Int)] 5)).grown hg1 (by simp; omega) (own_base HT.out)
        have H1 := Lib.hid hown1
        have H2 := Lib.hid hOf
        have H3 := Lib.hid hBb
        clear hown1 hg1 hOf hBb hi0
        go_wp2_with fail
        go_step3
        show CutJ w0 S R 2 _ _ ∧ cutM S 2 _ _ < cutM S 2 _ _
        refine ⟨⟨rfl, rfl, rfl, H3.out, fs, _, i + 1, by omega, rfl, rfl, H2.out, .inr (.inr ⟨rfl, by omega, t ++ [S[i]], v1, b, q, by omega, by simp; omega, by omega, rfl, rfl, rfl, H1.out, HR.out⟩)⟩, ?_⟩
        simp [cutM, intOf]
        omega
      · rw [hk, if_pos rfl] at hR
        have HK := Lib.hid hk
        have HR := Lib.hid hR
        have HO := Lib.hid hof
        have HT := Lib.hid hot
        have HB := Lib.hid hb
        clear hk hd hR hof hot hb
        go_wp2_with fail
        refine (kindAt_in S i hlt (by omega) _).mono ?_
        rintro e w' ⟨rfl, rfl⟩
        rw [HK.out]
        go_wp2_with fail
        rw [jumps_ret]
        go_ret3
        exact ⟨HB.out, by rw [← HR.out]; rfl⟩
      · rw [hk, if_neg (by decide), if_pos rfl] at hR
        have HK := Lib.hid hk
        have HR := Lib.hid hR
        have HO := Lib.hid hof
        have HT := Lib.hid hot
        have HB := Lib.hid hb
        clear hk hd hR hof hot hb
        go_wp2_with fail
        refine (kindAt_in S i hlt (by omega) _).mono ?_
        rintro e w' ⟨rfl, rfl⟩
        rw [HK.out]
        go_wp2_with fail
        go_step3
        show CutJ w0 S R 1 _ _ ∧ cutM S 1 _ _ < cutM S 2 _ _
        refine ⟨⟨rfl, rfl, rfl, HB.out, fs, _, i + 1, by omega, rfl, rfl, HO.out, .inr (.inl ⟨rfl, by omega, t, _, b, by omega, by omega, rfl, rfl, HT.out, HR.out⟩)⟩, ?_⟩
        simp [cutM, intOf]
        omega
      · rw [hk, if_neg (by decide), if_neg (by decide)] at hR
        have hi0 := idx_str S i hlt
        have HK := Lib.hid hk
        have HR := Lib.hid hR
        have HO := Lib.hid hof
        have HT := Lib.hid hot
        have HB := Lib.hid hb
        clear hk hd hR hof hot hb
        go_wp2_with fail
        refine (kindAt_in S i hlt (by omega) _).mono ?_
        rintro e w' ⟨rfl, rfl⟩
        rw [HK.out]
        go_wp2_with (at_builtin; refine wpList_pushb rfl (.tmp 72) (.tmp 76) rfl w0.heap.size t6 t (HT.out.alloc _) rfl w.heap.size S[i] rfl (by rw [cell_blk (heap_alloc_new _ _)]; rfl) (by omega) (by have := HB.out.size; simp; omega) ?_; intro v1 w1 hown1 hg1)
        have hOf := (HO.out.alloc (.cells #[.int .u8 (S[i].toNat : Int)] 5)).kept hg1 (own_ne HO.out HT.out (by decide))
        have hsz := HB.out.size
        have hBb := (HB.out.alloc hsz (.cells #[.int .u8 (S[i].toNat : Int)] 5)).grown hg1 (by simp; omega) (own_base HT.out)
        have H1 := Lib.hid hown1
        have H2 := Lib.hid hOf
        have H3 := Lib.hid hBb
        clear hown1 hg1 hOf hBb hi0
        go_wp2_with fail
        go_step3
        show CutJ w0 S R 2 _ _ ∧ cutM S 2 _ _ < cutM S 2 _ _
        refine ⟨⟨rfl, rfl, rfl, H3.out, fs, _, i + 1, by omega, rfl, rfl, H2.out, .inr (.inr ⟨rfl, by omega, t ++ [S[i]], v1, b, q, by omega, by simp; omega, by omega, rfl, rfl, rfl, H1.out, HR.out⟩)⟩, ?_⟩
        simp [cutM, intOf]
        omega
      · rw [hk, if_neg (by decide), if_neg (by decide)] at hR
        have hi0 := idx_str S i hlt
        have HK := Lib.hid hk
        have HR := Lib.hid hR
        have HO := Lib.hid hof
        have HT := Lib.hid hot
        have HB := Lib.hid hb
        clear hk hd hR hof hot hb
        go_wp2_with fail
        refine (kindAt_in S i hlt (by omega) _).mono ?_
        rintro e w' ⟨rfl, rfl⟩
        rw [HK.out]
        go_wp2_with (at_builtin; refine wpList_pushb rfl (.tmp 72) (.tmp 76) rfl w0.heap.size t6 t (HT.out.alloc _) rfl w.heap.size S[i] rfl (by rw [cell_blk (heap_alloc_new _ _)]; rfl) (by omega) (by have := HB.out.size; simp; omega) ?_; intro v1 w1 hown1 hg1)
        have hOf := (HO.out.alloc (.cells #[.int .u8 (S[i].toNat : Int)] 5)).kept hg1 (own_ne HO.out HT.out (by decide))
        have hsz := HB.out.size
        have hBb := (HB.out.alloc hsz (.cells #[.int .u8 (S[i].toNat : Int)] 5)).grown hg1 (by simp; omega) (own_base HT.out)
        have H1 := Lib.hid hown1
        have H2 := Lib.hid hOf
        have H3 := Lib.hid hBb
        clear hown1 hg1 hOf hBb hi0
        go_wp2_with fail
        go_step3
        show CutJ w0 S R 2 _ _ ∧ cutM S 2 _ _ < cutM S 2 _ _
        refine ⟨⟨rfl, rfl, rfl, H3.out, fs, _, i + 1, by omega, rfl, rfl, H2.out, .inr (.inr ⟨rfl, by omega, t ++ [S[i]], v1, b, q, by omega, by simp; omega, by omega, rfl, rfl, rfl, H1.out, HR.out⟩)⟩, ?_⟩
        simp [cutM, intOf]
        omega
    · rw [List.drop_of_length_le (by simp; omega)] at hR
      unfold cutL at hR
      have HR := Lib.hid hR
      have HO := Lib.hid hof
      have HT := Lib.hid hot
      have HB := Lib.hid hb
      clear  hR hof hot hb
      go_wp2_with fail
      refine (kindAt_end S i (by omega) (by omega) _).mono ?_
      rintro e w' ⟨rfl, rfl⟩
      go_wp2_with fail
      rw [jumps_ret]
      go_ret3
      exact ⟨HB.out, by rw [← HR.out]; rfl⟩
end Go.Proofs.YtkcbmnboccjnnaaGreatDoor
/- Contracts of package scan: cut and Fields. -/



namespace Go.Proofs.YtkcbmnboccjnnaaGreatDoor
open Go.RowKit
theorem jumps_mono {J J' : Nat → Act → World → Prop} {Q : Exit → Act → World → Prop} (h : ∀ l a w, J l a w → J' l a w) : ∀ e a w, jumps J Q e a w → jumps J' Q e a w
  | .goto l, a, w, hj => h l a w hj
  | .normal, _, _, hj => hj
  | .exit _, _, _, hj => hj
  | .ret, _, _, hj => hj
  | .panic _, _, _, hj => hj
  | .outgrown, _, _, hj => hj
theorem wp_behind {P : Program} {c x : Code} {Q : Exit → Act → World → Prop} {a : Act} {w : World} (hc : c = .seq .skip x) (h : x.wp P Q a w) : c.wp P Q a w := by
  subst hc
  exact wp_seq (wp_skip h)
set_option maxRecDepth 100000 in
set_option maxHeartbeats 1000000 in
theorem scut_any (S : ByteArray) (hS : S.size ≤ 2048) (w : World) : Calls Tryz.prog 89 #[.string S] w fun e w' => CutE w (cutL S.data.toList none [] 0) e w' := by
  go_enter Tryz.func89, Tryz.ntmps89
  go_wp2_with fail
  refine wp_labels (CutJ w S (cutL S.data.toList none [] 0)) (cutM S) cutRest ?hf ?first ?pass
  case hf =>
    intro l a w' h
    obtain ⟨_, _, _, _, _, _, _, _, _, _, _, h⟩ := h
    rcases h with ⟨rfl, _⟩ | ⟨rfl, _⟩ | ⟨rfl, _⟩
    · kernel_rfl
    · kernel_rfl
    · kernel_rfl
  case pass =>
    intro l a w' h
    have h' := h
    obtain ⟨_, _, _, _, _, _, _, _, _, _, _, h⟩ := h
    rcases h with ⟨rfl, _⟩ | ⟨rfl, _⟩ | ⟨rfl, _⟩
    · exact wp_behind (by kernel_rfl) (cut_pass0 w S hS _ a w' h')
    · exact wp_behind (by kernel_rfl) (cut_pass1 w S hS _ a w' h')
    · exact wp_behind (by kernel_rfl) (cut_pass2 w S hS _ a w' h')
  case first =>
    go_wp2_with fail
    go_step3
    rename_i K hKK
    refine hKK _ _ (wp_mono (cut_pass0 w S hS (cutL S.data.toList none [] 0) _ w ⟨rfl, rfl, rfl, Below.refl _ _, [], .slice none 0 0, 0, Nat.zero_le _, rfl, rfl, World.ownsRow_nil _ _ _ _, .inl ⟨rfl, Nat.zero_le _, rfl⟩⟩) (jumps_mono fun l a w h => h.1))
theorem fields_long (S : ByteArray) (hS : 2048 < S.size) (hl : S.size ≤ 9223372036854775807) (w : World) : Calls Tryz.prog 46 #[.string S] w fun e w' => e = .returned (.tuple #[.slice none 0 0, .int .i64 2049, .int .i64 6]) ∧ w = w' := by
  go_enter Tryz.func46, Tryz.ntmps46
  go_wp2_with fail
  go_ret3
  exact ⟨rfl, rfl⟩
theorem fields_any (S : ByteArray) (hS : S.size ≤ 2048) (w : World) : Calls Tryz.prog 46 #[.string S] w fun e w' => CutE w (cutL S.data.toList none [] 0) e w' := by
  go_enter Tryz.func46, Tryz.ntmps46
  go_wp2_with fail
  refine (scut_any S hS _).mono ?_
  rintro e w1 ⟨hb, hE⟩
  generalize hR : cutL S.data.toList none [] 0 = R at hE
  have HR := Lib.hid hR
  clear hR
  cases R with
  | inl fs =>
    obtain ⟨v, rfl, hv⟩ := hE
    have HV := Lib.hid hv
    clear hv
    go_wp2_with fail
    go_ret3
    refine ⟨hb, ?_⟩
    rw [HR.out]
    exact ⟨v, rfl, HV.out⟩
  | inr p =>
    obtain ⟨c, y⟩ := p
    change e = _ at hE
    subst hE
    go_wp2_with fail
    go_ret3
    refine ⟨hb, ?_⟩
    rw [HR.out]
    rfl
end Go.Proofs.YtkcbmnboccjnnaaGreatDoor
