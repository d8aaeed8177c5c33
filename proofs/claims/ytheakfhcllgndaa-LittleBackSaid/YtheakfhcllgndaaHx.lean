/- Plain lists of bytes: bytes told by their digits (chapter 3). Imports nothing of the program. -/
import Derived.Lib.Hide
namespace Go.Proofs.Ytheakfhcllgndaa
namespace Hx
/-- A digit. -/
def dg (n : Nat) : UInt8 := if n < 10 then UInt8.ofNat (48 + n) else UInt8.ofNat (87 + n)
def h2 (c : UInt8) : List UInt8 := [dg (c.toNat / 16), dg (c.toNat % 16)]
def h3 (c : UInt8) : List UInt8 := [dg (c.toNat / 16), dg (c.toNat % 16), 44]
def hexC (l : List UInt8) : List UInt8 := l.flatMap h3
def hex (l : List UInt8) : List UInt8 := (hexC l).dropLast
theorem hexC_nil : hexC [] = [] := rfl
theorem hexC_cons (c : UInt8) (r : List UInt8) : hexC (c :: r) = dg (c.toNat / 16) :: dg (c.toNat % 16) :: 44 :: hexC r := rfl
theorem hexC_snoc (l : List UInt8) (c : UInt8) : hexC (l ++ [c]) = hexC l ++ h3 c := by simp [hexC]
theorem hexC_len (l : List UInt8) : (hexC l).length = 3 * l.length := by
  induction l with
  | nil => rfl
  | cons c r ih => rw [hexC_cons]; simp only [List.length_cons, ih]; omega
theorem hex_len (l : List UInt8) : (hex l).length = 3 * l.length - 1 := by unfold hex; rw [List.length_dropLast, hexC_len]
theorem hex_nil : hex [] = [] := rfl
theorem hex_snoc (l : List UInt8) (c : UInt8) : hex (l ++ [c]) = hexC l ++ h2 c := by
  unfold hex
  rw [hexC_snoc, List.dropLast_append_of_ne_nil (by simp [h3])]
  rfl
theorem hexC_hex (l : List UInt8) (h : l ≠ []) : hexC l = hex l ++ [44] := by
  obtain ⟨r, c, rfl⟩ : ∃ r c, l = r ++ [c] := ⟨l.dropLast, l.getLast h, (List.dropLast_concat_getLast h).symm⟩
  rw [hex_snoc, hexC_snoc]
  simp [h2, h3]
theorem hexC_at (l : List UInt8) : ∀ k, (hk : k < l.length) → (hexC l)[3 * k]? = some (dg (l[k].toNat / 16)) ∧ (hexC l)[3 * k + 1]? = some (dg (l[k].toNat % 16)) ∧ (hexC l)[3 * k + 2]? = some 44 := by
  induction l with
  | nil => intro k hk; simp at hk
  | cons c r ih =>
    intro k hk
    rw [hexC_cons]
    cases k with
    | zero => exact ⟨rfl, rfl, rfl⟩
    | succ k =>
      have hk' : k < r.length := by simpa using hk
      obtain ⟨a, b, d⟩ := ih k hk'
      rw [show 3 * (k + 1) = 3 * k + 1 + 1 + 1 by omega, show 3 * k + 1 + 1 + 1 + 1 = (3 * k + 1) + 1 + 1 + 1 by omega, show 3 * k + 1 + 1 + 1 + 2 = (3 * k + 2) + 1 + 1 + 1 by omega]
      simp only [List.getElem?_cons_succ, List.getElem_cons_succ]
      exact ⟨a, b, d⟩
theorem hex_at (l : List UInt8) (i : Nat) (h : i < 3 * l.length - 1) : (hex l)[i]? = (hexC l)[i]? := by
  unfold hex
  rw [List.getElem?_dropLast, if_pos (by rw [hexC_len]; exact h)]
/-- What a digit counts, or -1. -/
def val (c : UInt8) : Int :=
  if 48 ≤ c.toNat ∧ c.toNat ≤ 57 then (c.toNat : Int) - 48 else if 97 ≤ c.toNat ∧ c.toNat ≤ 102 then (c.toNat : Int) - 97 + 10 else if 65 ≤ c.toNat ∧ c.toNat ≤ 70 then (c.toNat : Int) - 65 + 10 else -1
/-- The letters A to F as a to f. -/
def low (c : UInt8) : UInt8 := if 65 ≤ c.toNat ∧ c.toNat ≤ 70 then c + 32 else c
/-- What a small digit counts, or 16. -/
def num (c : UInt8) : Nat :=
  if 48 ≤ c.toNat ∧ c.toNat ≤ 57 then c.toNat - 48 else if 97 ≤ c.toNat ∧ c.toNat ≤ 102 then c.toNat - 87 else 16
theorem all_bytes {P : UInt8 → Prop} (h : ∀ n, n < 256 → P (UInt8.ofNat n)) (c : UInt8) : P c := by
  have := h c.toNat c.toNat_lt
  simpa using this
theorem val_bd (c : UInt8) : -1 ≤ val c ∧ val c < 16 := by unfold val; split <;> (try split) <;> (try split) <;> omega
theorem num_low (c : UInt8) : 0 ≤ val c → (num (low c) : Int) = val c ∧ dg (val c).toNat = low c := by
  revert c
  apply all_bytes
  decide +kernel
theorem low_dg (c : UInt8) : val c < 0 → ∀ n, n < 16 → low c ≠ dg n := by
  revert c
  apply all_bytes
  decide +kernel
theorem low_comma (c : UInt8) : low c = 44 ↔ c = 44 := by
  revert c
  apply all_bytes
  decide +kernel
theorem val_dg : ∀ n, n < 16 → val (dg n) = n := by decide +kernel
theorem num_dg : ∀ n, n < 16 → num (dg n) = n := by decide +kernel
theorem num_none (c : UInt8) : (∀ n, n < 16 → dg n ≠ c) → num c = 16 := by
  revert c
  apply all_bytes
  decide +kernel
theorem num_le (c : UInt8) : num c ≤ 16 := by unfold num; split <;> (try split) <;> omega
def at_ (s : List UInt8) (i : Nat) : UInt8 := s.getD i 0
/-- The first j bytes of digits are right. -/
def Good (s : List UInt8) (j : Nat) : Prop := ∀ k, k < j → 0 ≤ val (at_ s (3 * k)) ∧ 0 ≤ val (at_ s (3 * k + 1)) ∧ (0 < k → at_ s (3 * k - 1) = 44)
def byt (s : List UInt8) (k : Nat) : UInt8 := UInt8.ofNat (16 * (val (at_ s (3 * k))).toNat + (val (at_ s (3 * k + 1))).toNat)
def bytes (s : List UInt8) (j : Nat) : List UInt8 := (List.range j).map (byt s)
theorem bytes_snoc (s : List UInt8) (j : Nat) : bytes s (j + 1) = bytes s j ++ [byt s j] := by unfold bytes; rw [List.range_succ, List.map_append]; rfl
theorem bytes_len (s : List UInt8) (j : Nat) : (bytes s j).length = j := by simp [bytes]
/-- The digits of bytes. -/
def Okh (s : List UInt8) : Prop := s = [] ∨ (s.length % 3 = 2 ∧ Good s ((s.length + 1) / 3))
def outh (s : List UInt8) : List UInt8 := bytes s ((s.length + 1) / 3)
theorem outh_len (s : List UInt8) : (outh s).length = (s.length + 1) / 3 := bytes_len _ _
theorem at_of {s : List UInt8} {i : Nat} {c : UInt8} (h : s[i]? = some c) : at_ s i = c := by unfold at_; rw [List.getD_eq_getElem?_getD, h]; rfl
theorem div16 (c : UInt8) : c.toNat / 16 < 16 := by have := c.toNat_lt; omega
theorem ofNat_split (c : UInt8) : UInt8.ofNat (16 * (c.toNat / 16) + c.toNat % 16) = c := by
  rw [show 16 * (c.toNat / 16) + c.toNat % 16 = c.toNat by omega]; simp
theorem hex_parts (l : List UInt8) (k : Nat) (hk : k < l.length) : at_ (hex l) (3 * k) = dg (l[k].toNat / 16) ∧ at_ (hex l) (3 * k + 1) = dg (l[k].toNat % 16) ∧ (0 < k → at_ (hex l) (3 * k - 1) = 44) := by
  obtain ⟨a, b, _⟩ := hexC_at l k hk
  refine ⟨at_of (by rw [hex_at _ _ (by omega)]; exact a), at_of (by rw [hex_at _ _ (by omega)]; exact b), fun h0 => ?_⟩
  obtain ⟨j, rfl⟩ : ∃ j, k = j + 1 := ⟨k - 1, by omega⟩
  rw [show 3 * (j + 1) - 1 = 3 * j + 2 by omega]
  exact at_of (by rw [hex_at _ _ (by omega)]; exact (hexC_at l j (by omega)).2.2)
/-- Bytes are read from their digits. -/
theorem ok_hex (l : List UInt8) : Okh (hex l) ∧ outh (hex l) = l := by
  have hlen := hex_len l
  rcases Nat.eq_zero_or_pos l.length with h0 | h0
  · have := List.eq_nil_of_length_eq_zero h0
    subst this
    exact ⟨.inl rfl, rfl⟩
  · have hj : ((hex l).length + 1) / 3 = l.length := by omega
    refine ⟨.inr ⟨by omega, ?_⟩, ?_⟩
    · rw [hj]
      intro k hk
      obtain ⟨a, b, c⟩ := hex_parts l k hk
      rw [a, b, val_dg _ (div16 _), val_dg _ (by omega)]
      exact ⟨by omega, by omega, c⟩
    · unfold outh bytes
      rw [hj]
      apply List.ext_getElem
      · simp
      · intro k h1 h2
        obtain ⟨a, b, c⟩ := hex_parts l k h2
        simp only [List.getElem_map, List.getElem_range, byt]
        rw [a, b, val_dg _ (div16 _), val_dg _ (by omega), Int.toNat_natCast, Int.toNat_natCast, ofNat_split]
/-- What is read of digits has as many. -/
theorem len_out (s : List UInt8) (h : Okh s) : (hex (outh s)).length = s.length := by
  rw [hex_len, outh_len]
  rcases h with rfl | ⟨h, _⟩
  · rfl
  · omega
/-- The document's own way: bytes of whatever digits, told by their digits again. -/
def rbyt (t : List UInt8) (k : Nat) : UInt8 := UInt8.ofNat (16 * num (at_ t (3 * k)) + num (at_ t (3 * k + 1)))
def rbytes (t : List UInt8) (j : Nat) : List UInt8 := (List.range j).map (rbyt t)
theorem rbytes_snoc (s : List UInt8) (j : Nat) : rbytes s (j + 1) = rbytes s j ++ [rbyt s j] := by unfold rbytes; rw [List.range_succ, List.map_append]; rfl
theorem rbytes_len (s : List UInt8) (j : Nat) : (rbytes s j).length = j := by simp [rbytes]
def lows (s : List UInt8) : List UInt8 := s.map low
def routh (s : List UInt8) : List UInt8 := rbytes (lows s) ((s.length + 1) / 3)
theorem at_lows (s : List UInt8) (i : Nat) (h : i < s.length) : at_ (lows s) i = low (at_ s i) := by
  unfold at_ lows
  simp [List.getD_eq_getElem?_getD, List.getElem?_eq_getElem h]
theorem routh_len (s : List UInt8) : (routh s).length = (s.length + 1) / 3 := rbytes_len _ _
theorem rout_ok (s : List UInt8) (h : Okh s) : routh s = outh s ∧ hex (outh s) = lows s := by
  rcases h with rfl | ⟨hm, hg⟩
  · exact ⟨rfl, rfl⟩
  · have key : ∀ k, k < (s.length + 1) / 3 → rbyt (lows s) k = byt s k ∧ (byt s k).toNat / 16 = (val (at_ s (3 * k))).toNat ∧ (byt s k).toNat % 16 = (val (at_ s (3 * k + 1))).toNat := by
      intro k hk
      obtain ⟨a, b, c⟩ := hg k hk
      have e1 := num_low _ a
      have e2 := num_low _ b
      have b1 := val_bd (at_ s (3 * k))
      have b2 := val_bd (at_ s (3 * k + 1))
      have n1 : num (low (at_ s (3 * k))) = (val (at_ s (3 * k))).toNat := by omega
      have n2 : num (low (at_ s (3 * k + 1))) = (val (at_ s (3 * k + 1))).toNat := by omega
      refine ⟨?_, ?_, ?_⟩
      · unfold rbyt byt
        rw [at_lows _ _ (by omega), at_lows _ _ (by omega), n1, n2]
      · unfold byt
        rw [UInt8.toNat_ofNat']
        omega
      · unfold byt
        rw [UInt8.toNat_ofNat']
        omega
    refine ⟨?_, ?_⟩
    · unfold routh outh rbytes bytes
      apply List.map_congr_left
      intro k hk
      exact (key k (List.mem_range.1 hk)).1
    · have hlen : (hex (outh s)).length = s.length := len_out s (.inr ⟨hm, hg⟩)
      apply List.ext_getElem
      · rw [hlen]; simp [lows]
      · intro i h1 h2
        rw [hlen] at h1
        have hk : i / 3 < (outh s).length := by rw [outh_len]; omega
        have hk' : i / 3 < (s.length + 1) / 3 := by rw [outh_len] at hk; exact hk
        obtain ⟨a, b, c⟩ := hex_parts (outh s) (i / 3) hk
        have hb : (outh s)[i / 3] = byt s (i / 3) := by simp [outh, bytes]
        obtain ⟨_, k2, k3⟩ := key _ hk'
        rw [hb, k2] at a
        rw [hb, k3] at b
        obtain ⟨g1, g2, g3⟩ := hg _ hk'
        have e1 := (num_low _ g1).2
        have e2 := (num_low _ g2).2
        have hx : ∀ (l : List UInt8) (h : i < l.length), l[i] = at_ l i := fun l h => by unfold at_; rw [List.getD_eq_getElem?_getD, List.getElem?_eq_getElem h]; rfl
        rw [hx, hx, at_lows _ _ h1]
        have h3 : i = 3 * (i / 3) ∨ i = 3 * (i / 3) + 1 ∨ i = 3 * (i / 3) + 2 := by omega
        rcases h3 with h3 | h3 | h3
        · rw [h3, a, e1]
        · rw [h3, b, e2]
        · have hn : i / 3 + 1 < (outh s).length := by rw [outh_len]; omega
          have p1 := (hex_parts (outh s) (i / 3 + 1) hn).2.2 (by omega)
          have p2 := (hg (i / 3 + 1) (by rw [outh_len] at hn; exact hn)).2.2 (by omega)
          rw [show 3 * (i / 3 + 1) - 1 = i by omega] at p1 p2
          rw [p1, p2]
          rfl
theorem rout_no (s : List UInt8) (h : ¬ Okh s) : hex (routh s) ≠ lows s := by
  intro he
  apply h
  have hlen := congrArg List.length he
  rw [hex_len, routh_len] at hlen
  simp only [lows, List.length_map] at hlen
  rcases Nat.eq_zero_or_pos s.length with h0 | h0
  · exact .inl (List.eq_nil_of_length_eq_zero h0)
  · refine .inr ⟨by omega, fun k hk => ?_⟩
    have hk' : k < (routh s).length := by rw [routh_len]; exact hk
    obtain ⟨a, b, c⟩ := hex_parts (routh s) k hk'
    rw [he] at a b c
    rw [at_lows _ _ (by omega)] at a b
    refine ⟨?_, ?_, fun h0 => ?_⟩
    · rcases Int.lt_or_le (val (at_ s (3 * k))) 0 with hv | hv
      · exact absurd a (low_dg _ hv _ (div16 _))
      · exact hv
    · rcases Int.lt_or_le (val (at_ s (3 * k + 1))) 0 with hv | hv
      · exact absurd b (low_dg _ hv _ (by omega))
      · exact hv
    · have := c h0
      rw [at_lows _ _ (by omega)] at this
      exact (low_comma _).1 this
end Hx
end Go.Proofs.Ytheakfhcllgndaa
