/- There and back, on lists: the text of a time tells that time. -/
import Derived.Test.YtgcgmmdfmcapiaaGreatDoorParse2
namespace Go.Proofs.YtgcgmmdfmcapiaaGreatDoor
theorem dig_nat (d : Nat) (h : d < 10) : (UInt8.ofNat (48 + d)).toNat = 48 + d := by
  rw [UInt8.toNat_ofNat']
  omega
theorem dig_isD (d : Nat) (h : d < 10) : Txt.isD (UInt8.ofNat (48 + d)) = true := by
  unfold Txt.isD
  rw [dig_nat d h]
  simp
  omega
theorem dec_all : ∀ (k u : Nat), u ≤ k → (Lib.decDigits u).all Txt.isD = true ∧ Txt.val (Lib.decDigits u) = u ∧ 1 ≤ (Lib.decDigits u).length := by
  intro k
  induction k with
  | zero =>
    intro u hu
    obtain rfl : u = 0 := by omega
    rw [Lib.decDigits, dif_pos (by omega)]
    decide
  | succ k ih =>
    intro u hu
    rw [Lib.decDigits]
    split
    · rename_i h
      refine ⟨by rw [List.all_cons, dig_isD u h]; rfl, ?_, by simp⟩
      show 10 * 0 + (((UInt8.ofNat (48 + u)).toNat : Int) - 48) = u
      rw [dig_nat u h]
      omega
    · obtain ⟨h1, h2, h3⟩ := ih (u / 10) (by omega)
      refine ⟨?_, ?_, by simp⟩
      · rw [all_snoc, h1, dig_isD _ (by omega)]
        rfl
      · rw [Txt.val_snoc, h2, dig_nat _ (by omega)]
        omega
theorem piece_itoa (h : Int) (h0 : 0 ≤ h) (h1 : h < 1000) : Txt.piece 0 (Lib.itoa h) = some h := by
  have e : Lib.itoa h = Lib.decDigits h.toNat := by unfold Lib.itoa; rw [if_neg (by omega)]
  obtain ⟨a, b, c⟩ := dec_all h.toNat h.toNat (Nat.le_refl _)
  have hl := itoa_len h h0 h1
  rw [e] at hl ⊢
  rw [piece_zero]
  unfold Txt.okDig
  rw [a, b]
  have e1 : decide (1 ≤ (Lib.decDigits h.toNat).length) = true := by simpa using c
  have e2 : decide ((Lib.decDigits h.toNat).length ≤ 3) = true := by simpa using hl
  rw [e1, e2]
  simp
  omega
theorem piece_two (i : Nat) (m : Int) (hi : i ≠ 0) (h0 : 0 ≤ m) (h1 : m < 60) : Txt.piece i (two m) = some m := by
  have hv : Txt.val (two m) = m := by
    unfold two
    show 10 * (10 * 0 + (((UInt8.ofNat (48 + m.toNat / 10)).toNat : Int) - 48)) + (((UInt8.ofNat (48 + m.toNat % 10)).toNat : Int) - 48) = m
    rw [dig_nat _ (by omega), dig_nat _ (by omega)]
    omega
  have ha : (two m).all Txt.isD = true := by
    unfold two
    rw [List.all_cons, List.all_cons, dig_isD _ (show m.toNat / 10 < 10 by omega), dig_isD _ (show m.toNat % 10 < 10 by omega)]
    rfl
  rw [piece_later i _ hi]
  unfold Txt.okDig
  rw [ha, hv, two_len]
  simp
  omega
theorem no58 (l : List UInt8) (h : l.all Txt.isD = true) : ∀ c ∈ l, c ≠ 58 := by
  intro c hc e
  have := List.all_eq_true.1 h c hc
  rw [e, Txt.isD_58] at this
  cases this
theorem itoa_all (h : Int) (h0 : 0 ≤ h) : (Lib.itoa h).all Txt.isD = true := by
  have e : Lib.itoa h = Lib.decDigits h.toNat := by unfold Lib.itoa; rw [if_neg (by omega)]
  rw [e]
  exact (dec_all h.toNat h.toNat (Nat.le_refl _)).1
theorem two_all (m : Int) (h0 : 0 ≤ m) (h1 : m < 100) : (two m).all Txt.isD = true := by
  unfold two
  rw [List.all_cons, List.all_cons, dig_isD _ (show m.toNat / 10 < 10 by omega), dig_isD _ (show m.toNat % 10 < 10 by omega)]
  rfl
theorem G_txt0 (u : Int) (h0 : 0 ≤ u) (h1 : u ≤ 604800) : ∃ vs, Txt.G 0 [] (txt0 u) = some vs ∧ secs vs = u := by
  unfold txt0
  have n1 := no58 _ (itoa_all (u / 3600) (by omega))
  have n2 := no58 _ (two_all (u % 3600 / 60) (by omega) (by omega))
  by_cases hz : u % 60 = 0
  · rw [if_pos hz, List.append_nil, List.append_assoc, List.singleton_append, Txt.Q_cut _ _ 0 n1 (by omega), piece_itoa _ (by omega) (by omega), Txt.G_plain _ _ n2, piece_two _ _ (by omega) (by omega) (by omega)]
    refine ⟨_, rfl, ?_⟩
    show u / 3600 * 3600 + u % 3600 / 60 * 60 + 0 = u
    omega
  · have n3 := no58 _ (two_all (u % 60) (by omega) (by omega))
    rw [if_neg hz, List.append_assoc, List.append_assoc, List.singleton_append, Txt.Q_cut _ _ 0 n1 (by omega), piece_itoa _ (by omega) (by omega), Txt.Q_cut _ _ 1 n2 (by omega), piece_two _ _ (by omega) (by omega) (by omega), Txt.G_plain _ _ n3, piece_two _ _ (by omega) (by omega) (by omega)]
    refine ⟨_, rfl, ?_⟩
    show u / 3600 * 3600 + u % 3600 / 60 * 60 + u % 60 = u
    omega
theorem txt0_head (u : Int) (h0 : 0 ≤ u) : ∃ c r, txt0 u = c :: r ∧ Txt.isD c = true := by
  have ha := itoa_all (u / 3600) (by omega)
  have e : Lib.itoa (u / 3600) = Lib.decDigits (u / 3600).toNat := by unfold Lib.itoa; rw [if_neg (by omega)]
  obtain ⟨_, _, hl⟩ := dec_all (u / 3600).toNat _ (Nat.le_refl _)
  rw [← e] at hl
  unfold txt0
  cases hq : Lib.itoa (u / 3600) with
  | nil => rw [hq] at hl; simp at hl
  | cons c r =>
    rw [hq] at ha
    simp only [List.all_cons, Bool.and_eq_true] at ha
    exact ⟨c, _, rfl, ha.1⟩
theorem parse_txt (t : Int) (h1 : -604800 ≤ t) (h2 : t ≤ 604800) : parseL (txt t) = (t, 0) := by
  unfold txt
  by_cases ht : t < 0
  · rw [if_pos ht]
    obtain ⟨vs, hG, hs⟩ := G_txt0 (-t) (by omega) (by omega)
    have hp : Lib.hasPrefix (45 :: txt0 (-t)) [45] = true := by simp [Lib.hasPrefix, List.isPrefixOf]
    have hr : Lib.trimPrefix (45 :: txt0 (-t)) [45] = txt0 (-t) := by unfold Lib.trimPrefix; rw [if_pos hp]; rfl
    unfold parseL
    rw [hr, hG]
    simp only [hp, if_true, hs]
    rw [if_pos (by omega)]
    simp
  · rw [if_neg ht]
    obtain ⟨vs, hG, hs⟩ := G_txt0 t (by omega) h2
    obtain ⟨c, r, hc, hd⟩ := txt0_head t (by omega)
    have hp : Lib.hasPrefix (txt0 t) [45] = false := by
      rw [hc]
      simp only [Lib.hasPrefix, List.isPrefixOf, Bool.and_true, beq_eq_false_iff_ne]
      intro e
      rw [← e] at hd
      exact absurd hd (by decide)
    have hr : Lib.trimPrefix (txt0 t) [45] = txt0 t := by unfold Lib.trimPrefix; rw [if_neg (by rw [hp]; simp)]
    unfold parseL
    rw [hr, hG]
    simp only [hp, hs, Bool.false_eq_true, if_false]
    rw [if_pos (by omega)]
theorem txt_ne (t : Int) (h1 : -604800 ≤ t) (h2 : t ≤ 604800) : txt t ≠ [] := by
  unfold txt
  split
  · simp
  · obtain ⟨c, r, hc, _⟩ := txt0_head t (by omega)
    rw [hc]
    simp
theorem txt_inj (a b : Int) (h1 : -604800 ≤ a) (h2 : a ≤ 604800) (h3 : -604800 ≤ b) (h4 : b ≤ 604800) (h : txt a = txt b) : a = b := by
  have x := parse_txt a h1 h2
  rw [h, parse_txt b h3 h4] at x
  injection x with x _
  exact x.symm
theorem parse_ok (l : List UInt8) (h : (parseL l).2 = 0) : -604800 ≤ (parseL l).1 ∧ (parseL l).1 ≤ 604800 := by
  unfold parseL at h ⊢
  cases hG : Txt.G 0 [] (Lib.trimPrefix l [45]) with
  | none => rw [hG] at h; simp at h
  | some vs =>
    rw [hG] at h
    revert h
    simp only
    generalize (if Lib.hasPrefix l [45] = true then -secs vs else secs vs) = x
    intro h
    by_cases hx : -604800 ≤ x ∧ x ≤ 604800
    · rw [if_pos hx]
      exact hx
    · rw [if_neg hx] at h
      simp at h
theorem txt_len (t : Int) (h1 : -604800 ≤ t) (h2 : t ≤ 604800) : (txt t).length ≤ 200 := by
  have key : ∀ u : Int, 0 ≤ u → u ≤ 604800 → (txt0 u).length ≤ 20 := by
    intro u a b
    have := itoa_len (u / 3600) (by omega) (by omega)
    unfold txt0
    split <;> simp [two_len] <;> omega
  unfold txt
  split
  · have := key (-t) (by omega) (by omega)
    simp
    omega
  · have := key t (by omega) h2
    omega
end Go.Proofs.YtgcgmmdfmcapiaaGreatDoor
