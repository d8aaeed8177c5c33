/- The texts of right rules and eras may stand in a line, and make one that is not too long. No walk. -/
import Derived.Test.YtigmbkcjmlpfoaaGreatDoorF5
namespace Go.Proofs.YtigmbkcjmlpfoaaGreatDoor
open Go.RowKit
def gr (c : UInt8) : Bool := decide (33 ≤ c.toNat ∧ c.toNat ≤ 126 ∧ c.toNat ≠ 34)
theorem okc_nat : ∀ n, n < 256 → 33 ≤ n → n ≤ 126 → n ≠ 34 → okc (UInt8.ofNat n) = true := by decide +kernel
theorem okc_gr {c : UInt8} (h : gr c = true) : okc c = true := by
  obtain ⟨h1, h2, h3⟩ := of_decide_eq_true h
  have := okc_nat c.toNat c.toNat_lt h1 h2 h3
  rwa [UInt8.ofNat_toNat] at this
theorem all_of {p q : UInt8 → Bool} {l : List UInt8} (h : ∀ c, p c = true → q c = true) (hl : l.all p = true) : l.all q = true := by
  rw [List.all_eq_true] at *
  exact fun c hc => h c (hl c hc)
theorem gr_inn {c : UInt8} (h : Rl.inn c = true) : gr c = true := by
  have := of_decide_eq_true h
  unfold gr
  rw [decide_eq_true_eq]
  omega
theorem gr_isD {c : UInt8} (h : Txt.isD c = true) : gr c = true := by
  have := (isD_iff c).1 h
  unfold gr
  rw [decide_eq_true_eq]
  omega
theorem gr_sg {c : UInt8} (h : Fm.sg c = true) : gr c = true := by
  have := of_decide_eq_true h
  unfold gr
  rw [decide_eq_true_eq]
  omega
theorem gr_name {l : List UInt8} (h : Rl.name l = true) : l.all gr = true := by
  unfold Rl.name at h
  simp only [Bool.and_eq_true] at h
  exact all_of (fun _ => gr_inn) h.2.2
theorem gr_itoa {y : Int} (h : 0 ≤ y) : (⟨(Lib.itoa y).toArray⟩ : ByteArray).data.toList.all gr = true := by
  show (Lib.itoa y).toArray.toList.all gr = true
  rw [List.toList_toArray]
  exact all_of (fun _ => gr_isD) (itoa_all y h)
theorem gr_txt0 {u : Int} (h0 : 0 ≤ u) : (txt0 u).all gr = true := by
  unfold txt0
  rw [List.all_append, List.all_append, List.all_append, all_of (fun _ => gr_isD) (itoa_all (u / 3600) (by omega)), all_of (fun _ => gr_isD) (two_all (u % 3600 / 60) (by omega) (by omega))]
  split
  · decide
  · have h2 : (two (u % 60)).all gr = true := all_of (fun _ => gr_isD) (two_all (u % 60) (by omega) (by omega))
    show (true && (gr 58 && true) && true && (gr 58 && (two (u % 60)).all gr)) = true
    rw [h2]
    decide
theorem gr_txt (t : Int) : (txt t).all gr = true := by
  unfold txt
  split
  · rw [List.all_cons, gr_txt0 (by omega)]
    decide
  · exact gr_txt0 (by omega)
theorem gr_ba {l : List UInt8} (h : l.all gr = true) : (⟨l.toArray⟩ : ByteArray).data.toList.all gr = true := by
  show l.toArray.toList.all gr = true
  rw [List.toList_toArray]
  exact h
theorem gr_mons : ∀ i, i < 12 → (Wd.three Wd.mons i).data.toList.all gr = true := by decide +kernel
theorem gr_dy0 : ∀ n, n < 32 → (Dy.txt 0 (n : Nat) 0).data.toList.all gr = true := by decide +kernel
theorem gr_dy1 : ∀ d, d < 7 → (Dy.txt 1 0 (d : Nat)).data.toList.all gr = true := by decide +kernel
def gr_dyk (k : Int) : Bool := (List.range 32).all fun n => (List.range 7).all fun d => (Dy.txt k (n : Nat) (d : Nat)).data.toList.all gr
theorem gr_dy2 : gr_dyk 2 = true := by decide +kernel
theorem gr_dy3 : gr_dyk 3 = true := by decide +kernel
theorem gr_dyn {k : Int} (h : gr_dyk k = true) (n d : Nat) (h1 : n < 32) (h3 : d < 7) : (Dy.txt k (n : Nat) (d : Nat)).data.toList.all gr = true :=
  List.all_eq_true.1 (List.all_eq_true.1 h n (List.mem_range.2 h1)) d (List.mem_range.2 h3)
theorem gr_dy {k n d : Int} (h : Dy.right k n d = true) : (Dy.txt k n d).data.toList.all gr = true := by
  rcases (Dy.right_iff k n d).1 h with ⟨rfl, h1, h2, rfl⟩ | ⟨rfl, rfl, h1, h2⟩ | ⟨hk, h1, h2, h3, h4⟩
  · have := gr_dy0 n.toNat (by omega)
    rwa [show ((n.toNat : Nat) : Int) = n by omega] at this
  · have := gr_dy1 d.toNat (by omega)
    rwa [show ((d.toNat : Nat) : Int) = d by omega] at this
  · rcases hk with rfl | rfl
    · have := gr_dyn gr_dy2 n.toNat d.toNat (by omega) (by omega)
      rwa [show ((n.toNat : Nat) : Int) = n by omega, show ((d.toNat : Nat) : Int) = d by omega] at this
    · have := gr_dyn gr_dy3 n.toNat d.toNat (by omega) (by omega)
      rwa [show ((n.toNat : Nat) : Int) = n by omega, show ((d.toNat : Nat) : Int) = d by omega] at this
theorem gr_mo (s c : Int) : (Mo.txt s c).all gr = true := by
  unfold Mo.txt Mo.ltr
  rw [List.all_append, gr_txt]
  split
  · decide
  · split <;> decide
theorem gr_fmt {l : List UInt8} (h : Fm.fmt l = true) : l.all gr = true := by
  obtain ⟨_, _, m, a, b, hc, ha, hb, _⟩ := Fm.fmt_cases h
  have ga : a.all gr = true := all_of (fun _ => gr_sg) ha
  have gb : b.all gr = true := all_of (fun _ => gr_sg) hb
  obtain ⟨m', a', b', hc', hw⟩ := Fm.cutF_cases l
  rw [hc] at hc'
  injection hc' with e1 e2
  injection e2 with e2 e3
  subst e1 e2 e3
  rcases hw with ⟨_, e⟩ | ⟨_, e⟩ | ⟨_, e⟩ | ⟨_, e, _⟩
  · rw [e, List.all_append, List.all_append, ga, gb]; decide
  · rw [e, List.all_append, List.all_append, ga, gb]; decide
  · rw [e, List.all_append, List.all_append, ga, gb]; decide
  · rw [e]; exact ga
theorem gr_letter {l : List UInt8} (h : Fm.ltr l = true) : l.all gr = true := by
  unfold Fm.ltr at h
  simp only [Bool.and_eq_true] at h
  exact all_of (fun _ => gr_sg) h.2.2
theorem rtexts_gr {r : Ru} (h : Rl.right r = true) : ∀ t ∈ Rl.texts r, t.data.toList.all gr = true := by
  obtain ⟨h1, ⟨y1, y2, y3⟩, ⟨m1, m2⟩, hd, hr, ⟨v1, v2⟩, hl⟩ := rl_parts h
  intro t ht
  simp only [Rl.texts, List.mem_cons, List.not_mem_nil, or_false] at ht
  rcases ht with rfl | rfl | rfl | rfl | rfl | rfl | rfl | rfl | rfl
  · exact gr_name h1
  · exact gr_itoa (by omega)
  · unfold Rl.t2
    split
    · decide
    · split
      · decide
      · exact gr_itoa (by omega)
  · decide
  · exact gr_mons _ (by omega)
  · exact gr_dy hd
  · exact gr_ba (gr_mo _ _)
  · exact gr_ba (gr_txt _)
  · unfold Rl.t8
    split
    · decide
    · exact gr_letter hl
theorem etexts_gr {e : Er} (h : El.right e = true) : ∀ t ∈ El.texts e, t.data.toList.all gr = true := by
  obtain ⟨_, hk, hf, he⟩ := el_parts h
  intro t ht
  unfold El.texts at ht
  rcases List.mem_append.1 ht with ht | ht
  · simp only [List.mem_cons, List.not_mem_nil, or_false] at ht
    rcases ht with rfl | rfl | rfl
    · exact gr_ba (gr_txt _)
    · unfold El.t1
      rcases kind_cases hk with ⟨k, s, r⟩ | ⟨k, _, r⟩ | ⟨k, s, r⟩
      · rw [k, if_neg (by decide), if_neg (by decide)]
        decide
      · rw [k, if_pos rfl]
        exact gr_ba (gr_txt _)
      · rw [k, if_neg (by decide), if_pos rfl]
        exact gr_name r
    · exact gr_fmt hf
  · unfold El.rest at ht
    split at ht
    · rename_i hn
      unfold El.ends at he
      rw [if_pos hn] at he
      obtain ⟨⟨y1, y2, m1, m2⟩, hd, hr⟩ := unt_parts he
      have ht := List.mem_of_mem_take ht
      simp only [Mo.texts, List.mem_cons, List.not_mem_nil, or_false] at ht
      rcases ht with rfl | rfl | rfl | rfl
      · exact gr_itoa (by omega)
      · exact gr_mons _ (by omega)
      · exact gr_dy hd
      · exact gr_ba (gr_mo _ _)
    · cases ht
theorem okc_texts {L : List ByteArray} (h : ∀ t ∈ L, t.data.toList.all gr = true) : ∀ x ∈ bts L, x.all okc = true := by
  intro x hx
  obtain ⟨t, ht, rfl⟩ := List.mem_map.1 hx
  exact all_of (fun _ => okc_gr) (h t ht)
theorem line_texts {L : List ByteArray} (h : ∀ t ∈ L, t.size ≤ 201) (hn : L.length ≤ 9) : (lineOf (bts L)).length ≤ 2000 := by
  have h1 := line_len 201 (bts L) (fun s hs => by
    obtain ⟨t, ht, rfl⟩ := List.mem_map.1 hs
    have := h t ht
    have hz : t.data.toList.length = t.size := by simp
    omega)
  have h2 : (bts L).length = L.length := by unfold bts; rw [List.length_map]
  have h3 : (bts L).length * (201 + 3) ≤ 9 * 204 := Nat.mul_le_mul_right _ (by omega)
  omega
end Go.Proofs.YtigmbkcjmlpfoaaGreatDoor
