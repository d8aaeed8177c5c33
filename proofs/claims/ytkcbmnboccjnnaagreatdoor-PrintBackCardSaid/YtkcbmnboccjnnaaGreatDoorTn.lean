/- A text with comments, and blanks, at each line: what is read of it. No walk. -/
import Derived.Test.YtkcbmnboccjnnaaGreatDoorPt
namespace Go.Proofs.YtkcbmnboccjnnaaGreatDoor
open Go.RowKit
/-- What stands in place of each line feed. -/
def Tn.sep (n : List UInt8) : List UInt8 := (32 :: 35 :: n) ++ 10 :: ((35 :: 32 :: n) ++ 10 :: [13, 9, 32])
def Tn.out (n t : List UInt8) : List UInt8 := t.flatMap fun c => if c = 10 then Tn.sep n else [c]
theorem out_plain (n : List UInt8) : ∀ a : List UInt8, (∀ c ∈ a, c ≠ 10) → Tn.out n a = a
  | [], _ => rfl
  | c :: a, h => by
    have ih := out_plain n a (fun x hx => h x (by simp [hx]))
    have hc := h c (by simp)
    unfold Tn.out at ih ⊢
    rw [List.flatMap_cons, if_neg hc, ih]
    rfl
theorem out_app (n a b : List UInt8) : Tn.out n (a ++ b) = Tn.out n a ++ Tn.out n b := List.flatMap_append
/-- The lines of such a text, with what they tell. -/
def Tn.q (n : List UInt8) : List UInt8 → List PL → List (List UInt8 × List ByteArray)
  | a, [] => [(a, [])]
  | a, p :: l => (a ++ (p.line ++ (32 :: 35 :: n)), p.2) :: (35 :: 32 :: n, []) :: Tn.q n [13, 9, 32] l
theorem tn_cut (n : List UInt8) (hn : ∀ c ∈ n, c ≠ 10) : ∀ (l : List PL) (a : List UInt8), (∀ p ∈ l, p.ok) → (∀ c ∈ a, c ≠ 10) → Ln.cut (a ++ Tn.out n (Pt.bytes l)) = (Tn.q n a l).map (·.1)
  | [], a, _, ha => by
    have e : Tn.out n (Pt.bytes []) = [] := rfl
    rw [e, List.append_nil, lcut_plain a ha]
    rfl
  | p :: l, a, h, ha => by
    have hp := pline_lf (h p (by simp))
    have e : Pt.bytes (p :: l) = p.line ++ ([10] ++ Pt.bytes l) := by
      show (p.line ++ [10]) ++ Pt.bytes l = _
      simp
    have e2 : Tn.out n [10] = Tn.sep n := by simp [Tn.out]
    rw [e, out_app, out_app, out_plain n _ hp, e2]
    have e3 : a ++ (p.line ++ (Tn.sep n ++ Tn.out n (Pt.bytes l))) = (a ++ (p.line ++ (32 :: 35 :: n))) ++ 10 :: ((35 :: 32 :: n) ++ 10 :: ([13, 9, 32] ++ Tn.out n (Pt.bytes l))) := by
      unfold Tn.sep
      simp
    rw [e3, lcut_line _ _ (fun c hc => by
      rcases List.mem_append.1 hc with hc | hc
      · exact ha c hc
      · rcases List.mem_append.1 hc with hc | hc
        · exact hp c hc
        · simp only [List.mem_cons] at hc
          rcases hc with rfl | rfl | hc
          · decide
          · decide
          · exact hn c hc), lcut_line _ _ (fun c hc => by
        simp only [List.mem_cons] at hc
        rcases hc with rfl | rfl | hc
        · decide
        · decide
        · exact hn c hc), tn_cut n hn l [13, 9, 32] (fun x hx => h x (by simp [hx])) (by decide)]
    rfl
theorem tn_tells (n : List UInt8) (hz : n.length ≤ 200) : ∀ (l : List PL) (a : List UInt8), (∀ p ∈ l, p.ok) → (∀ c ∈ a, knd c = 1) → a.length ≤ 3 → ∀ x ∈ Tn.q n a l, Ln.tells x.1 x.2
  | [], a, _, ha, hl => by
    intro x hx
    obtain rfl : x = (a, []) := by simpa [Tn.q] using hx
    have := tells_none (a := a) (b := []) ha (.inl rfl) (by simp; omega)
    simpa using this
  | p :: l, a, h, ha, hl => by
    intro x hx
    unfold Tn.q at hx
    rcases List.mem_cons.1 hx with rfl | hx
    · exact tells_line (h p (by simp)) a (32 :: 35 :: n) ha (.inr ⟨n, rfl⟩) (by simp; omega)
    · rcases List.mem_cons.1 hx with rfl | hx
      · have := tells_none (a := []) (b := 35 :: 32 :: n) (fun _ h => by cases h) (.inr ⟨32 :: n, rfl⟩) (by simp; omega)
        simpa using this
      · exact tn_tells n hz l [13, 9, 32] (fun x hx => h x (by simp [hx])) (by decide) (by decide) x hx
theorem tn_filter (n : List UInt8) : ∀ (l : List PL) (a : List UInt8), (∀ p ∈ l, p.ok) → ((Tn.q n a l).map (·.2)).filter (fun L : List ByteArray => !L.isEmpty) = l.map (·.2)
  | [], a, _ => rfl
  | p :: l, a, h => by
    have ih := tn_filter n l [13, 9, 32] (fun x hx => h x (by simp [hx]))
    have hp := (h p (by simp)).some_
    have hne : (!p.2.isEmpty) = true := by
      cases hL : p.2 with
      | nil => rw [hL] at hp; cases hp
      | cons a b => rfl
    show List.filter _ (p.2 :: [] :: (Tn.q n [13, 9, 32] l).map (·.2)) = p.2 :: l.map (·.2)
    rw [List.filter_cons, if_pos hne, List.filter_cons, if_neg (by simp), ih]
theorem out_len (n : List UInt8) : ∀ l : List PL, (∀ p ∈ l, p.ok) → (Tn.out n (Pt.bytes l)).length ≤ (Pt.bytes l).length + l.length * (2 * n.length + 8)
  | [], _ => by simp [Tn.out, Pt.bytes]
  | p :: l, h => by
    have ih := out_len n l (fun x hx => h x (by simp [hx]))
    have e : Pt.bytes (p :: l) = p.line ++ ([10] ++ Pt.bytes l) := by
      show (p.line ++ [10]) ++ Pt.bytes l = _
      simp
    have e2 : (Tn.sep n).length = 2 * n.length + 9 := by unfold Tn.sep; simp; omega
    have e3 : Tn.out n [10] = Tn.sep n := by simp [Tn.out]
    rw [e, out_app, out_app, out_plain n _ (pline_lf (h p (by simp))), e3]
    simp only [List.length_append, List.length_cons, List.length_nil, e2, Nat.add_mul] at ih ⊢
    omega
/-- It is read as the source. -/
theorem prs_noted {s : Src} (n : List UInt8) (hn : ∀ c ∈ n, c ≠ 10) (hz : n.length ≤ 200) (h : So.right s = true) (hnn : So.nn s) (hl : (Tn.out n (Pt.text s)).length ≤ 1048576) : So.prs (Tn.out n (Pt.text s)) = .inl s := by
  obtain ⟨⟨c1, c2, c3⟩, _⟩ := so_parts h
  have hr := runT_src St.zero s h hnn rfl (by show 0 + _ ≤ _; omega) (by show 0 + _ ≤ _; omega) (by show 0 + _ ≤ _; omega)
  have hok := lines_ok h
  have hc := tn_cut n hn (Pt.lines s) [] hok (fun _ h => by cases h)
  rw [List.nil_append] at hc
  exact prs_tells (q := Tn.q n [] (Pt.lines s)) (tn_tells n hz _ _ hok (fun _ h => by cases h) (by decide)) hc hl (by rw [tn_filter n _ _ hok]; exact hr) rfl
end Go.Proofs.YtkcbmnboccjnnaaGreatDoor
