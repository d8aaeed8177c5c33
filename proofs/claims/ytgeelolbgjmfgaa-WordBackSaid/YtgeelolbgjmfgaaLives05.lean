/- The first questions of layer 5's statements, and the size of their inputs. -/
import Derived.Test.YtgeelolbgjmfgaaNames
namespace Go.Proofs.Ytgeelolbgjmfgaa
open Go.RowKit
theorem month_lit (s : ByteArray) (v : Int) (w : World) (hs : s.size ≤ 4294967296) (hv : Wd.pick s Wd.mons + 1 = v) : Calls Try.prog 8 #[.string s] w fun e w' => e = .returned (.int .i64 v) ∧ Below w.heap.size w w' := by
  subst hv
  exact monthWord_any s w hs
theorem weekday_lit (s : ByteArray) (v : Int) (w : World) (hs : s.size ≤ 4294967296) (hv : Wd.pick s Wd.week = v) : Calls Try.prog 10 #[.string s] w fun e w' => e = .returned (.int .i64 v) ∧ Below w.heap.size w w' := by
  subst hv
  exact weekdayWord_any s w hs
/-- The three kinds of lines. -/
def Wd.kinds : List ByteArray := [⟨#[82, 117, 108, 101]⟩, ⟨#[90, 111, 110, 101]⟩, ⟨#[76, 105, 110, 107]⟩]
theorem keyword_lit (s : ByteArray) (v : Int) (w : World) (hs : s.size ≤ 4294967296) (hv : Wd.pick s Wd.kinds + 1 = v) : Calls Try.prog 16 #[.string s] w fun e w' => e = .returned (.int .i64 v) ∧ Below w.heap.size w w' := by
  subst hv
  have hb1 := Wd.pick_ge s Wd.kinds
  have hb2 : Wd.pick s Wd.kinds < 3 := Wd.pick_lt s Wd.kinds
  go_enter Try.func16, Try.ntmps16
  go_wp2_with fail
  refine (pick_any s _ 3 _ Wd.kinds rfl (by omega) hs (by decide +kernel) _ _ (Nat.le_refl _) (sl_alloc w Wd.kinds _ _ rfl)).mono ?_
  rintro e w2 ⟨rfl, b2⟩
  have a2 := ((Below.refl w.heap.size w).alloc (Nat.le_refl _) (.cells #[.string ⟨#[82, 117, 108, 101]⟩, .string ⟨#[90, 111, 110, 101]⟩, .string ⟨#[76, 105, 110, 107]⟩] 9)).trans (b2.mono (by simp))
  clear b2
  go_wp2_with fail
  go_ret
  exact ⟨rfl, a2⟩
theorem same_lit (a b : ByteArray) (v : Bool) (w : World) (ha : a.size ≤ 4294967296) (hb : b.size ≤ 4294967296) (hv : Wd.one a b = v) : Calls Try.prog 12 #[.string a, .string b] w fun e w' => e = .returned (.bool v) ∧ Below w.heap.size w w' := by
  subst hv
  exact same_any a b w ha hb
theorem pick_lit (s : ByteArray) (n c : Nat) (L : List ByteArray) (v : Int) (cs : Array Value) (t : TypeId) (hl : L.length = n) (hn : n ≤ 4294967296) (hs : s.size ≤ 4294967296) (hL : ∀ i, i < n → (L.getD i ByteArray.empty).size ≤ 4294967296)
    (w : World) (h : cs = (L.map Value.string).toArray) (hv : Wd.pick s L = v) :
    Calls Try.prog 11 #[.string s, .slice (some ⟨w.heap.size, 0, none⟩) n c] (w.alloc (.cells cs t)) fun e w' => e = .returned (.int .i64 v) ∧ Below w.heap.size w w' := by
  subst hv hl
  refine (pick_any s _ L.length c L rfl hn hs hL _ _ (Nat.le_refl _) (sl_alloc w L cs t h)).mono fun e w' ⟨he, b⟩ => ⟨he, ?_⟩
  exact ((Below.refl w.heap.size w).alloc (Nat.le_refl _) _).trans (b.mono (by simp))
theorem monthtext_lit (n : Int) (S : ByteArray) (i : Nat) (w : World) (hi : i < 12) (hn : (i : Int) + 1 = n) (hS : Wd.three Wd.mons i = S) : Calls Try.prog 7 #[.int .i64 n] w fun e w' => e = .returned (.string S) ∧ Below w.heap.size w w' := by
  subst hn hS
  exact monthtext_yes i w hi
theorem weekdaytext_lit (n : Int) (S : ByteArray) (i : Nat) (w : World) (hi : i < 7) (hn : (i : Int) = n) (hS : Wd.three Wd.week i = S) : Calls Try.prog 9 #[.int .i64 n] w fun e w' => e = .returned (.string S) ∧ Below w.heap.size w w' := by
  subst hn hS
  exact weekdaytext_yes i w hi
set_option maxRecDepth 100000 in
set_option maxHeartbeats 2000000 in
theorem lives05 (w : World) : Calls Try.prog 5 #[] w fun e w' => e = .returned (.bool true) ∧ Below w.heap.size w w' := by
  go_enter Try.func5, Try.ntmps5
  go_wp2_with fail
  refine (month_lit ⟨#[100, 101, 99]⟩ 12 _ (by decide) (by decide +kernel)).mono ?_
  rintro e w1 ⟨rfl, b1⟩
  go_wp2_with fail
  refine (month_lit ⟨#[74, 117]⟩ 0 _ (by decide) (by decide +kernel)).mono ?_
  rintro e w2 ⟨rfl, b2⟩
  have a2 := b1.trans (b2.mono b1.size)
  go_wp2_with fail
  refine (month_lit ⟨#[109, 97, 121]⟩ 5 _ (by decide) (by decide +kernel)).mono ?_
  rintro e w3 ⟨rfl, b3⟩
  have a3 := a2.trans (b3.mono a2.size)
  go_wp2_with fail
  refine (month_lit ⟨#[]⟩ 0 _ (by decide) (by decide +kernel)).mono ?_
  rintro e w4 ⟨rfl, b4⟩
  have a4 := a3.trans (b4.mono a3.size)
  go_wp2_with fail
  refine (weekday_lit ⟨#[115, 85]⟩ 0 _ (by decide) (by decide +kernel)).mono ?_
  rintro e w5 ⟨rfl, b5⟩
  have a5 := a4.trans (b5.mono a4.size)
  go_wp2_with fail
  refine (weekday_lit ⟨#[84]⟩ (-1) _ (by decide) (by decide +kernel)).mono ?_
  rintro e w6 ⟨rfl, b6⟩
  have a6 := a5.trans (b6.mono a5.size)
  go_wp2_with fail
  refine (weekday_lit ⟨#[83, 97, 116, 117, 114, 100, 97, 121, 120]⟩ (-1) _ (by decide) (by decide +kernel)).mono ?_
  rintro e w7 ⟨rfl, b7⟩
  have a7 := a6.trans (b7.mono a6.size)
  clear a2 a3 a4 a5 a6 b1 b2 b3 b4 b5 b6 b7
  go_wp2_with fail
  refine (keyword_lit ⟨#[114]⟩ 1 _ (by decide) (by decide +kernel)).mono ?_
  rintro e w1 ⟨rfl, b1⟩
  have a1 := a7.trans (b1.mono a7.size)
  go_wp2_with fail
  refine (keyword_lit ⟨#[90, 111, 110, 101]⟩ 2 _ (by decide) (by decide +kernel)).mono ?_
  rintro e w2 ⟨rfl, b2⟩
  have a2 := a1.trans (b2.mono a1.size)
  go_wp2_with fail
  refine (keyword_lit ⟨#[120]⟩ 0 _ (by decide) (by decide +kernel)).mono ?_
  rintro e w3 ⟨rfl, b3⟩
  have a3 := a2.trans (b3.mono a2.size)
  go_wp2_with fail
  refine (monthtext_lit 9 ⟨#[83, 101, 112]⟩ 8 _ (by omega) (by omega) (by decide +kernel)).mono ?_
  rintro e w4 ⟨rfl, b4⟩
  have a4 := a3.trans (b4.mono a3.size)
  go_wp2_with fail
  refine (monthtext_no 0 _ (by omega) (by omega) (.inl (by omega))).mono ?_
  rintro e w5 ⟨rfl, b5⟩
  have a5 := a4.trans (b5.mono a4.size)
  go_wp2_with fail
  refine (weekdaytext_lit 6 ⟨#[83, 97, 116]⟩ 6 _ (by omega) (by omega) (by decide +kernel)).mono ?_
  rintro e w6 ⟨rfl, b6⟩
  have a6 := a5.trans (b6.mono a5.size)
  go_wp2_with fail
  refine (same_lit ⟨#[97, 66, 49]⟩ ⟨#[65, 98, 49]⟩ true _ (by decide) (by decide) (by decide +kernel)).mono ?_
  rintro e w7 ⟨rfl, b7⟩
  have a7 := a6.trans (b7.mono a6.size)
  go_wp2_with fail
  refine (same_lit ⟨#[97]⟩ ⟨#[97, 98]⟩ false _ (by decide) (by decide) (by decide +kernel)).mono ?_
  rintro e w8 ⟨rfl, b8⟩
  have a8 := a7.trans (b8.mono a7.size)
  clear a1 a2 a3 a4 a5 a6 a7 b1 b2 b3 b4 b5 b6 b7 b8
  go_wp2_with fail
  refine (pick_lit ⟨#[97, 98]⟩ 3 _ [⟨#[97, 98, 99]⟩, ⟨#[97, 98]⟩, ⟨#[97, 98, 100]⟩] 1 _ _ rfl (by omega) (by decide) (by decide +kernel) _ rfl (by decide +kernel)).mono ?_
  rintro e w1 ⟨rfl, b1⟩
  have a1 := a8.trans (b1.mono a8.size)
  go_wp2_with fail
  refine (pick_lit ⟨#[97]⟩ 2 _ [⟨#[97, 98, 99]⟩, ⟨#[97, 98]⟩] (-1) _ _ rfl (by omega) (by decide) (by decide +kernel) _ rfl (by decide +kernel)).mono ?_
  rintro e w2 ⟨rfl, b2⟩
  have a2 := a1.trans (b2.mono a1.size)
  go_wp2_with fail
  go_ret
  exact ⟨rfl, a2⟩
/-- Names are few, and short. -/
def smB (n : Nat) (L : List ByteArray) : Bool := decide (n ≤ 40 ∧ ∀ i, i < n → (L.getD i ByteArray.empty).size ≤ 1000)
def Sm (L : List ByteArray) (k : Nat) : Prop := ∀ i, i < k → (L.getD i ByteArray.empty).size ≤ 1000
theorem small5_any (A : Option Addr) (n c : Nat) (L : List ByteArray) (hn : n ≤ 9223372036854775807) (w : World) (hz : ∀ i, i < n → (L.getD i ByteArray.empty).size ≤ 9223372036854775807) (hS : Sl w w.heap.size A n (fun i => .string (L.getD i ByteArray.empty))) :
    Calls Try.prog 6 #[.slice A n c] w fun e w' => e = .returned (.bool (smB n L)) ∧ w = w' := by
  have HZ := Lib.hid hz
  clear hz
  go_enter Try.func6, Try.ntmps6
  go_wp2_with fail
  go_loop [7] (fun i => ∃ k : Nat, k ≤ n ∧ k ≤ 40 ∧ i = .int .i64 k ∧ Sm L k) (fun i => n - (intOf i).toNat)
  case atStart => exact ⟨0, Nat.zero_le _, Nat.zero_le _, rfl, fun i h => absurd h (by omega)⟩
  case round =>
    obtain ⟨k, hk, h40, rfl, hE⟩ := hrel
    by_cases hlt : k < n
    · obtain ⟨ad, rfl, hal, hc⟩ := hS.at_ hlt
      change w.cell? (ad.add k) = some (.string (L.getD k ByteArray.empty)) at hc
      have hzk := HZ.out k hlt
      by_cases hbad : k = 40 ∨ 1000 < (L.getD k ByteArray.empty).size
      · have HF := Lib.hid (show smB n L = false by
          unfold smB
          rw [decide_eq_false_iff_not]
          rintro ⟨h1, h2⟩
          rcases hbad with h | h
          · omega
          · have := h2 k hlt; omega)
        clear hE
        generalize L.getD k ByteArray.empty = X at *
        by_cases h4 : k = 40
        · have t1 : ((k : Int) == 40) = true := by rw [beq_iff_eq]; omega
          clear h4 hbad
          go_wp2_with fail
          go_ret
          exact ⟨ret_bool HF.out.symm, rfl⟩
        · have h : 1000 < X.size := by omega
          have t1 : ((k : Int) == 40) = false := by rw [beq_eq_false_iff_ne]; omega
          clear h4 hbad
          go_wp2_with fail
          go_ret
          exact ⟨ret_bool HF.out.symm, rfl⟩
      · have HE := Lib.hid (show Sm L (k + 1) from fun i hi => by
          by_cases hik : i = k
          · subst hik; omega
          · exact hE i (by omega))
        have h4 : k < 40 := by omega
        have t1 : ((k : Int) == 40) = false := by rw [beq_eq_false_iff_ne]; omega
        have h5 : (L.getD k ByteArray.empty).size ≤ 1000 := by omega
        clear hE hbad
        generalize L.getD k ByteArray.empty = X at *
        go_wp2_with fail
        go_round
        case rel => exact ⟨k + 1, by omega, by omega, by go_num, HE.out⟩
        case measure => simp [intOf]; omega
    · obtain rfl : k = n := by omega
      have HT := Lib.hid (show smB k L = true by unfold smB; rw [decide_eq_true_eq]; exact ⟨h40, hE⟩)
      clear hE
      go_wp2_with fail
      go_ret
      exact ⟨ret_bool HT.out.symm, rfl⟩
end Go.Proofs.Ytgeelolbgjmfgaa
