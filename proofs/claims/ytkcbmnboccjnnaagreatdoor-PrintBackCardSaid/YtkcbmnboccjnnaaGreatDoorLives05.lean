/- The first questions of layer 5's statements, and the size of their inputs. -/
import Derived.Test.YtkcbmnboccjnnaaGreatDoorMb
namespace Go.Proofs.YtkcbmnboccjnnaaGreatDoor
open Go.RowKit
theorem month_lit (s : ByteArray) (v : Int) (w : World) (hs : s.size ≤ 4294967296) (hv : Wd.pick s Wd.mons + 1 = v) : Calls Tryz.prog 203 #[.string s] w fun e w' => e = .returned (.int .i64 v) ∧ Below w.heap.size w w' := by
  subst hv
  exact monthWord_any s w hs
theorem weekday_lit (s : ByteArray) (v : Int) (w : World) (hs : s.size ≤ 4294967296) (hv : Wd.pick s Wd.week = v) : Calls Tryz.prog 231 #[.string s] w fun e w' => e = .returned (.int .i64 v) ∧ Below w.heap.size w w' := by
  subst hv
  exact weekdayWord_any s w hs
/-- The three kinds of lines. -/
def Wd.kinds : List ByteArray := [⟨#[82, 117, 108, 101]⟩, ⟨#[90, 111, 110, 101]⟩, ⟨#[76, 105, 110, 107]⟩]
theorem keyword_lit (s : ByteArray) (v : Int) (w : World) (hs : s.size ≤ 4294967296) (hv : Wd.pick s Wd.kinds + 1 = v) : Calls Tryz.prog 48 #[.string s] w fun e w' => e = .returned (.int .i64 v) ∧ Below w.heap.size w w' := by
  subst hv
  have hb1 := Wd.pick_ge s Wd.kinds
  have hb2 : Wd.pick s Wd.kinds < 3 := Wd.pick_lt s Wd.kinds
  go_enter Tryz.func48, Tryz.ntmps48
  go_wp2_with fail
  refine (pick_any s _ 3 _ Wd.kinds rfl (by omega) hs (by decide +kernel) _ _ (Nat.le_refl _) (sl_alloc w Wd.kinds _ _ rfl)).mono ?_
  rintro e w2 ⟨rfl, b2⟩
  have a2 := ((Below.refl w.heap.size w).alloc (Nat.le_refl _) (.cells #[.string ⟨#[82, 117, 108, 101]⟩, .string ⟨#[90, 111, 110, 101]⟩, .string ⟨#[76, 105, 110, 107]⟩] 9)).trans (b2.mono (by simp))
  clear b2
  go_wp2_with fail
  go_ret
  exact ⟨rfl, a2⟩
theorem same_lit (a b : ByteArray) (v : Bool) (w : World) (ha : a.size ≤ 4294967296) (hb : b.size ≤ 4294967296) (hv : Wd.one a b = v) : Calls Tryz.prog 147 #[.string a, .string b] w fun e w' => e = .returned (.bool v) ∧ Below w.heap.size w w' := by
  subst hv
  exact same_any a b w ha hb
theorem pick_lit (s : ByteArray) (n c : Nat) (L : List ByteArray) (v : Int) (cs : Array Value) (t : TypeId) (hl : L.length = n) (hn : n ≤ 4294967296) (hs : s.size ≤ 4294967296) (hL : ∀ i, i < n → (L.getD i ByteArray.empty).size ≤ 4294967296)
    (w : World) (h : cs = (L.map Value.string).toArray) (hv : Wd.pick s L = v) :
    Calls Tryz.prog 91 #[.string s, .slice (some ⟨w.heap.size, 0, none⟩) n c] (w.alloc (.cells cs t)) fun e w' => e = .returned (.int .i64 v) ∧ Below w.heap.size w w' := by
  subst hv hl
  refine (pick_any s _ L.length c L rfl hn hs hL _ _ (Nat.le_refl _) (sl_alloc w L cs t h)).mono fun e w' ⟨he, b⟩ => ⟨he, ?_⟩
  exact ((Below.refl w.heap.size w).alloc (Nat.le_refl _) _).trans (b.mono (by simp))
theorem monthtext_lit (n : Int) (S : ByteArray) (i : Nat) (w : World) (hi : i < 12) (hn : (i : Int) + 1 = n) (hS : Wd.three Wd.mons i = S) : Calls Tryz.prog 72 #[.int .i64 n] w fun e w' => e = .returned (.string S) ∧ Below w.heap.size w w' := by
  subst hn hS
  exact monthtext_yes i w hi
theorem weekdaytext_lit (n : Int) (S : ByteArray) (i : Nat) (w : World) (hi : i < 7) (hn : (i : Int) = n) (hS : Wd.three Wd.week i = S) : Calls Tryz.prog 114 #[.int .i64 n] w fun e w' => e = .returned (.string S) ∧ Below w.heap.size w w' := by
  subst hn hS
  exact weekdaytext_yes i w hi
/-- Names are few, and short. -/
def smB (n : Nat) (L : List ByteArray) : Bool := decide (n ≤ 40 ∧ ∀ i, i < n → (L.getD i ByteArray.empty).size ≤ 1000)
def Sm (L : List ByteArray) (k : Nat) : Prop := ∀ i, i < k → (L.getD i ByteArray.empty).size ≤ 1000
end Go.Proofs.YtkcbmnboccjnnaaGreatDoor
