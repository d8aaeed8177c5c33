/- What is wanted of the texts behind: one behind the other, by program. -/
import Derived.Test.YtghllibpcehmdaaProg
import Derived.Lib.Join
import Init
import Derived.WalkKit
import Derived.Lib.Hide
import Derived.Deep.QuietTactic
import Derived.BigQuiet
import Derived.Outline
import Derived.Lib.ItoaNum
import Derived.Lib.Split
import Derived.LoopTactic
import Derived.Lib.LaidTab
import Derived.Lib.AppendIntMem
import Derived.LoopN
import Derived.Handy
import Derived.Deep.RegionHeld3
import Derived.Below
import Derived.ChangeSlices
import Derived.SliceStrings
import Derived.WideShapes
import Derived.Deep.Slices
import Derived.OpenShut
import Derived.Calls
import Derived.Lib.IndexMore
import Derived.Laws.IdiomStrings
import Derived.Laws.AppendOwn
import Derived.Lib.BufferWrite
import Derived.Deep.RegionLaw
import Derived.Lib.LazyBuf
import Derived.OwnWalk
import Derived.ChangeArms
import Derived.Deep.LoopGhost
import Derived.Scope
import Derived.ScopeJumps
import Derived.WalkMore
import Derived.Lib.BufferRead
import Derived.Laws.OwnMore
import Derived.Maps.AppendAt
import Derived.Deep.AppendLies
import Derived.Shelf.Abstract
import Derived.Lib.AppendZeros
import Derived.Laws.AppendOwnNone
import Derived.Lib.SplitLaws
namespace Go.Proofs.Ytghllibpcehmdaa
namespace Cal
def lp (y : Int) : Int := if y % 4 = 0 ∧ (y % 100 ≠ 0 ∨ y % 400 = 0) then 1 else 0
def len (y m : Int) : Int := if m = 2 then 28 + lp y else if m = 4 ∨ m = 6 ∨ m = 9 ∨ m = 11 then 30 else 31
def fst (y : Int) : Int := 365 * (y - 1) + (y - 1) / 4 - (y - 1) / 100 + (y - 1) / 400 - 719162
def cum (y m : Int) : Int := if m ≤ 2 then 31 * (m - 1) else (153 * (m - 3) + 2) / 5 + 59 + lp y
def num (y m d : Int) : Int := fst y + cum y m + d - 1
def ahead (y : Int) : Int := 365 * y + y / 4 - y / 100
end Cal
end Go.Proofs.Ytghllibpcehmdaa
namespace Go.Proofs.Ytghllibpcehmdaa
open Go.RowKit
theorem below_drewN {B : Nat} {a w : World} (h : Below B a w) (n : Nat) : Below B a (w.drewN n) := ⟨h.os, h.tape, h.output, h.size, h.block⟩
theorem bcell {W w1 : World} (hb : Below W.heap.size W w1) : (∀ b o, b < W.heap.size → w1.cell? ⟨b, o, none⟩ = W.cell? ⟨b, o, none⟩) ∧ (∀ b o, b < W.heap.size → w1.frozen? ⟨b, o, none⟩ = W.frozen? ⟨b, o, none⟩) :=
  ⟨fun b o h => hb.cell (p := ⟨b, o, none⟩) h, fun b o h => hb.frozen (p := ⟨b, o, none⟩) h⟩
end Go.Proofs.Ytghllibpcehmdaa
namespace Go.Proofs.Ytghllibpcehmdaa
namespace Txt
def isD (c : UInt8) : Bool := decide (48 ≤ c.toNat) && decide (c.toNat ≤ 57)
def val (l : List UInt8) : Int := l.foldl (fun n c => 10 * n + ((c.toNat : Int) - 48)) 0
def okDig (l : List UInt8) (least most : Nat) : Bool := decide (least ≤ l.length) && decide (l.length ≤ most) && l.all isD
/-- What a piece tells: the hours (idx 0), or the minutes or seconds. -/
def piece (idx : Nat) (l : List UInt8) : Option Int :=
  if idx = 0 then (if okDig l 1 3 then some (val l) else none) else (if okDig l 2 2 && decide (val l < 60) then some (val l) else none)
/-- What pieces tell, from the one numbered idx on, the first of which begins with p. -/
def G (idx : Nat) (p : List UInt8) : List UInt8 → Option (List Int)
  | [] => (piece idx p).map fun v => [v]
  | c :: r => if c = 58 then (if 2 ≤ idx then none else (piece idx p).bind fun v => (G (idx + 1) [] r).map fun vs => v :: vs) else G idx (p ++ [c]) r
/-- The program's way: pieces, the last of which is not cut. -/
def Q (idx : Nat) : List (List UInt8) → Option (List Int)
  | [] => some []
  | p :: ps => (piece idx p).bind fun v => (Q (idx + 1) ps).map fun vs => v :: vs
end Txt
end Go.Proofs.Ytghllibpcehmdaa
namespace Go.Proofs.Ytghllibpcehmdaa
open Go.RowKit
theorem lt_of_cell {w : World} {b o : Nat} {v : Value} (h : w.cell? ⟨b, o, none⟩ = some v) : b < w.heap.size := by
  rcases Nat.lt_or_ge b w.heap.size with h' | h'
  · exact h'
  · exfalso
    unfold World.cell? at h
    rw [Array.getElem?_eq_none h'] at h
    cases h
/-- Two digits. -/
def two (n : Int) : List UInt8 := [UInt8.ofNat (48 + n.toNat / 10), UInt8.ofNat (48 + n.toNat % 10)]
/-- The text of a time that is not below nought, and of any. -/
def txt0 (t : Int) : List UInt8 := Lib.itoa (t / 3600) ++ [58] ++ two (t % 3600 / 60) ++ (if t % 60 = 0 then [] else 58 :: two (t % 60))
def txt (t : Int) : List UInt8 := if t < 0 then 45 :: txt0 (-t) else txt0 t
end Go.Proofs.Ytghllibpcehmdaa
namespace Go.Proofs.Ytghllibpcehmdaa
open Go.RowKit
/-- The pieces of a text, as the program has them. -/
def pieces (s : ByteArray) : List ByteArray := Lib.splitB ⟨#[58]⟩ 0 (min 3 (s.size + 1) - 1) s
end Go.Proofs.Ytghllibpcehmdaa
namespace Go.Proofs.Ytghllibpcehmdaa
open Go.RowKit
/-- How many seconds the pieces are. -/
def secs (vs : List Int) : Int := vs.getD 0 0 * 3600 + vs.getD 1 0 * 60 + vs.getD 2 0
/-- The time that a text tells, and why not. -/
def parseL (l : List UInt8) : Int × Int :=
  match Txt.G 0 [] (Lib.trimPrefix l [45]) with
  | none => (0, 4)
  | some vs => if -604800 ≤ (if Lib.hasPrefix l [45] then -(secs vs) else secs vs) ∧ (if Lib.hasPrefix l [45] then -(secs vs) else secs vs) ≤ 604800 then ((if Lib.hasPrefix l [45] then -(secs vs) else secs vs), 0) else (0, 1)
end Go.Proofs.Ytghllibpcehmdaa
namespace Go.Proofs.Ytghllibpcehmdaa
namespace Wd
/-- The small letter of a great one. -/
def sm (c : UInt8) : UInt8 := if 65 ≤ c.toNat ∧ c.toNat ≤ 90 then UInt8.ofNat (c.toNat + 32) else c
def lo (s : ByteArray) : List UInt8 := s.data.toList.map sm
/-- x begins with s, letters alike. -/
def beg (x s : ByteArray) : Bool := (lo s).isPrefixOf (lo x)
/-- a and b are one, letters alike. -/
def one (a b : ByteArray) : Bool := decide (lo a = lo b)
/-- The scan for the name that a word means: the place, the last name so far that begins so, and how many. -/
def go (s : ByteArray) (i : Nat) (f : Int) (c : Nat) : List ByteArray → Int
  | [] => if c = 1 then f else -1
  | x :: r => if one s x = true then (i : Int) else if beg x s = true then go s (i + 1) (i : Int) (c + 1) r else go s (i + 1) f c r
/-- The place of the name that s means, or -1. -/
def pick (s : ByteArray) (l : List ByteArray) : Int := if s.size = 0 then -1 else go s 0 (-1) 0 l
def Ex (s : ByteArray) (l : List ByteArray) (j : Nat) : Prop := ∃ x, l[j]? = some x ∧ one s x = true
def Bg (s : ByteArray) (l : List ByteArray) (j : Nat) : Prop := ∃ x, l[j]? = some x ∧ beg x s = true
def Inv (s : ByteArray) (p : List ByteArray) (f : Int) (c : Nat) : Prop :=
  (∀ j, ¬ Ex s p j) ∧ ((c = 0 ∧ ∀ j, ¬ Bg s p j) ∨ (c = 1 ∧ ∃ k : Nat, f = k ∧ Bg s p k ∧ ∀ j, Bg s p j → j = k) ∨ (2 ≤ c ∧ ∃ j k, j ≠ k ∧ Bg s p j ∧ Bg s p k))
end Wd
end Go.Proofs.Ytghllibpcehmdaa
namespace Go.Proofs.Ytghllibpcehmdaa
open Go.RowKit Go.ChangeShapes Go.WideShapes Go.Deep
theorem app_ba (a b : List UInt8) : (⟨a.toArray⟩ : ByteArray) ++ ⟨b.toArray⟩ = ⟨(a ++ b).toArray⟩ := by
  apply ByteArray.ext
  simp
theorem size_ba (l : List UInt8) : (⟨l.toArray⟩ : ByteArray).size = l.length := by simp [ByteArray.size]
/-- A slice that reads as n cells, from below block B; nil let in. -/
def Sl (w : World) (B : Nat) (A : Option Addr) (n : Nat) (v : Nat → Value) : Prop := 0 < n → ∃ ad, A = some ad ∧ ad.block < B ∧ ∀ i, i < n → w.cell? (ad.add i) = some (v i)
theorem block_of_add (a : Addr) (n : Nat) : (a.add n).block = a.block := by unfold Addr.add; split <;> rfl
theorem Sl.below {w w' : World} {B : Nat} {A : Option Addr} {n : Nat} {v : Nat → Value} (h : Sl w B A n v) (hb : Below B w w') : Sl w' B A n v := by
  intro hn
  obtain ⟨ad, e, hl, hc⟩ := h hn
  exact ⟨ad, e, hl, fun i hi => (hb.cell (by rw [block_of_add]; exact hl)).trans (hc i hi)⟩
theorem Sl.at_ {w : World} {B : Nat} {A : Option Addr} {n : Nat} {v : Nat → Value} (h : Sl w B A n v) {k : Nat} (hk : k < n) : ∃ ad, A = some ad ∧ ad.block < B ∧ w.cell? (ad.add k) = some (v k) := by
  obtain ⟨ad, e, hl, hc⟩ := h (by omega)
  exact ⟨ad, e, hl, hc k hk⟩
theorem lt_cell {w : World} {p : Addr} {v : Value} (h : w.cell? p = some v) : p.block < w.heap.size := World.block_lt_of_cell? w p h
section
variable {H : Type} {enc : TypeId × Value → H} {P : Program} {w : World} {base : Nat} {spare : Nat → Bool} {held : Bool}
theorem open_sl_ints {r : Reach} {b0 : Nat} {t e : TypeId} {k : IntKind} {v : Value} {d : DataW H} {p : List MemPlace} (ht : P.underlying t = some (.slice e)) (he : P.underlying e = some (.int k)) (hc : P.cellsOf e = 1)
    (hv : Value.okWide P w r b0 t v) (h : DataW.Trod enc P w base spare held t v d p) :
    ∃ (A : Option Addr) (n c : Nat) (zs : List Int), v = .slice A n c ∧ n ≤ maxLen ∧ zs.length = n ∧ (∀ i, i < n → (Lit.int k (zs.getD i 0)).wf = true) ∧ Sl w w.heap.size A n (fun i => .int k (zs.getD i 0)) := by
  obtain ⟨a0, len, cap, rfl⟩ := okWide_slice ht hv
  obtain ⟨fuel, hf⟩ := h
  rcases open_ints ht he hc hf with ⟨hcs, hx⟩ | ⟨a, len', cap', zs, hcs, _, hl, hm, hz, hx, hcell, hw⟩
  · simp [Value.cells] at hcs
    obtain ⟨rfl, rfl, rfl⟩ := hcs
    exact ⟨none, 0, 0, [], rfl, Nat.zero_le _, rfl, fun i hi => absurd hi (by omega), fun hn => absurd hn (by omega)⟩
  · simp [Value.cells] at hcs
    obtain ⟨rfl, rfl, rfl⟩ := hcs
    have hle : len ≤ zs.length := by rw [hz]; split <;> omega
    have hg : ∀ i, i < len → (zs.take len).getD i 0 = zs.getD i 0 := fun i hi => by simp [List.getD_eq_getElem?_getD, List.getElem?_take_of_lt hi]
    refine ⟨some a, len, cap, zs.take len, rfl, by omega, by simp; omega, fun i hi => ?_, fun hn => ⟨a, rfl, ?_, fun i hi => ?_⟩⟩
    · rw [hg i hi, List.getD_eq_getElem?_getD, List.getElem?_eq_getElem (by omega)]
      exact hw _ (List.getElem_mem _)
    · have := lt_cell (hcell 0 (by omega))
      rwa [block_of_add] at this
    · show _ = some (Value.int k ((zs.take len).getD i 0))
      rw [hg i hi]
      exact hcell i (by omega)
theorem open_sl_strs {r : Reach} {b0 : Nat} {t e : TypeId} {v : Value} {d : DataW H} {p : List MemPlace} (ht : P.underlying t = some (.slice e)) (he : P.underlying e = some .string) (hc : P.cellsOf e = 1)
    (hv : Value.okWide P w r b0 t v) (h : DataW.Trod enc P w base spare held t v d p) :
    ∃ (A : Option Addr) (n c : Nat) (ss : List ByteArray), v = .slice A n c ∧ n ≤ maxLen ∧ ss.length = n ∧ (∀ i, i < n → (ss.getD i ByteArray.empty).size ≤ maxLen) ∧ Sl w w.heap.size A n (fun i => .string (ss.getD i ByteArray.empty)) := by
  obtain ⟨a0, len, cap, rfl⟩ := okWide_slice ht hv
  obtain ⟨fuel, hf⟩ := h
  rcases open_strings ht he hc hf with ⟨hcs, hx⟩ | ⟨a, len', cap', zs, hcs, _, hl, hm, hz, hx, hcell, hw⟩
  · simp [Value.cells] at hcs
    obtain ⟨rfl, rfl, rfl⟩ := hcs
    exact ⟨none, 0, 0, [], rfl, Nat.zero_le _, rfl, fun i hi => absurd hi (by omega), fun hn => absurd hn (by omega)⟩
  · simp [Value.cells] at hcs
    obtain ⟨rfl, rfl, rfl⟩ := hcs
    have hle : len ≤ zs.length := by rw [hz]; split <;> omega
    have hg : ∀ i, i < len → (zs.take len).getD i ByteArray.empty = zs.getD i ByteArray.empty := fun i hi => by simp [List.getD_eq_getElem?_getD, List.getElem?_take_of_lt hi]
    refine ⟨some a, len, cap, zs.take len, rfl, by omega, by simp; omega, fun i hi => ?_, fun hn => ⟨a, rfl, ?_, fun i hi => ?_⟩⟩
    · rw [hg i hi, List.getD_eq_getElem?_getD, List.getElem?_eq_getElem (by omega)]
      exact hw _ (List.getElem_mem _)
    · have := lt_cell (hcell 0 (by omega))
      rwa [block_of_add] at this
    · show _ = some (Value.string ((zs.take len).getD i ByteArray.empty))
      rw [hg i hi]
      exact hcell i (by omega)
end
end Go.Proofs.Ytghllibpcehmdaa
namespace Go.Proofs.Ytghllibpcehmdaa
open Go.RowKit
namespace Wd
/-- The names of the days of the week, and of the months. -/
def week : List ByteArray := [⟨#[83, 117, 110, 100, 97, 121]⟩, ⟨#[77, 111, 110, 100, 97, 121]⟩, ⟨#[84, 117, 101, 115, 100, 97, 121]⟩, ⟨#[87, 101, 100, 110, 101, 115, 100, 97, 121]⟩, ⟨#[84, 104, 117, 114, 115, 100, 97, 121]⟩, ⟨#[70, 114, 105, 100, 97, 121]⟩, ⟨#[83, 97, 116, 117, 114, 100, 97, 121]⟩]
def mons : List ByteArray := [⟨#[74, 97, 110, 117, 97, 114, 121]⟩, ⟨#[70, 101, 98, 114, 117, 97, 114, 121]⟩, ⟨#[77, 97, 114, 99, 104]⟩, ⟨#[65, 112, 114, 105, 108]⟩, ⟨#[77, 97, 121]⟩, ⟨#[74, 117, 110, 101]⟩, ⟨#[74, 117, 108, 121]⟩, ⟨#[65, 117, 103, 117, 115, 116]⟩, ⟨#[83, 101, 112, 116, 101, 109, 98, 101, 114]⟩, ⟨#[79, 99, 116, 111, 98, 101, 114]⟩, ⟨#[78, 111, 118, 101, 109, 98, 101, 114]⟩, ⟨#[68, 101, 99, 101, 109, 98, 101, 114]⟩]
/-- The name at the place i of a list. -/
def nth (l : List ByteArray) (i : Nat) : ByteArray := l.getD i ByteArray.empty
/-- The first three letters of it. -/
def three (l : List ByteArray) (i : Nat) : ByteArray := (nth l i).extract 0 3
end Wd
theorem Sl.drew {w : World} {B : Nat} {A : Option Addr} {n : Nat} {v : Nat → Value} (h : Sl w B A n v) : Sl w.drew B A n v := h
end Go.Proofs.Ytghllibpcehmdaa
namespace Go.Proofs.Ytghllibpcehmdaa
namespace Dy
/-- Is it a right day? k: how it is told; n: the day of the month; d: the day of the week. -/
def right (k n d : Int) : Bool := decide ((k = 0 ∧ 1 ≤ n ∧ n ≤ 31 ∧ d = 0) ∨ (k = 1 ∧ n = 0 ∧ 0 ≤ d ∧ d ≤ 6) ∨ ((k = 2 ∨ k = 3) ∧ 1 ≤ n ∧ n ≤ 31 ∧ 0 ≤ d ∧ d ≤ 6))
theorem right_iff (k n d : Int) : right k n d = true ↔ ((k = 0 ∧ 1 ≤ n ∧ n ≤ 31 ∧ d = 0) ∨ (k = 1 ∧ n = 0 ∧ 0 ≤ d ∧ d ≤ 6) ∨ ((k = 2 ∨ k = 3) ∧ 1 ≤ n ∧ n ≤ 31 ∧ 0 ≤ d ∧ d ≤ 6)) := decide_eq_true_iff
/-- The digits of a number below a hundred. -/
def dig (n : Nat) : List UInt8 := if n < 10 then [UInt8.ofNat (48 + n)] else [UInt8.ofNat (48 + n / 10), UInt8.ofNat (48 + n % 10)]
/-- The number of one or two digits. -/
def isd (c : UInt8) : Bool := decide (48 ≤ c.toNat) && decide (c.toNat ≤ 57)
def num : List UInt8 → Option Int
  | [a] => if isd a then some ((a.toNat : Int) - 48) else none
  | [a, b] => if isd a && isd b then some (10 * ((a.toNat : Int) - 48) + ((b.toNat : Int) - 48)) else none
  | _ => none
def lastW : ByteArray := ⟨#[108, 97, 115, 116]⟩
/-- A day of the week, from the day on, or up to it, that digits tell. -/
def beside (k : Int) (a b : ByteArray) : Option (Int × Int × Int) :=
  match num b.data.toList with
  | none => none
  | some n => if 0 ≤ Wd.pick a Wd.week then some (k, n, Wd.pick a Wd.week) else none
def isLast (s : ByteArray) : Bool := decide (4 ≤ s.size) && Wd.one (s.extract 0 4) lastW
/-- What s tells, right or not. -/
def rd (s : ByteArray) : Option (Int × Int × Int) :=
  if isLast s then (if 0 ≤ Wd.pick (s.extract 4 s.size) Wd.week then some (1, 0, Wd.pick (s.extract 4 s.size) Wd.week) else none)
  else if (Lib.cut s.data.toList [62, 61]).2.2 then beside 2 ⟨(Lib.cut s.data.toList [62, 61]).1.toArray⟩ ⟨(Lib.cut s.data.toList [62, 61]).2.1.toArray⟩
  else if (Lib.cut s.data.toList [60, 61]).2.2 then beside 3 ⟨(Lib.cut s.data.toList [60, 61]).1.toArray⟩ ⟨(Lib.cut s.data.toList [60, 61]).2.1.toArray⟩
  else match num s.data.toList with
    | none => none
    | some n => some (0, n, 0)
/-- The right day that s tells. -/
def prs (s : ByteArray) : Option (Int × Int × Int) :=
  match rd s with
  | none => none
  | some (k, n, d) => if right k n d then some (k, n, d) else none
/-- The text of a day. -/
def txt (k n d : Int) : ByteArray :=
  if k = 1 then lastW ++ Wd.three Wd.week d.toNat
  else if k = 2 then Wd.three Wd.week d.toNat ++ ⟨#[62, 61]⟩ ++ ⟨(dig n.toNat).toArray⟩
  else if k = 3 then Wd.three Wd.week d.toNat ++ ⟨#[60, 61]⟩ ++ ⟨(dig n.toNat).toArray⟩
  else ⟨(dig n.toNat).toArray⟩
set_option maxRecDepth 100000 in
theorem back0 : ∀ n, n < 32 → 1 ≤ n → prs (txt 0 (n : Nat) 0) = some ((0 : Int), ((n : Nat) : Int), (0 : Int)) := by decide +kernel
set_option maxRecDepth 100000 in
theorem back1 : ∀ d, d < 7 → prs (txt 1 0 (d : Nat)) = some ((1 : Int), (0 : Int), ((d : Nat) : Int)) := by decide +kernel
def backs (k : Int) : Bool := (List.range 32).all fun n => (List.range 7).all fun d => decide (n = 0) || decide (prs (txt k (n : Nat) (d : Nat)) = some (k, ((n : Nat) : Int), ((d : Nat) : Int)))
set_option maxRecDepth 100000 in
theorem backs2 : backs 2 = true := by decide +kernel
set_option maxRecDepth 100000 in
theorem backs3 : backs 3 = true := by decide +kernel
theorem back_of {k : Int} (h : backs k = true) (n d : Nat) (h1 : n < 32) (h2 : 1 ≤ n) (h3 : d < 7) : prs (txt k (n : Nat) (d : Nat)) = some (k, ((n : Nat) : Int), ((d : Nat) : Int)) := by
  unfold backs at h
  have h4 := List.all_eq_true.1 (List.all_eq_true.1 h n (List.mem_range.2 h1)) d (List.mem_range.2 h3)
  rcases Bool.or_eq_true_iff.1 h4 with h5 | h5
  · have := of_decide_eq_true h5; omega
  · exact of_decide_eq_true h5
/-- A right day is read from its text. -/
theorem back {k n d : Int} (h : right k n d = true) : prs (txt k n d) = some (k, n, d) := by
  rw [right_iff] at h
  rcases h with ⟨rfl, h1, h2, rfl⟩ | ⟨rfl, rfl, h1, h2⟩ | ⟨rfl | rfl, h1, h2, h3, h4⟩
  · have := back0 n.toNat (by omega) (by omega)
    rwa [show ((n.toNat : Nat) : Int) = n by omega] at this
  · have := back1 d.toNat (by omega)
    rwa [show ((d.toNat : Nat) : Int) = d by omega] at this
  · have := back_of backs2 n.toNat d.toNat (by omega) (by omega) (by omega)
    rwa [show ((d.toNat : Nat) : Int) = d by omega, show ((n.toNat : Nat) : Int) = n by omega] at this
  · have := back_of backs3 n.toNat d.toNat (by omega) (by omega) (by omega)
    rwa [show ((d.toNat : Nat) : Int) = d by omega, show ((n.toNat : Nat) : Int) = n by omega] at this
/-- The last day up to x that is the day d of the week. -/
def upto (x d : Int) : Int := x - ((x + 4) % 7 - d) % 7
/-- The number of a right day of a month of so many days that begins on the day b. -/
def find (k n d b len : Int) : Int :=
  if k = 1 then upto (b + len - 1) d else if k = 2 then upto (b + n + 5) d else if k = 3 then upto (b + n - 1) d else b + n - 1
end Dy
end Go.Proofs.Ytghllibpcehmdaa
namespace Go.Proofs.Ytghllibpcehmdaa
open Go.RowKit
/-- The day that a right day is. -/
def Dy.at_ (k n d y m : Int) : Int := Dy.find k n d (Cal.num y m 1) (Cal.len y m)
end Go.Proofs.Ytghllibpcehmdaa
namespace Go.Proofs.Ytghllibpcehmdaa
open Go.RowKit
end Go.Proofs.Ytghllibpcehmdaa
namespace Go.Proofs.Ytghllibpcehmdaa
open Go.RowKit
/-- A moment is right. -/
def Mo.right (s c : Int) : Bool := decide (-604800 ≤ s ∧ s ≤ 604800 ∧ c ≤ 2)
theorem Mo.right_iff (s c : Int) : Mo.right s c = true ↔ (-604800 ≤ s ∧ s ≤ 604800 ∧ c ≤ 2) := by unfold Mo.right; exact decide_eq_true_iff
end Go.Proofs.Ytghllibpcehmdaa
namespace Go.Proofs.Ytghllibpcehmdaa
open Go.RowKit
/-- What stands for a clock behind a time, and the text of a moment. -/
def Mo.ltr (c : Int) : List UInt8 := if c = 1 then [115] else if c = 2 then [117] else []
def Mo.txt (s c : Int) : List UInt8 := Go.Proofs.Ytghllibpcehmdaa.txt s ++ Mo.ltr c
end Go.Proofs.Ytghllibpcehmdaa
namespace Go.Proofs.Ytghllibpcehmdaa
open Go.RowKit
/-- The clock that a last letter means. -/
def Mo.ck (x : Nat) : Option Nat := if x = 119 ∨ x = 87 then some 0 else if x = 115 ∨ x = 83 then some 1 else if x = 117 ∨ x = 85 ∨ x = 103 ∨ x = 71 ∨ x = 122 ∨ x = 90 then some 2 else none
/-- A text without the letter of a clock, and that clock. -/
def Mo.cutC (l : List UInt8) : List UInt8 × Nat := match l.getLast? with
  | none => (l, 0)
  | some c => match Mo.ck c.toNat with
    | some k => (l.dropLast, k)
    | none => (l, 0)
/-- The moment that a text tells, and why it tells none. -/
def Mo.prs (l : List UInt8) : Int × Nat × Int := if l = [45] then (0, 0, 0) else if (parseL (Mo.cutC l).1).2 = 0 then ((parseL (Mo.cutC l).1).1, (Mo.cutC l).2, 0) else (0, 0, (parseL (Mo.cutC l).1).2)
end Go.Proofs.Ytghllibpcehmdaa
namespace Go.Proofs.Ytghllibpcehmdaa
open Go.RowKit
/-- An until is right. -/
def Mo.unt (y m k n d s c : Int) : Bool := decide (1 ≤ y ∧ y ≤ 9999 ∧ 1 ≤ m ∧ m ≤ 12) && (Dy.right k n d && Mo.right s c)
theorem unt_parts {y m k n d s c : Int} (h : Mo.unt y m k n d s c = true) : (1 ≤ y ∧ y ≤ 9999 ∧ 1 ≤ m ∧ m ≤ 12) ∧ Dy.right k n d = true ∧ Mo.right s c = true := by
  unfold Mo.unt at h
  rw [Bool.and_eq_true, Bool.and_eq_true, decide_eq_true_eq] at h
  exact h
/-- The number that digits tell. -/
def Mo.yv (l : List UInt8) : Int := l.foldl (fun v c => 10 * v + ((c.toNat : Int) - 48)) 0
/-- The year that a text tells; 0: none. -/
def Mo.yr (l : List UInt8) : Int := if l.length ≤ 4 ∧ l.all Dy.isd = true ∧ 1 ≤ Mo.yv l then Mo.yv l else 0
end Go.Proofs.Ytghllibpcehmdaa
namespace Go.Proofs.Ytghllibpcehmdaa
open Go.RowKit
/-- An until's seven numbers. -/
structure Ut where
  y : Int
  m : Int
  k : Int
  n : Int
  d : Int
  s : Int
  c : Int
@[reducible] def utV (u : Ut) : Value := .agg #[.int .i64 u.y, .int .i64 u.m, .int .u8 u.k, .int .i64 u.n, .int .i64 u.d, .int .i64 u.s, .int .u8 u.c]
/-- What a text at a place makes of an until, and why it makes none. -/
def Mo.step (i : Nat) (t : ByteArray) (u : Ut) : Ut × Int :=
  match i with
  | 0 => ({ u with y := Mo.yr t.data.toList }, if Mo.yr t.data.toList = 0 then 4 else 0)
  | 1 => ({ u with m := Wd.pick t Wd.mons + 1 }, if Wd.pick t Wd.mons + 1 = 0 then 7 else 0)
  | 2 => match Dy.prs t with
    | some (k, n, d) => ({ u with k := k, n := n, d := d }, 0)
    | none => ({ u with k := 0, n := 0, d := 0 }, 4)
  | _ => ({ u with s := (Mo.prs t.data.toList).1, c := (Mo.prs t.data.toList).2.1 }, (Mo.prs t.data.toList).2.2)
/-- An until at block g. -/
structure Un (w : World) (B g : Nat) (u : Ut) : Prop where
  base : B ≤ g
  lt : g < w.heap.size
  c0 : w.cell? ⟨g, 0, none⟩ = some (.int .i64 u.y)
  c1 : w.cell? ⟨g, 1, none⟩ = some (.int .i64 u.m)
  c2 : w.cell? ⟨g, 2, none⟩ = some (.int .u8 u.k)
  c3 : w.cell? ⟨g, 3, none⟩ = some (.int .i64 u.n)
  c4 : w.cell? ⟨g, 4, none⟩ = some (.int .i64 u.d)
  c5 : w.cell? ⟨g, 5, none⟩ = some (.int .i64 u.s)
  c6 : w.cell? ⟨g, 6, none⟩ = some (.int .u8 u.c)
  f0 : w.frozen? ⟨g, 0, none⟩ = false
  f1 : w.frozen? ⟨g, 1, none⟩ = false
  f2 : w.frozen? ⟨g, 2, none⟩ = false
  f3 : w.frozen? ⟨g, 3, none⟩ = false
  f4 : w.frozen? ⟨g, 4, none⟩ = false
  f5 : w.frozen? ⟨g, 5, none⟩ = false
  f6 : w.frozen? ⟨g, 6, none⟩ = false
theorem Un.below {w w' : World} {B g : Nat} {u : Ut} (h : Un w B g u) (hb : Below w.heap.size w w') : Un w' B g u := by
  obtain ⟨hc, hf⟩ := bcell hb
  have hl := h.lt
  exact ⟨h.base, Nat.lt_of_lt_of_le hl hb.size, (hc _ _ hl).trans h.c0, (hc _ _ hl).trans h.c1, (hc _ _ hl).trans h.c2, (hc _ _ hl).trans h.c3, (hc _ _ hl).trans h.c4, (hc _ _ hl).trans h.c5, (hc _ _ hl).trans h.c6,
    (hf _ _ hl).trans h.f0, (hf _ _ hl).trans h.f1, (hf _ _ hl).trans h.f2, (hf _ _ hl).trans h.f3, (hf _ _ hl).trans h.f4, (hf _ _ hl).trans h.f5, (hf _ _ hl).trans h.f6⟩
section
variable (B g : Nat) (t : ByteArray) (u : Ut) (w : World)
end
end Go.Proofs.Ytghllibpcehmdaa
namespace Go.Proofs.Ytghllibpcehmdaa
open Go.RowKit
def Ut.zero : Ut := ⟨0, 0, 0, 0, 0, 0, 0⟩
def Ut.first : Ut := ⟨0, 1, 0, 1, 0, 0, 0⟩
/-- What texts from a place on make of an until: it, or the place of what makes none, and why. -/
def Mo.run : Nat → List ByteArray → Ut → Ut × Nat × Int
  | _, [], u => (u, 0, 0)
  | i, t :: l, u => if (Mo.step i t u).2 = 0 then Mo.run (i + 1) l (Mo.step i t u).1 else (Ut.zero, i, (Mo.step i t u).2)
/-- The until that texts tell, or the place of what tells none, and why. -/
def Mo.prsU (L : List ByteArray) : Ut × Nat × Int := if L = [] then (Ut.zero, 0, 5) else if 4 < L.length then (Ut.zero, 4, 6) else Mo.run 0 L Ut.first
theorem Un.stay {w w' : World} {B B' g : Nat} {u : Ut} (h : Un w B g u) (hb : Below B' w w') (hg : g < B') : Un w' B g u := by
  have hc : ∀ o, w'.cell? ⟨g, o, none⟩ = w.cell? ⟨g, o, none⟩ := fun o => hb.cell (p := ⟨g, o, none⟩) hg
  have hf : ∀ o, w'.frozen? ⟨g, o, none⟩ = w.frozen? ⟨g, o, none⟩ := fun o => hb.frozen (p := ⟨g, o, none⟩) hg
  exact ⟨h.base, Nat.lt_of_lt_of_le h.lt hb.size, (hc _).trans h.c0, (hc _).trans h.c1, (hc _).trans h.c2, (hc _).trans h.c3, (hc _).trans h.c4, (hc _).trans h.c5, (hc _).trans h.c6,
    (hf _).trans h.f0, (hf _).trans h.f1, (hf _).trans h.f2, (hf _).trans h.f3, (hf _).trans h.f4, (hf _).trans h.f5, (hf _).trans h.f6⟩
end Go.Proofs.Ytghllibpcehmdaa
namespace Go.Proofs.Ytghllibpcehmdaa
open Go.RowKit
/-- Four texts at block g. -/
structure Four (w : World) (g : Nat) (T0 T1 T2 T3 : ByteArray) : Prop where
  lt : g < w.heap.size
  c0 : w.cell? ⟨g, 0, none⟩ = some (.string T0)
  c1 : w.cell? ⟨g, 1, none⟩ = some (.string T1)
  c2 : w.cell? ⟨g, 2, none⟩ = some (.string T2)
  c3 : w.cell? ⟨g, 3, none⟩ = some (.string T3)
theorem Four.below {w w' : World} {g : Nat} {T0 T1 T2 T3 : ByteArray} (h : Four w g T0 T1 T2 T3) (hb : Below w.heap.size w w') : Four w' g T0 T1 T2 T3 := by
  obtain ⟨hc, _⟩ := bcell hb
  exact ⟨Nat.lt_of_lt_of_le h.lt hb.size, (hc _ _ h.lt).trans h.c0, (hc _ _ h.lt).trans h.c1, (hc _ _ h.lt).trans h.c2, (hc _ _ h.lt).trans h.c3⟩
section
variable (g : Nat) (T0 T1 T2 T3 : ByteArray) (w : World)
end
end Go.Proofs.Ytghllibpcehmdaa
namespace Go.Proofs.Ytghllibpcehmdaa
open Go.RowKit
/-- How many of four texts are needed. -/
def Mo.nd (T1 T2 T3 : List UInt8) : Nat := if T3 = [48, 58, 48, 48] then (if T2 = [49] then (if T1 = [74, 97, 110] then 1 else 2) else 3) else 4
/-- The texts of a right until. -/
def Mo.t0 (u : Ut) : ByteArray := ⟨(Lib.itoa u.y).toArray⟩
def Mo.t1 (u : Ut) : ByteArray := Wd.three Wd.mons (u.m - 1).toNat
def Mo.t2 (u : Ut) : ByteArray := Dy.txt u.k u.n u.d
def Mo.t3 (u : Ut) : ByteArray := ⟨(Mo.txt u.s u.c).toArray⟩
def Mo.ndU (u : Ut) : Nat := Mo.nd (Mo.t1 u).data.toList (Mo.t2 u).data.toList (Mo.t3 u).data.toList
def Mo.un (u : Ut) : Bool := Mo.unt u.y u.m u.k u.n u.d u.s u.c
end Go.Proofs.Ytghllibpcehmdaa
namespace Go.Proofs.Ytghllibpcehmdaa
open Go.RowKit
def Mo.texts (u : Ut) : List ByteArray := [Mo.t0 u, Mo.t1 u, Mo.t2 u, Mo.t3 u]
section
variable {u : Ut} (h : Mo.un u = true) (c0 : 0 ≤ u.c)
include h
theorem d2 (e : (Mo.t2 u).data.toList = [49]) : u.k = 0 ∧ u.n = 1 ∧ u.d = 0 := by
  obtain ⟨_, hd, hr⟩ := unt_parts h
  have h1 : Dy.prs (Mo.t2 u) = some (u.k, u.n, u.d) := Dy.back hd
  rw [show Mo.t2 u = ⟨#[49]⟩ from ByteArray.ext (Array.toList_inj.1 (by rw [e])), show Dy.prs ⟨#[49]⟩ = some (0, 1, 0) by decide +kernel] at h1
  injection h1 with h2
  injection h2 with h2 h3
  injection h3 with h3 h4
  exact ⟨h2.symm, h3.symm, h4.symm⟩
omit c0 in
end
end Go.Proofs.Ytghllibpcehmdaa
namespace Go.Proofs.Ytghllibpcehmdaa
open Go.RowKit
namespace Fm
def isd (c : UInt8) : Bool := decide (48 ≤ c.toNat ∧ c.toNat ≤ 57)
def sg (c : UInt8) : Bool := decide ((97 ≤ c.toNat ∧ c.toNat ≤ 122) ∨ (65 ≤ c.toNat ∧ c.toNat ≤ 90) ∨ (48 ≤ c.toNat ∧ c.toNat ≤ 57) ∨ c.toNat = 43 ∨ c.toNat = 45)
def sgs (l : List UInt8) : Bool := l.all sg
/-- What the mark of a format stands for, what is ahead of it, what behind. -/
def cutF (l : List UInt8) : Nat × List UInt8 × List UInt8 :=
  if (Lib.cut l [37, 115]).2.2 = true then (0, (Lib.cut l [37, 115]).1, (Lib.cut l [37, 115]).2.1)
  else if (Lib.cut l [37, 122]).2.2 = true then (1, (Lib.cut l [37, 122]).1, (Lib.cut l [37, 122]).2.1)
  else if (Lib.cut l [47]).2.2 = true then (2, (Lib.cut l [47]).1, (Lib.cut l [47]).2.1) else (3, l, [])
def fits (m : Nat) (a b : List UInt8) : Bool := !(m == 2 && (a.isEmpty || b.isEmpty)) && (sgs a && sgs b)
/-- A format is right. -/
def fmt (l : List UInt8) : Bool := decide (1 ≤ l.length ∧ l.length ≤ 32) && fits (cutF l).1 (cutF l).2.1 (cutF l).2.2
/-- A letter is right. -/
def ltr (l : List UInt8) : Bool := decide (l.length ≤ 32) && (!(l == [45]) && sgs l)
end Fm
end Go.Proofs.Ytghllibpcehmdaa
namespace Go.Proofs.Ytghllibpcehmdaa
open Go.RowKit
/-- A rule: its name, nine numbers, its letter. -/
structure Ru where
  nm : ByteArray
  fr : Int
  tl : Int
  m : Int
  k : Int
  n : Int
  d : Int
  s : Int
  c : Int
  sv : Int
  lt : ByteArray
@[reducible] def ruV (r : Ru) : Value := .agg #[.string r.nm, .int .i64 r.fr, .int .i64 r.tl, .int .i64 r.m, .int .u8 r.k, .int .i64 r.n, .int .i64 r.d, .int .i64 r.s, .int .u8 r.c, .int .i64 r.sv, .string r.lt]
def Ru.zero : Ru := ⟨⟨#[]⟩, 0, 0, 0, 0, 0, 0, 0, 0, 0, ⟨#[]⟩⟩
def Rl.first (c : UInt8) : Bool := decide ((97 ≤ c.toNat ∧ c.toNat ≤ 122) ∨ (65 ≤ c.toNat ∧ c.toNat ≤ 90) ∨ c.toNat = 95)
def Rl.inn (c : UInt8) : Bool := decide ((97 ≤ c.toNat ∧ c.toNat ≤ 122) ∨ (65 ≤ c.toNat ∧ c.toNat ≤ 90) ∨ c.toNat = 95 ∨ (48 ≤ c.toNat ∧ c.toNat ≤ 57) ∨ c.toNat = 43 ∨ c.toNat = 45 ∨ c.toNat = 47)
/-- A text is a name. -/
def Rl.name (l : List UInt8) : Bool := decide (1 ≤ l.length ∧ l.length ≤ 64) && ((l.take 1).all Rl.first && l.all Rl.inn)
def Rl.time (t : Int) : Bool := decide (-604800 ≤ t ∧ t ≤ 604800)
def Rl.years (r : Ru) : Bool := decide (1 ≤ r.fr ∧ r.fr ≤ r.tl ∧ r.tl ≤ 9999)
def Rl.month (r : Ru) : Bool := decide (1 ≤ r.m ∧ r.m ≤ 12)
/-- A rule is right. -/
def Rl.right (r : Ru) : Bool := Rl.name r.nm.data.toList && (Rl.years r && (Rl.month r && (Dy.right r.k r.n r.d && (Mo.right r.s r.c && (Rl.time r.sv && Fm.ltr r.lt.data.toList)))))
def Rl.onlyW : ByteArray := ⟨#[111, 110, 108, 121]⟩
def Rl.maxW : ByteArray := ⟨#[109, 97, 120, 105, 109, 117, 109]⟩
def Rl.maxT : ByteArray := ⟨#[109, 97, 120]⟩
def Rl.ends : List ByteArray := [Rl.onlyW, Rl.maxW]
/-- The last year that a text tells of a rule from a year on, and why it tells none. -/
def Rl.till (fr : Int) (t : ByteArray) : Int × Int :=
  if Wd.pick t Rl.ends = 0 then (fr, 0) else if Wd.pick t Rl.ends = 1 then (9999, 0) else if Mo.yr t.data.toList = 0 then (0, 4) else if Mo.yr t.data.toList < fr then (0, 10) else (Mo.yr t.data.toList, 0)
/-- How much a text says is saved. -/
def Rl.save (l : List UInt8) : Int × Int := if l = [45] then (0, 0) else parseL l
/-- The letter that a text tells. -/
def Rl.lett (t : ByteArray) : ByteArray × Int := if t.data.toList = [45] then (⟨#[]⟩, 0) else if Fm.ltr t.data.toList = true then (t, 0) else (⟨#[]⟩, 4)
def Rl.nam (t : ByteArray) : ByteArray × Int := if Rl.name t.data.toList = true then (t, 0) else (⟨#[]⟩, 7)
/-- What a text at a place makes of a rule, and why it makes none. -/
def Rl.step (i : Nat) (t : ByteArray) (r : Ru) : Ru × Int :=
  match i with
  | 0 => ({ r with nm := (Rl.nam t).1 }, (Rl.nam t).2)
  | 1 => ({ r with fr := Mo.yr t.data.toList }, if Mo.yr t.data.toList = 0 then 4 else 0)
  | 2 => ({ r with tl := (Rl.till r.fr t).1 }, (Rl.till r.fr t).2)
  | 3 => (r, if t.data.toList = [45] then 0 else 4)
  | 4 => ({ r with m := Wd.pick t Wd.mons + 1 }, if Wd.pick t Wd.mons + 1 = 0 then 7 else 0)
  | 5 => match Dy.prs t with
    | some (k, n, d) => ({ r with k := k, n := n, d := d }, 0)
    | none => ({ r with k := 0, n := 0, d := 0 }, 4)
  | 6 => ({ r with s := (Mo.prs t.data.toList).1, c := ((Mo.prs t.data.toList).2.1 : Nat) }, (Mo.prs t.data.toList).2.2)
  | 7 => ({ r with sv := (Rl.save t.data.toList).1 }, (Rl.save t.data.toList).2)
  | _ => ({ r with lt := (Rl.lett t).1 }, (Rl.lett t).2)
/-- What texts from a place on make of a rule: it, or the place of what makes none, and why. -/
def Rl.run : Nat → List ByteArray → Ru → Ru × Nat × Int
  | _, [], r => (r, 0, 0)
  | i, t :: l, r => if (Rl.step i t r).2 = 0 then Rl.run (i + 1) l (Rl.step i t r).1 else (Ru.zero, i, (Rl.step i t r).2)
/-- The rule that texts tell, or the place of what tells none, and why. -/
def Rl.prs (L : List ByteArray) : Ru × Nat × Int :=
  if (Rl.run 0 (L.take 9) Ru.zero).2.2 ≠ 0 then Rl.run 0 (L.take 9) Ru.zero
  else if L.length < 9 then (Ru.zero, L.length, 5) else if 9 < L.length then (Ru.zero, 9, 6) else Rl.run 0 (L.take 9) Ru.zero
/-- The texts of a right rule. -/
def Rl.t1 (r : Ru) : ByteArray := ⟨(Lib.itoa r.fr).toArray⟩
def Rl.t2 (r : Ru) : ByteArray := if r.tl = r.fr then Rl.onlyW else if r.tl = 9999 then Rl.maxT else ⟨(Lib.itoa r.tl).toArray⟩
def Rl.t4 (r : Ru) : ByteArray := Wd.three Wd.mons (r.m - 1).toNat
def Rl.t5 (r : Ru) : ByteArray := Dy.txt r.k r.n r.d
def Rl.t6 (r : Ru) : ByteArray := ⟨(Mo.txt r.s r.c).toArray⟩
def Rl.t7 (r : Ru) : ByteArray := ⟨(txt r.sv).toArray⟩
def Rl.t8 (r : Ru) : ByteArray := if r.lt.data.toList = [] then ⟨#[45]⟩ else r.lt
def Rl.texts (r : Ru) : List ByteArray := [r.nm, Rl.t1 r, Rl.t2 r, ⟨#[45]⟩, Rl.t4 r, Rl.t5 r, Rl.t6 r, Rl.t7 r, Rl.t8 r]
section
variable {r : Ru} (h : Rl.right r = true) (c0 : 0 ≤ r.c)
include h
end
end Go.Proofs.Ytghllibpcehmdaa
namespace Go.Proofs.Ytghllibpcehmdaa
open Go.RowKit
/-- An era: its standard offset, its kind, what is saved; the rules' name and the format; whether it ends, and when. -/
structure Er where
  sd : Int
  k : Int
  sv : Int
  ru : ByteArray
  fm : ByteArray
  en : Bool
  u : Ut
@[reducible] def erV (e : Er) : Value := .agg #[.int .i64 e.sd, .int .u8 e.k, .int .i64 e.sv, .string e.ru, .string e.fm, .bool e.en, .int .i64 e.u.y, .int .i64 e.u.m, .int .u8 e.u.k, .int .i64 e.u.n, .int .i64 e.u.d, .int .i64 e.u.s, .int .u8 e.u.c]
def Er.zero : Er := ⟨0, 0, 0, ⟨#[]⟩, ⟨#[]⟩, false, ⟨0, 0, 0, 0, 0, 0, 0⟩⟩
/-- What an era's kind asks for. -/
def El.kind (k sv : Int) (ru : List UInt8) : Bool :=
  if k = 0 then decide (sv = 0) && decide (ru = []) else if k = 1 then Rl.time sv && decide (ru = []) else if k = 2 then decide (sv = 0) && Rl.name ru else false
/-- There is no until. -/
def Ut.nil (u : Ut) : Bool := decide (u.y = 0 ∧ u.m = 0 ∧ u.k = 0 ∧ u.n = 0 ∧ u.d = 0 ∧ u.s = 0 ∧ u.c = 0)
def El.ends (en : Bool) (u : Ut) : Bool := if en = true then Mo.un u else u.nil
/-- An era is right. -/
def El.right (e : Er) : Bool := Rl.time e.sd && (El.kind e.k e.sv e.ru.data.toList && (Fm.fmt e.fm.data.toList && El.ends e.en e.u))
/-- A text begins as that of a time does. -/
def El.beg : List UInt8 → Bool
  | [] => false
  | [c] => Txt.isD c
  | c :: x :: _ => if c = 45 then Txt.isD x else Txt.isD c
def El.saved (t : ByteArray) (e : Er) : Er × Int :=
  if t.data.toList = [45] then ({ e with k := 0 }, 0) else if El.beg t.data.toList = true then ({ e with k := 1, sv := (parseL t.data.toList).1 }, (parseL t.data.toList).2)
  else if Rl.name t.data.toList = true then ({ e with k := 2, ru := t }, 0) else (e, 7)
def El.form (t : ByteArray) (e : Er) : Er × Int := if Fm.fmt t.data.toList = true then ({ e with fm := t }, 0) else (e, 4)
/-- What a text at a place makes of an era, and why it makes none. -/
def El.step (i : Nat) (t : ByteArray) (e : Er) : Er × Int :=
  match i with
  | 0 => if t.data.toList = [45] then (e, 0) else ({ e with sd := (parseL t.data.toList).1 }, (parseL t.data.toList).2)
  | 1 => El.saved t e
  | _ => El.form t e
def El.run : Nat → List ByteArray → Er → Er × Nat × Int
  | _, [], e => (e, 0, 0)
  | i, t :: l, e => if (El.step i t e).2 = 0 then El.run (i + 1) l (El.step i t e).1 else (Er.zero, i, (El.step i t e).2)
/-- The era that texts tell, or the place of what tells none, and why. -/
def El.prs (L : List ByteArray) : Er × Nat × Int :=
  if (El.run 0 (L.take 3) Er.zero).2.2 ≠ 0 then El.run 0 (L.take 3) Er.zero
  else if L.length < 3 then (Er.zero, L.length, 5) else if L.length = 3 then El.run 0 (L.take 3) Er.zero
  else if (Mo.prsU (L.drop 3)).2.2 ≠ 0 then (Er.zero, 3 + (Mo.prsU (L.drop 3)).2.1, (Mo.prsU (L.drop 3)).2.2)
  else ({ (El.run 0 (L.take 3) Er.zero).1 with en := true, u := (Mo.prsU (L.drop 3)).1 }, 0, 0)
/-- How many texts an era has. -/
def El.num (e : Er) : Nat := if e.en = true then 3 + Mo.ndU e.u else 3
/-- The texts of a right era. -/
def El.t0 (e : Er) : ByteArray := ⟨(txt e.sd).toArray⟩
def El.t1 (e : Er) : ByteArray := if e.k = 1 then ⟨(txt e.sv).toArray⟩ else if e.k = 2 then e.ru else ⟨#[45]⟩
def El.rest (e : Er) : List ByteArray := if e.en = true then (Mo.texts e.u).take (Mo.ndU e.u) else []
def El.texts (e : Er) : List ByteArray := [El.t0 e, El.t1 e, e.fm] ++ El.rest e
section
variable {e : Er} (h : El.right e = true)
include h
end
end Go.Proofs.Ytghllibpcehmdaa
namespace Go.Proofs.Ytghllibpcehmdaa
open Go.RowKit
theorem cell_blk {w : World} {g : Nat} {t : TypeId} {cs : Array Value} (h : w.heap[g]? = some (.cells cs t (0, 0))) (i : Nat) : w.cell? ⟨g, i, none⟩ = cs[i]? := cell_of_row w g i cs t (0, 0) h
theorem frozen_blk {w : World} {g : Nat} {t : TypeId} {cs : Array Value} (h : w.heap[g]? = some (.cells cs t (0, 0))) (i : Nat) : w.frozen? ⟨g, i, none⟩ = false := by simp [World.frozen?, h]
theorem set_blk {w : World} {g : Nat} {t : TypeId} {cs : Array Value} (h : w.heap[g]? = some (.cells cs t (0, 0))) (i : Nat) (u : Value) : (w.setCell ⟨g, i, none⟩ u).heap[g]? = some (.cells (cs.setIfInBounds i u) t (0, 0)) := by
  simp [World.setCell, Array.getElem?_modify, h]
theorem lt_blk {w : World} {g : Nat} {o : Obj} (h : w.heap[g]? = some o) : g < w.heap.size := by
  rcases Nat.lt_or_ge g w.heap.size with hlt | hge
  · exact hlt
  · rw [Array.getElem?_eq_none hge] at h; cases h
theorem addr_add (g j : Nat) : (⟨g, 0, none⟩ : Addr).add j = ⟨g, j, none⟩ := by unfold Addr.add; split <;> simp_all
theorem u8_info : (Try.prog.info? 5).map (fun i => (i.zero, i.size, i.bytes)) = some (some (.int .u8 0), 1, 1) := by kernel_rfl
theorem isSome_blk {w : World} {g : Nat} {t : TypeId} {cs : Array Value} (h : w.heap[g]? = some (.cells cs t (0, 0))) (i : Nat) (hi : i < cs.size) : (w.cell? ⟨g, i, none⟩).isSome = true := by
  rw [cell_blk h, Array.getElem?_eq_getElem hi]; rfl
def tup (s : List UInt8) (k : Int) : Ending := .returned (.tuple #[.string ⟨s.toArray⟩, .int .i64 k])
theorem addr_at (g j : Nat) : (⟨g, 0, none⟩ : Addr).add j = ⟨g, j, none⟩ := addr_add g j
end Go.Proofs.Ytghllibpcehmdaa
namespace Go.Proofs.Ytghllibpcehmdaa
open Go.RowKit
/-- Numbers none of which is less than the one ahead of it. -/
def up : List Int → Bool
  | a :: b :: r => decide (a ≤ b) && up (b :: r)
  | _ => true
section
variable (g : Nat) (w : World)
end
end Go.Proofs.Ytghllibpcehmdaa
namespace Go.Proofs.Ytghllibpcehmdaa
open Go.RowKit
/-- The variable holds just these strings. -/
def StrsAre (P : Program) (w : World) (name : String) (ss : List (List UInt8)) : Prop := w.var? P name = some (ss.map fun s => Value.string ⟨s.toArray⟩).toArray
theorem StrsAre.cell {P : Program} {W : World} {name : String} {ss : List (List UInt8)} {g : Nat} (h : StrsAre P W name ss) (hg : P.globalNamed name = some g) (i : Nat) (s : List UInt8) (hi : ss[i]? = some s) :
    W.cell? ⟨g, i, none⟩ = some (.string ⟨s.toArray⟩) := by
  rw [World.var?_cell hg h i]
  simp [hi]
theorem StrsAre.below {P : Program} {w w' : World} {name : String} {ss : List (List UInt8)} (h : StrsAre P w name ss) (hb : Below w.heap.size w w') : StrsAre P w' name ss := by
  unfold StrsAre World.var? at *
  cases hg : P.globalNamed name with
  | none => simp [hg] at h
  | some g =>
    simp only [hg, Option.bind_some] at h ⊢
    have hlt : g < w.heap.size := by
      rcases Nat.lt_or_ge g w.heap.size with h' | h'
      · exact h'
      · rw [Array.getElem?_eq_none h'] at h; simp at h
    rw [hb.block g hlt]
    exact h
end Go.Proofs.Ytghllibpcehmdaa
namespace Go.Proofs.Ytghllibpcehmdaa
open Go.RowKit
def markL : List (List UInt8) := [[37, 115], [37, 122], [47]]
/-- What the calls below read of package-level variables: the marks, and the length up to which the library looks for a byte by itself. -/
def Marks (w : World) : Prop := StrsAre Try.prog w "solstice/abbr.marks" markL
theorem Marks.below {w w' : World} (h : Marks w) (hb : Below w.heap.size w w') : Marks w' := StrsAre.below h hb
end Go.Proofs.Ytghllibpcehmdaa
namespace Go.Proofs.Ytghllibpcehmdaa
open Go.RowKit
/-- A rule at block g. -/
structure Rn (w : World) (B g : Nat) (r : Ru) : Prop where
  base : B ≤ g
  lt : g < w.heap.size
  c0 : w.cell? ⟨g, 0, none⟩ = some (.string r.nm)
  c1 : w.cell? ⟨g, 1, none⟩ = some (.int .i64 r.fr)
  c2 : w.cell? ⟨g, 2, none⟩ = some (.int .i64 r.tl)
  c3 : w.cell? ⟨g, 3, none⟩ = some (.int .i64 r.m)
  c4 : w.cell? ⟨g, 4, none⟩ = some (.int .u8 r.k)
  c5 : w.cell? ⟨g, 5, none⟩ = some (.int .i64 r.n)
  c6 : w.cell? ⟨g, 6, none⟩ = some (.int .i64 r.d)
  c7 : w.cell? ⟨g, 7, none⟩ = some (.int .i64 r.s)
  c8 : w.cell? ⟨g, 8, none⟩ = some (.int .u8 r.c)
  c9 : w.cell? ⟨g, 9, none⟩ = some (.int .i64 r.sv)
  c10 : w.cell? ⟨g, 10, none⟩ = some (.string r.lt)
  f0 : w.frozen? ⟨g, 0, none⟩ = false
  f1 : w.frozen? ⟨g, 1, none⟩ = false
  f2 : w.frozen? ⟨g, 2, none⟩ = false
  f3 : w.frozen? ⟨g, 3, none⟩ = false
  f4 : w.frozen? ⟨g, 4, none⟩ = false
  f5 : w.frozen? ⟨g, 5, none⟩ = false
  f6 : w.frozen? ⟨g, 6, none⟩ = false
  f7 : w.frozen? ⟨g, 7, none⟩ = false
  f8 : w.frozen? ⟨g, 8, none⟩ = false
  f9 : w.frozen? ⟨g, 9, none⟩ = false
  f10 : w.frozen? ⟨g, 10, none⟩ = false
theorem Rn.below {w w' : World} {B g : Nat} {r : Ru} (h : Rn w B g r) (hb : Below w.heap.size w w') : Rn w' B g r := by
  obtain ⟨hc, hf⟩ := bcell hb
  have hl := h.lt
  exact ⟨h.base, Nat.lt_of_lt_of_le hl hb.size, (hc _ _ hl).trans h.c0, (hc _ _ hl).trans h.c1, (hc _ _ hl).trans h.c2, (hc _ _ hl).trans h.c3, (hc _ _ hl).trans h.c4, (hc _ _ hl).trans h.c5, (hc _ _ hl).trans h.c6, (hc _ _ hl).trans h.c7, (hc _ _ hl).trans h.c8, (hc _ _ hl).trans h.c9, (hc _ _ hl).trans h.c10,
    (hf _ _ hl).trans h.f0, (hf _ _ hl).trans h.f1, (hf _ _ hl).trans h.f2, (hf _ _ hl).trans h.f3, (hf _ _ hl).trans h.f4, (hf _ _ hl).trans h.f5, (hf _ _ hl).trans h.f6, (hf _ _ hl).trans h.f7, (hf _ _ hl).trans h.f8, (hf _ _ hl).trans h.f9, (hf _ _ hl).trans h.f10⟩
theorem Rn.stay {w w' : World} {B B' g : Nat} {r : Ru} (h : Rn w B g r) (hb : Below B' w w') (hg : g < B') : Rn w' B g r := by
  have hc : ∀ o, w'.cell? ⟨g, o, none⟩ = w.cell? ⟨g, o, none⟩ := fun o => hb.cell (p := ⟨g, o, none⟩) hg
  have hf : ∀ o, w'.frozen? ⟨g, o, none⟩ = w.frozen? ⟨g, o, none⟩ := fun o => hb.frozen (p := ⟨g, o, none⟩) hg
  exact ⟨h.base, Nat.lt_of_lt_of_le h.lt hb.size, (hc _).trans h.c0, (hc _).trans h.c1, (hc _).trans h.c2, (hc _).trans h.c3, (hc _).trans h.c4, (hc _).trans h.c5, (hc _).trans h.c6, (hc _).trans h.c7, (hc _).trans h.c8, (hc _).trans h.c9, (hc _).trans h.c10,
    (hf _).trans h.f0, (hf _).trans h.f1, (hf _).trans h.f2, (hf _).trans h.f3, (hf _).trans h.f4, (hf _).trans h.f5, (hf _).trans h.f6, (hf _).trans h.f7, (hf _).trans h.f8, (hf _).trans h.f9, (hf _).trans h.f10⟩
section
variable (s : ByteArray) (fr : Int) (w : World)
end
section
variable (B g : Nat) (t : ByteArray) (r : Ru) (w : World)
end
end Go.Proofs.Ytghllibpcehmdaa
namespace Go.Proofs.Ytghllibpcehmdaa
open Go.RowKit
section
variable (sd k sv : Int) (ru fm : ByteArray) (en : Bool) (y m q n d s c : Int) (w : World)
end
end Go.Proofs.Ytghllibpcehmdaa
namespace Go.Proofs.Ytghllibpcehmdaa
open Go.RowKit
/-- An era at block g. -/
structure En (w : World) (B g : Nat) (e : Er) : Prop where
  base : B ≤ g
  lt : g < w.heap.size
  c0 : w.cell? ⟨g, 0, none⟩ = some (.int .i64 e.sd)
  c1 : w.cell? ⟨g, 1, none⟩ = some (.int .u8 e.k)
  c2 : w.cell? ⟨g, 2, none⟩ = some (.int .i64 e.sv)
  c3 : w.cell? ⟨g, 3, none⟩ = some (.string e.ru)
  c4 : w.cell? ⟨g, 4, none⟩ = some (.string e.fm)
  c5 : w.cell? ⟨g, 5, none⟩ = some (.bool e.en)
  c6 : w.cell? ⟨g, 6, none⟩ = some (.int .i64 e.u.y)
  c7 : w.cell? ⟨g, 7, none⟩ = some (.int .i64 e.u.m)
  c8 : w.cell? ⟨g, 8, none⟩ = some (.int .u8 e.u.k)
  c9 : w.cell? ⟨g, 9, none⟩ = some (.int .i64 e.u.n)
  c10 : w.cell? ⟨g, 10, none⟩ = some (.int .i64 e.u.d)
  c11 : w.cell? ⟨g, 11, none⟩ = some (.int .i64 e.u.s)
  c12 : w.cell? ⟨g, 12, none⟩ = some (.int .u8 e.u.c)
  f0 : w.frozen? ⟨g, 0, none⟩ = false
  f1 : w.frozen? ⟨g, 1, none⟩ = false
  f2 : w.frozen? ⟨g, 2, none⟩ = false
  f3 : w.frozen? ⟨g, 3, none⟩ = false
  f4 : w.frozen? ⟨g, 4, none⟩ = false
  f5 : w.frozen? ⟨g, 5, none⟩ = false
  f6 : w.frozen? ⟨g, 6, none⟩ = false
  f7 : w.frozen? ⟨g, 7, none⟩ = false
  f8 : w.frozen? ⟨g, 8, none⟩ = false
  f9 : w.frozen? ⟨g, 9, none⟩ = false
  f10 : w.frozen? ⟨g, 10, none⟩ = false
  f11 : w.frozen? ⟨g, 11, none⟩ = false
  f12 : w.frozen? ⟨g, 12, none⟩ = false
theorem En.below {w w' : World} {B g : Nat} {e : Er} (h : En w B g e) (hb : Below w.heap.size w w') : En w' B g e := by
  obtain ⟨hc, hf⟩ := bcell hb
  have hl := h.lt
  exact ⟨h.base, Nat.lt_of_lt_of_le hl hb.size, (hc _ _ hl).trans h.c0, (hc _ _ hl).trans h.c1, (hc _ _ hl).trans h.c2, (hc _ _ hl).trans h.c3, (hc _ _ hl).trans h.c4, (hc _ _ hl).trans h.c5, (hc _ _ hl).trans h.c6, (hc _ _ hl).trans h.c7, (hc _ _ hl).trans h.c8, (hc _ _ hl).trans h.c9, (hc _ _ hl).trans h.c10, (hc _ _ hl).trans h.c11, (hc _ _ hl).trans h.c12,
    (hf _ _ hl).trans h.f0, (hf _ _ hl).trans h.f1, (hf _ _ hl).trans h.f2, (hf _ _ hl).trans h.f3, (hf _ _ hl).trans h.f4, (hf _ _ hl).trans h.f5, (hf _ _ hl).trans h.f6, (hf _ _ hl).trans h.f7, (hf _ _ hl).trans h.f8, (hf _ _ hl).trans h.f9, (hf _ _ hl).trans h.f10, (hf _ _ hl).trans h.f11, (hf _ _ hl).trans h.f12⟩
theorem En.stay {w w' : World} {B B' g : Nat} {e : Er} (h : En w B g e) (hb : Below B' w w') (hg : g < B') : En w' B g e := by
  have hc : ∀ o, w'.cell? ⟨g, o, none⟩ = w.cell? ⟨g, o, none⟩ := fun o => hb.cell (p := ⟨g, o, none⟩) hg
  have hf : ∀ o, w'.frozen? ⟨g, o, none⟩ = w.frozen? ⟨g, o, none⟩ := fun o => hb.frozen (p := ⟨g, o, none⟩) hg
  exact ⟨h.base, Nat.lt_of_lt_of_le h.lt hb.size, (hc _).trans h.c0, (hc _).trans h.c1, (hc _).trans h.c2, (hc _).trans h.c3, (hc _).trans h.c4, (hc _).trans h.c5, (hc _).trans h.c6, (hc _).trans h.c7, (hc _).trans h.c8, (hc _).trans h.c9, (hc _).trans h.c10, (hc _).trans h.c11, (hc _).trans h.c12,
    (hf _).trans h.f0, (hf _).trans h.f1, (hf _).trans h.f2, (hf _).trans h.f3, (hf _).trans h.f4, (hf _).trans h.f5, (hf _).trans h.f6, (hf _).trans h.f7, (hf _).trans h.f8, (hf _).trans h.f9, (hf _).trans h.f10, (hf _).trans h.f11, (hf _).trans h.f12⟩
section
variable (B g : Nat) (t : ByteArray) (e : Er) (w : World)
end
end Go.Proofs.Ytghllibpcehmdaa
namespace Go.Proofs.Ytghllibpcehmdaa
open Go.RowKit
theorem En.drew {w : World} {B g : Nat} {e : Er} (h : En w B g e) : En w.drew B g e := ⟨h.base, h.lt, h.c0, h.c1, h.c2, h.c3, h.c4, h.c5, h.c6, h.c7, h.c8, h.c9, h.c10, h.c11, h.c12, h.f0, h.f1, h.f2, h.f3, h.f4, h.f5, h.f6, h.f7, h.f8, h.f9, h.f10, h.f11, h.f12⟩
theorem cell_beside {w : World} {g g2 o i : Nat} {v : Value} (h : g2 ≠ g) : (w.setCell ⟨g2, i, none⟩ v).cell? ⟨g, o, none⟩ = w.cell? ⟨g, o, none⟩ := World.cell?_setCell_other _ _ _ _ (by intro e; injection e with e; exact h e)
theorem En.other {w : World} {B g g2 : Nat} {e : Er} (h : En w B g e) (hg : g2 ≠ g) (i : Nat) (v : Value) : En (w.setCell ⟨g2, i, none⟩ v) B g e := ⟨h.base, by simpa using h.lt, (cell_beside hg).trans h.c0, (cell_beside hg).trans h.c1, (cell_beside hg).trans h.c2, (cell_beside hg).trans h.c3, (cell_beside hg).trans h.c4, (cell_beside hg).trans h.c5, (cell_beside hg).trans h.c6, (cell_beside hg).trans h.c7, (cell_beside hg).trans h.c8, (cell_beside hg).trans h.c9, (cell_beside hg).trans h.c10, (cell_beside hg).trans h.c11, (cell_beside hg).trans h.c12, (World.frozen?_setCell _ _ _ _).trans h.f0, (World.frozen?_setCell _ _ _ _).trans h.f1, (World.frozen?_setCell _ _ _ _).trans h.f2, (World.frozen?_setCell _ _ _ _).trans h.f3, (World.frozen?_setCell _ _ _ _).trans h.f4, (World.frozen?_setCell _ _ _ _).trans h.f5, (World.frozen?_setCell _ _ _ _).trans h.f6, (World.frozen?_setCell _ _ _ _).trans h.f7, (World.frozen?_setCell _ _ _ _).trans h.f8, (World.frozen?_setCell _ _ _ _).trans h.f9, (World.frozen?_setCell _ _ _ _).trans h.f10, (World.frozen?_setCell _ _ _ _).trans h.f11, (World.frozen?_setCell _ _ _ _).trans h.f12⟩
end Go.Proofs.Ytghllibpcehmdaa
namespace Go.Proofs.Ytghllibpcehmdaa
open Go.RowKit
/-- Texts at block g. -/
structure Txs (w : World) (g : Nat) (L : List ByteArray) : Prop where
  lt : g < w.heap.size
  at_ : ∀ i, i < L.length → w.cell? ⟨g, i, none⟩ = some (.string (L.getD i ByteArray.empty))
theorem Txs.below {w w' : World} {g : Nat} {L : List ByteArray} (h : Txs w g L) (hb : Below w.heap.size w w') : Txs w' g L := by
  obtain ⟨hc, _⟩ := bcell hb
  exact ⟨Nat.lt_of_lt_of_le h.lt hb.size, fun i hi => (hc _ _ h.lt).trans (h.at_ i hi)⟩
section
variable {B : Nat} {w0 w w1 : World} {x0 x1 x2 x3 x4 x5 x6 x7 x8 x9 x10 : Value}
end
section
variable (nm : ByteArray) (fr tl m k n d s c sv : Int) (lt : ByteArray) (w : World)
end
end Go.Proofs.Ytghllibpcehmdaa
namespace Go.Proofs.Ytghllibpcehmdaa
namespace Hx
/-- A digit. -/
def dg (n : Nat) : UInt8 := if n < 10 then UInt8.ofNat (48 + n) else UInt8.ofNat (87 + n)
def h2 (c : UInt8) : List UInt8 := [dg (c.toNat / 16), dg (c.toNat % 16)]
def h3 (c : UInt8) : List UInt8 := [dg (c.toNat / 16), dg (c.toNat % 16), 44]
/-- What a digit counts, or -1. -/
def val (c : UInt8) : Int :=
  if 48 ≤ c.toNat ∧ c.toNat ≤ 57 then (c.toNat : Int) - 48 else if 97 ≤ c.toNat ∧ c.toNat ≤ 102 then (c.toNat : Int) - 97 + 10 else if 65 ≤ c.toNat ∧ c.toNat ≤ 70 then (c.toNat : Int) - 65 + 10 else -1
/-- What a small digit counts, or 16. -/
def num (c : UInt8) : Nat :=
  if 48 ≤ c.toNat ∧ c.toNat ≤ 57 then c.toNat - 48 else if 97 ≤ c.toNat ∧ c.toNat ≤ 102 then c.toNat - 87 else 16
def at_ (s : List UInt8) (i : Nat) : UInt8 := s.getD i 0
def byt (s : List UInt8) (k : Nat) : UInt8 := UInt8.ofNat (16 * (val (at_ s (3 * k))).toNat + (val (at_ s (3 * k + 1))).toNat)
def bytes (s : List UInt8) (j : Nat) : List UInt8 := (List.range j).map (byt s)
end Hx
end Go.Proofs.Ytghllibpcehmdaa
namespace Go.Proofs.Ytghllibpcehmdaa
open Go.RowKit
/-- What a byte does in a line: 0 it belongs to a field, 1 it parts fields, 2 it may be in a comment alone, 3 quotes, 4 it begins a comment. -/
def knd (c : UInt8) : Nat := if c = 32 ∨ c = 9 ∨ c = 13 then 1 else if c.toNat < 32 ∨ c = 127 then 2 else if c = 34 then 3 else if c = 35 then 4 else 0
end Go.Proofs.Ytghllibpcehmdaa
namespace Go.Proofs.Ytghllibpcehmdaa
open Go.RowKit
def wantq (c : UInt8) : Bool := decide (knd c = 1) || decide (knd c = 4)
/-- A text as it may stand in a line as one field. -/
def qt (s : List UInt8) : List UInt8 := if (s.isEmpty || s.any wantq) = true then 34 :: (s ++ [34]) else s
end Go.Proofs.Ytghllibpcehmdaa
namespace Go.Proofs.Ytghllibpcehmdaa
open Go.RowKit
/-- A row of strings of the call's own, its first block: it has n places, and the first ones hold l. -/
structure Sb (w : World) (n : Nat) (l : List (List UInt8)) (wr : World) : Prop where
  cells : ∀ j (hj : j < l.length), wr.cell? ⟨w.heap.size, j, none⟩ = some (.string ⟨l[j].toArray⟩)
  some_ : ∀ j, j < n → (wr.cell? ⟨w.heap.size, j, none⟩).isSome = true
  free : ∀ j, wr.frozen? ⟨w.heap.size, j, none⟩ = false
  below : Below w.heap.size w wr
  more : w.heap.size < wr.heap.size
theorem Sb.put {w wr : World} {n : Nat} {l : List (List UInt8)} (h : Sb w n l wr) (s : List UInt8) (hn : l.length < n) (k : Nat) (hk : k = l.length) : Sb w n (l ++ [s]) (wr.setCell ⟨w.heap.size, k, none⟩ (.string ⟨s.toArray⟩)) := by
  subst hk
  have hs := h.some_ l.length hn
  refine ⟨fun j hj => ?_, fun j hj => ?_, fun j => by rw [World.frozen?_setCell]; exact h.free j, h.below.setCell (Nat.le_refl _) _, by simpa using h.more⟩
  · by_cases hjl : j = l.length
    · subst hjl
      rw [World.cell?_setCell_same' _ _ _ hs]
      simp
    · have hj' : j < l.length := by simp at hj; omega
      rw [World.cell?_setCell_other _ _ _ _ (by intro e; apply hjl; injection e with _ e; exact e.symm), h.cells j hj']
      simp [List.getElem_append_left hj']
  · by_cases hjl : j = l.length
    · subst hjl
      rw [World.cell?_setCell_same' _ _ _ hs]; rfl
    · rw [World.cell?_setCell_other _ _ _ _ (by intro e; apply hjl; injection e with _ e; exact e.symm)]
      exact h.some_ j hj
theorem str_info : (Try.prog.info? 9).map (fun i => (i.zero, i.size, i.bytes)) = some (some (.string ⟨#[]⟩), 1, 16) := by kernel_rfl
/-- A line whose fields are l. -/
def lineOf (l : List (List UInt8)) : List UInt8 := Lib.join (l.map qt) [32]
end Go.Proofs.Ytghllibpcehmdaa
namespace Go.Proofs.Ytghllibpcehmdaa
/-- What cutting a line answers: the fields, each with its column; or a column, and why. -/
abbrev CRes := Sum (List (List UInt8 × Nat)) (Nat × Nat)
/-- Where a line is gone through: between fields; in one, with its text so far and where it began; in quotes, and where they began. -/
abbrev CSt := Option (List UInt8 × Nat × Option Nat)
def cutL : List UInt8 → CSt → List (List UInt8 × Nat) → Nat → CRes
  | [], none, fs, _ => .inl fs
  | [], some (t, b, none), fs, _ => .inl (fs ++ [(t, b + 1)])
  | [], some (_, _, some q), _, _ => .inr (q + 1, 5)
  | c :: r, none, fs, i => if knd c = 1 then cutL r none fs (i + 1) else if knd c = 2 then .inr (i + 1, 4) else if knd c = 4 then .inl fs else if fs.length = 24 then .inr (i + 1, 6) else if knd c = 0 then cutL r (some ([c], i, none)) fs (i + 1) else cutL r (some ([], i, some i)) fs (i + 1)
  | c :: r, some (t, b, none), fs, i => if knd c = 0 then cutL r (some ((t ++ [c]), b, none)) fs (i + 1) else if knd c = 3 then cutL r (some (t, b, some i)) fs (i + 1) else if knd c = 1 then cutL r none (fs ++ [(t, b + 1)]) (i + 1) else if knd c = 2 then .inr (i + 1, 4) else .inl (fs ++ [(t, b + 1)])
  | c :: r, some (t, b, some q), fs, i => if knd c = 2 then .inr (i + 1, 4) else if knd c = 3 then cutL r (some (t, b, none)) fs (i + 1) else cutL r (some ((t ++ [c]), b, some q)) fs (i + 1)
/-- The texts of fields. -/
def texts (r : CRes) : Option (List (List UInt8)) := match r with
  | .inl fs => some (fs.map (·.1))
  | .inr _ => none
end Go.Proofs.Ytghllibpcehmdaa
namespace Go.Proofs.Ytghllibpcehmdaa
open Go.RowKit
/-- What stands behind a label's mark. -/
def behind : Code → Code
  | .seq .skip x => x
  | .seq a _ => behind a
  | x => x
theorem own_base {w : World} {b : Nat} {e : TypeId} {s n : Nat} {v : Value} {xs : List Value} (h : w.ownsRow b e s v n xs) : ∀ k, v.ownBlock = some k → b ≤ k := fun k hk => (h.lt k hk).1
end Go.Proofs.Ytghllibpcehmdaa
namespace Go.Proofs.Ytghllibpcehmdaa
open Go.RowKit
theorem grown_of_below {a w : World} (h : Below a.heap.size a w) (row : Option Nat) : a.grownBy w row := ⟨h.os, h.tape, h.output, h.size, fun i hi _ => h.block i hi⟩
section
variable (sd k sv : Int) (ru fm : ByteArray) (en : Bool) (y m q n d s c : Int) (w : World)
end
section
variable {B : Nat} {w0 w w1 : World} {x0 x1 x2 x3 x4 x5 x6 x7 x8 x9 x10 x11 x12 : Value}
end
end Go.Proofs.Ytghllibpcehmdaa
namespace Go.Proofs.Ytghllibpcehmdaa
open Go.RowKit
/-- Block g holds these values. -/
structure Bx (W : World) (g : Nat) (cs : List Value) : Prop where
  lt : g < W.heap.size
  at_ : ∀ i v, cs[i]? = some v → W.cell? ⟨g, i, none⟩ = some v
theorem Bx.on {W W' : World} {g : Nat} {cs : List Value} (h : Bx W g cs) (hb : Below W.heap.size W W') : Bx W' g cs := by
  obtain ⟨hc, _⟩ := bcell hb
  exact ⟨Nat.lt_of_lt_of_le h.lt hb.size, fun i v hv => (hc _ _ h.lt).trans (h.at_ i v hv)⟩
theorem Bx.mk' (W : World) (g : Nat) (cs : Array Value) (t : TypeId) (h : g = W.heap.size) : Bx (W.alloc (.cells cs t)) g cs.toList := by
  subst h
  exact ⟨by simp, fun i v hv => by rw [cell_blk (heap_alloc_new _ _)]; simpa using hv⟩
end Go.Proofs.Ytghllibpcehmdaa
namespace Go.Proofs.Ytghllibpcehmdaa
open Go.RowKit
end Go.Proofs.Ytghllibpcehmdaa
namespace Go.Proofs.Ytghllibpcehmdaa
open Go.RowKit
def bts (L : List ByteArray) : List (List UInt8) := L.map (·.data.toList)
end Go.Proofs.Ytghllibpcehmdaa
namespace Go.Proofs.Ytghllibpcehmdaa
open Go.RowKit
def gr (c : UInt8) : Bool := decide (33 ≤ c.toNat ∧ c.toNat ≤ 126 ∧ c.toNat ≠ 34)
end Go.Proofs.Ytghllibpcehmdaa
namespace Go.Proofs.Ytghllibpcehmdaa
open Go.RowKit
/-- A text cut at its line feeds. -/
def Ln.cut : List UInt8 → List (List UInt8)
  | [] => [[]]
  | c :: r => if c = 10 then [] :: Ln.cut r else match Ln.cut r with
    | [] => [[c]]
    | x :: l => (c :: x) :: l
/-- How long the lines are. -/
def Ln.size (l : List (List UInt8)) : Nat := (l.map fun x => x.length + 1).sum
/-- The fields of a line, or the column of what is not right, and why. -/
def Ln.fld (l : List UInt8) : CRes := if 2048 < l.length then .inr (2049, 6) else cutL l none [] 0
abbrev LRes := Sum (List (Nat × List (List UInt8 × Nat))) (Nat × Nat × Nat)
/-- The lines that have fields, from a number on; or the number of the first one that is not right, the column, and why. -/
def Ln.scan : Nat → List (List UInt8) → LRes
  | _, [] => .inl []
  | i, l :: ls => match Ln.fld l with
    | .inr p => .inr (i, p.1, p.2)
    | .inl fs => match Ln.scan (i + 1) ls with
      | .inr f => .inr f
      | .inl r => .inl (if fs = [] then r else (i, fs) :: r)
def Ln.join (a : List (Nat × List (List UInt8 × Nat))) : LRes → LRes
  | .inl r => .inl (a ++ r)
  | .inr f => .inr f
/-- Numbers further on. -/
def Ln.on (n : Nat) : LRes → LRes
  | .inl r => .inl (r.map fun x => (x.1 + n, x.2))
  | .inr f => .inr (f.1 + n, f.2)
end Go.Proofs.Ytghllibpcehmdaa
namespace Go.Proofs.Ytghllibpcehmdaa
open Go.RowKit
/-- A zone: its name and its eras. -/
structure Zn where
  nm : ByteArray
  es : List Er
/-- A link: where it leads, its name. -/
structure Lk where
  tg : ByteArray
  nm : ByteArray
structure Src where
  rs : List Ru
  zs : List Zn
  ls : List Lk
def Src.zero : Src := ⟨[], [], []⟩
/-- Two sources, one behind the other. -/
def Src.with (a b : Src) : Src := ⟨a.rs ++ b.rs, a.zs ++ b.zs, a.ls ++ b.ls⟩
/-- All but the last era end. -/
def So.ends : List Er → Bool
  | [] => false
  | e :: l => if l = [] then !e.en else e.en && So.ends l
def So.eras (l : List Er) : Bool := decide (1 ≤ l.length ∧ l.length ≤ 64) && (l.all El.right && So.ends l)
def So.zone (z : Zn) : Bool := Rl.name z.nm.data.toList && So.eras z.es
def So.link (k : Lk) : Bool := Rl.name k.tg.data.toList && Rl.name k.nm.data.toList
/-- A source is right. -/
def So.right (s : Src) : Bool := decide (s.rs.length ≤ 4096 ∧ s.zs.length ≤ 1024 ∧ s.ls.length ≤ 4096) && (s.rs.all Rl.right && (s.zs.all So.zone && s.ls.all So.link))
/-- How far lines are read: rules, zones, links, and a zone whose next era is to come. -/
structure St where
  rs : List Ru
  zs : List Zn
  ls : List Lk
  cur : Option Zn
def St.zero : St := ⟨[], [], [], none⟩
def St.src (s : St) : Src := ⟨s.rs, s.zs, s.ls⟩
abbrev SRes := Sum St (Nat × Int)
def So.kinds : List ByteArray := [⟨#[82, 117, 108, 101]⟩, ⟨#[90, 111, 110, 101]⟩, ⟨#[76, 105, 110, 107]⟩]
def So.at_ (L : List ByteArray) (i : Nat) : ByteArray := L.getD i ByteArray.empty
def So.isN (t : ByteArray) : Bool := Rl.name t.data.toList
/-- A zone goes on, or not. -/
def St.put (s : St) (z : Zn) (en : Bool) : St := if en = true then { s with cur := some z } else { s with zs := s.zs ++ [z], cur := none }
def So.rule (s : St) (L : List ByteArray) : SRes :=
  if s.rs.length = 4096 then .inr (0, 6) else if (Rl.prs (L.drop 1)).2.2 ≠ 0 then .inr (1 + (Rl.prs (L.drop 1)).2.1, (Rl.prs (L.drop 1)).2.2) else .inl { s with rs := s.rs ++ [(Rl.prs (L.drop 1)).1] }
def So.zoneL (s : St) (L : List ByteArray) : SRes :=
  if s.zs.length = 1024 then .inr (0, 6) else if L.length = 1 then .inr (1, 5) else if (El.prs (L.drop 2)).2.2 ≠ 0 then .inr (2 + (El.prs (L.drop 2)).2.1, (El.prs (L.drop 2)).2.2)
  else if So.isN (So.at_ L 1) = true then .inl (s.put ⟨So.at_ L 1, [(El.prs (L.drop 2)).1]⟩ (El.prs (L.drop 2)).1.en) else .inr (1, 7)
def So.eraL (s : St) (z : Zn) (L : List ByteArray) : SRes :=
  if z.es.length = 64 then .inr (0, 6) else if (El.prs L).2.2 ≠ 0 then .inr ((El.prs L).2.1, (El.prs L).2.2) else .inl (s.put ⟨z.nm, z.es ++ [(El.prs L).1]⟩ (El.prs L).1.en)
def So.linkL (s : St) (L : List ByteArray) : SRes :=
  if s.ls.length = 4096 then .inr (0, 6) else if 1 < L.length ∧ So.isN (So.at_ L 1) = false then .inr (1, 7) else if 2 < L.length ∧ So.isN (So.at_ L 2) = false then .inr (2, 7)
  else if L.length < 3 then .inr (L.length, 5) else if 3 < L.length then .inr (3, 6) else .inl { s with ls := s.ls ++ [⟨So.at_ L 1, So.at_ L 2⟩] }
def So.first (s : St) (L : List ByteArray) : SRes :=
  if Wd.pick (So.at_ L 0) So.kinds = 0 then So.rule s L else if Wd.pick (So.at_ L 0) So.kinds = 1 then So.zoneL s L else if Wd.pick (So.at_ L 0) So.kinds = 2 then So.linkL s L else .inr (0, 7)
/-- What a line's texts make of what is read, or the place of what is wrong, and why. -/
def So.rd (s : St) (L : List ByteArray) : SRes := match s.cur with
  | some z => So.eraL s z L
  | none => So.first s L
abbrev LnD := Nat × List (List UInt8 × Nat)
def LnD.texts (l : LnD) : List ByteArray := l.2.map fun f => ⟨f.1.toArray⟩
/-- The column of a line's field at a place; of its last one, if there is none at it. -/
def LnD.col (l : LnD) (at_ : Nat) : Nat := (l.2.getD (min at_ (l.2.length - 1)) ([], 0)).2
abbrev PRes := Sum St (Nat × Nat × Int)
def So.run : St → List LnD → PRes
  | s, [] => .inl s
  | s, l :: ls => match So.rd s l.texts with
    | .inr p => .inr (l.1, l.col p.1, p.2)
    | .inl s' => So.run s' ls
abbrev QRes := Sum Src (Nat × Nat × Int)
/-- What is told of lines that are read: the source, or that the last zone has no end. -/
def So.done (ls : List LnD) : PRes → QRes
  | .inr f => .inr f
  | .inl s => match s.cur with
    | none => .inl s.src
    | some _ => .inr (((ls.getLast?).getD (0, [])).1, LnD.col ((ls.getLast?).getD (0, [])) 0, 5)
/-- What a text tells. -/
def So.prs (l : List UInt8) : QRes :=
  if 1048576 < l.length then .inr (0, 0, 6) else match Ln.scan 1 (Ln.cut l) with
    | .inr f => .inr (f.1, f.2.1, (f.2.2 : Int))
    | .inl ls => So.done ls (So.run St.zero ls)
/-- Behind what was read already. -/
def St.behind (a : Src) (s : St) : St := ⟨a.rs ++ s.rs, a.zs ++ s.zs, a.ls ++ s.ls, s.cur⟩
def SRes.on (a : Src) : SRes → SRes
  | .inl s => .inl (s.behind a)
  | .inr p => .inr p
def PRes.on (a : Src) : PRes → PRes
  | .inl s => .inl (s.behind a)
  | .inr p => .inr p
end Go.Proofs.Ytghllibpcehmdaa
namespace Go.Proofs.Ytghllibpcehmdaa
open Go.RowKit
/-- A slice reads these cells, from below block B. -/
def Rk (w : World) (B : Nat) (A : Option Addr) (xs : List Value) : Prop := 0 < xs.length → ∃ b o, A = some ⟨b, o, none⟩ ∧ b < B ∧ ∀ j u, xs[j]? = some u → w.cell? ⟨b, o + j, none⟩ = some u
theorem Rk.nil {w : World} {B : Nat} {A : Option Addr} : Rk w B A [] := fun h => absurd h (by simp)
theorem Rk.keep {w w' : World} {B : Nat} {A : Option Addr} {xs : List Value} (h : Rk w B A xs) (hk : ∀ p : Addr, p.block < B → w'.cell? p = w.cell? p) : Rk w' B A xs := fun hn => by
  obtain ⟨b, o, e, hb, hc⟩ := h hn
  exact ⟨b, o, e, hb, fun j u hu => (hk ⟨b, o + j, none⟩ hb).trans (hc j u hu)⟩
theorem Rk.more {w : World} {B B' : Nat} {A : Option Addr} {xs : List Value} (h : Rk w B A xs) (hB : B ≤ B') : Rk w B' A xs := fun hn => by
  obtain ⟨b, o, e, hb, hc⟩ := h hn
  exact ⟨b, o, e, by omega, hc⟩
theorem Rk.below {w w' : World} {B : Nat} {A : Option Addr} {xs : List Value} (h : Rk w B A xs) (hb : Below B w w') : Rk w' B A xs := h.keep fun _ hp => hb.cell hp
theorem Rk.on {w w' : World} {A : Option Addr} {xs : List Value} (h : Rk w w.heap.size A xs) (hb : Below w.heap.size w w') : Rk w' w'.heap.size A xs := (h.below hb).more hb.size
/-- A cell of an element of a row. -/
theorem flat_at {α : Type} {enc : α → List Value} {k : Nat} (hk : ∀ x, (enc x).length = k) : ∀ (l : List α) (i : Nat) (x : α), l[i]? = some x → ∀ j v, (enc x)[j]? = some v → (l.flatMap enc)[i * k + j]? = some v
  | [], i, x, h => by simp at h
  | y :: l, 0, x, h => by
    intro j v hv
    obtain rfl : y = x := by simpa using h
    have hj : j < (enc y).length := by
      rcases Nat.lt_or_ge j (enc y).length with hl | hg
      · exact hl
      · rw [List.getElem?_eq_none hg] at hv; cases hv
    rw [Nat.zero_mul, Nat.zero_add, List.flatMap_cons, List.getElem?_append_left hj]
    exact hv
  | y :: l, i + 1, x, h => by
    intro j v hv
    have ih := flat_at hk l i x (by simpa using h) j v hv
    rw [List.flatMap_cons, List.getElem?_append_right (by rw [hk, Nat.add_mul]; omega), hk]
    rw [show (i + 1) * k + j - k = i * k + j by rw [Nat.add_mul]; omega]
    exact ih
theorem flat_len {α : Type} {enc : α → List Value} {k : Nat} (hk : ∀ x, (enc x).length = k) : ∀ l : List α, (l.flatMap enc).length = l.length * k
  | [] => by simp
  | y :: l => by rw [List.flatMap_cons, List.length_append, hk, flat_len hk l, List.length_cons, Nat.add_mul]; omega
theorem Rk.at_ {α : Type} {enc : α → List Value} {k : Nat} {w : World} {B : Nat} {A : Option Addr} {l : List α} (h : Rk w B A (l.flatMap enc)) (hk : ∀ x, (enc x).length = k) (h0 : 0 < k) {i : Nat} {x : α} (hx : l[i]? = some x) :
    ∃ b o, A = some ⟨b, o, none⟩ ∧ b < B ∧ ∀ j v, (enc x)[j]? = some v → w.cell? ⟨b, o + i * k + j, none⟩ = some v := by
  have hi : i < l.length := by
    rcases Nat.lt_or_ge i l.length with hl | hg
    · exact hl
    · rw [List.getElem?_eq_none hg] at hx; cases hx
  obtain ⟨b, o, e, hb, hc⟩ := h (by rw [flat_len hk]; exact Nat.mul_pos (by omega) h0)
  refine ⟨b, o, e, hb, fun j v hv => ?_⟩
  rw [Nat.add_assoc]
  exact hc _ _ (flat_at hk l i x hx j v hv)
def rcell (r : Ru) : List Value := [.string r.nm, .int .i64 r.fr, .int .i64 r.tl, .int .i64 r.m, .int .u8 r.k, .int .i64 r.n, .int .i64 r.d, .int .i64 r.s, .int .u8 r.c, .int .i64 r.sv, .string r.lt]
def ecell (e : Er) : List Value := [.int .i64 e.sd, .int .u8 e.k, .int .i64 e.sv, .string e.ru, .string e.fm, .bool e.en, .int .i64 e.u.y, .int .i64 e.u.m, .int .u8 e.u.k, .int .i64 e.u.n, .int .i64 e.u.d, .int .i64 e.u.s, .int .u8 e.u.c]
def lcell (k : Lk) : List Value := [.string k.tg, .string k.nm]
/-- A zone in memory: its name, and where its eras lie. -/
structure Zd where
  nm : ByteArray
  A : Option Addr
  c : Nat
  es : List Er
def zcell (z : Zd) : List Value := [.string z.nm, .slice z.A z.es.length z.c]
def Zd.zn (z : Zd) : Zn := ⟨z.nm, z.es⟩
theorem rcell_len (r : Ru) : (rcell r).length = 11 := rfl
theorem ecell_len (e : Er) : (ecell e).length = 13 := rfl
theorem lcell_len (k : Lk) : (lcell k).length = 2 := rfl
theorem zcell_len (z : Zd) : (zcell z).length = 2 := rfl
/-- A source in memory. -/
structure Sd where
  rA : Option Addr
  rc : Nat
  rs : List Ru
  zA : Option Addr
  zc : Nat
  zs : List Zd
  lA : Option Addr
  lc : Nat
  ls : List Lk
@[reducible] def Sd.val (d : Sd) : Value := .agg #[.slice d.rA d.rs.length d.rc, .slice d.zA d.zs.length d.zc, .slice d.lA d.ls.length d.lc]
def Sd.src (d : Sd) : Src := ⟨d.rs, d.zs.map Zd.zn, d.ls⟩
/-- How great a source's parts may be. -/
structure Sd.fits (d : Sd) : Prop where
  r : d.rs.length ≤ 9223372036854775807
  z : d.zs.length ≤ 9223372036854775807
  l : d.ls.length ≤ 9223372036854775807
  rn : ∀ r ∈ d.rs, r.nm.size ≤ 9223372036854775807 ∧ r.lt.size ≤ 9223372036854775807
  zn : ∀ z ∈ d.zs, z.nm.size ≤ 9223372036854775807 ∧ z.es.length ≤ 9223372036854775807 ∧ ∀ e ∈ z.es, e.ru.size ≤ 9223372036854775807 ∧ e.fm.size ≤ 9223372036854775807
  ln : ∀ k ∈ d.ls, k.tg.size ≤ 9223372036854775807 ∧ k.nm.size ≤ 9223372036854775807
/-- Where a source's parts lie. -/
structure Sd.at_ (W : World) (B : Nat) (d : Sd) : Prop where
  r : Rk W B d.rA (d.rs.flatMap rcell)
  z : Rk W B d.zA (d.zs.flatMap zcell)
  e : ∀ z ∈ d.zs, Rk W B z.A (z.es.flatMap ecell)
  l : Rk W B d.lA (d.ls.flatMap lcell)
theorem Sd.at_.below {W W' : World} {B : Nat} {d : Sd} (h : d.at_ W B) (hb : Below B W W') : d.at_ W' B := ⟨h.r.below hb, h.z.below hb, fun z hz => (h.e z hz).below hb, h.l.below hb⟩
theorem Sd.at_.more {W : World} {B B' : Nat} {d : Sd} (h : d.at_ W B) (hb : B ≤ B') : d.at_ W B' := ⟨h.r.more hb, h.z.more hb, fun z hz => (h.e z hz).more hb, h.l.more hb⟩
theorem Sd.at_.on {W W' : World} {d : Sd} (h : d.at_ W W.heap.size) (hb : Below W.heap.size W W') : d.at_ W' W'.heap.size := (h.below hb).more hb.size
def Sd.zero : Sd := ⟨none, 0, [], none, 0, [], none, 0, []⟩
end Go.Proofs.Ytghllibpcehmdaa
namespace Go.Proofs.Ytghllibpcehmdaa
open Go.RowKit
/-- The words that begin a rule, a zone, a link. -/
def Pt.ruleW : ByteArray := ⟨#[82, 117, 108, 101]⟩
def Pt.zoneW : ByteArray := ⟨#[90, 111, 110, 101]⟩
def Pt.linkW : ByteArray := ⟨#[76, 105, 110, 107]⟩
/-- A line: what is ahead of its texts, and these. -/
abbrev PL := List UInt8 × List ByteArray
def Pt.rule (r : Ru) : PL := ([], Pt.ruleW :: Rl.texts r)
def Pt.era (e : Er) : PL := ([9], El.texts e)
def Pt.zone (z : Zn) : List PL := match z.es with
  | [] => []
  | e :: l => ([], Pt.zoneW :: z.nm :: El.texts e) :: l.map Pt.era
def Pt.link (k : Lk) : PL := ([], [Pt.linkW, k.tg, k.nm])
def Pt.lines (s : Src) : List PL := s.rs.map Pt.rule ++ (s.zs.flatMap Pt.zone ++ s.ls.map Pt.link)
def PL.line (p : PL) : List UInt8 := p.1 ++ lineOf (bts p.2)
def Pt.bytes (l : List PL) : List UInt8 := l.flatMap fun p => p.line ++ [10]
/-- What is written of a source. -/
def Pt.text (s : Src) : List UInt8 := Pt.bytes (Pt.lines s)
/-- What holds of each line that is written. -/
structure PL.ok (p : PL) : Prop where
  pre : p.1 = [] ∨ p.1 = [9]
  gr : ∀ t ∈ p.2, t.data.toList.all gr = true
  small : ∀ t ∈ p.2, t.size ≤ 64
  some_ : 1 ≤ p.2.length
  few : p.2.length ≤ 10
/-- A source is put behind what is read. -/
def St.add (s : St) (b : Src) : St := ⟨s.rs ++ b.rs, s.zs ++ b.zs, s.ls ++ b.ls, none⟩
/-- A line tells these texts. -/
def Ln.tells (l : List UInt8) (L : List ByteArray) : Prop := ∃ fs, Ln.fld l = .inl fs ∧ fs.map (fun f => (⟨f.1.toArray⟩ : ByteArray)) = L
end Go.Proofs.Ytghllibpcehmdaa
namespace Go.Proofs.Ytghllibpcehmdaa
open Go.RowKit
set_option maxRecDepth 100000
theorem kept_set {w : World} {B b j : Nat} {v x : Value} {n : Nat} {l : List Value} (h : w.ownsRow B 5 1 v n l) (hne : v.ownBlock ≠ some b) : (w.setCell ⟨b, j, none⟩ x).ownsRow B 5 1 v n l :=
  h.kept (row := some b) ⟨rfl, rfl, rfl, by simp [World.setCell], fun k _ hk => Below.heap_setCell _ _ _ _ (fun e => hk (by simp [e]))⟩ (Or.inr hne)
/-- Rows of texts stay as they are. -/
def KeepS (w w' : World) : Prop := ∀ (g : Nat) (cs : Array Value) (fr : Nat × Nat), w.heap[g]? = some (Obj.cells cs 9 fr) → w'.heap[g]? = some (Obj.cells cs 9 fr)
theorem KeepS.refl (w : World) : KeepS w w := fun _ _ _ h => h
theorem KeepS.trans {a b c : World} (h : KeepS a b) (k : KeepS b c) : KeepS a c := fun g cs fr x => k g cs fr (h g cs fr x)
theorem KeepS.alloc {a w : World} (h : KeepS a w) (o : Obj) : KeepS a (w.alloc o) := fun g cs fr k => by
  have k2 := h g cs fr k
  have hlt : g < w.heap.size := by
    rcases Nat.lt_or_ge g w.heap.size with h' | h'
    · exact h'
    · simp [Array.getElem?_eq_none h'] at k2
  rw [Lib.alloc_old w o g hlt]
  exact k2
theorem KeepS.grown {a w w' : World} {B : Nat} {v : Value} {n : Nat} {xs : List Value} (h : KeepS a w) (hown : w.ownsRow B 5 1 v n xs) (hg : w.grownBy w' v.ownBlock) : KeepS a w' := fun g cs fr k => by
  have k2 := h g cs fr k
  have hlt : g < w.heap.size := by
    rcases Nat.lt_or_ge g w.heap.size with h' | h'
    · exact h'
    · simp [Array.getElem?_eq_none h'] at k2
  have hne := Lib.ownBlock_ne hown k2 (by decide)
  rw [hg.block g hlt (fun e => hne e.symm)]
  exact k2
end Go.Proofs.Ytghllibpcehmdaa
namespace Go.Proofs.Ytghllibpcehmdaa
open Go.RowKit Go.Shelf
theorem box_below (w : World) (o : Obj) : Below w.heap.size w (w.alloc o) := (Below.refl _ _).alloc (Nat.le_refl _) o
end Go.Proofs.Ytghllibpcehmdaa
namespace Go.Proofs.Ytghllibpcehmdaa
open Go.RowKit
set_option maxRecDepth 100000
/-- A slice of texts: nil, or a row of the memory. -/
def Tl (w : World) (v : Value) (L : List ByteArray) : Prop := (v = .slice none 0 0 ∧ L = []) ∨ ∃ ad c, v = .slice (some ad) L.length c ∧ ad.block < w.heap.size ∧ ∀ j, j < L.length → w.cell? (ad.add j) = some (.string (L.getD j ByteArray.empty))
theorem Tl.below {w w' : World} {v : Value} {L : List ByteArray} (h : Tl w v L) (hb : Below w.heap.size w w') : Tl w' v L := by
  rcases h with h | ⟨ad, c, e, hl, hc⟩
  · exact .inl h
  · exact .inr ⟨ad, c, e, Nat.lt_of_lt_of_le hl hb.size, fun j hj => (hb.cell (by rw [block_of_add]; exact hl)).trans (hc j hj)⟩
theorem Tl.len {w : World} {v : Value} {L : List ByteArray} (h : Tl w v L) : ∃ A c, v = .slice A L.length c := by
  rcases h with ⟨e, rfl⟩ | ⟨ad, c, e, _, _⟩
  · exact ⟨none, 0, e⟩
  · exact ⟨some ad, c, e⟩
theorem wpList_tl {w : World} {ops : Array Oper} {rest : List Oper} {o : Oper} {a : Act} {Q : Exit → Act → World → Prop} (hgd : o.guard = none) (s x : Operand)
    (ho : o.op = .call { callee := .builtin .append, args := #[s, x], argTypes := #[32, 32] }) (base : Nat) (v : Value) (L : List ByteArray) (hown : w.ownsRow base 9 1 v L.length (L.map Value.string)) (hs : a.eval s = v) (u : Value) (M : List ByteArray)
    (hx : a.eval x = u) (hM : Tl w u M) (hlen : L.length + M.length ≤ 4096) (hbase : base ≤ w.heap.size)
    (h : ∀ v' w', w'.ownsRow base 9 1 v' (L ++ M).length ((L ++ M).map Value.string) → w.grownBy w' v.ownBlock → wpList Try.prog ops Q rest (a.put o.dst v') w') : wpList Try.prog ops Q (o :: rest) a w := by
  obtain ⟨i0, hi, hz0, hz1, hz2⟩ := info_parts str_info
  rcases hM with ⟨rfl, rfl⟩ | ⟨ad, c, rfl, hl, hc⟩
  · refine wpList_append_own_none hgd s x 32 ho base 9 i0 1 Try.underlying32 hi v L.length (L.map Value.string) hs hown hx ?_
    exact h v w (by simpa using hown) ⟨rfl, rfl, rfl, Nat.le_refl _, fun _ _ _ => rfl⟩
  · refine wpList_append_own w hgd s x 32 ho base 9 i0 (.string ⟨#[]⟩) 1 16 Try.underlying32 hi hz0 hz1 hz2 rfl (by omega) v L.length (L.map Value.string) hs hown ad M.length c (M.map Value.string) hx (by simp) (fun j u hu => ?_) (fun u hu => ?_) (by unfold maxLen; omega) (by omega) hbase (fun v' w' h1 h2 _ => ?_)
    · rw [List.getElem?_map] at hu
      obtain ⟨t, ht, rfl⟩ := Option.map_eq_some_iff.1 hu
      obtain ⟨hj, e⟩ := List.getElem?_eq_some_iff.1 ht
      rw [hc j hj, List.getD_eq_getElem?_getD, ht]
      rfl
    · obtain ⟨t, _, rfl⟩ := List.mem_map.1 hu
      rfl
    · refine h v' w' ?_ h2
      rw [List.map_append, List.length_append]
      exact h1
/-- A row of texts of the call's own is answered. -/
def RowE (w w' : World) (L : List ByteArray) (e : Ending) : Prop := ∃ A c, e = .returned (.slice A L.length c) ∧ w'.ownsRow w.heap.size 9 1 (.slice A L.length c) L.length (L.map Value.string)
theorem rowE_of {w w' : World} {L : List ByteArray} {v : Value} (h : w'.ownsRow w.heap.size 9 1 v L.length (L.map Value.string)) : RowE w w' L (.returned v) := by
  rcases h.2 with ⟨hv, h0⟩ | ⟨g, cap, cur, hv, _⟩
  · refine ⟨none, 0, by rw [hv, h0], ?_⟩
    rw [h0, ← hv]
    rw [h0] at h
    exact h
  · exact ⟨some ⟨g, 0, none⟩, cap, by rw [hv], by rw [← hv]; exact h⟩
end Go.Proofs.Ytghllibpcehmdaa
namespace Go.Proofs.Ytghllibpcehmdaa
open Go.RowKit
/-- A line in memory: its number, its fields, and where these lie. -/
structure Lnm where
  no : Nat
  fs : List (List UInt8 × Nat)
  A : Option Addr
  c : Nat
def Lnm.ln (d : Lnm) : LnD := (d.no, d.fs)
/-- What the lines of a text are. -/
def Ln.all (l : List UInt8) : LRes := if 1048576 < l.length then .inr (0, 0, 6) else Ln.scan 1 (Ln.cut l)
theorem own_mono {w : World} {b b' : Nat} {e : TypeId} {k n : Nat} {v : Value} {xs : List Value} (h : w.ownsRow b e k v n xs) (hb : b' ≤ b) : w.ownsRow b' e k v n xs :=
  ⟨h.1, h.2.imp id fun ⟨g, cap, cur, h1, h2, h3⟩ => ⟨g, cap, cur, h1, Nat.le_trans hb h2, h3⟩⟩
theorem own_on {w w' : World} {b : Nat} {e : TypeId} {k n : Nat} {v : Value} {xs : List Value} (h : w.ownsRow b e k v n xs) (hb : Below w.heap.size w w') : w'.ownsRow b e k v n xs :=
  h.kept (grown_of_below hb none) (by cases v.ownBlock <;> simp)
end Go.Proofs.Ytghllibpcehmdaa
