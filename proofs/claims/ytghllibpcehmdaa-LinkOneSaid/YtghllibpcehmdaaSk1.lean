/- What is wanted of the texts behind: one behind the other, by program. -/
import Derived.Test.YtghllibpcehmdaaProg
import Derived.Test.YtghllibpcehmdaaSk0
import Derived.Lib.Join
import Init
import Derived.WalkKit
import Derived.Lib.Hide
import Derived.Deep.QuietTactic
import Derived.BigQuiet
import Derived.Outline
import Derived.Lib.ItoaNum
import Derived.Lib.Split
import Derived.LoopTactic
import Derived.Lib.LaidTab
import Derived.Lib.AppendIntMem
import Derived.LoopN
import Derived.Handy
import Derived.Deep.RegionHeld3
import Derived.Below
import Derived.ChangeSlices
import Derived.SliceStrings
import Derived.WideShapes
import Derived.Deep.Slices
import Derived.OpenShut
import Derived.Calls
import Derived.Lib.IndexMore
import Derived.Laws.IdiomStrings
import Derived.Laws.AppendOwn
import Derived.Lib.BufferWrite
import Derived.Deep.RegionLaw
import Derived.Lib.LazyBuf
import Derived.OwnWalk
import Derived.ChangeArms
import Derived.Deep.LoopGhost
import Derived.Scope
import Derived.ScopeJumps
import Derived.WalkMore
import Derived.Lib.BufferRead
import Derived.Laws.OwnMore
import Derived.Maps.AppendAt
import Derived.Deep.AppendLies
import Derived.Shelf.Abstract
import Derived.Lib.AppendZeros
import Derived.Laws.AppendOwnNone
import Derived.Lib.SplitLaws
import Derived.Lib.SmallJoins
namespace Go.Proofs.Ytghllibpcehmdaa
open Go.RowKit
namespace Wd
theorem mons_back : ∀ i, i < 12 → pick (three mons i) mons = i ∧ (three mons i).size = 3 ∧ (nth mons i).size ≤ 9 ∧ 3 ≤ (nth mons i).size := by decide +kernel
end Wd
end Go.Proofs.Ytghllibpcehmdaa
namespace Go.Proofs.Ytghllibpcehmdaa
open Go.RowKit
/-- What is right of an until but for its year. -/
def Mo.good (u : Ut) : Prop := 1 ≤ u.m ∧ u.m ≤ 12 ∧ Dy.right u.k u.n u.d = true ∧ Mo.right u.s u.c = true ∧ 0 ≤ u.c
section
variable {u : Ut} (h : Mo.un u = true) (c0 : 0 ≤ u.c)
include h
theorem st1 (v : Ut) : Mo.step 1 (Mo.t1 u) v = ({ v with m := u.m }, 0) := by
  obtain ⟨⟨y1, y2, m1, m2⟩, hd, hr⟩ := unt_parts h
  have e : Wd.pick (Mo.t1 u) Wd.mons + 1 = u.m := by
    have := (Wd.mons_back (u.m - 1).toNat (by omega)).1
    show Wd.pick (Wd.three Wd.mons (u.m - 1).toNat) Wd.mons + 1 = u.m
    rw [this]
    omega
  show (({ v with m := Wd.pick (Mo.t1 u) Wd.mons + 1 } : Ut), if Wd.pick (Mo.t1 u) Wd.mons + 1 = 0 then (7 : Int) else 0) = _
  rw [e, if_neg (by omega)]
theorem d1 (e : (Mo.t1 u).data.toList = [74, 97, 110]) : u.m = 1 := by
  have h1 := congrArg (fun r => r.1.m) (st1 h Ut.first)
  have h2 : Wd.pick (Mo.t1 u) Wd.mons + 1 = u.m := h1
  rw [show Mo.t1 u = ⟨#[74, 97, 110]⟩ from ByteArray.ext (Array.toList_inj.1 (by rw [e])), show Wd.pick ⟨#[74, 97, 110]⟩ Wd.mons = 0 by decide +kernel] at h2
  omega
end
end Go.Proofs.Ytghllibpcehmdaa
namespace Go.Proofs.Ytghllibpcehmdaa
open Go.RowKit
/-- What is right of a rule when so many texts are read. -/
structure Rl.good (i : Nat) (r : Ru) : Prop where
  g0 : 0 < i → Rl.name r.nm.data.toList = true
  g1 : 1 < i → 1 ≤ r.fr ∧ r.fr ≤ 9999
  g2 : 2 < i → r.fr ≤ r.tl ∧ r.tl ≤ 9999
  g4 : 4 < i → 1 ≤ r.m ∧ r.m ≤ 12
  g5 : 5 < i → Dy.right r.k r.n r.d = true
  g6 : 6 < i → Mo.right r.s r.c = true ∧ 0 ≤ r.c
  g7 : 7 < i → -604800 ≤ r.sv ∧ r.sv ≤ 604800
  g8 : 8 < i → Fm.ltr r.lt.data.toList = true
section
variable {r : Ru} (h : Rl.right r = true) (c0 : 0 ≤ r.c)
include h
end
end Go.Proofs.Ytghllibpcehmdaa
namespace Go.Proofs.Ytghllibpcehmdaa
open Go.RowKit
/-- What is right of an era when so many texts are read. -/
structure El.good (i : Nat) (e : Er) : Prop where
  no : e.en = false
  nu : e.u = ⟨0, 0, 0, 0, 0, 0, 0⟩
  g0 : -604800 ≤ e.sd ∧ e.sd ≤ 604800
  z1 : i ≤ 1 → e.sv = 0 ∧ e.ru = ⟨#[]⟩
  g1 : 1 < i → El.kind e.k e.sv e.ru.data.toList = true
  k0 : 0 ≤ e.k
  g2 : 2 < i → Fm.fmt e.fm.data.toList = true
section
variable {e : Er} (h : El.right e = true)
include h
end
end Go.Proofs.Ytghllibpcehmdaa
namespace Go.Proofs.Ytghllibpcehmdaa
open Go.RowKit
end Go.Proofs.Ytghllibpcehmdaa
namespace Go.Proofs.Ytghllibpcehmdaa
open Go.RowKit
theorem Txs.sl {w : World} {g : Nat} {L : List ByteArray} (h : Txs w g L) (n : Nat) (hn : n ≤ L.length) (L' : List ByteArray) (hL : ∀ i, i < n → L'.getD i ByteArray.empty = L.getD i ByteArray.empty) : Sl w w.heap.size (some ⟨g, 0, none⟩) n (fun i => .string (L'.getD i ByteArray.empty)) := fun _ =>
  ⟨_, rfl, h.lt, fun i hi => by rw [addr_at]; show _ = some (Value.string (L'.getD i ByteArray.empty)); rw [hL i hi]; exact h.at_ i (by omega)⟩
section
variable {B : Nat} {w0 w w1 : World} {x0 x1 x2 x3 x4 x5 x6 x7 x8 x9 x10 : Value}
end
section
variable (nm : ByteArray) (fr tl m k n d s c sv : Int) (lt : ByteArray) (w : World)
end
end Go.Proofs.Ytghllibpcehmdaa
namespace Go.Proofs.Ytghllibpcehmdaa
open Go.RowKit
theorem Sb.new (w : World) (n : Nat) (z : Array Value) (hz : z.size = n) (t : TypeId) : Sb w n [] (w.alloc (.cells z t)) := by
  have hn : (w.alloc (.cells z t)).heap[w.heap.size]? = some (.cells z t (0, 0)) := heap_alloc_new _ _
  exact ⟨fun j hj => absurd hj (by simp), fun j hj => isSome_blk hn j (by omega), fun j => frozen_blk hn j, (Below.refl _ _).alloc (Nat.le_refl _) _, by simp⟩
end Go.Proofs.Ytghllibpcehmdaa
namespace Go.Proofs.Ytghllibpcehmdaa
open Go.RowKit
theorem Txs.bx {W : World} {g : Nat} {L : List ByteArray} (h : Txs W g L) : Bx W g (L.map Value.string) :=
  ⟨h.lt, fun i v hv => by
    rw [List.getElem?_map] at hv
    obtain ⟨x, hx, rfl⟩ := Option.map_eq_some_iff.1 hv
    obtain ⟨hi, e⟩ := List.getElem?_eq_some_iff.1 hx
    rw [h.at_ i hi, List.getD_eq_getElem?_getD, hx]
    rfl⟩
set_option maxHeartbeats 1000000 in
theorem texts_eq (A A' : Option Addr) (n c c' : Nat) (L : List ByteArray) (hn : n ≤ 4294967296) (w : World) (hS : Sl w w.heap.size A n (fun i => .string (L.getD i ByteArray.empty))) (hS' : Sl w w.heap.size A' n (fun i => .string (L.getD i ByteArray.empty))) :
    Calls Try.prog 9 #[.slice A n c, .slice A' n c'] w fun e w' => e = .returned (.bool true) ∧ Below w.heap.size w w' := by
  have HS := Lib.hid hS
  have HS' := Lib.hid hS'
  clear hS hS'
  go_enter Try.func9, Try.ntmps9
  go_wp2_with fail
  go_loopw [13] (fun i wr => ∃ k : Nat, k ≤ n ∧ i = .int .i64 k ∧ Below w.heap.size w wr) (fun i _ => n - (intOf i).toNat)
  case atStart => exact ⟨0, Nat.zero_le _, rfl, Below.refl _ _⟩
  case round =>
    obtain ⟨k, hk, rfl, hbw⟩ := hrel
    by_cases hlt : k < n
    · obtain ⟨ad, rfl, hal, hc⟩ := (HS.out.below hbw).at_ hlt
      obtain ⟨ad', rfl, hal', hc'⟩ := (HS'.out.below hbw).at_ hlt
      change wr.cell? (ad.add k) = some (.string (L.getD k ByteArray.empty)) at hc
      change wr.cell? (ad'.add k) = some (.string (L.getD k ByteArray.empty)) at hc'
      generalize L.getD k ByteArray.empty = X at *
      have t1 : (X.toList != X.toList) = false := by simp
      go_wp2_with fail
      go_quiet (fail)
      go_wp2_with fail
      go_roundw
      case rel =>
        refine ⟨k + 1, by omega, by go_num, ?_⟩
        repeat (first | exact Below.refl _ _ | assumption | refine below_drewN ?_ _ | refine Below.drew ?_ | refine Below.setCell ?_ (by first | omega | (simp; done) | (simp; omega)) _ | refine Below.alloc ?_ (by first | omega | (simp; done) | (simp; omega)) _)
      case measure => simp [intOf]; omega
    · go_wp2_with fail
      go_ret
      exact ⟨rfl, hbw⟩
end Go.Proofs.Ytghllibpcehmdaa
namespace Go.Proofs.Ytghllibpcehmdaa
open Go.RowKit
/-- Clocks' kinds are no less than nothing (as a byte is not). -/
structure So.nn (s : Src) : Prop where
  r : ∀ r ∈ s.rs, 0 ≤ r.c
  z : ∀ z ∈ s.zs, ∀ e ∈ z.es, 0 ≤ e.u.c
/-- What holds of all that is read. -/
structure St.good (s : St) : Prop where
  r : ∀ r ∈ s.rs, Rl.right r = true ∧ 0 ≤ r.c
  z : ∀ z ∈ s.zs, So.zone z = true ∧ ∀ e ∈ z.es, 0 ≤ e.u.c
  l : ∀ k ∈ s.ls, So.link k = true
  c : ∀ z, s.cur = some z → Rl.name z.nm.data.toList = true ∧ 1 ≤ z.es.length ∧ z.es.length ≤ 64 ∧ ∀ e ∈ z.es, El.right e = true ∧ 0 ≤ e.u.c ∧ e.en = true
  nr : s.rs.length ≤ 4096
  nz : s.zs.length + (if s.cur.isSome = true then 1 else 0) ≤ 1024
  nl : s.ls.length ≤ 4096
end Go.Proofs.Ytghllibpcehmdaa
namespace Go.Proofs.Ytghllibpcehmdaa
open Go.RowKit
theorem link_info : (Try.prog.info? 39).map (fun i => (i.zero, i.size, i.bytes)) = some (some (.agg #[.string ⟨#[]⟩, .string ⟨#[]⟩]), 2, 32) := by kernel_rfl
end Go.Proofs.Ytghllibpcehmdaa
namespace Go.Proofs.Ytghllibpcehmdaa
open Go.RowKit Go.ChangeShapes Go.WideShapes Go.Joins Go.Deep
theorem cells_int : Try.prog.cellsOf 3 = 1 := by kernel_rfl
theorem cells_i64 : Try.prog.cellsOf 2 = 1 := by kernel_rfl
theorem cells_kind : Try.prog.cellsOf 42 = 1 := by kernel_rfl
theorem cells_clock : Try.prog.cellsOf 45 = 1 := by kernel_rfl
theorem cells_day : Try.prog.cellsOf 44 = 3 := by kernel_rfl
theorem cells_moment : Try.prog.cellsOf 47 = 2 := by kernel_rfl
end Go.Proofs.Ytghllibpcehmdaa
namespace Go.Proofs.Ytghllibpcehmdaa
open Go.RowKit Go.ChangeShapes Go.WideShapes Go.Joins Go.Deep
set_option maxRecDepth 100000 in
theorem array11 {α : Type} {cs : Array α} (h : cs.size = 11) : ∃ c0 c1 c2 c3 c4 c5 c6 c7 c8 c9 c10, cs = #[c0, c1, c2, c3, c4, c5, c6, c7, c8, c9, c10] := by
  obtain ⟨l⟩ := cs
  match l, h with
  | [c0, c1, c2, c3, c4, c5, c6, c7, c8, c9, c10], _ => exact ⟨c0, c1, c2, c3, c4, c5, c6, c7, c8, c9, c10, rfl⟩
set_option maxRecDepth 100000 in
theorem array13 {α : Type} {cs : Array α} (h : cs.size = 13) : ∃ c0 c1 c2 c3 c4 c5 c6 c7 c8 c9 c10 c11 c12, cs = #[c0, c1, c2, c3, c4, c5, c6, c7, c8, c9, c10, c11, c12] := by
  obtain ⟨l⟩ := cs
  match l, h with
  | [c0, c1, c2, c3, c4, c5, c6, c7, c8, c9, c10, c11, c12], _ => exact ⟨c0, c1, c2, c3, c4, c5, c6, c7, c8, c9, c10, c11, c12, rfl⟩
theorem trod_struct8 {H : Type} {enc : TypeId × Value → H} {P : Program} {w : World} {base : Nat} {spare : Nat → Bool} {held : Bool} {t : TypeId} {f0 f1 f2 f3 f4 f5 f6 f7 : Field} {fuel : Nat} {cs : List Value} {x : DataW H × List MemPlace} (ht : P.underlying t = some (.struct #[f0, f1, f2, f3, f4, f5, f6, f7])) (h : DataW.trod enc P w base spare held fuel t cs = some x) :
    ∃ (y0 y1 y2 y3 y4 y5 y6 y7 : DataW H × List MemPlace) (n : Nat), DataW.trod enc P w base spare held n f0.type ((cs.drop f0.offset).take (P.cellsOf f0.type)) = some y0 ∧ DataW.trod enc P w base spare held n f1.type ((cs.drop f1.offset).take (P.cellsOf f1.type)) = some y1 ∧ DataW.trod enc P w base spare held n f2.type ((cs.drop f2.offset).take (P.cellsOf f2.type)) = some y2 ∧ DataW.trod enc P w base spare held n f3.type ((cs.drop f3.offset).take (P.cellsOf f3.type)) = some y3 ∧ DataW.trod enc P w base spare held n f4.type ((cs.drop f4.offset).take (P.cellsOf f4.type)) = some y4 ∧ DataW.trod enc P w base spare held n f5.type ((cs.drop f5.offset).take (P.cellsOf f5.type)) = some y5 ∧ DataW.trod enc P w base spare held n f6.type ((cs.drop f6.offset).take (P.cellsOf f6.type)) = some y6 ∧ DataW.trod enc P w base spare held n f7.type ((cs.drop f7.offset).take (P.cellsOf f7.type)) = some y7 := by
  obtain ⟨xs, n, _, rfl, hl, hlen, hf⟩ := DataW.trod_struct ht h
  match xs, hlen with
  | [y0, y1, y2, y3, y4, y5, y6, y7], _ => exact ⟨y0, y1, y2, y3, y4, y5, y6, y7, n, by simpa using hf 0 f0 rfl, by simpa using hf 1 f1 rfl, by simpa using hf 2 f2 rfl, by simpa using hf 3 f3 rfl, by simpa using hf 4 f4 rfl, by simpa using hf 5 f5 rfl, by simpa using hf 6 f6 rfl, by simpa using hf 7 f7 rfl⟩
theorem trod_struct7 {H : Type} {enc : TypeId × Value → H} {P : Program} {w : World} {base : Nat} {spare : Nat → Bool} {held : Bool} {t : TypeId} {f0 f1 f2 f3 f4 f5 f6 : Field} {fuel : Nat} {cs : List Value} {x : DataW H × List MemPlace} (ht : P.underlying t = some (.struct #[f0, f1, f2, f3, f4, f5, f6])) (h : DataW.trod enc P w base spare held fuel t cs = some x) :
    ∃ (y0 y1 y2 y3 y4 y5 y6 : DataW H × List MemPlace) (n : Nat), DataW.trod enc P w base spare held n f0.type ((cs.drop f0.offset).take (P.cellsOf f0.type)) = some y0 ∧ DataW.trod enc P w base spare held n f1.type ((cs.drop f1.offset).take (P.cellsOf f1.type)) = some y1 ∧ DataW.trod enc P w base spare held n f2.type ((cs.drop f2.offset).take (P.cellsOf f2.type)) = some y2 ∧ DataW.trod enc P w base spare held n f3.type ((cs.drop f3.offset).take (P.cellsOf f3.type)) = some y3 ∧ DataW.trod enc P w base spare held n f4.type ((cs.drop f4.offset).take (P.cellsOf f4.type)) = some y4 ∧ DataW.trod enc P w base spare held n f5.type ((cs.drop f5.offset).take (P.cellsOf f5.type)) = some y5 ∧ DataW.trod enc P w base spare held n f6.type ((cs.drop f6.offset).take (P.cellsOf f6.type)) = some y6 := by
  obtain ⟨xs, n, _, rfl, hl, hlen, hf⟩ := DataW.trod_struct ht h
  match xs, hlen with
  | [y0, y1, y2, y3, y4, y5, y6], _ => exact ⟨y0, y1, y2, y3, y4, y5, y6, n, by simpa using hf 0 f0 rfl, by simpa using hf 1 f1 rfl, by simpa using hf 2 f2 rfl, by simpa using hf 3 f3 rfl, by simpa using hf 4 f4 rfl, by simpa using hf 5 f5 rfl, by simpa using hf 6 f6 rfl⟩
theorem cells_str : Try.prog.cellsOf 9 = 1 := by kernel_rfl
theorem cells_bool : Try.prog.cellsOf 4 = 1 := by kernel_rfl
theorem cells_ekind : Try.prog.cellsOf 41 = 1 := by kernel_rfl
theorem cells_until : Try.prog.cellsOf 49 = 7 := by kernel_rfl
end Go.Proofs.Ytghllibpcehmdaa
