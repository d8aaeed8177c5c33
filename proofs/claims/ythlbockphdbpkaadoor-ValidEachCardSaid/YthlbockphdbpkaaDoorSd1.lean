/- What is wanted of the texts behind: one behind the other, by program. -/
import Derived.Test.YthlbockphdbpkaaDoorProg
import Derived.Test.YthlbockphdbpkaaDoorSd0
import Derived.Test.YthlbockphdbpkaaDoorShelf
import Derived.Lib.Join
import Derived.Shelf.Abstract
import Init
import Derived.WalkKit
import Derived.Lib.Hide
import Derived.Deep.QuietTactic
import Derived.BigQuiet
import Derived.Outline
import Derived.Lib.ItoaNum
import Derived.Lib.Split
import Derived.LoopTactic
import Derived.Lib.LaidTab
import Derived.Lib.AppendIntMem
import Derived.LoopN
import Derived.Handy
import Derived.Deep.RegionHeld3
import Derived.Below
import Derived.ChangeSlices
import Derived.SliceStrings
import Derived.WideShapes
import Derived.Deep.Slices
import Derived.OpenShut
import Derived.Calls
import Derived.Lib.IndexMore
import Derived.Laws.IdiomStrings
import Derived.Laws.AppendOwn
import Derived.Lib.BufferWrite
import Derived.Deep.RegionLaw
import Derived.Lib.LazyBuf
import Derived.OwnWalk
import Derived.ChangeArms
import Derived.Deep.LoopGhost
import Derived.Scope
import Derived.ScopeJumps
import Derived.WalkMore
import Derived.Lib.BufferRead
import Derived.Laws.OwnMore
import Derived.Maps.AppendAt
import Derived.Deep.AppendLies
import Derived.Lib.AppendZeros
import Derived.Laws.AppendOwnNone
import Derived.Lib.SplitLaws
import Derived.Lib.SmallJoins
namespace Go.Proofs.YthlbockphdbpkaaDoor
open Go.RowKit
theorem so_parts {s : Src} (h : So.right s = true) : (s.rs.length ≤ 4096 ∧ s.zs.length ≤ 1024 ∧ s.ls.length ≤ 4096) ∧ (∀ r ∈ s.rs, Rl.right r = true) ∧ (∀ z ∈ s.zs, So.zone z = true) ∧ (∀ k ∈ s.ls, So.link k = true) := by
  unfold So.right at h
  simp only [Bool.and_eq_true, List.all_eq_true] at h
  exact ⟨of_decide_eq_true h.1, h.2.1, h.2.2.1, h.2.2.2⟩
theorem so_of {s : Src} (h0 : s.rs.length ≤ 4096 ∧ s.zs.length ≤ 1024 ∧ s.ls.length ≤ 4096) (h1 : ∀ r ∈ s.rs, Rl.right r = true) (h2 : ∀ z ∈ s.zs, So.zone z = true) (h3 : ∀ k ∈ s.ls, So.link k = true) : So.right s = true := by
  unfold So.right
  simp only [Bool.and_eq_true, List.all_eq_true]
  exact ⟨decide_eq_true h0, h1, h2, h3⟩
theorem zone_parts {z : Zn} (h : So.zone z = true) : Rl.name z.nm.data.toList = true ∧ (1 ≤ z.es.length ∧ z.es.length ≤ 64) ∧ (∀ e ∈ z.es, El.right e = true) ∧ So.ends z.es = true := by
  unfold So.zone So.eras at h
  simp only [Bool.and_eq_true, List.all_eq_true] at h
  exact ⟨h.1, of_decide_eq_true h.2.1, h.2.2.1, h.2.2.2⟩
end Go.Proofs.YthlbockphdbpkaaDoor
namespace Go.Proofs.YthlbockphdbpkaaDoor
open Go.RowKit
/-- How many fields a source's lines have. -/
def Er.cnt (l : List Er) : Nat := (l.map El.num).sum
def Zn.cnt (l : List Zn) : Nat := (l.map fun z => 2 + Er.cnt z.es).sum
def Src.cnt (s : Src) : Nat := 10 * s.rs.length + (Zn.cnt s.zs + 3 * s.ls.length)
/-- What is read has no more fields to be written than there were. -/
def St.cnt (s : St) : Nat := s.src.cnt + (match s.cur with | some z => 2 + Er.cnt z.es | none => 0)
end Go.Proofs.YthlbockphdbpkaaDoor
