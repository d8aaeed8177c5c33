/- What is wanted of the texts behind: a piece, by program. -/
import Derived.Test.YthlbockphdbpkaaDoorProg
import Derived.Test.YthlbockphdbpkaaDoorShelf
import Derived.Lib.Join
import Derived.Shelf.Abstract
import Init
import Derived.WalkKit
import Derived.Lib.Hide
import Derived.Deep.QuietTactic
import Derived.BigQuiet
import Derived.Outline
import Derived.Lib.ItoaNum
import Derived.Lib.Split
import Derived.LoopTactic
import Derived.Lib.LaidTab
import Derived.Lib.AppendIntMem
import Derived.LoopN
import Derived.Handy
import Derived.Deep.RegionHeld3
import Derived.Below
import Derived.ChangeSlices
import Derived.SliceStrings
import Derived.WideShapes
import Derived.Deep.Slices
import Derived.OpenShut
import Derived.Calls
import Derived.Lib.IndexMore
import Derived.Laws.IdiomStrings
import Derived.Laws.AppendOwn
import Derived.Lib.BufferWrite
import Derived.Deep.RegionLaw
import Derived.Lib.LazyBuf
import Derived.OwnWalk
import Derived.ChangeArms
import Derived.Deep.LoopGhost
import Derived.Scope
import Derived.ScopeJumps
import Derived.WalkMore
import Derived.Lib.BufferRead
import Derived.Laws.OwnMore
import Derived.Maps.AppendAt
import Derived.Deep.AppendLies
import Derived.Lib.AppendZeros
import Derived.Laws.AppendOwnNone
import Derived.Lib.SplitLaws
import Derived.Lib.SmallJoins
import Derived.Test.YthlbockphdbpkaaDoorSd0a
import Derived.Test.YthlbockphdbpkaaDoorSd0b
import Derived.Test.YthlbockphdbpkaaDoorSd0c
import Derived.Test.YthlbockphdbpkaaDoorSd0d
import Derived.Test.YthlbockphdbpkaaDoorSd0e
namespace Go.Proofs.YthlbockphdbpkaaDoor
open Go.RowKit
set_option maxRecDepth 100000
/-- Rows of texts stay as they are. -/
def KeepS (w w' : World) : Prop := ∀ (g : Nat) (cs : Array Value) (fr : Nat × Nat), w.heap[g]? = some (Obj.cells cs 9 fr) → w'.heap[g]? = some (Obj.cells cs 9 fr)
theorem KeepS.refl (w : World) : KeepS w w := fun _ _ _ h => h
theorem KeepS.trans {a b c : World} (h : KeepS a b) (k : KeepS b c) : KeepS a c := fun g cs fr x => k g cs fr (h g cs fr x)
theorem KeepS.alloc {a w : World} (h : KeepS a w) (o : Obj) : KeepS a (w.alloc o) := fun g cs fr k => by
  have k2 := h g cs fr k
  have hlt : g < w.heap.size := by
    rcases Nat.lt_or_ge g w.heap.size with h' | h'
    · exact h'
    · simp [Array.getElem?_eq_none h'] at k2
  rw [Lib.alloc_old w o g hlt]
  exact k2
theorem KeepS.grown {a w w' : World} {B : Nat} {v : Value} {n : Nat} {xs : List Value} (h : KeepS a w) (hown : w.ownsRow B 5 1 v n xs) (hg : w.grownBy w' v.ownBlock) : KeepS a w' := fun g cs fr k => by
  have k2 := h g cs fr k
  have hlt : g < w.heap.size := by
    rcases Nat.lt_or_ge g w.heap.size with h' | h'
    · exact h'
    · simp [Array.getElem?_eq_none h'] at k2
  have hne := Lib.ownBlock_ne hown k2 (by decide)
  rw [hg.block g hlt (fun e => hne e.symm)]
  exact k2
end Go.Proofs.YthlbockphdbpkaaDoor
namespace Go.Proofs.YthlbockphdbpkaaDoor
open Go.RowKit
/-- The first place at which p holds, or -1. -/
def fidx {α : Type} (p : α → Bool) : List α → Int
  | [] => -1
  | x :: l => if p x = true then 0 else if fidx p l = -1 then -1 else fidx p l + 1
theorem fidx_ge {α : Type} (p : α → Bool) : ∀ l : List α, -1 ≤ fidx p l ∧ fidx p l < l.length
  | [] => ⟨Int.le_refl _, by show (-1 : Int) < 0; decide⟩
  | x :: l => by
    have ih := fidx_ge p l
    unfold fidx
    rw [List.length_cons]
    split
    · omega
    · split <;> omega
theorem fidx_hit {α : Type} {p : α → Bool} : ∀ (l : List α) (k : Nat) (x : α), l[k]? = some x → p x = true → (∀ j y, j < k → l[j]? = some y → p y = false) → fidx p l = k
  | [], k, x, h, _, _ => by simp at h
  | y :: l, 0, x, h, hp, _ => by
    obtain rfl : y = x := by simpa using h
    unfold fidx
    rw [if_pos hp]
    rfl
  | y :: l, k + 1, x, h, hp, hb => by
    have ih := fidx_hit l k x (by simpa using h) hp (fun j z hj hz => hb (j + 1) z (by omega) (by simpa using hz))
    have h0 := hb 0 y (by omega) (by simp)
    unfold fidx
    rw [h0, if_neg (by decide), ih, if_neg (by omega)]
    omega
theorem fidx_miss {α : Type} {p : α → Bool} : ∀ (l : List α), (∀ j y, j < l.length → l[j]? = some y → p y = false) → fidx p l = -1
  | [], _ => rfl
  | y :: l, hb => by
    have ih := fidx_miss l (fun j z hj hz => hb (j + 1) z (by simpa using hj) (by simpa using hz))
    have h0 := hb 0 y (by simp) (by simp)
    unfold fidx
    rw [h0, if_neg (by decide), ih, if_pos rfl]
theorem fidx_any {α : Type} (p : α → Bool) : ∀ l : List α, l.any p = decide (0 ≤ fidx p l)
  | [] => rfl
  | x :: l => by
    have ih := fidx_any p l
    have hg := fidx_ge p l
    unfold fidx
    rw [List.any_cons, ih]
    cases p x with
    | true => rw [if_pos rfl]; rfl
    | false =>
      rw [if_neg (by decide)]
      by_cases h : fidx p l = -1
      · rw [if_pos h, h]; rfl
      · rw [if_neg h, Bool.false_or, Bool.eq_iff_iff, decide_eq_true_eq, decide_eq_true_eq]
        omega
set_option maxRecDepth 100000 in
set_option maxHeartbeats 1000000 in
theorem idx_rule (g : Nat) (eg : ∀ args w, (callFunc g args).run Tryd.prog w = .ok (.enter g args) w) (p : Ru → Bool) (A : Option Addr) (n c : Nat) (l : List Ru) (w : World) (hl : l.length = n) (hn : n ≤ 9223372036854775807) (hR : Rk w w.heap.size A (l.flatMap rcell))
    (hp : ∀ x ∈ l, ∀ W, Below w.heap.size w W → Calls Tryd.prog g #[.agg #[.string x.nm, .int .i64 x.fr, .int .i64 x.tl, .int .i64 x.m, .int .u8 x.k, .int .i64 x.n, .int .i64 x.d, .int .i64 x.s, .int .u8 x.c, .int .i64 x.sv, .string x.lt]] W fun e w' => e = .returned (.bool (p x)) ∧ Below W.heap.size W w') :
    Calls Tryd.prog 64 #[.slice A n c, .func (.func g) #[] #[]] w fun e w' => e = .returned (.int .i64 (fidx p l)) ∧ Below w.heap.size w w' := by
  have HR := Lib.hid hR
  have HP := Lib.hid hp
  have HL := Lib.hid hl
  clear hR hp hl
  go_enter Tryd.func64, Tryd.ntmps64
  go_wp2_with fail
  go_loopw [5, 8] (fun _ i wr => ∃ k : Nat, k ≤ n ∧ i = .int .i64 k ∧ Below w.heap.size w wr ∧ Hid (∀ j y, j < k → l[j]? = some y → p y = false)) (fun _ i _ => n - (intOf i).toNat)
  case atStart => exact ⟨0, Nat.zero_le _, rfl, Below.refl _ _, Lib.hid (fun j y h => absurd h (by omega))⟩
  case round =>
    obtain ⟨k, hk, rfl, hbw, hj⟩ := hrel
    by_cases hlt : k < n
    · obtain ⟨x, hx⟩ : ∃ x, l[k]? = some x := ⟨_, List.getElem?_eq_getElem (by rw [HL.out]; exact hlt)⟩
      obtain ⟨b, o, rfl, hb, hc⟩ := (HR.out.below hbw).at_ rcell_len (by decide) hx
      have HQ := Lib.hid (HP.out x (List.mem_of_getElem? hx) wr hbw)
      have HX := Lib.hid hx
      have c0 : wr.cell? ⟨b, o + k * 11, none⟩ = some (Value.string x.nm) := hc 0 _ rfl
      have c1 : wr.cell? ⟨b, o + k * 11 + 1, none⟩ = some (Value.int .i64 x.fr) := hc 1 _ rfl
      have c2 : wr.cell? ⟨b, o + k * 11 + 2, none⟩ = some (Value.int .i64 x.tl) := hc 2 _ rfl
      have c3 : wr.cell? ⟨b, o + k * 11 + 3, none⟩ = some (Value.int .i64 x.m) := hc 3 _ rfl
      have c4 : wr.cell? ⟨b, o + k * 11 + 4, none⟩ = some (Value.int .u8 x.k) := hc 4 _ rfl
      have c5 : wr.cell? ⟨b, o + k * 11 + 5, none⟩ = some (Value.int .i64 x.n) := hc 5 _ rfl
      have c6 : wr.cell? ⟨b, o + k * 11 + 6, none⟩ = some (Value.int .i64 x.d) := hc 6 _ rfl
      have c7 : wr.cell? ⟨b, o + k * 11 + 7, none⟩ = some (Value.int .i64 x.s) := hc 7 _ rfl
      have c8 : wr.cell? ⟨b, o + k * 11 + 8, none⟩ = some (Value.int .u8 x.c) := hc 8 _ rfl
      have c9 : wr.cell? ⟨b, o + k * 11 + 9, none⟩ = some (Value.int .i64 x.sv) := hc 9 _ rfl
      have c10 : wr.cell? ⟨b, o + k * 11 + 10, none⟩ = some (Value.string x.lt) := hc 10 _ rfl
      clear hc hx
      cases hpx : p x with
      | true =>
        rw [hpx] at HQ
        have HPX := Lib.hid hpx
        clear hpx
        go_wp2_with (go_at_fn g; refine HQ.out.mono ?_; rintro e w1 ⟨rfl, b1⟩)
        go_ret
        exact ⟨ret_int (fidx_hit l k x HX.out HPX.out hj.out).symm, hbw.trans (b1.mono hbw.size)⟩
      | false =>
        rw [hpx] at HQ
        have HPX := Lib.hid hpx
        clear hpx
        go_wp2_with (go_at_fn g; refine HQ.out.mono ?_; rintro e w1 ⟨rfl, b1⟩)
        go_roundw
        case rel =>
          refine ⟨k + 1, by omega, by go_num, hbw.trans (b1.mono hbw.size), Lib.hid (fun j y hj2 hy => ?_)⟩
          rcases Nat.lt_or_ge j k with h | h
          · exact hj.out j y h hy
          · obtain rfl : j = k := by omega
            have := HX.out
            rw [this] at hy
            injection hy with hy
            subst hy
            exact HPX.out
        case measure => simp [intOf]; omega
    · obtain rfl : k = n := by omega
      go_wp2_with fail
      go_ret
      exact ⟨ret_int (fidx_miss l (fun j y hj2 hy => hj.out j y (by have := HL.out; omega) hy)).symm, hbw⟩
theorem has_rule (g : Nat) (eg : ∀ args w, (callFunc g args).run Tryd.prog w = .ok (.enter g args) w) (p : Ru → Bool) (A : Option Addr) (n c : Nat) (l : List Ru) (w : World) (hl : l.length = n) (hn : n ≤ 9223372036854775807) (hR : Rk w w.heap.size A (l.flatMap rcell))
    (hp : ∀ x ∈ l, ∀ W, Below w.heap.size w W → Calls Tryd.prog g #[.agg #[.string x.nm, .int .i64 x.fr, .int .i64 x.tl, .int .i64 x.m, .int .u8 x.k, .int .i64 x.n, .int .i64 x.d, .int .i64 x.s, .int .u8 x.c, .int .i64 x.sv, .string x.lt]] W fun e w' => e = .returned (.bool (p x)) ∧ Below W.heap.size W w') (v : Bool) (hv : l.any p = v) :
    Calls Tryd.prog 46 #[.slice A n c, .func (.func g) #[] #[]] w fun e w' => e = .returned (.bool v) ∧ Below w.heap.size w w' := by
  subst hv
  have H := Lib.hid (idx_rule g eg p A n c l w hl hn hR hp)
  rw [fidx_any]
  have h1 := fidx_ge p l
  have h2 : fidx p l < n := by omega
  clear hl hR hp
  generalize fidx p l = v at *
  go_enter Tryd.func46, Tryd.ntmps46
  go_wp2_with fail
  refine H.out.mono ?_
  rintro e w1 ⟨rfl, b1⟩
  go_wp2_with fail
  go_ret
  exact ⟨rfl, b1⟩
set_option maxRecDepth 100000 in
set_option maxHeartbeats 1000000 in
theorem idx_zone (g : Nat) (eg : ∀ args w, (callFunc g args).run Tryd.prog w = .ok (.enter g args) w) (p : Zd → Bool) (A : Option Addr) (n c : Nat) (l : List Zd) (w : World) (hl : l.length = n) (hn : n ≤ 9223372036854775807) (hR : Rk w w.heap.size A (l.flatMap zcell))
    (hp : ∀ x ∈ l, ∀ W, Below w.heap.size w W → Calls Tryd.prog g #[.agg #[.string x.nm, .slice x.A x.es.length x.c]] W fun e w' => e = .returned (.bool (p x)) ∧ Below W.heap.size W w') :
    Calls Tryd.prog 65 #[.slice A n c, .func (.func g) #[] #[]] w fun e w' => e = .returned (.int .i64 (fidx p l)) ∧ Below w.heap.size w w' := by
  have HR := Lib.hid hR
  have HP := Lib.hid hp
  have HL := Lib.hid hl
  clear hR hp hl
  go_enter Tryd.func65, Tryd.ntmps65
  go_wp2_with fail
  go_loopw [5, 8] (fun _ i wr => ∃ k : Nat, k ≤ n ∧ i = .int .i64 k ∧ Below w.heap.size w wr ∧ Hid (∀ j y, j < k → l[j]? = some y → p y = false)) (fun _ i _ => n - (intOf i).toNat)
  case atStart => exact ⟨0, Nat.zero_le _, rfl, Below.refl _ _, Lib.hid (fun j y h => absurd h (by omega))⟩
  case round =>
    obtain ⟨k, hk, rfl, hbw, hj⟩ := hrel
    by_cases hlt : k < n
    · obtain ⟨x, hx⟩ : ∃ x, l[k]? = some x := ⟨_, List.getElem?_eq_getElem (by rw [HL.out]; exact hlt)⟩
      obtain ⟨b, o, rfl, hb, hc⟩ := (HR.out.below hbw).at_ zcell_len (by decide) hx
      have HQ := Lib.hid (HP.out x (List.mem_of_getElem? hx) wr hbw)
      have HX := Lib.hid hx
      have c0 : wr.cell? ⟨b, o + k * 2, none⟩ = some (Value.string x.nm) := hc 0 _ rfl
      have c1 : wr.cell? ⟨b, o + k * 2 + 1, none⟩ = some (Value.slice x.A x.es.length x.c) := hc 1 _ rfl
      clear hc hx
      cases hpx : p x with
      | true =>
        rw [hpx] at HQ
        have HPX := Lib.hid hpx
        clear hpx
        go_wp2_with (go_at_fn g; refine HQ.out.mono ?_; rintro e w1 ⟨rfl, b1⟩)
        go_ret
        exact ⟨ret_int (fidx_hit l k x HX.out HPX.out hj.out).symm, hbw.trans (b1.mono hbw.size)⟩
      | false =>
        rw [hpx] at HQ
        have HPX := Lib.hid hpx
        clear hpx
        go_wp2_with (go_at_fn g; refine HQ.out.mono ?_; rintro e w1 ⟨rfl, b1⟩)
        go_roundw
        case rel =>
          refine ⟨k + 1, by omega, by go_num, hbw.trans (b1.mono hbw.size), Lib.hid (fun j y hj2 hy => ?_)⟩
          rcases Nat.lt_or_ge j k with h | h
          · exact hj.out j y h hy
          · obtain rfl : j = k := by omega
            have := HX.out
            rw [this] at hy
            injection hy with hy
            subst hy
            exact HPX.out
        case measure => simp [intOf]; omega
    · obtain rfl : k = n := by omega
      go_wp2_with fail
      go_ret
      exact ⟨ret_int (fidx_miss l (fun j y hj2 hy => hj.out j y (by have := HL.out; omega) hy)).symm, hbw⟩
theorem has_zone (g : Nat) (eg : ∀ args w, (callFunc g args).run Tryd.prog w = .ok (.enter g args) w) (p : Zd → Bool) (A : Option Addr) (n c : Nat) (l : List Zd) (w : World) (hl : l.length = n) (hn : n ≤ 9223372036854775807) (hR : Rk w w.heap.size A (l.flatMap zcell))
    (hp : ∀ x ∈ l, ∀ W, Below w.heap.size w W → Calls Tryd.prog g #[.agg #[.string x.nm, .slice x.A x.es.length x.c]] W fun e w' => e = .returned (.bool (p x)) ∧ Below W.heap.size W w') (v : Bool) (hv : l.any p = v) :
    Calls Tryd.prog 47 #[.slice A n c, .func (.func g) #[] #[]] w fun e w' => e = .returned (.bool v) ∧ Below w.heap.size w w' := by
  subst hv
  have H := Lib.hid (idx_zone g eg p A n c l w hl hn hR hp)
  rw [fidx_any]
  have h1 := fidx_ge p l
  have h2 : fidx p l < n := by omega
  clear hl hR hp
  generalize fidx p l = v at *
  go_enter Tryd.func47, Tryd.ntmps47
  go_wp2_with fail
  refine H.out.mono ?_
  rintro e w1 ⟨rfl, b1⟩
  go_wp2_with fail
  go_ret
  exact ⟨rfl, b1⟩
set_option maxRecDepth 100000 in
set_option maxHeartbeats 1000000 in
theorem idx_link (g : Nat) (eg : ∀ args w, (callFunc g args).run Tryd.prog w = .ok (.enter g args) w) (p : Lk → Bool) (A : Option Addr) (n c : Nat) (l : List Lk) (w : World) (hl : l.length = n) (hn : n ≤ 9223372036854775807) (hR : Rk w w.heap.size A (l.flatMap lcell))
    (hp : ∀ x ∈ l, ∀ W, Below w.heap.size w W → Calls Tryd.prog g #[.agg #[.string x.tg, .string x.nm]] W fun e w' => e = .returned (.bool (p x)) ∧ Below W.heap.size W w') :
    Calls Tryd.prog 66 #[.slice A n c, .func (.func g) #[] #[]] w fun e w' => e = .returned (.int .i64 (fidx p l)) ∧ Below w.heap.size w w' := by
  have HR := Lib.hid hR
  have HP := Lib.hid hp
  have HL := Lib.hid hl
  clear hR hp hl
  go_enter Tryd.func66, Tryd.ntmps66
  go_wp2_with fail
  go_loopw [5, 8] (fun _ i wr => ∃ k : Nat, k ≤ n ∧ i = .int .i64 k ∧ Below w.heap.size w wr ∧ Hid (∀ j y, j < k → l[j]? = some y → p y = false)) (fun _ i _ => n - (intOf i).toNat)
  case atStart => exact ⟨0, Nat.zero_le _, rfl, Below.refl _ _, Lib.hid (fun j y h => absurd h (by omega))⟩
  case round =>
    obtain ⟨k, hk, rfl, hbw, hj⟩ := hrel
    by_cases hlt : k < n
    · obtain ⟨x, hx⟩ : ∃ x, l[k]? = some x := ⟨_, List.getElem?_eq_getElem (by rw [HL.out]; exact hlt)⟩
      obtain ⟨b, o, rfl, hb, hc⟩ := (HR.out.below hbw).at_ lcell_len (by decide) hx
      have HQ := Lib.hid (HP.out x (List.mem_of_getElem? hx) wr hbw)
      have HX := Lib.hid hx
      have c0 : wr.cell? ⟨b, o + k * 2, none⟩ = some (Value.string x.tg) := hc 0 _ rfl
      have c1 : wr.cell? ⟨b, o + k * 2 + 1, none⟩ = some (Value.string x.nm) := hc 1 _ rfl
      clear hc hx
      cases hpx : p x with
      | true =>
        rw [hpx] at HQ
        have HPX := Lib.hid hpx
        clear hpx
        go_wp2_with (go_at_fn g; refine HQ.out.mono ?_; rintro e w1 ⟨rfl, b1⟩)
        go_ret
        exact ⟨ret_int (fidx_hit l k x HX.out HPX.out hj.out).symm, hbw.trans (b1.mono hbw.size)⟩
      | false =>
        rw [hpx] at HQ
        have HPX := Lib.hid hpx
        clear hpx
        go_wp2_with (go_at_fn g; refine HQ.out.mono ?_; rintro e w1 ⟨rfl, b1⟩)
        go_roundw
        case rel =>
          refine ⟨k + 1, by omega, by go_num, hbw.trans (b1.mono hbw.size), Lib.hid (fun j y hj2 hy => ?_)⟩
          rcases Nat.lt_or_ge j k with h | h
          · exact hj.out j y h hy
          · obtain rfl : j = k := by omega
            have := HX.out
            rw [this] at hy
            injection hy with hy
            subst hy
            exact HPX.out
        case measure => simp [intOf]; omega
    · obtain rfl : k = n := by omega
      go_wp2_with fail
      go_ret
      exact ⟨ret_int (fidx_miss l (fun j y hj2 hy => hj.out j y (by have := HL.out; omega) hy)).symm, hbw⟩
theorem has_link (g : Nat) (eg : ∀ args w, (callFunc g args).run Tryd.prog w = .ok (.enter g args) w) (p : Lk → Bool) (A : Option Addr) (n c : Nat) (l : List Lk) (w : World) (hl : l.length = n) (hn : n ≤ 9223372036854775807) (hR : Rk w w.heap.size A (l.flatMap lcell))
    (hp : ∀ x ∈ l, ∀ W, Below w.heap.size w W → Calls Tryd.prog g #[.agg #[.string x.tg, .string x.nm]] W fun e w' => e = .returned (.bool (p x)) ∧ Below W.heap.size W w') (v : Bool) (hv : l.any p = v) :
    Calls Tryd.prog 48 #[.slice A n c, .func (.func g) #[] #[]] w fun e w' => e = .returned (.bool v) ∧ Below w.heap.size w w' := by
  subst hv
  have H := Lib.hid (idx_link g eg p A n c l w hl hn hR hp)
  rw [fidx_any]
  have h1 := fidx_ge p l
  have h2 : fidx p l < n := by omega
  clear hl hR hp
  generalize fidx p l = v at *
  go_enter Tryd.func48, Tryd.ntmps48
  go_wp2_with fail
  refine H.out.mono ?_
  rintro e w1 ⟨rfl, b1⟩
  go_wp2_with fail
  go_ret
  exact ⟨rfl, b1⟩
set_option maxRecDepth 100000 in
set_option maxHeartbeats 1000000 in
theorem idx_era (g : Nat) (eg : ∀ args w, (callFunc g args).run Tryd.prog w = .ok (.enter g args) w) (p : Er → Bool) (A : Option Addr) (n c : Nat) (l : List Er) (w : World) (hl : l.length = n) (hn : n ≤ 9223372036854775807) (hR : Rk w w.heap.size A (l.flatMap ecell))
    (hp : ∀ x ∈ l, ∀ W, Below w.heap.size w W → Calls Tryd.prog g #[.agg #[.int .i64 x.sd, .int .u8 x.k, .int .i64 x.sv, .string x.ru, .string x.fm, .bool x.en, .int .i64 x.u.y, .int .i64 x.u.m, .int .u8 x.u.k, .int .i64 x.u.n, .int .i64 x.u.d, .int .i64 x.u.s, .int .u8 x.u.c]] W fun e w' => e = .returned (.bool (p x)) ∧ Below W.heap.size W w') :
    Calls Tryd.prog 63 #[.slice A n c, .func (.func g) #[] #[]] w fun e w' => e = .returned (.int .i64 (fidx p l)) ∧ Below w.heap.size w w' := by
  have HR := Lib.hid hR
  have HP := Lib.hid hp
  have HL := Lib.hid hl
  clear hR hp hl
  go_enter Tryd.func63, Tryd.ntmps63
  go_wp2_with fail
  go_loopw [5, 8] (fun _ i wr => ∃ k : Nat, k ≤ n ∧ i = .int .i64 k ∧ Below w.heap.size w wr ∧ Hid (∀ j y, j < k → l[j]? = some y → p y = false)) (fun _ i _ => n - (intOf i).toNat)
  case atStart => exact ⟨0, Nat.zero_le _, rfl, Below.refl _ _, Lib.hid (fun j y h => absurd h (by omega))⟩
  case round =>
    obtain ⟨k, hk, rfl, hbw, hj⟩ := hrel
    by_cases hlt : k < n
    · obtain ⟨x, hx⟩ : ∃ x, l[k]? = some x := ⟨_, List.getElem?_eq_getElem (by rw [HL.out]; exact hlt)⟩
      obtain ⟨b, o, rfl, hb, hc⟩ := (HR.out.below hbw).at_ ecell_len (by decide) hx
      have HQ := Lib.hid (HP.out x (List.mem_of_getElem? hx) wr hbw)
      have HX := Lib.hid hx
      have c0 : wr.cell? ⟨b, o + k * 13, none⟩ = some (Value.int .i64 x.sd) := hc 0 _ rfl
      have c1 : wr.cell? ⟨b, o + k * 13 + 1, none⟩ = some (Value.int .u8 x.k) := hc 1 _ rfl
      have c2 : wr.cell? ⟨b, o + k * 13 + 2, none⟩ = some (Value.int .i64 x.sv) := hc 2 _ rfl
      have c3 : wr.cell? ⟨b, o + k * 13 + 3, none⟩ = some (Value.string x.ru) := hc 3 _ rfl
      have c4 : wr.cell? ⟨b, o + k * 13 + 4, none⟩ = some (Value.string x.fm) := hc 4 _ rfl
      have c5 : wr.cell? ⟨b, o + k * 13 + 5, none⟩ = some (Value.bool x.en) := hc 5 _ rfl
      have c6 : wr.cell? ⟨b, o + k * 13 + 6, none⟩ = some (Value.int .i64 x.u.y) := hc 6 _ rfl
      have c7 : wr.cell? ⟨b, o + k * 13 + 7, none⟩ = some (Value.int .i64 x.u.m) := hc 7 _ rfl
      have c8 : wr.cell? ⟨b, o + k * 13 + 8, none⟩ = some (Value.int .u8 x.u.k) := hc 8 _ rfl
      have c9 : wr.cell? ⟨b, o + k * 13 + 9, none⟩ = some (Value.int .i64 x.u.n) := hc 9 _ rfl
      have c10 : wr.cell? ⟨b, o + k * 13 + 10, none⟩ = some (Value.int .i64 x.u.d) := hc 10 _ rfl
      have c11 : wr.cell? ⟨b, o + k * 13 + 11, none⟩ = some (Value.int .i64 x.u.s) := hc 11 _ rfl
      have c12 : wr.cell? ⟨b, o + k * 13 + 12, none⟩ = some (Value.int .u8 x.u.c) := hc 12 _ rfl
      clear hc hx
      cases hpx : p x with
      | true =>
        rw [hpx] at HQ
        have HPX := Lib.hid hpx
        clear hpx
        go_wp2_with (go_at_fn g; refine HQ.out.mono ?_; rintro e w1 ⟨rfl, b1⟩)
        go_ret
        exact ⟨ret_int (fidx_hit l k x HX.out HPX.out hj.out).symm, hbw.trans (b1.mono hbw.size)⟩
      | false =>
        rw [hpx] at HQ
        have HPX := Lib.hid hpx
        clear hpx
        go_wp2_with (go_at_fn g; refine HQ.out.mono ?_; rintro e w1 ⟨rfl, b1⟩)
        go_roundw
        case rel =>
          refine ⟨k + 1, by omega, by go_num, hbw.trans (b1.mono hbw.size), Lib.hid (fun j y hj2 hy => ?_)⟩
          rcases Nat.lt_or_ge j k with h | h
          · exact hj.out j y h hy
          · obtain rfl : j = k := by omega
            have := HX.out
            rw [this] at hy
            injection hy with hy
            subst hy
            exact HPX.out
        case measure => simp [intOf]; omega
    · obtain rfl : k = n := by omega
      go_wp2_with fail
      go_ret
      exact ⟨ret_int (fidx_miss l (fun j y hj2 hy => hj.out j y (by have := HL.out; omega) hy)).symm, hbw⟩
theorem has_era (g : Nat) (eg : ∀ args w, (callFunc g args).run Tryd.prog w = .ok (.enter g args) w) (p : Er → Bool) (A : Option Addr) (n c : Nat) (l : List Er) (w : World) (hl : l.length = n) (hn : n ≤ 9223372036854775807) (hR : Rk w w.heap.size A (l.flatMap ecell))
    (hp : ∀ x ∈ l, ∀ W, Below w.heap.size w W → Calls Tryd.prog g #[.agg #[.int .i64 x.sd, .int .u8 x.k, .int .i64 x.sv, .string x.ru, .string x.fm, .bool x.en, .int .i64 x.u.y, .int .i64 x.u.m, .int .u8 x.u.k, .int .i64 x.u.n, .int .i64 x.u.d, .int .i64 x.u.s, .int .u8 x.u.c]] W fun e w' => e = .returned (.bool (p x)) ∧ Below W.heap.size W w') (v : Bool) (hv : l.any p = v) :
    Calls Tryd.prog 62 #[.slice A n c, .func (.func g) #[] #[]] w fun e w' => e = .returned (.bool v) ∧ Below w.heap.size w w' := by
  subst hv
  have H := Lib.hid (idx_era g eg p A n c l w hl hn hR hp)
  rw [fidx_any]
  have h1 := fidx_ge p l
  have h2 : fidx p l < n := by omega
  clear hl hR hp
  generalize fidx p l = v at *
  go_enter Tryd.func62, Tryd.ntmps62
  go_wp2_with fail
  refine H.out.mono ?_
  rintro e w1 ⟨rfl, b1⟩
  go_wp2_with fail
  go_ret
  exact ⟨rfl, b1⟩
end Go.Proofs.YthlbockphdbpkaaDoor
namespace Go.Proofs.YthlbockphdbpkaaDoor
open Go.RowKit Go.Shelf
theorem enters_rule : ∀ args w, (callFunc 42 args).run Tryd.prog w = .ok (.enter 42 args) w := enters_of Tryd.func42 (by kernel_rfl) rfl
theorem enters_zone : ∀ args w, (callFunc 43 args).run Tryd.prog w = .ok (.enter 43 args) w := enters_of Tryd.func43 (by kernel_rfl) rfl
theorem enters_link : ∀ args w, (callFunc 45 args).run Tryd.prog w = .ok (.enter 45 args) w := enters_of Tryd.func45 (by kernel_rfl) rfl
theorem enters_era : ∀ args w, (callFunc 59 args).run Tryd.prog w = .ok (.enter 59 args) w := enters_of Tryd.func59 (by kernel_rfl) rfl
theorem enters_end : ∀ args w, (callFunc 61 args).run Tryd.prog w = .ok (.enter 61 args) w := enters_of Tryd.func61 (by kernel_rfl) rfl
theorem wrongRule_any (x : Ru) (w : World) (hs : x.nm.size ≤ 9223372036854775807) :
    Calls Tryd.prog 42 #[.agg #[.string x.nm, .int .i64 x.fr, .int .i64 x.tl, .int .i64 x.m, .int .u8 x.k, .int .i64 x.n, .int .i64 x.d, .int .i64 x.s, .int .u8 x.c, .int .i64 x.sv, .string x.lt]] w fun e w' => e = .returned (.bool (!Rl.right x)) ∧ Below w.heap.size w w' := by
  cases h : Rl.right x with
  | true =>
    have H := Lib.hid (fun W => rcheck_is x true W hs h)
    clear h
    go_enter Tryd.func42, Tryd.ntmps42
    go_wp2_with fail
    refine (H.out _).mono ?_
    rintro e w1 ⟨rfl, b1⟩
    go_wp2_with fail
    go_ret
    exact ⟨rfl, ((Below.refl _ _).alloc (Nat.le_refl _) _).trans (b1.mono (by simp))⟩
  | false =>
    have H := Lib.hid (fun W => rcheck_is x false W hs h)
    clear h
    go_enter Tryd.func42, Tryd.ntmps42
    go_wp2_with fail
    refine (H.out _).mono ?_
    rintro e w1 ⟨rfl, b1⟩
    go_wp2_with fail
    go_ret
    exact ⟨rfl, ((Below.refl _ _).alloc (Nat.le_refl _) _).trans (b1.mono (by simp))⟩
theorem wrongEra_any (x : Er) (w : World) (hE : Ev w) (hs : x.ru.size ≤ 9223372036854775807) :
    Calls Tryd.prog 59 #[.agg #[.int .i64 x.sd, .int .u8 x.k, .int .i64 x.sv, .string x.ru, .string x.fm, .bool x.en, .int .i64 x.u.y, .int .i64 x.u.m, .int .u8 x.u.k, .int .i64 x.u.n, .int .i64 x.u.d, .int .i64 x.u.s, .int .u8 x.u.c]] w fun e w' => e = .returned (.bool (!El.right x)) ∧ Below w.heap.size w w' := by
  cases h : El.right x with
  | true =>
    have H := Lib.hid (fun W (hE : Ev W) => echeck_is x true W hE hs h)
    have HE := Lib.hid (hE.below ((Below.refl _ _).alloc (Nat.le_refl _) (.cells #[.int .i64 x.sd, .int .u8 x.k, .int .i64 x.sv, .string x.ru, .string x.fm, .bool x.en, .int .i64 x.u.y, .int .i64 x.u.m, .int .u8 x.u.k, .int .i64 x.u.n, .int .i64 x.u.d, .int .i64 x.u.s, .int .u8 x.u.c] 50)))
    clear h hE
    go_enter Tryd.func59, Tryd.ntmps59
    go_wp2_with fail
    refine (H.out _ HE.out).mono ?_
    rintro e w1 ⟨rfl, b1⟩
    go_wp2_with fail
    go_ret
    exact ⟨rfl, ((Below.refl _ _).alloc (Nat.le_refl _) _).trans (b1.mono (by simp))⟩
  | false =>
    have H := Lib.hid (fun W (hE : Ev W) => echeck_is x false W hE hs h)
    have HE := Lib.hid (hE.below ((Below.refl _ _).alloc (Nat.le_refl _) (.cells #[.int .i64 x.sd, .int .u8 x.k, .int .i64 x.sv, .string x.ru, .string x.fm, .bool x.en, .int .i64 x.u.y, .int .i64 x.u.m, .int .u8 x.u.k, .int .i64 x.u.n, .int .i64 x.u.d, .int .i64 x.u.s, .int .u8 x.u.c] 50)))
    clear h hE
    go_enter Tryd.func59, Tryd.ntmps59
    go_wp2_with fail
    refine (H.out _ HE.out).mono ?_
    rintro e w1 ⟨rfl, b1⟩
    go_wp2_with fail
    go_ret
    exact ⟨rfl, ((Below.refl _ _).alloc (Nat.le_refl _) _).trans (b1.mono (by simp))⟩
theorem endless_any (x : Er) (w : World) :
    Calls Tryd.prog 61 #[.agg #[.int .i64 x.sd, .int .u8 x.k, .int .i64 x.sv, .string x.ru, .string x.fm, .bool x.en, .int .i64 x.u.y, .int .i64 x.u.m, .int .u8 x.u.k, .int .i64 x.u.n, .int .i64 x.u.d, .int .i64 x.u.s, .int .u8 x.u.c]] w fun e w' => e = .returned (.bool (!x.en)) ∧ Below w.heap.size w w' := by
  go_enter Tryd.func61, Tryd.ntmps61
  go_wp2_with fail
  go_ret
  exact ⟨rfl, (Below.refl _ _).alloc (Nat.le_refl _) _⟩
theorem fidx_ends : ∀ l : List Er, l ≠ [] → decide (fidx (fun e => !e.en) l = (l.length : Int) - 1) = So.ends l
  | [], h => absurd rfl h
  | e :: l, _ => by
    unfold So.ends fidx
    rw [List.length_cons]
    by_cases hl : l = []
    · subst hl
      rw [if_pos rfl]
      cases e.en <;> rfl
    · rw [if_neg hl]
      have ih := fidx_ends l hl
      have hg := fidx_ge (fun e : Er => !e.en) l
      have hp := List.length_pos_iff.2 hl
      cases e.en with
      | false =>
        rw [if_pos (show (!false) = true from rfl), Bool.false_and, decide_eq_false_iff_not]
        omega
      | true =>
        rw [if_neg (show ¬ (!true) = true by decide), Bool.true_and, ← ih, Bool.eq_iff_iff, decide_eq_true_eq, decide_eq_true_eq]
        split <;> omega
theorem all_not_any {α : Type} (p : α → Bool) (l : List α) : l.any (fun x => !p x) = !(l.all p) := by
  induction l with
  | nil => rfl
  | cons x l ih => rw [List.any_cons, List.all_cons, ih, Bool.not_and]
set_option maxRecDepth 100000 in
set_option maxHeartbeats 1000000 in
theorem areEras_any (A : Option Addr) (n c : Nat) (l : List Er) (w : World) (hE : Ev w) (hl : l.length = n) (hn : n ≤ 9223372036854775807) (hR : Rk w w.heap.size A (l.flatMap ecell)) (hs : ∀ e ∈ l, e.ru.size ≤ 9223372036854775807) :
    Calls Tryd.prog 44 #[.slice A n c] w fun e w' => e = .returned (.bool (So.eras l)) ∧ Below w.heap.size w w' := by
  by_cases h0 : n < 1
  · have hv : So.eras l = false := by
      unfold So.eras
      rw [show decide (1 ≤ l.length ∧ l.length ≤ 64) = false by rw [decide_eq_false_iff_not]; omega]
      rfl
    rw [hv]
    clear hv hR hs hE hl
    go_enter Tryd.func44, Tryd.ntmps44
    go_wp2_with fail
    go_ret
    exact ⟨rfl, Below.refl _ _⟩
  · by_cases h64 : 64 < n
    · have hv : So.eras l = false := by
        unfold So.eras
        rw [show decide (1 ≤ l.length ∧ l.length ≤ 64) = false by rw [decide_eq_false_iff_not]; omega]
        rfl
      rw [hv]
      clear hv hR hs hE hl
      go_enter Tryd.func44, Tryd.ntmps44
      go_wp2_with fail
      go_ret
      exact ⟨rfl, Below.refl _ _⟩
    · have hne : l ≠ [] := by
        rintro rfl
        have : n = 0 := hl.symm
        omega
      have hv : So.eras l = (l.all El.right && So.ends l) := by
        unfold So.eras
        rw [show decide (1 ≤ l.length ∧ l.length ≤ 64) = true by rw [decide_eq_true_eq]; omega]
        rfl
      have hen := fidx_ends l hne
      rw [hl] at hen
      have hg := fidx_ge (fun e : Er => !e.en) l
      rw [hl] at hg
      have H1 := Lib.hid (has_era 59 enters_era (fun e => !El.right e) A n c l w hl hn hR (fun x hx W hb => wrongEra_any x W (hE.below hb) (hs x hx)) (!(l.all El.right)) (all_not_any _ _))
      have H2 := Lib.hid (fun W (hb : Below w.heap.size w W) => idx_era 61 enters_end (fun e => !e.en) A n c l W hl hn (hR.on hb) (fun x _ W _ => endless_any x W))
      rw [hv, ← hen]
      clear hv hen hR hs hE hl hne
      generalize fidx (fun e : Er => !e.en) l = v at *
      cases hall : l.all El.right with
      | false =>
        rw [hall] at H1
        clear hall H2
        go_enter Tryd.func44, Tryd.ntmps44
        go_wp2_with fail
        refine H1.out.mono ?_
        rintro e w1 ⟨rfl, b1⟩
        go_wp2_with fail
        go_ret
        exact ⟨rfl, b1⟩
      | true =>
        rw [hall] at H1
        clear hall
        go_enter Tryd.func44, Tryd.ntmps44
        go_wp2_with fail
        refine H1.out.mono ?_
        rintro e w1 ⟨rfl, b1⟩
        go_wp2_with fail
        refine (H2.out _ b1).mono ?_
        rintro e w2 ⟨rfl, b2⟩
        have a2 := b1.trans (b2.mono b1.size)
        clear H1 H2 b1 b2
        go_wp2_with fail
        go_ret
        exact ⟨ret_bool (by rw [Bool.true_and, Bool.eq_iff_iff]; simp), a2⟩
theorem box_below (w : World) (o : Obj) : Below w.heap.size w (w.alloc o) := (Below.refl _ _).alloc (Nat.le_refl _) o
theorem wrongZone_any (x : Zd) (w : World) (hE : Ev w) (hs : x.nm.size ≤ 9223372036854775807) (hn : x.es.length ≤ 9223372036854775807) (hR : Rk w w.heap.size x.A (x.es.flatMap ecell)) (hz : ∀ e ∈ x.es, e.ru.size ≤ 9223372036854775807) :
    Calls Tryd.prog 43 #[.agg #[.string x.nm, .slice x.A x.es.length x.c]] w fun e w' => e = .returned (.bool (!So.zone x.zn)) ∧ Below w.heap.size w w' := by
  have hb := box_below w (.cells #[.string x.nm, .slice x.A x.es.length x.c] 37)
  have H2 := Lib.hid (areEras_any x.A x.es.length x.c x.es _ (hE.below hb) rfl hn (hR.on hb) hz)
  have H1 := Lib.hid (fun v (h : Rl.name x.nm.data.toList = v) W => rname_is x.nm v W hs h)
  have e0 : So.zone x.zn = (Rl.name x.nm.data.toList && So.eras x.es) := rfl
  rw [e0]
  have HB := Lib.hid hb
  clear hE hR hz e0 hb
  cases h : Rl.name x.nm.data.toList with
  | false =>
    have HN := Lib.hid h
    clear h H2
    go_enter Tryd.func43, Tryd.ntmps43
    go_wp2_with fail
    refine (H1.out _ HN.out _).mono ?_
    rintro e w' ⟨rfl, rfl⟩
    go_wp2_with fail
    go_ret
    exact ⟨rfl, HB.out⟩
  | true =>
    have HN := Lib.hid h
    clear h
    generalize So.eras x.es = v at *
    go_enter Tryd.func43, Tryd.ntmps43
    go_wp2_with fail
    refine (H1.out _ HN.out _).mono ?_
    rintro e w' ⟨rfl, rfl⟩
    go_wp2_with fail
    refine H2.out.mono ?_
    rintro e w2 ⟨rfl, b2⟩
    have a2 := HB.out.trans (b2.mono (by simp))
    clear H1 H2 b2
    go_wp2_with fail
    go_ret
    exact ⟨rfl, a2⟩
theorem wrongLink_any (x : Lk) (w : World) (hs : x.tg.size ≤ 9223372036854775807) (hn : x.nm.size ≤ 9223372036854775807) :
    Calls Tryd.prog 45 #[.agg #[.string x.tg, .string x.nm]] w fun e w' => e = .returned (.bool (!So.link x)) ∧ Below w.heap.size w w' := by
  have H1 := Lib.hid (fun v (h : Rl.name x.tg.data.toList = v) W => rname_is x.tg v W hs h)
  have H2 := Lib.hid (fun v (h : Rl.name x.nm.data.toList = v) W => rname_is x.nm v W hn h)
  have e0 : So.link x = (Rl.name x.tg.data.toList && Rl.name x.nm.data.toList) := rfl
  rw [e0]
  have HB := Lib.hid (box_below w (.cells #[.string x.tg, .string x.nm] 56))
  clear e0
  cases h : Rl.name x.tg.data.toList with
  | false =>
    have HN := Lib.hid h
    clear h H2
    go_enter Tryd.func45, Tryd.ntmps45
    go_wp2_with fail
    refine (H1.out _ HN.out _).mono ?_
    rintro e w' ⟨rfl, rfl⟩
    go_wp2_with fail
    go_ret
    exact ⟨rfl, HB.out⟩
  | true =>
    have HN := Lib.hid h
    clear h
    have H2 := Lib.hid (H2.out _ rfl)
    generalize Rl.name x.nm.data.toList = v at *
    go_enter Tryd.func45, Tryd.ntmps45
    go_wp2_with fail
    refine (H1.out _ HN.out _).mono ?_
    rintro e w' ⟨rfl, rfl⟩
    go_wp2_with fail
    refine (H2.out _).mono ?_
    rintro e w' ⟨rfl, rfl⟩
    go_wp2_with fail
    go_ret
    exact ⟨rfl, HB.out⟩
theorem all_zn (l : List Zd) : (l.map Zd.zn).all So.zone = l.all (fun z => So.zone z.zn) := by
  rw [List.all_map]
  rfl
set_option maxRecDepth 100000 in
set_option maxHeartbeats 2000000 in
theorem isRight_src (d : Sd) (w : World) (hE : Ev w) (hf : d.fits) (hd : d.at_ w w.heap.size) :
    Calls Tryd.prog 29 #[d.val] w fun e w' => e = .returned (.bool (So.right d.src)) ∧ Below w.heap.size w w' := by
  obtain ⟨rA, rc, rs, zA, zc, zs, lA, lc, ls⟩ := d
  obtain ⟨f1, f2, f3, f4, f5, f6⟩ := hf
  obtain ⟨d1, d2, d3, d4⟩ := hd
  simp only at f1 f2 f3 f4 f5 f6 d1 d2 d3 d4
  have e0 : So.right (Sd.src ⟨rA, rc, rs, zA, zc, zs, lA, lc, ls⟩) = (decide (rs.length ≤ 4096 ∧ zs.length ≤ 1024 ∧ ls.length ≤ 4096) && (rs.all Rl.right && (zs.all (fun z => So.zone z.zn) && ls.all So.link))) := by
    rw [← all_zn]
    show (decide (rs.length ≤ 4096 ∧ (zs.map Zd.zn).length ≤ 1024 ∧ ls.length ≤ 4096) && _) = _
    rw [List.length_map]
    rfl
  rw [e0]
  show Calls Tryd.prog 29 #[.agg #[.slice rA rs.length rc, .slice zA zs.length zc, .slice lA ls.length lc]] w fun e w' => e = .returned (.bool (decide (rs.length ≤ 4096 ∧ zs.length ≤ 1024 ∧ ls.length ≤ 4096) && (rs.all Rl.right && (zs.all (fun z => So.zone z.zn) && ls.all So.link)))) ∧ Below w.heap.size w w'
  have hb := box_below w (.cells #[.slice rA rs.length rc, .slice zA zs.length zc, .slice lA ls.length lc] 26)
  have H1 := Lib.hid (fun v hv => has_rule 42 enters_rule (fun x => !Rl.right x) rA rs.length rc rs _ rfl f1 (d1.on hb) (fun x hx W _ => wrongRule_any x W (f4 x hx).1) v hv)
  have H2 := Lib.hid (fun W (hW : Below w.heap.size w W) v hv => has_zone 43 enters_zone (fun x => !So.zone x.zn) zA zs.length zc zs W rfl f2 (d2.on hW) (fun x hx W' hb' => by
    have hW' := hW.trans (hb'.mono hW.size)
    exact wrongZone_any x W' (hE.below hW') (f5 x hx).1 (f5 x hx).2.1 ((d3 x hx).on hW') (fun e he => ((f5 x hx).2.2 e he).1)) v hv)
  have H3 := Lib.hid (fun W (hW : Below w.heap.size w W) v hv => has_link 45 enters_link (fun x => !So.link x) lA ls.length lc ls W rfl f3 (d4.on hW) (fun x hx W' _ => wrongLink_any x W' (f6 x hx).1 (f6 x hx).2) v hv)
  have HB := Lib.hid hb
  clear e0 hb d1 d2 d3 d4 f4 f5 f6 hE
  have v1 := all_not_any Rl.right rs
  have v2 := all_not_any (fun z : Zd => So.zone z.zn) zs
  have v3 := all_not_any So.link ls
  have H1 := Lib.hid (H1.out _ v1)
  have H2 := Lib.hid (fun W hW => H2.out W hW _ v2)
  have H3 := Lib.hid (fun W hW => H3.out W hW _ v3)
  clear v1 v2 v3
  generalize rs.all Rl.right = q1 at *
  generalize zs.all (fun z => So.zone z.zn) = q2 at *
  generalize ls.all So.link = q3 at *
  by_cases hlen : rs.length ≤ 4096 ∧ zs.length ≤ 1024 ∧ ls.length ≤ 4096
  · rw [decide_eq_true hlen, Bool.true_and]
    obtain ⟨l1, l2, l3⟩ := hlen
    generalize rs.length = n1 at *
    generalize zs.length = n2 at *
    generalize ls.length = n3 at *
    cases q1 with
    | false =>
      clear H2 H3
      go_enter Tryd.func29, Tryd.ntmps29
      go_wp2_with fail
      refine H1.out.mono ?_
      rintro e w1 ⟨rfl, b1⟩
      have a1 := HB.out.trans (b1.mono (by simp))
      clear b1 H1 HB
      go_wp2_with fail
      go_ret
      exact ⟨rfl, a1⟩
    | true =>
      cases q2 with
      | false =>
        clear H3
        go_enter Tryd.func29, Tryd.ntmps29
        go_wp2_with fail
        refine H1.out.mono ?_
        rintro e w1 ⟨rfl, b1⟩
        have a1 := HB.out.trans (b1.mono (by simp))
        obtain ⟨hc, _⟩ := bcell b1
        clear b1 H1 HB
        go_wp2_with fail
        refine (H2.out _ a1).mono ?_
        rintro e w2 ⟨rfl, b2⟩
        have a2 := a1.trans (b2.mono a1.size)
        clear a1 b2 H2
        go_wp2_with fail
        go_ret
        exact ⟨rfl, a2⟩
      | true =>
        go_enter Tryd.func29, Tryd.ntmps29
        go_wp2_with fail
        refine H1.out.mono ?_
        rintro e w1 ⟨rfl, b1⟩
        have a1 := HB.out.trans (b1.mono (by simp))
        have z1 : w.heap.size < w1.heap.size := by have := b1.size; simp at this; omega
        obtain ⟨hc, _⟩ := bcell b1
        clear b1 H1 HB
        go_wp2_with fail
        refine (H2.out _ a1).mono ?_
        rintro e w2 ⟨rfl, b2⟩
        have a2 := a1.trans (b2.mono a1.size)
        obtain ⟨hc2, _⟩ := bcell b2
        clear a1 b2 H2
        go_wp2_with fail
        refine (H3.out _ a2).mono ?_
        rintro e w3 ⟨rfl, b3⟩
        have a3 := a2.trans (b3.mono a2.size)
        clear a2 b3 H3
        go_wp2_with fail
        go_ret
        exact ⟨rfl, a3⟩
  · rw [decide_eq_false hlen, Bool.false_and]
    clear H1 H2 H3
    generalize rs.length = n1 at *
    generalize zs.length = n2 at *
    generalize ls.length = n3 at *
    by_cases l1 : 4096 < n1
    · clear hlen
      go_enter Tryd.func29, Tryd.ntmps29
      go_wp2_with fail
      go_ret
      exact ⟨rfl, HB.out⟩
    · by_cases l2 : 1024 < n2
      · clear hlen
        go_enter Tryd.func29, Tryd.ntmps29
        go_wp2_with fail
        go_ret
        exact ⟨rfl, HB.out⟩
      · have l3 : 4096 < n3 := by omega
        clear hlen
        go_enter Tryd.func29, Tryd.ntmps29
        go_wp2_with fail
        go_ret
        exact ⟨rfl, HB.out⟩
set_option maxHeartbeats 1000000 in
theorem scheck_any (d : Sd) (w : World) (hE : Ev w) (hf : d.fits) (hd : d.at_ w w.heap.size) (v : Bool) (hv : So.right d.src = v) :
    Calls Tryd.prog 18 #[d.val] w fun e w' => e = .returned (.int .i64 (if v = true then 0 else 2)) ∧ Below w.heap.size w w' := by
  have hb := box_below w (.cells #[.slice d.rA d.rs.length d.rc, .slice d.zA d.zs.length d.zc, .slice d.lA d.ls.length d.lc] 26)
  have H := Lib.hid (isRight_src d _ (hE.below hb) hf (hd.on hb))
  rw [hv] at H
  have HB := Lib.hid hb
  clear hb hv hd hf hE
  cases v with
  | false =>
    go_enter Tryd.func18, Tryd.ntmps18
    go_wp2_with fail
    refine H.out.mono ?_
    rintro e w1 ⟨rfl, b1⟩
    have a1 := HB.out.trans (b1.mono (by simp))
    clear b1 H HB
    go_wp2_with fail
    go_ret
    exact ⟨rfl, a1⟩
  | true =>
    go_enter Tryd.func18, Tryd.ntmps18
    go_wp2_with fail
    refine H.out.mono ?_
    rintro e w1 ⟨rfl, b1⟩
    have a1 := HB.out.trans (b1.mono (by simp))
    clear b1 H HB
    go_wp2_with fail
    go_ret
    exact ⟨rfl, a1⟩
end Go.Proofs.YthlbockphdbpkaaDoor
namespace Go.Proofs.YthlbockphdbpkaaDoor
open Go.RowKit
set_option maxRecDepth 100000
/-- A slice of texts: nil, or a row of the memory. -/
def Tl (w : World) (v : Value) (L : List ByteArray) : Prop := (v = .slice none 0 0 ∧ L = []) ∨ ∃ ad c, v = .slice (some ad) L.length c ∧ ad.block < w.heap.size ∧ ∀ j, j < L.length → w.cell? (ad.add j) = some (.string (L.getD j ByteArray.empty))
theorem Tl.below {w w' : World} {v : Value} {L : List ByteArray} (h : Tl w v L) (hb : Below w.heap.size w w') : Tl w' v L := by
  rcases h with h | ⟨ad, c, e, hl, hc⟩
  · exact .inl h
  · exact .inr ⟨ad, c, e, Nat.lt_of_lt_of_le hl hb.size, fun j hj => (hb.cell (by rw [block_of_add]; exact hl)).trans (hc j hj)⟩
theorem Tl.len {w : World} {v : Value} {L : List ByteArray} (h : Tl w v L) : ∃ A c, v = .slice A L.length c := by
  rcases h with ⟨e, rfl⟩ | ⟨ad, c, e, _, _⟩
  · exact ⟨none, 0, e⟩
  · exact ⟨some ad, c, e⟩
theorem wpList_tl {w : World} {ops : Array Oper} {rest : List Oper} {o : Oper} {a : Act} {Q : Exit → Act → World → Prop} (hgd : o.guard = none) (s x : Operand)
    (ho : o.op = .call { callee := .builtin .append, args := #[s, x], argTypes := #[41, 41] }) (base : Nat) (v : Value) (L : List ByteArray) (hown : w.ownsRow base 9 1 v L.length (L.map Value.string)) (hs : a.eval s = v) (u : Value) (M : List ByteArray)
    (hx : a.eval x = u) (hM : Tl w u M) (hlen : L.length + M.length ≤ 4096) (hbase : base ≤ w.heap.size)
    (h : ∀ v' w', w'.ownsRow base 9 1 v' (L ++ M).length ((L ++ M).map Value.string) → w.grownBy w' v.ownBlock → wpList Tryd.prog ops Q rest (a.put o.dst v') w') : wpList Tryd.prog ops Q (o :: rest) a w := by
  obtain ⟨i0, hi, hz0, hz1, hz2⟩ := info_parts str_info
  rcases hM with ⟨rfl, rfl⟩ | ⟨ad, c, rfl, hl, hc⟩
  · refine wpList_append_own_none hgd s x 41 ho base 9 i0 1 Tryd.underlying41 hi v L.length (L.map Value.string) hs hown hx ?_
    exact h v w (by simpa using hown) ⟨rfl, rfl, rfl, Nat.le_refl _, fun _ _ _ => rfl⟩
  · refine wpList_append_own w hgd s x 41 ho base 9 i0 (.string ⟨#[]⟩) 1 16 Tryd.underlying41 hi hz0 hz1 hz2 rfl (by omega) v L.length (L.map Value.string) hs hown ad M.length c (M.map Value.string) hx (by simp) (fun j u hu => ?_) (fun u hu => ?_) (by unfold maxLen; omega) (by omega) hbase (fun v' w' h1 h2 _ => ?_)
    · rw [List.getElem?_map] at hu
      obtain ⟨t, ht, rfl⟩ := Option.map_eq_some_iff.1 hu
      obtain ⟨hj, e⟩ := List.getElem?_eq_some_iff.1 ht
      rw [hc j hj, List.getD_eq_getElem?_getD, ht]
      rfl
    · obtain ⟨t, _, rfl⟩ := List.mem_map.1 hu
      rfl
    · refine h v' w' ?_ h2
      rw [List.map_append, List.length_append]
      exact h1
/-- A row of texts of the call's own is answered. -/
def RowE (w w' : World) (L : List ByteArray) (e : Ending) : Prop := ∃ A c, e = .returned (.slice A L.length c) ∧ w'.ownsRow w.heap.size 9 1 (.slice A L.length c) L.length (L.map Value.string)
theorem rowE_of {w w' : World} {L : List ByteArray} {v : Value} (h : w'.ownsRow w.heap.size 9 1 v L.length (L.map Value.string)) : RowE w w' L (.returned v) := by
  rcases h.2 with ⟨hv, h0⟩ | ⟨g, cap, cur, hv, _⟩
  · refine ⟨none, 0, by rw [hv, h0], ?_⟩
    rw [h0, ← hv]
    rw [h0] at h
    exact h
  · exact ⟨some ⟨g, 0, none⟩, cap, by rw [hv], by rw [← hv]; exact h⟩
end Go.Proofs.YthlbockphdbpkaaDoor
namespace Go.Proofs.YthlbockphdbpkaaDoor
open Go.RowKit
theorem rule_info : (Tryd.prog.info? 34).map (fun i => (i.zero, i.size, i.bytes)) = some (some (.agg #[.string ⟨#[]⟩, .int .i64 0, .int .i64 0, .int .i64 0, .int .u8 0, .int .i64 0, .int .i64 0, .int .i64 0, .int .u8 0, .int .i64 0, .string ⟨#[]⟩]), 11, 104) := by kernel_rfl
theorem wpList_ap_rule {w : World} {ops : Array Oper} {rest : List Oper} {o : Oper} {a : Act} {Q : Exit → Act → World → Prop} (hgd : o.guard = none) (s x : Operand)
    (ho : o.op = .call { callee := .builtin .append, args := #[s, x], argTypes := #[22, 22] }) (base : Nat) (v : Value) (n : Nat) (xs : List Value) (hs : a.eval s = v) (hown : w.ownsRow base 34 11 v n xs)
    (gx cx : Nat) (news : List Value) (hx : a.eval x = .slice (some ⟨gx, 0, none⟩) 1 cx) (hl : news.length = 11) (hc : ∀ j u, news[j]? = some u → w.cell? ⟨gx, j, none⟩ = some u) (h1 : ∀ u ∈ news, u.oneCell' = true) (hn : n ≤ 4294967296) (hbase : base ≤ w.heap.size)
    (h : ∀ g cap w', w'.ownsRow base 34 11 (.slice (some ⟨g, 0, none⟩) (n + 1) cap) (n + 1) (xs ++ news) → w.grownBy w' v.ownBlock → (v.ownBlock = some g ∨ g = w.heap.size) → g < w'.heap.size → wpList Tryd.prog ops Q rest (a.put o.dst (.slice (some ⟨g, 0, none⟩) (n + 1) cap)) w') : wpList Tryd.prog ops Q (o :: rest) a w := by
  obtain ⟨i0, hi, hz0, hz1, hz2⟩ := info_parts rule_info
  exact wpList_append_lies w hgd s x 22 ho base 34 i0 _ 11 104 Tryd.underlying22 hi hz0 hz1 hz2 rfl (by omega) v n xs hs hown ⟨gx, 0, none⟩ 1 cx news hx (by rw [hl]) (fun j u hu => by rw [addr_add]; exact hc j u hu) h1 (by omega) (by unfold maxLen; omega) (by omega) hbase _ rfl h
theorem link_info : (Tryd.prog.info? 56).map (fun i => (i.zero, i.size, i.bytes)) = some (some (.agg #[.string ⟨#[]⟩, .string ⟨#[]⟩]), 2, 32) := by kernel_rfl
end Go.Proofs.YthlbockphdbpkaaDoor
namespace Go.Proofs.YthlbockphdbpkaaDoor
open Go.RowKit
/-- A line in memory: its number, its fields, and where these lie. -/
structure Lnm where
  no : Nat
  fs : List (List UInt8 × Nat)
  A : Option Addr
  c : Nat
def Lnm.ln (d : Lnm) : LnD := (d.no, d.fs)
/-- What the lines of a text are. -/
def Ln.all (l : List UInt8) : LRes := if 1048576 < l.length then .inr (0, 0, 6) else Ln.scan 1 (Ln.cut l)
theorem own_mono {w : World} {b b' : Nat} {e : TypeId} {k n : Nat} {v : Value} {xs : List Value} (h : w.ownsRow b e k v n xs) (hb : b' ≤ b) : w.ownsRow b' e k v n xs :=
  ⟨h.1, h.2.imp id fun ⟨g, cap, cur, h1, h2, h3⟩ => ⟨g, cap, cur, h1, Nat.le_trans hb h2, h3⟩⟩
theorem own_on {w w' : World} {b : Nat} {e : TypeId} {k n : Nat} {v : Value} {xs : List Value} (h : w.ownsRow b e k v n xs) (hb : Below w.heap.size w w') : w'.ownsRow b e k v n xs :=
  h.kept (grown_of_below hb none) (by cases v.ownBlock <;> simp)
end Go.Proofs.YthlbockphdbpkaaDoor
namespace Go.Proofs.YthlbockphdbpkaaDoor
open Go.RowKit Go.ChangeShapes Go.WideShapes Go.Joins Go.Deep
theorem cells_int : Tryd.prog.cellsOf 3 = 1 := by kernel_rfl
theorem cells_i64 : Tryd.prog.cellsOf 2 = 1 := by kernel_rfl
theorem cells_kind : Tryd.prog.cellsOf 27 = 1 := by kernel_rfl
theorem cells_clock : Tryd.prog.cellsOf 30 = 1 := by kernel_rfl
theorem cells_day : Tryd.prog.cellsOf 29 = 3 := by kernel_rfl
theorem cells_moment : Tryd.prog.cellsOf 32 = 2 := by kernel_rfl
end Go.Proofs.YthlbockphdbpkaaDoor
namespace Go.Proofs.YthlbockphdbpkaaDoor
open Go.RowKit Go.ChangeShapes Go.WideShapes Go.Joins Go.Deep
set_option maxRecDepth 100000 in
theorem array11 {α : Type} {cs : Array α} (h : cs.size = 11) : ∃ c0 c1 c2 c3 c4 c5 c6 c7 c8 c9 c10, cs = #[c0, c1, c2, c3, c4, c5, c6, c7, c8, c9, c10] := by
  obtain ⟨l⟩ := cs
  match l, h with
  | [c0, c1, c2, c3, c4, c5, c6, c7, c8, c9, c10], _ => exact ⟨c0, c1, c2, c3, c4, c5, c6, c7, c8, c9, c10, rfl⟩
set_option maxRecDepth 100000 in
theorem array13 {α : Type} {cs : Array α} (h : cs.size = 13) : ∃ c0 c1 c2 c3 c4 c5 c6 c7 c8 c9 c10 c11 c12, cs = #[c0, c1, c2, c3, c4, c5, c6, c7, c8, c9, c10, c11, c12] := by
  obtain ⟨l⟩ := cs
  match l, h with
  | [c0, c1, c2, c3, c4, c5, c6, c7, c8, c9, c10, c11, c12], _ => exact ⟨c0, c1, c2, c3, c4, c5, c6, c7, c8, c9, c10, c11, c12, rfl⟩
theorem trod_struct8 {H : Type} {enc : TypeId × Value → H} {P : Program} {w : World} {base : Nat} {spare : Nat → Bool} {held : Bool} {t : TypeId} {f0 f1 f2 f3 f4 f5 f6 f7 : Field} {fuel : Nat} {cs : List Value} {x : DataW H × List MemPlace} (ht : P.underlying t = some (.struct #[f0, f1, f2, f3, f4, f5, f6, f7])) (h : DataW.trod enc P w base spare held fuel t cs = some x) :
    ∃ (y0 y1 y2 y3 y4 y5 y6 y7 : DataW H × List MemPlace) (n : Nat), DataW.trod enc P w base spare held n f0.type ((cs.drop f0.offset).take (P.cellsOf f0.type)) = some y0 ∧ DataW.trod enc P w base spare held n f1.type ((cs.drop f1.offset).take (P.cellsOf f1.type)) = some y1 ∧ DataW.trod enc P w base spare held n f2.type ((cs.drop f2.offset).take (P.cellsOf f2.type)) = some y2 ∧ DataW.trod enc P w base spare held n f3.type ((cs.drop f3.offset).take (P.cellsOf f3.type)) = some y3 ∧ DataW.trod enc P w base spare held n f4.type ((cs.drop f4.offset).take (P.cellsOf f4.type)) = some y4 ∧ DataW.trod enc P w base spare held n f5.type ((cs.drop f5.offset).take (P.cellsOf f5.type)) = some y5 ∧ DataW.trod enc P w base spare held n f6.type ((cs.drop f6.offset).take (P.cellsOf f6.type)) = some y6 ∧ DataW.trod enc P w base spare held n f7.type ((cs.drop f7.offset).take (P.cellsOf f7.type)) = some y7 := by
  obtain ⟨xs, n, _, rfl, hl, hlen, hf⟩ := DataW.trod_struct ht h
  match xs, hlen with
  | [y0, y1, y2, y3, y4, y5, y6, y7], _ => exact ⟨y0, y1, y2, y3, y4, y5, y6, y7, n, by simpa using hf 0 f0 rfl, by simpa using hf 1 f1 rfl, by simpa using hf 2 f2 rfl, by simpa using hf 3 f3 rfl, by simpa using hf 4 f4 rfl, by simpa using hf 5 f5 rfl, by simpa using hf 6 f6 rfl, by simpa using hf 7 f7 rfl⟩
theorem trod_struct7 {H : Type} {enc : TypeId × Value → H} {P : Program} {w : World} {base : Nat} {spare : Nat → Bool} {held : Bool} {t : TypeId} {f0 f1 f2 f3 f4 f5 f6 : Field} {fuel : Nat} {cs : List Value} {x : DataW H × List MemPlace} (ht : P.underlying t = some (.struct #[f0, f1, f2, f3, f4, f5, f6])) (h : DataW.trod enc P w base spare held fuel t cs = some x) :
    ∃ (y0 y1 y2 y3 y4 y5 y6 : DataW H × List MemPlace) (n : Nat), DataW.trod enc P w base spare held n f0.type ((cs.drop f0.offset).take (P.cellsOf f0.type)) = some y0 ∧ DataW.trod enc P w base spare held n f1.type ((cs.drop f1.offset).take (P.cellsOf f1.type)) = some y1 ∧ DataW.trod enc P w base spare held n f2.type ((cs.drop f2.offset).take (P.cellsOf f2.type)) = some y2 ∧ DataW.trod enc P w base spare held n f3.type ((cs.drop f3.offset).take (P.cellsOf f3.type)) = some y3 ∧ DataW.trod enc P w base spare held n f4.type ((cs.drop f4.offset).take (P.cellsOf f4.type)) = some y4 ∧ DataW.trod enc P w base spare held n f5.type ((cs.drop f5.offset).take (P.cellsOf f5.type)) = some y5 ∧ DataW.trod enc P w base spare held n f6.type ((cs.drop f6.offset).take (P.cellsOf f6.type)) = some y6 := by
  obtain ⟨xs, n, _, rfl, hl, hlen, hf⟩ := DataW.trod_struct ht h
  match xs, hlen with
  | [y0, y1, y2, y3, y4, y5, y6], _ => exact ⟨y0, y1, y2, y3, y4, y5, y6, n, by simpa using hf 0 f0 rfl, by simpa using hf 1 f1 rfl, by simpa using hf 2 f2 rfl, by simpa using hf 3 f3 rfl, by simpa using hf 4 f4 rfl, by simpa using hf 5 f5 rfl, by simpa using hf 6 f6 rfl⟩
theorem cells_str : Tryd.prog.cellsOf 9 = 1 := by kernel_rfl
theorem cells_bool : Tryd.prog.cellsOf 4 = 1 := by kernel_rfl
theorem cells_ekind : Tryd.prog.cellsOf 46 = 1 := by kernel_rfl
theorem cells_until : Tryd.prog.cellsOf 48 = 7 := by kernel_rfl
end Go.Proofs.YthlbockphdbpkaaDoor
