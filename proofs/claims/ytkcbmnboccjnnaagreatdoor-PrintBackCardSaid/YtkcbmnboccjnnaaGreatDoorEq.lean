/- Contracts of slices.Equal over rules, links, eras, and of EqualFunc over zones; package source: Same (by program). -/
import Derived.Test.YtkcbmnboccjnnaaGreatDoorSc
import Derived.Laws.StructEq
import Derived.WalkKit
namespace Go.Proofs.YtkcbmnboccjnnaaGreatDoor
open Go.RowKit Go.Shelf
theorem ite_last (c : Prop) [Decidable c] (w : World) : (if c then Result.ok (Value.bool false) w else Result.ok (Value.bool true) w) = .ok (.bool (!decide c)) w := by
  by_cases h : c
  · rw [if_pos h, decide_eq_true h]; rfl
  · rw [if_neg h, decide_eq_false h]; rfl
theorem ite_step (c : Prop) [Decidable c] (b : Bool) (w : World) : (if c then Result.ok (Value.bool (!b)) w else Result.ok (Value.bool true) w) = .ok (.bool (!(decide c && b))) w := by
  by_cases h : c
  · rw [if_pos h, decide_eq_true h]; rfl
  · rw [if_neg h, decide_eq_false h]; rfl
theorem ba_of_toList {a b : ByteArray} (h : a.toList = b.toList) : a = b := by
  rw [ByteArray.toList_eq, ByteArray.toList_eq] at h
  exact ByteArray.ext (Array.toList_inj.1 h)
/-- Two lists are alike, by a test of two elements. -/
def alike {α : Type} (t : α → α → Bool) : List α → List α → Bool
  | [], [] => true
  | x :: a, y :: b => t x y && alike t a b
  | _, _ => false
theorem alike_iff {α : Type} {t : α → α → Bool} (ht : ∀ x y, t x y = true ↔ x = y) : ∀ a b : List α, alike t a b = true ↔ a = b
  | [], [] => by simp [alike]
  | [], y :: b => by simp [alike]
  | x :: a, [] => by simp [alike]
  | x :: a, y :: b => by rw [alike, Bool.and_eq_true, ht, alike_iff ht a b, List.cons.injEq]
theorem alike_len {α : Type} {t : α → α → Bool} : ∀ a b : List α, a.length ≠ b.length → alike t a b = false
  | [], [], h => absurd rfl h
  | [], y :: b, _ => rfl
  | x :: a, [], _ => rfl
  | x :: a, y :: b, h => by
    rw [alike, alike_len a b (fun e => h (by rw [List.length_cons, List.length_cons, e])), Bool.and_false]
theorem alike_no {α : Type} {t : α → α → Bool} : ∀ (a b : List α) (k : Nat) (x y : α), a[k]? = some x → b[k]? = some y → t x y = false → alike t a b = false
  | [], b, k, x, y, h, _, _ => by simp at h
  | x :: a, [], k, _, y, _, h, _ => by simp at h
  | x :: a, y :: b, 0, x', y', h1, h2, h3 => by
    obtain rfl : x = x' := by simpa using h1
    obtain rfl : y = y' := by simpa using h2
    rw [alike, h3, Bool.false_and]
  | x :: a, y :: b, k + 1, x', y', h1, h2, h3 => by
    rw [alike, alike_no a b k x' y' (by simpa using h1) (by simpa using h2) h3, Bool.and_false]
theorem alike_yes {α : Type} {t : α → α → Bool} : ∀ (a b : List α), a.length = b.length → (∀ (k : Nat) (x y : α), k < a.length → a[k]? = some x → b[k]? = some y → t x y = true) → alike t a b = true
  | [], [], _, _ => rfl
  | [], y :: b, h, _ => by simp at h
  | x :: a, [], h, _ => by simp at h
  | x :: a, y :: b, h, hk => by
    rw [alike, hk 0 x y (by simp) (by simp) (by simp), Bool.true_and]
    exact alike_yes a b (by simpa using h) (fun k x' y' hl h1 h2 => hk (k + 1) x' y' (by simpa using hl) (by simpa using h1) (by simpa using h2))
def ruleB (x y : Ru) : Bool := decide (x.nm.toList = y.nm.toList) && (decide (x.fr = y.fr) && (decide (x.tl = y.tl) && (decide (x.m = y.m) && (decide (x.k = y.k) && (decide (x.n = y.n) && (decide (x.d = y.d) && (decide (x.s = y.s) && (decide (x.c = y.c) && (decide (x.sv = y.sv) && (decide (x.lt.toList = y.lt.toList)))))))))))
theorem ruleB_iff (x y : Ru) : ruleB x y = true ↔ x = y := by
  unfold ruleB
  simp only [Bool.and_eq_true, decide_eq_true_eq]
  constructor
  · intro h
    obtain ⟨h0, h1, h2, h3, h4, h5, h6, h7, h8, h9, h10⟩ := h
    obtain ⟨xnm, xfr, xtl, xm, xk, xn, xd, xs, xc, xsv, xlt⟩ := x
    obtain ⟨ynm, yfr, ytl, ym, yk, yn, yd, ys, yc, ysv, ylt⟩ := y
    simp only at h0 h1 h2 h3 h4 h5 h6 h7 h8 h9 h10
    replace h0 := ba_of_toList h0
    replace h10 := ba_of_toList h10
    subst h0 h1 h2 h3 h4 h5 h6 h7 h8 h9 h10
    rfl
  · rintro rfl
    simp
set_option maxHeartbeats 2000000 in
theorem neq_rule (x y : Ru) (w : World) : (binOp .neq 48 (.agg #[.string x.nm, .int .i64 x.fr, .int .i64 x.tl, .int .i64 x.m, .int .u8 x.k, .int .i64 x.n, .int .i64 x.d, .int .i64 x.s, .int .u8 x.c, .int .i64 x.sv, .string x.lt]) (.agg #[.string y.nm, .int .i64 y.fr, .int .i64 y.tl, .int .i64 y.m, .int .u8 y.k, .int .i64 y.n, .int .i64 y.d, .int .i64 y.s, .int .u8 y.c, .int .i64 y.sv, .string y.lt])).run Tryz.prog w = .ok (.bool (!ruleB x y)) w := by
  have hS : Tryz.prog.underlying 48 = some (.struct (Tryz.prog.fieldsOf 48)) := by kernel_rfl
  have hp : Tryz.prog.stoodInHeld 48 = false := by kernel_rfl
  rw [run_neq_struct, show (10000 : Nat) = 9999 + 1 from rfl, run_equalIn_agg w 9999 _ _ _ hS hp]
  simp only [Program.fieldsOf, Tryz.underlying48]
  go_simp
  simp only [ite_last, ite_step]
  rfl
set_option maxRecDepth 100000 in
set_option maxHeartbeats 4000000 in
theorem equal_rule (A A' : Option Addr) (n n' c c' : Nat) (l l' : List Ru) (w : World) (hl : l.length = n) (hl' : l'.length = n') (hn : n ≤ 9223372036854775807) (hn' : n' ≤ 9223372036854775807) (hR : Rk w w.heap.size A (l.flatMap rcell)) (hR' : Rk w w.heap.size A' (l'.flatMap rcell)) (v : Bool) (hv : alike ruleB l l' = v) :
    Calls Tryz.prog 32 #[.slice A n c, .slice A' n' c'] w fun e w' => e = .returned (.bool v) ∧ Below w.heap.size w w' := by
  subst hv
  by_cases hne : n = n'
  · subst hne
    have HR := Lib.hid hR
    have HR' := Lib.hid hR'
    have HL := Lib.hid hl
    have HL' := Lib.hid hl'
    clear hR hR' hl hl' hn'
    go_enter Tryz.func32, Tryz.ntmps32
    go_wp2_with fail
    go_loopw [5, 13] (fun _ i wr => ∃ k : Nat, k ≤ n ∧ i = .int .i64 k ∧ Below w.heap.size w wr ∧ Hid (∀ j x y, j < k → l[j]? = some x → l'[j]? = some y → ruleB x y = true)) (fun _ i _ => n - (intOf i).toNat)
    case atStart => exact ⟨0, Nat.zero_le _, rfl, Below.refl _ _, Lib.hid (fun j x y h => absurd h (by omega))⟩
    case round =>
      obtain ⟨k, hk, rfl, hbw, hj⟩ := hrel
      by_cases hlt : k < n
      · obtain ⟨x, hx⟩ : ∃ x, l[k]? = some x := ⟨_, List.getElem?_eq_getElem (by rw [HL.out]; exact hlt)⟩
        obtain ⟨y, hy⟩ : ∃ y, l'[k]? = some y := ⟨_, List.getElem?_eq_getElem (by rw [HL'.out]; exact hlt)⟩
        obtain ⟨b, o, rfl, hb, hc⟩ := (HR.out.below hbw).at_ rcell_len (by decide) hx
        obtain ⟨b', o', rfl, hb', hc'⟩ := (HR'.out.below hbw).at_ rcell_len (by decide) hy
        have HX := Lib.hid hx
        have HY := Lib.hid hy
        have c0 : wr.cell? ⟨b, o + k * 11, none⟩ = some (Value.string x.nm) := hc 0 _ rfl
        have d0 : wr.cell? ⟨b', o' + k * 11, none⟩ = some (Value.string y.nm) := hc' 0 _ rfl
        have c1 : wr.cell? ⟨b, o + k * 11 + 1, none⟩ = some (Value.int .i64 x.fr) := hc 1 _ rfl
        have d1 : wr.cell? ⟨b', o' + k * 11 + 1, none⟩ = some (Value.int .i64 y.fr) := hc' 1 _ rfl
        have c2 : wr.cell? ⟨b, o + k * 11 + 2, none⟩ = some (Value.int .i64 x.tl) := hc 2 _ rfl
        have d2 : wr.cell? ⟨b', o' + k * 11 + 2, none⟩ = some (Value.int .i64 y.tl) := hc' 2 _ rfl
        have c3 : wr.cell? ⟨b, o + k * 11 + 3, none⟩ = some (Value.int .i64 x.m) := hc 3 _ rfl
        have d3 : wr.cell? ⟨b', o' + k * 11 + 3, none⟩ = some (Value.int .i64 y.m) := hc' 3 _ rfl
        have c4 : wr.cell? ⟨b, o + k * 11 + 4, none⟩ = some (Value.int .u8 x.k) := hc 4 _ rfl
        have d4 : wr.cell? ⟨b', o' + k * 11 + 4, none⟩ = some (Value.int .u8 y.k) := hc' 4 _ rfl
        have c5 : wr.cell? ⟨b, o + k * 11 + 5, none⟩ = some (Value.int .i64 x.n) := hc 5 _ rfl
        have d5 : wr.cell? ⟨b', o' + k * 11 + 5, none⟩ = some (Value.int .i64 y.n) := hc' 5 _ rfl
        have c6 : wr.cell? ⟨b, o + k * 11 + 6, none⟩ = some (Value.int .i64 x.d) := hc 6 _ rfl
        have d6 : wr.cell? ⟨b', o' + k * 11 + 6, none⟩ = some (Value.int .i64 y.d) := hc' 6 _ rfl
        have c7 : wr.cell? ⟨b, o + k * 11 + 7, none⟩ = some (Value.int .i64 x.s) := hc 7 _ rfl
        have d7 : wr.cell? ⟨b', o' + k * 11 + 7, none⟩ = some (Value.int .i64 y.s) := hc' 7 _ rfl
        have c8 : wr.cell? ⟨b, o + k * 11 + 8, none⟩ = some (Value.int .u8 x.c) := hc 8 _ rfl
        have d8 : wr.cell? ⟨b', o' + k * 11 + 8, none⟩ = some (Value.int .u8 y.c) := hc' 8 _ rfl
        have c9 : wr.cell? ⟨b, o + k * 11 + 9, none⟩ = some (Value.int .i64 x.sv) := hc 9 _ rfl
        have d9 : wr.cell? ⟨b', o' + k * 11 + 9, none⟩ = some (Value.int .i64 y.sv) := hc' 9 _ rfl
        have c10 : wr.cell? ⟨b, o + k * 11 + 10, none⟩ = some (Value.string x.lt) := hc 10 _ rfl
        have d10 : wr.cell? ⟨b', o' + k * 11 + 10, none⟩ = some (Value.string y.lt) := hc' 10 _ rfl
        have hq := neq_rule x y
        have hg : ∀ (op : BinOp) (a b : Operand) (w : World), (eqGuard op 48 a b (.agg #[.string x.nm, .int .i64 x.fr, .int .i64 x.tl, .int .i64 x.m, .int .u8 x.k, .int .i64 x.n, .int .i64 x.d, .int .i64 x.s, .int .u8 x.c, .int .i64 x.sv, .string x.lt]) (.agg #[.string y.nm, .int .i64 y.fr, .int .i64 y.tl, .int .i64 y.m, .int .u8 y.k, .int .i64 y.n, .int .i64 y.d, .int .i64 y.s, .int .u8 y.c, .int .i64 y.sv, .string y.lt])).run Tryz.prog w = .ok () w := fun op a b w => run_eqGuard_agg w op _ a b _ _ (by kernel_rfl)
        clear hc hc' hx hy
        cases hxy : ruleB x y with
        | true =>
          rw [hxy] at hq
          have HXY := Lib.hid hxy
          clear hxy
          go_wp2_with fail
          go_quiet (fail)
          go_wp2_with fail
          go_roundw
          case rel =>
            refine ⟨k + 1, by omega, by go_num, below_drewN hbw _, Lib.hid (fun j x' y' hj2 h1 h2 => ?_)⟩
            rcases Nat.lt_or_ge j k with h | h
            · exact hj.out j x' y' h h1 h2
            · obtain rfl : j = k := by omega
              have e1 := HX.out
              have e2 := HY.out
              rw [e1] at h1
              rw [e2] at h2
              injection h1 with h1
              injection h2 with h2
              subst h1 h2
              exact HXY.out
          case measure => simp [intOf]; omega
        | false =>
          rw [hxy] at hq
          have HXY := Lib.hid hxy
          clear hxy
          go_wp2_with fail
          go_quiet (fail)
          go_wp2_with fail
          go_ret
          exact ⟨ret_bool (alike_no l l' k x y HX.out HY.out HXY.out).symm, below_drewN hbw _⟩
      · obtain rfl : k = n := by omega
        go_wp2_with fail
        go_ret
        exact ⟨ret_bool (alike_yes l l' (by rw [HL.out, HL'.out]) (fun j x y hj2 h1 h2 => hj.out j x y (by have := HL.out; omega) h1 h2)).symm, hbw⟩
  · rw [alike_len l l' (by omega)]
    clear hR hR' hl hl'
    have hne' : ¬ (n : Int) = (n' : Int) := by omega
    go_enter Tryz.func32, Tryz.ntmps32
    go_wp2_with fail
    go_ret
    exact ⟨rfl, Below.refl _ _⟩
def linkB (x y : Lk) : Bool := decide (x.tg.toList = y.tg.toList) && (decide (x.nm.toList = y.nm.toList))
theorem linkB_iff (x y : Lk) : linkB x y = true ↔ x = y := by
  unfold linkB
  simp only [Bool.and_eq_true, decide_eq_true_eq]
  constructor
  · intro h
    obtain ⟨h0, h1⟩ := h
    obtain ⟨xtg, xnm⟩ := x
    obtain ⟨ytg, ynm⟩ := y
    simp only at h0 h1
    replace h0 := ba_of_toList h0
    replace h1 := ba_of_toList h1
    subst h0 h1
    rfl
  · rintro rfl
    simp
set_option maxHeartbeats 2000000 in
theorem neq_link (x y : Lk) (w : World) : (binOp .neq 57 (.agg #[.string x.tg, .string x.nm]) (.agg #[.string y.tg, .string y.nm])).run Tryz.prog w = .ok (.bool (!linkB x y)) w := by
  have hS : Tryz.prog.underlying 57 = some (.struct (Tryz.prog.fieldsOf 57)) := by kernel_rfl
  have hp : Tryz.prog.stoodInHeld 57 = false := by kernel_rfl
  rw [run_neq_struct, show (10000 : Nat) = 9999 + 1 from rfl, run_equalIn_agg w 9999 _ _ _ hS hp]
  simp only [Program.fieldsOf, Tryz.underlying57]
  go_simp
  simp only [ite_last, ite_step]
  rfl
set_option maxRecDepth 100000 in
set_option maxHeartbeats 4000000 in
theorem equal_link (A A' : Option Addr) (n n' c c' : Nat) (l l' : List Lk) (w : World) (hl : l.length = n) (hl' : l'.length = n') (hn : n ≤ 9223372036854775807) (hn' : n' ≤ 9223372036854775807) (hR : Rk w w.heap.size A (l.flatMap lcell)) (hR' : Rk w w.heap.size A' (l'.flatMap lcell)) (v : Bool) (hv : alike linkB l l' = v) :
    Calls Tryz.prog 34 #[.slice A n c, .slice A' n' c'] w fun e w' => e = .returned (.bool v) ∧ Below w.heap.size w w' := by
  subst hv
  by_cases hne : n = n'
  · subst hne
    have HR := Lib.hid hR
    have HR' := Lib.hid hR'
    have HL := Lib.hid hl
    have HL' := Lib.hid hl'
    clear hR hR' hl hl' hn'
    go_enter Tryz.func34, Tryz.ntmps34
    go_wp2_with fail
    go_loopw [5, 13] (fun _ i wr => ∃ k : Nat, k ≤ n ∧ i = .int .i64 k ∧ Below w.heap.size w wr ∧ Hid (∀ j x y, j < k → l[j]? = some x → l'[j]? = some y → linkB x y = true)) (fun _ i _ => n - (intOf i).toNat)
    case atStart => exact ⟨0, Nat.zero_le _, rfl, Below.refl _ _, Lib.hid (fun j x y h => absurd h (by omega))⟩
    case round =>
      obtain ⟨k, hk, rfl, hbw, hj⟩ := hrel
      by_cases hlt : k < n
      · obtain ⟨x, hx⟩ : ∃ x, l[k]? = some x := ⟨_, List.getElem?_eq_getElem (by rw [HL.out]; exact hlt)⟩
        obtain ⟨y, hy⟩ : ∃ y, l'[k]? = some y := ⟨_, List.getElem?_eq_getElem (by rw [HL'.out]; exact hlt)⟩
        obtain ⟨b, o, rfl, hb, hc⟩ := (HR.out.below hbw).at_ lcell_len (by decide) hx
        obtain ⟨b', o', rfl, hb', hc'⟩ := (HR'.out.below hbw).at_ lcell_len (by decide) hy
        have HX := Lib.hid hx
        have HY := Lib.hid hy
        have c0 : wr.cell? ⟨b, o + k * 2, none⟩ = some (Value.string x.tg) := hc 0 _ rfl
        have d0 : wr.cell? ⟨b', o' + k * 2, none⟩ = some (Value.string y.tg) := hc' 0 _ rfl
        have c1 : wr.cell? ⟨b, o + k * 2 + 1, none⟩ = some (Value.string x.nm) := hc 1 _ rfl
        have d1 : wr.cell? ⟨b', o' + k * 2 + 1, none⟩ = some (Value.string y.nm) := hc' 1 _ rfl
        have hq := neq_link x y
        have hg : ∀ (op : BinOp) (a b : Operand) (w : World), (eqGuard op 57 a b (.agg #[.string x.tg, .string x.nm]) (.agg #[.string y.tg, .string y.nm])).run Tryz.prog w = .ok () w := fun op a b w => run_eqGuard_agg w op _ a b _ _ (by kernel_rfl)
        clear hc hc' hx hy
        cases hxy : linkB x y with
        | true =>
          rw [hxy] at hq
          have HXY := Lib.hid hxy
          clear hxy
          go_wp2_with fail
          go_quiet (fail)
          go_wp2_with fail
          go_roundw
          case rel =>
            refine ⟨k + 1, by omega, by go_num, below_drewN hbw _, Lib.hid (fun j x' y' hj2 h1 h2 => ?_)⟩
            rcases Nat.lt_or_ge j k with h | h
            · exact hj.out j x' y' h h1 h2
            · obtain rfl : j = k := by omega
              have e1 := HX.out
              have e2 := HY.out
              rw [e1] at h1
              rw [e2] at h2
              injection h1 with h1
              injection h2 with h2
              subst h1 h2
              exact HXY.out
          case measure => simp [intOf]; omega
        | false =>
          rw [hxy] at hq
          have HXY := Lib.hid hxy
          clear hxy
          go_wp2_with fail
          go_quiet (fail)
          go_wp2_with fail
          go_ret
          exact ⟨ret_bool (alike_no l l' k x y HX.out HY.out HXY.out).symm, below_drewN hbw _⟩
      · obtain rfl : k = n := by omega
        go_wp2_with fail
        go_ret
        exact ⟨ret_bool (alike_yes l l' (by rw [HL.out, HL'.out]) (fun j x y hj2 h1 h2 => hj.out j x y (by have := HL.out; omega) h1 h2)).symm, hbw⟩
  · rw [alike_len l l' (by omega)]
    clear hR hR' hl hl'
    have hne' : ¬ (n : Int) = (n' : Int) := by omega
    go_enter Tryz.func34, Tryz.ntmps34
    go_wp2_with fail
    go_ret
    exact ⟨rfl, Below.refl _ _⟩
def eraB (x y : Er) : Bool := decide (x.sd = y.sd) && (decide (x.k = y.k) && (decide (x.sv = y.sv) && (decide (x.ru.toList = y.ru.toList) && (decide (x.fm.toList = y.fm.toList) && (decide (x.en = y.en) && (decide (x.u.y = y.u.y) && (decide (x.u.m = y.u.m) && (decide (x.u.k = y.u.k) && (decide (x.u.n = y.u.n) && (decide (x.u.d = y.u.d) && (decide (x.u.s = y.u.s) && (decide (x.u.c = y.u.c)))))))))))))
theorem eraB_iff (x y : Er) : eraB x y = true ↔ x = y := by
  unfold eraB
  simp only [Bool.and_eq_true, decide_eq_true_eq]
  constructor
  · intro h
    obtain ⟨h0, h1, h2, h3, h4, h5, h6, h7, h8, h9, h10, h11, h12⟩ := h
    obtain ⟨xsd, xk, xsv, xru, xfm, xen, ⟨xy, xm, xuk, xn, xd, xs, xc⟩⟩ := x
    obtain ⟨ysd, yk, ysv, yru, yfm, yen, ⟨yy, ym, yuk, yn, yd, ys, yc⟩⟩ := y
    simp only at h0 h1 h2 h3 h4 h5 h6 h7 h8 h9 h10 h11 h12
    replace h3 := ba_of_toList h3
    replace h4 := ba_of_toList h4
    subst h0 h1 h2 h3 h4 h5 h6 h7 h8 h9 h10 h11 h12
    rfl
  · rintro rfl
    simp
set_option maxHeartbeats 2000000 in
theorem neq_era (x y : Er) (w : World) : (binOp .neq 65 (.agg #[.int .i64 x.sd, .int .u8 x.k, .int .i64 x.sv, .string x.ru, .string x.fm, .bool x.en, .int .i64 x.u.y, .int .i64 x.u.m, .int .u8 x.u.k, .int .i64 x.u.n, .int .i64 x.u.d, .int .i64 x.u.s, .int .u8 x.u.c]) (.agg #[.int .i64 y.sd, .int .u8 y.k, .int .i64 y.sv, .string y.ru, .string y.fm, .bool y.en, .int .i64 y.u.y, .int .i64 y.u.m, .int .u8 y.u.k, .int .i64 y.u.n, .int .i64 y.u.d, .int .i64 y.u.s, .int .u8 y.u.c])).run Tryz.prog w = .ok (.bool (!eraB x y)) w := by
  have hS : Tryz.prog.underlying 65 = some (.struct (Tryz.prog.fieldsOf 65)) := by kernel_rfl
  have hp : Tryz.prog.stoodInHeld 65 = false := by kernel_rfl
  rw [run_neq_struct, show (10000 : Nat) = 9999 + 1 from rfl, run_equalIn_agg w 9999 _ _ _ hS hp]
  simp only [Program.fieldsOf, Tryz.underlying65]
  go_simp
  simp only [ite_last, ite_step]
  rfl
set_option maxRecDepth 100000 in
set_option maxHeartbeats 4000000 in
theorem equal_era (A A' : Option Addr) (n n' c c' : Nat) (l l' : List Er) (w : World) (hl : l.length = n) (hl' : l'.length = n') (hn : n ≤ 9223372036854775807) (hn' : n' ≤ 9223372036854775807) (hR : Rk w w.heap.size A (l.flatMap ecell)) (hR' : Rk w w.heap.size A' (l'.flatMap ecell)) (v : Bool) (hv : alike eraB l l' = v) :
    Calls Tryz.prog 31 #[.slice A n c, .slice A' n' c'] w fun e w' => e = .returned (.bool v) ∧ Below w.heap.size w w' := by
  subst hv
  by_cases hne : n = n'
  · subst hne
    have HR := Lib.hid hR
    have HR' := Lib.hid hR'
    have HL := Lib.hid hl
    have HL' := Lib.hid hl'
    clear hR hR' hl hl' hn'
    go_enter Tryz.func31, Tryz.ntmps31
    go_wp2_with fail
    go_loopw [5, 13] (fun _ i wr => ∃ k : Nat, k ≤ n ∧ i = .int .i64 k ∧ Below w.heap.size w wr ∧ Hid (∀ j x y, j < k → l[j]? = some x → l'[j]? = some y → eraB x y = true)) (fun _ i _ => n - (intOf i).toNat)
    case atStart => exact ⟨0, Nat.zero_le _, rfl, Below.refl _ _, Lib.hid (fun j x y h => absurd h (by omega))⟩
    case round =>
      obtain ⟨k, hk, rfl, hbw, hj⟩ := hrel
      by_cases hlt : k < n
      · obtain ⟨x, hx⟩ : ∃ x, l[k]? = some x := ⟨_, List.getElem?_eq_getElem (by rw [HL.out]; exact hlt)⟩
        obtain ⟨y, hy⟩ : ∃ y, l'[k]? = some y := ⟨_, List.getElem?_eq_getElem (by rw [HL'.out]; exact hlt)⟩
        obtain ⟨b, o, rfl, hb, hc⟩ := (HR.out.below hbw).at_ ecell_len (by decide) hx
        obtain ⟨b', o', rfl, hb', hc'⟩ := (HR'.out.below hbw).at_ ecell_len (by decide) hy
        have HX := Lib.hid hx
        have HY := Lib.hid hy
        have c0 : wr.cell? ⟨b, o + k * 13, none⟩ = some (Value.int .i64 x.sd) := hc 0 _ rfl
        have d0 : wr.cell? ⟨b', o' + k * 13, none⟩ = some (Value.int .i64 y.sd) := hc' 0 _ rfl
        have c1 : wr.cell? ⟨b, o + k * 13 + 1, none⟩ = some (Value.int .u8 x.k) := hc 1 _ rfl
        have d1 : wr.cell? ⟨b', o' + k * 13 + 1, none⟩ = some (Value.int .u8 y.k) := hc' 1 _ rfl
        have c2 : wr.cell? ⟨b, o + k * 13 + 2, none⟩ = some (Value.int .i64 x.sv) := hc 2 _ rfl
        have d2 : wr.cell? ⟨b', o' + k * 13 + 2, none⟩ = some (Value.int .i64 y.sv) := hc' 2 _ rfl
        have c3 : wr.cell? ⟨b, o + k * 13 + 3, none⟩ = some (Value.string x.ru) := hc 3 _ rfl
        have d3 : wr.cell? ⟨b', o' + k * 13 + 3, none⟩ = some (Value.string y.ru) := hc' 3 _ rfl
        have c4 : wr.cell? ⟨b, o + k * 13 + 4, none⟩ = some (Value.string x.fm) := hc 4 _ rfl
        have d4 : wr.cell? ⟨b', o' + k * 13 + 4, none⟩ = some (Value.string y.fm) := hc' 4 _ rfl
        have c5 : wr.cell? ⟨b, o + k * 13 + 5, none⟩ = some (Value.bool x.en) := hc 5 _ rfl
        have d5 : wr.cell? ⟨b', o' + k * 13 + 5, none⟩ = some (Value.bool y.en) := hc' 5 _ rfl
        have c6 : wr.cell? ⟨b, o + k * 13 + 6, none⟩ = some (Value.int .i64 x.u.y) := hc 6 _ rfl
        have d6 : wr.cell? ⟨b', o' + k * 13 + 6, none⟩ = some (Value.int .i64 y.u.y) := hc' 6 _ rfl
        have c7 : wr.cell? ⟨b, o + k * 13 + 7, none⟩ = some (Value.int .i64 x.u.m) := hc 7 _ rfl
        have d7 : wr.cell? ⟨b', o' + k * 13 + 7, none⟩ = some (Value.int .i64 y.u.m) := hc' 7 _ rfl
        have c8 : wr.cell? ⟨b, o + k * 13 + 8, none⟩ = some (Value.int .u8 x.u.k) := hc 8 _ rfl
        have d8 : wr.cell? ⟨b', o' + k * 13 + 8, none⟩ = some (Value.int .u8 y.u.k) := hc' 8 _ rfl
        have c9 : wr.cell? ⟨b, o + k * 13 + 9, none⟩ = some (Value.int .i64 x.u.n) := hc 9 _ rfl
        have d9 : wr.cell? ⟨b', o' + k * 13 + 9, none⟩ = some (Value.int .i64 y.u.n) := hc' 9 _ rfl
        have c10 : wr.cell? ⟨b, o + k * 13 + 10, none⟩ = some (Value.int .i64 x.u.d) := hc 10 _ rfl
        have d10 : wr.cell? ⟨b', o' + k * 13 + 10, none⟩ = some (Value.int .i64 y.u.d) := hc' 10 _ rfl
        have c11 : wr.cell? ⟨b, o + k * 13 + 11, none⟩ = some (Value.int .i64 x.u.s) := hc 11 _ rfl
        have d11 : wr.cell? ⟨b', o' + k * 13 + 11, none⟩ = some (Value.int .i64 y.u.s) := hc' 11 _ rfl
        have c12 : wr.cell? ⟨b, o + k * 13 + 12, none⟩ = some (Value.int .u8 x.u.c) := hc 12 _ rfl
        have d12 : wr.cell? ⟨b', o' + k * 13 + 12, none⟩ = some (Value.int .u8 y.u.c) := hc' 12 _ rfl
        have hq := neq_era x y
        have hg : ∀ (op : BinOp) (a b : Operand) (w : World), (eqGuard op 65 a b (.agg #[.int .i64 x.sd, .int .u8 x.k, .int .i64 x.sv, .string x.ru, .string x.fm, .bool x.en, .int .i64 x.u.y, .int .i64 x.u.m, .int .u8 x.u.k, .int .i64 x.u.n, .int .i64 x.u.d, .int .i64 x.u.s, .int .u8 x.u.c]) (.agg #[.int .i64 y.sd, .int .u8 y.k, .int .i64 y.sv, .string y.ru, .string y.fm, .bool y.en, .int .i64 y.u.y, .int .i64 y.u.m, .int .u8 y.u.k, .int .i64 y.u.n, .int .i64 y.u.d, .int .i64 y.u.s, .int .u8 y.u.c])).run Tryz.prog w = .ok () w := fun op a b w => run_eqGuard_agg w op _ a b _ _ (by kernel_rfl)
        clear hc hc' hx hy
        cases hxy : eraB x y with
        | true =>
          rw [hxy] at hq
          have HXY := Lib.hid hxy
          clear hxy
          go_wp2_with fail
          go_quiet (fail)
          go_wp2_with fail
          go_roundw
          case rel =>
            refine ⟨k + 1, by omega, by go_num, below_drewN hbw _, Lib.hid (fun j x' y' hj2 h1 h2 => ?_)⟩
            rcases Nat.lt_or_ge j k with h | h
            · exact hj.out j x' y' h h1 h2
            · obtain rfl : j = k := by omega
              have e1 := HX.out
              have e2 := HY.out
              rw [e1] at h1
              rw [e2] at h2
              injection h1 with h1
              injection h2 with h2
              subst h1 h2
              exact HXY.out
          case measure => simp [intOf]; omega
        | false =>
          rw [hxy] at hq
          have HXY := Lib.hid hxy
          clear hxy
          go_wp2_with fail
          go_quiet (fail)
          go_wp2_with fail
          go_ret
          exact ⟨ret_bool (alike_no l l' k x y HX.out HY.out HXY.out).symm, below_drewN hbw _⟩
      · obtain rfl : k = n := by omega
        go_wp2_with fail
        go_ret
        exact ⟨ret_bool (alike_yes l l' (by rw [HL.out, HL'.out]) (fun j x y hj2 h1 h2 => hj.out j x y (by have := HL.out; omega) h1 h2)).symm, hbw⟩
  · rw [alike_len l l' (by omega)]
    clear hR hR' hl hl'
    have hne' : ¬ (n : Int) = (n' : Int) := by omega
    go_enter Tryz.func31, Tryz.ntmps31
    go_wp2_with fail
    go_ret
    exact ⟨rfl, Below.refl _ _⟩
end Go.Proofs.YtkcbmnboccjnnaaGreatDoor
