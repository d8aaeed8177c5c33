/- Contracts of slices.IndexFunc and slices.ContainsFunc over rules, zones, links, eras, with any predicate that leaves what was there (by program). -/
import Derived.Test.YtkcbmnboccjnnaaGreatDoorRw
import Derived.Deep.QuietTactic
import Derived.BigQuiet
import Derived.LoopTactic
namespace Go.Proofs.YtkcbmnboccjnnaaGreatDoor
open Go.RowKit
/-- The first place at which p holds, or -1. -/
def fidx {α : Type} (p : α → Bool) : List α → Int
  | [] => -1
  | x :: l => if p x = true then 0 else if fidx p l = -1 then -1 else fidx p l + 1
theorem fidx_ge {α : Type} (p : α → Bool) : ∀ l : List α, -1 ≤ fidx p l ∧ fidx p l < l.length
  | [] => ⟨Int.le_refl _, by show (-1 : Int) < 0; decide⟩
  | x :: l => by
    have ih := fidx_ge p l
    unfold fidx
    rw [List.length_cons]
    split
    · omega
    · split <;> omega
theorem fidx_hit {α : Type} {p : α → Bool} : ∀ (l : List α) (k : Nat) (x : α), l[k]? = some x → p x = true → (∀ j y, j < k → l[j]? = some y → p y = false) → fidx p l = k
  | [], k, x, h, _, _ => by simp at h
  | y :: l, 0, x, h, hp, _ => by
    obtain rfl : y = x := by simpa using h
    unfold fidx
    rw [if_pos hp]
    rfl
  | y :: l, k + 1, x, h, hp, hb => by
    have ih := fidx_hit l k x (by simpa using h) hp (fun j z hj hz => hb (j + 1) z (by omega) (by simpa using hz))
    have h0 := hb 0 y (by omega) (by simp)
    unfold fidx
    rw [h0, if_neg (by decide), ih, if_neg (by omega)]
    omega
theorem fidx_miss {α : Type} {p : α → Bool} : ∀ (l : List α), (∀ j y, j < l.length → l[j]? = some y → p y = false) → fidx p l = -1
  | [], _ => rfl
  | y :: l, hb => by
    have ih := fidx_miss l (fun j z hj hz => hb (j + 1) z (by simpa using hj) (by simpa using hz))
    have h0 := hb 0 y (by simp) (by simp)
    unfold fidx
    rw [h0, if_neg (by decide), ih, if_pos rfl]
theorem fidx_any {α : Type} (p : α → Bool) : ∀ l : List α, l.any p = decide (0 ≤ fidx p l)
  | [] => rfl
  | x :: l => by
    have ih := fidx_any p l
    have hg := fidx_ge p l
    unfold fidx
    rw [List.any_cons, ih]
    cases p x with
    | true => rw [if_pos rfl]; rfl
    | false =>
      rw [if_neg (by decide)]
      by_cases h : fidx p l = -1
      · rw [if_pos h, h]; rfl
      · rw [if_neg h, Bool.false_or, Bool.eq_iff_iff, decide_eq_true_eq, decide_eq_true_eq]
        omega
set_option maxRecDepth 100000 in
set_option maxHeartbeats 1000000 in
theorem idx_rule (g : Nat) (eg : ∀ args w, (callFunc g args).run Tryz.prog w = .ok (.enter g args) w) (p : Ru → Bool) (A : Option Addr) (n c : Nat) (l : List Ru) (w : World) (hl : l.length = n) (hn : n ≤ 9223372036854775807) (hR : Rk w w.heap.size A (l.flatMap rcell))
    (hp : ∀ x ∈ l, ∀ W, Below w.heap.size w W → Calls Tryz.prog g #[.agg #[.string x.nm, .int .i64 x.fr, .int .i64 x.tl, .int .i64 x.m, .int .u8 x.k, .int .i64 x.n, .int .i64 x.d, .int .i64 x.s, .int .u8 x.c, .int .i64 x.sv, .string x.lt]] W fun e w' => e = .returned (.bool (p x)) ∧ Below W.heap.size W w') :
    Calls Tryz.prog 102 #[.slice A n c, .func (.func g) #[] #[]] w fun e w' => e = .returned (.int .i64 (fidx p l)) ∧ Below w.heap.size w w' := by
  have HR := Lib.hid hR
  have HP := Lib.hid hp
  have HL := Lib.hid hl
  clear hR hp hl
  go_enter Tryz.func102, Tryz.ntmps102
  go_wp2_with fail
  go_loopw [5, 8] (fun _ i wr => ∃ k : Nat, k ≤ n ∧ i = .int .i64 k ∧ Below w.heap.size w wr ∧ Hid (∀ j y, j < k → l[j]? = some y → p y = false)) (fun _ i _ => n - (intOf i).toNat)
  case atStart => exact ⟨0, Nat.zero_le _, rfl, Below.refl _ _, Lib.hid (fun j y h => absurd h (by omega))⟩
  case round =>
    obtain ⟨k, hk, rfl, hbw, hj⟩ := hrel
    by_cases hlt : k < n
    · obtain ⟨x, hx⟩ : ∃ x, l[k]? = some x := ⟨_, List.getElem?_eq_getElem (by rw [HL.out]; exact hlt)⟩
      obtain ⟨b, o, rfl, hb, hc⟩ := (HR.out.below hbw).at_ rcell_len (by decide) hx
      have HQ := Lib.hid (HP.out x (List.mem_of_getElem? hx) wr hbw)
      have HX := Lib.hid hx
      have c0 : wr.cell? ⟨b, o + k * 11, none⟩ = some (Value.string x.nm) := hc 0 _ rfl
      have c1 : wr.cell? ⟨b, o + k * 11 + 1, none⟩ = some (Value.int .i64 x.fr) := hc 1 _ rfl
      have c2 : wr.cell? ⟨b, o + k * 11 + 2, none⟩ = some (Value.int .i64 x.tl) := hc 2 _ rfl
      have c3 : wr.cell? ⟨b, o + k * 11 + 3, none⟩ = some (Value.int .i64 x.m) := hc 3 _ rfl
      have c4 : wr.cell? ⟨b, o + k * 11 + 4, none⟩ = some (Value.int .u8 x.k) := hc 4 _ rfl
      have c5 : wr.cell? ⟨b, o + k * 11 + 5, none⟩ = some (Value.int .i64 x.n) := hc 5 _ rfl
      have c6 : wr.cell? ⟨b, o + k * 11 + 6, none⟩ = some (Value.int .i64 x.d) := hc 6 _ rfl
      have c7 : wr.cell? ⟨b, o + k * 11 + 7, none⟩ = some (Value.int .i64 x.s) := hc 7 _ rfl
      have c8 : wr.cell? ⟨b, o + k * 11 + 8, none⟩ = some (Value.int .u8 x.c) := hc 8 _ rfl
      have c9 : wr.cell? ⟨b, o + k * 11 + 9, none⟩ = some (Value.int .i64 x.sv) := hc 9 _ rfl
      have c10 : wr.cell? ⟨b, o + k * 11 + 10, none⟩ = some (Value.string x.lt) := hc 10 _ rfl
      clear hc hx
      cases hpx : p x with
      | true =>
        rw [hpx] at HQ
        have HPX := Lib.hid hpx
        clear hpx
        go_wp2_with (go_at_fn g; refine HQ.out.mono ?_; rintro e w1 ⟨rfl, b1⟩)
        go_ret
        exact ⟨ret_int (fidx_hit l k x HX.out HPX.out hj.out).symm, hbw.trans (b1.mono hbw.size)⟩
      | false =>
        rw [hpx] at HQ
        have HPX := Lib.hid hpx
        clear hpx
        go_wp2_with (go_at_fn g; refine HQ.out.mono ?_; rintro e w1 ⟨rfl, b1⟩)
        go_roundw
        case rel =>
          refine ⟨k + 1, by omega, by go_num, hbw.trans (b1.mono hbw.size), Lib.hid (fun j y hj2 hy => ?_)⟩
          rcases Nat.lt_or_ge j k with h | h
          · exact hj.out j y h hy
          · obtain rfl : j = k := by omega
            have := HX.out
            rw [this] at hy
            injection hy with hy
            subst hy
            exact HPX.out
        case measure => simp [intOf]; omega
    · obtain rfl : k = n := by omega
      go_wp2_with fail
      go_ret
      exact ⟨ret_int (fidx_miss l (fun j y hj2 hy => hj.out j y (by have := HL.out; omega) hy)).symm, hbw⟩
theorem has_rule (g : Nat) (eg : ∀ args w, (callFunc g args).run Tryz.prog w = .ok (.enter g args) w) (p : Ru → Bool) (A : Option Addr) (n c : Nat) (l : List Ru) (w : World) (hl : l.length = n) (hn : n ≤ 9223372036854775807) (hR : Rk w w.heap.size A (l.flatMap rcell))
    (hp : ∀ x ∈ l, ∀ W, Below w.heap.size w W → Calls Tryz.prog g #[.agg #[.string x.nm, .int .i64 x.fr, .int .i64 x.tl, .int .i64 x.m, .int .u8 x.k, .int .i64 x.n, .int .i64 x.d, .int .i64 x.s, .int .u8 x.c, .int .i64 x.sv, .string x.lt]] W fun e w' => e = .returned (.bool (p x)) ∧ Below W.heap.size W w') (v : Bool) (hv : l.any p = v) :
    Calls Tryz.prog 58 #[.slice A n c, .func (.func g) #[] #[]] w fun e w' => e = .returned (.bool v) ∧ Below w.heap.size w w' := by
  subst hv
  have H := Lib.hid (idx_rule g eg p A n c l w hl hn hR hp)
  rw [fidx_any]
  have h1 := fidx_ge p l
  have h2 : fidx p l < n := by omega
  clear hl hR hp
  generalize fidx p l = v at *
  go_enter Tryz.func58, Tryz.ntmps58
  go_wp2_with fail
  refine H.out.mono ?_
  rintro e w1 ⟨rfl, b1⟩
  go_wp2_with fail
  go_ret
  exact ⟨rfl, b1⟩
set_option maxRecDepth 100000 in
set_option maxHeartbeats 1000000 in
theorem idx_zone (g : Nat) (eg : ∀ args w, (callFunc g args).run Tryz.prog w = .ok (.enter g args) w) (p : Zd → Bool) (A : Option Addr) (n c : Nat) (l : List Zd) (w : World) (hl : l.length = n) (hn : n ≤ 9223372036854775807) (hR : Rk w w.heap.size A (l.flatMap zcell))
    (hp : ∀ x ∈ l, ∀ W, Below w.heap.size w W → Calls Tryz.prog g #[.agg #[.string x.nm, .slice x.A x.es.length x.c]] W fun e w' => e = .returned (.bool (p x)) ∧ Below W.heap.size W w') :
    Calls Tryz.prog 103 #[.slice A n c, .func (.func g) #[] #[]] w fun e w' => e = .returned (.int .i64 (fidx p l)) ∧ Below w.heap.size w w' := by
  have HR := Lib.hid hR
  have HP := Lib.hid hp
  have HL := Lib.hid hl
  clear hR hp hl
  go_enter Tryz.func103, Tryz.ntmps103
  go_wp2_with fail
  go_loopw [5, 8] (fun _ i wr => ∃ k : Nat, k ≤ n ∧ i = .int .i64 k ∧ Below w.heap.size w wr ∧ Hid (∀ j y, j < k → l[j]? = some y → p y = false)) (fun _ i _ => n - (intOf i).toNat)
  case atStart => exact ⟨0, Nat.zero_le _, rfl, Below.refl _ _, Lib.hid (fun j y h => absurd h (by omega))⟩
  case round =>
    obtain ⟨k, hk, rfl, hbw, hj⟩ := hrel
    by_cases hlt : k < n
    · obtain ⟨x, hx⟩ : ∃ x, l[k]? = some x := ⟨_, List.getElem?_eq_getElem (by rw [HL.out]; exact hlt)⟩
      obtain ⟨b, o, rfl, hb, hc⟩ := (HR.out.below hbw).at_ zcell_len (by decide) hx
      have HQ := Lib.hid (HP.out x (List.mem_of_getElem? hx) wr hbw)
      have HX := Lib.hid hx
      have c0 : wr.cell? ⟨b, o + k * 2, none⟩ = some (Value.string x.nm) := hc 0 _ rfl
      have c1 : wr.cell? ⟨b, o + k * 2 + 1, none⟩ = some (Value.slice x.A x.es.length x.c) := hc 1 _ rfl
      clear hc hx
      cases hpx : p x with
      | true =>
        rw [hpx] at HQ
        have HPX := Lib.hid hpx
        clear hpx
        go_wp2_with (go_at_fn g; refine HQ.out.mono ?_; rintro e w1 ⟨rfl, b1⟩)
        go_ret
        exact ⟨ret_int (fidx_hit l k x HX.out HPX.out hj.out).symm, hbw.trans (b1.mono hbw.size)⟩
      | false =>
        rw [hpx] at HQ
        have HPX := Lib.hid hpx
        clear hpx
        go_wp2_with (go_at_fn g; refine HQ.out.mono ?_; rintro e w1 ⟨rfl, b1⟩)
        go_roundw
        case rel =>
          refine ⟨k + 1, by omega, by go_num, hbw.trans (b1.mono hbw.size), Lib.hid (fun j y hj2 hy => ?_)⟩
          rcases Nat.lt_or_ge j k with h | h
          · exact hj.out j y h hy
          · obtain rfl : j = k := by omega
            have := HX.out
            rw [this] at hy
            injection hy with hy
            subst hy
            exact HPX.out
        case measure => simp [intOf]; omega
    · obtain rfl : k = n := by omega
      go_wp2_with fail
      go_ret
      exact ⟨ret_int (fidx_miss l (fun j y hj2 hy => hj.out j y (by have := HL.out; omega) hy)).symm, hbw⟩
theorem has_zone (g : Nat) (eg : ∀ args w, (callFunc g args).run Tryz.prog w = .ok (.enter g args) w) (p : Zd → Bool) (A : Option Addr) (n c : Nat) (l : List Zd) (w : World) (hl : l.length = n) (hn : n ≤ 9223372036854775807) (hR : Rk w w.heap.size A (l.flatMap zcell))
    (hp : ∀ x ∈ l, ∀ W, Below w.heap.size w W → Calls Tryz.prog g #[.agg #[.string x.nm, .slice x.A x.es.length x.c]] W fun e w' => e = .returned (.bool (p x)) ∧ Below W.heap.size W w') (v : Bool) (hv : l.any p = v) :
    Calls Tryz.prog 59 #[.slice A n c, .func (.func g) #[] #[]] w fun e w' => e = .returned (.bool v) ∧ Below w.heap.size w w' := by
  subst hv
  have H := Lib.hid (idx_zone g eg p A n c l w hl hn hR hp)
  rw [fidx_any]
  have h1 := fidx_ge p l
  have h2 : fidx p l < n := by omega
  clear hl hR hp
  generalize fidx p l = v at *
  go_enter Tryz.func59, Tryz.ntmps59
  go_wp2_with fail
  refine H.out.mono ?_
  rintro e w1 ⟨rfl, b1⟩
  go_wp2_with fail
  go_ret
  exact ⟨rfl, b1⟩
set_option maxRecDepth 100000 in
set_option maxHeartbeats 1000000 in
theorem idx_link (g : Nat) (eg : ∀ args w, (callFunc g args).run Tryz.prog w = .ok (.enter g args) w) (p : Lk → Bool) (A : Option Addr) (n c : Nat) (l : List Lk) (w : World) (hl : l.length = n) (hn : n ≤ 9223372036854775807) (hR : Rk w w.heap.size A (l.flatMap lcell))
    (hp : ∀ x ∈ l, ∀ W, Below w.heap.size w W → Calls Tryz.prog g #[.agg #[.string x.tg, .string x.nm]] W fun e w' => e = .returned (.bool (p x)) ∧ Below W.heap.size W w') :
    Calls Tryz.prog 104 #[.slice A n c, .func (.func g) #[] #[]] w fun e w' => e = .returned (.int .i64 (fidx p l)) ∧ Below w.heap.size w w' := by
  have HR := Lib.hid hR
  have HP := Lib.hid hp
  have HL := Lib.hid hl
  clear hR hp hl
  go_enter Tryz.func104, Tryz.ntmps104
  go_wp2_with fail
  go_loopw [5, 8] (fun _ i wr => ∃ k : Nat, k ≤ n ∧ i = .int .i64 k ∧ Below w.heap.size w wr ∧ Hid (∀ j y, j < k → l[j]? = some y → p y = false)) (fun _ i _ => n - (intOf i).toNat)
  case atStart => exact ⟨0, Nat.zero_le _, rfl, Below.refl _ _, Lib.hid (fun j y h => absurd h (by omega))⟩
  case round =>
    obtain ⟨k, hk, rfl, hbw, hj⟩ := hrel
    by_cases hlt : k < n
    · obtain ⟨x, hx⟩ : ∃ x, l[k]? = some x := ⟨_, List.getElem?_eq_getElem (by rw [HL.out]; exact hlt)⟩
      obtain ⟨b, o, rfl, hb, hc⟩ := (HR.out.below hbw).at_ lcell_len (by decide) hx
      have HQ := Lib.hid (HP.out x (List.mem_of_getElem? hx) wr hbw)
      have HX := Lib.hid hx
      have c0 : wr.cell? ⟨b, o + k * 2, none⟩ = some (Value.string x.tg) := hc 0 _ rfl
      have c1 : wr.cell? ⟨b, o + k * 2 + 1, none⟩ = some (Value.string x.nm) := hc 1 _ rfl
      clear hc hx
      cases hpx : p x with
      | true =>
        rw [hpx] at HQ
        have HPX := Lib.hid hpx
        clear hpx
        go_wp2_with (go_at_fn g; refine HQ.out.mono ?_; rintro e w1 ⟨rfl, b1⟩)
        go_ret
        exact ⟨ret_int (fidx_hit l k x HX.out HPX.out hj.out).symm, hbw.trans (b1.mono hbw.size)⟩
      | false =>
        rw [hpx] at HQ
        have HPX := Lib.hid hpx
        clear hpx
        go_wp2_with (go_at_fn g; refine HQ.out.mono ?_; rintro e w1 ⟨rfl, b1⟩)
        go_roundw
        case rel =>
          refine ⟨k + 1, by omega, by go_num, hbw.trans (b1.mono hbw.size), Lib.hid (fun j y hj2 hy => ?_)⟩
          rcases Nat.lt_or_ge j k with h | h
          · exact hj.out j y h hy
          · obtain rfl : j = k := by omega
            have := HX.out
            rw [this] at hy
            injection hy with hy
            subst hy
            exact HPX.out
        case measure => simp [intOf]; omega
    · obtain rfl : k = n := by omega
      go_wp2_with fail
      go_ret
      exact ⟨ret_int (fidx_miss l (fun j y hj2 hy => hj.out j y (by have := HL.out; omega) hy)).symm, hbw⟩
theorem has_link (g : Nat) (eg : ∀ args w, (callFunc g args).run Tryz.prog w = .ok (.enter g args) w) (p : Lk → Bool) (A : Option Addr) (n c : Nat) (l : List Lk) (w : World) (hl : l.length = n) (hn : n ≤ 9223372036854775807) (hR : Rk w w.heap.size A (l.flatMap lcell))
    (hp : ∀ x ∈ l, ∀ W, Below w.heap.size w W → Calls Tryz.prog g #[.agg #[.string x.tg, .string x.nm]] W fun e w' => e = .returned (.bool (p x)) ∧ Below W.heap.size W w') (v : Bool) (hv : l.any p = v) :
    Calls Tryz.prog 60 #[.slice A n c, .func (.func g) #[] #[]] w fun e w' => e = .returned (.bool v) ∧ Below w.heap.size w w' := by
  subst hv
  have H := Lib.hid (idx_link g eg p A n c l w hl hn hR hp)
  rw [fidx_any]
  have h1 := fidx_ge p l
  have h2 : fidx p l < n := by omega
  clear hl hR hp
  generalize fidx p l = v at *
  go_enter Tryz.func60, Tryz.ntmps60
  go_wp2_with fail
  refine H.out.mono ?_
  rintro e w1 ⟨rfl, b1⟩
  go_wp2_with fail
  go_ret
  exact ⟨rfl, b1⟩
set_option maxRecDepth 100000 in
set_option maxHeartbeats 1000000 in
theorem idx_era (g : Nat) (eg : ∀ args w, (callFunc g args).run Tryz.prog w = .ok (.enter g args) w) (p : Er → Bool) (A : Option Addr) (n c : Nat) (l : List Er) (w : World) (hl : l.length = n) (hn : n ≤ 9223372036854775807) (hR : Rk w w.heap.size A (l.flatMap ecell))
    (hp : ∀ x ∈ l, ∀ W, Below w.heap.size w W → Calls Tryz.prog g #[.agg #[.int .i64 x.sd, .int .u8 x.k, .int .i64 x.sv, .string x.ru, .string x.fm, .bool x.en, .int .i64 x.u.y, .int .i64 x.u.m, .int .u8 x.u.k, .int .i64 x.u.n, .int .i64 x.u.d, .int .i64 x.u.s, .int .u8 x.u.c]] W fun e w' => e = .returned (.bool (p x)) ∧ Below W.heap.size W w') :
    Calls Tryz.prog 101 #[.slice A n c, .func (.func g) #[] #[]] w fun e w' => e = .returned (.int .i64 (fidx p l)) ∧ Below w.heap.size w w' := by
  have HR := Lib.hid hR
  have HP := Lib.hid hp
  have HL := Lib.hid hl
  clear hR hp hl
  go_enter Tryz.func101, Tryz.ntmps101
  go_wp2_with fail
  go_loopw [5, 8] (fun _ i wr => ∃ k : Nat, k ≤ n ∧ i = .int .i64 k ∧ Below w.heap.size w wr ∧ Hid (∀ j y, j < k → l[j]? = some y → p y = false)) (fun _ i _ => n - (intOf i).toNat)
  case atStart => exact ⟨0, Nat.zero_le _, rfl, Below.refl _ _, Lib.hid (fun j y h => absurd h (by omega))⟩
  case round =>
    obtain ⟨k, hk, rfl, hbw, hj⟩ := hrel
    by_cases hlt : k < n
    · obtain ⟨x, hx⟩ : ∃ x, l[k]? = some x := ⟨_, List.getElem?_eq_getElem (by rw [HL.out]; exact hlt)⟩
      obtain ⟨b, o, rfl, hb, hc⟩ := (HR.out.below hbw).at_ ecell_len (by decide) hx
      have HQ := Lib.hid (HP.out x (List.mem_of_getElem? hx) wr hbw)
      have HX := Lib.hid hx
      have c0 : wr.cell? ⟨b, o + k * 13, none⟩ = some (Value.int .i64 x.sd) := hc 0 _ rfl
      have c1 : wr.cell? ⟨b, o + k * 13 + 1, none⟩ = some (Value.int .u8 x.k) := hc 1 _ rfl
      have c2 : wr.cell? ⟨b, o + k * 13 + 2, none⟩ = some (Value.int .i64 x.sv) := hc 2 _ rfl
      have c3 : wr.cell? ⟨b, o + k * 13 + 3, none⟩ = some (Value.string x.ru) := hc 3 _ rfl
      have c4 : wr.cell? ⟨b, o + k * 13 + 4, none⟩ = some (Value.string x.fm) := hc 4 _ rfl
      have c5 : wr.cell? ⟨b, o + k * 13 + 5, none⟩ = some (Value.bool x.en) := hc 5 _ rfl
      have c6 : wr.cell? ⟨b, o + k * 13 + 6, none⟩ = some (Value.int .i64 x.u.y) := hc 6 _ rfl
      have c7 : wr.cell? ⟨b, o + k * 13 + 7, none⟩ = some (Value.int .i64 x.u.m) := hc 7 _ rfl
      have c8 : wr.cell? ⟨b, o + k * 13 + 8, none⟩ = some (Value.int .u8 x.u.k) := hc 8 _ rfl
      have c9 : wr.cell? ⟨b, o + k * 13 + 9, none⟩ = some (Value.int .i64 x.u.n) := hc 9 _ rfl
      have c10 : wr.cell? ⟨b, o + k * 13 + 10, none⟩ = some (Value.int .i64 x.u.d) := hc 10 _ rfl
      have c11 : wr.cell? ⟨b, o + k * 13 + 11, none⟩ = some (Value.int .i64 x.u.s) := hc 11 _ rfl
      have c12 : wr.cell? ⟨b, o + k * 13 + 12, none⟩ = some (Value.int .u8 x.u.c) := hc 12 _ rfl
      clear hc hx
      cases hpx : p x with
      | true =>
        rw [hpx] at HQ
        have HPX := Lib.hid hpx
        clear hpx
        go_wp2_with (go_at_fn g; refine HQ.out.mono ?_; rintro e w1 ⟨rfl, b1⟩)
        go_ret
        exact ⟨ret_int (fidx_hit l k x HX.out HPX.out hj.out).symm, hbw.trans (b1.mono hbw.size)⟩
      | false =>
        rw [hpx] at HQ
        have HPX := Lib.hid hpx
        clear hpx
        go_wp2_with (go_at_fn g; refine HQ.out.mono ?_; rintro e w1 ⟨rfl, b1⟩)
        go_roundw
        case rel =>
          refine ⟨k + 1, by omega, by go_num, hbw.trans (b1.mono hbw.size), Lib.hid (fun j y hj2 hy => ?_)⟩
          rcases Nat.lt_or_ge j k with h | h
          · exact hj.out j y h hy
          · obtain rfl : j = k := by omega
            have := HX.out
            rw [this] at hy
            injection hy with hy
            subst hy
            exact HPX.out
        case measure => simp [intOf]; omega
    · obtain rfl : k = n := by omega
      go_wp2_with fail
      go_ret
      exact ⟨ret_int (fidx_miss l (fun j y hj2 hy => hj.out j y (by have := HL.out; omega) hy)).symm, hbw⟩
theorem has_era (g : Nat) (eg : ∀ args w, (callFunc g args).run Tryz.prog w = .ok (.enter g args) w) (p : Er → Bool) (A : Option Addr) (n c : Nat) (l : List Er) (w : World) (hl : l.length = n) (hn : n ≤ 9223372036854775807) (hR : Rk w w.heap.size A (l.flatMap ecell))
    (hp : ∀ x ∈ l, ∀ W, Below w.heap.size w W → Calls Tryz.prog g #[.agg #[.int .i64 x.sd, .int .u8 x.k, .int .i64 x.sv, .string x.ru, .string x.fm, .bool x.en, .int .i64 x.u.y, .int .i64 x.u.m, .int .u8 x.u.k, .int .i64 x.u.n, .int .i64 x.u.d, .int .i64 x.u.s, .int .u8 x.u.c]] W fun e w' => e = .returned (.bool (p x)) ∧ Below W.heap.size W w') (v : Bool) (hv : l.any p = v) :
    Calls Tryz.prog 100 #[.slice A n c, .func (.func g) #[] #[]] w fun e w' => e = .returned (.bool v) ∧ Below w.heap.size w w' := by
  subst hv
  have H := Lib.hid (idx_era g eg p A n c l w hl hn hR hp)
  rw [fidx_any]
  have h1 := fidx_ge p l
  have h2 : fidx p l < n := by omega
  clear hl hR hp
  generalize fidx p l = v at *
  go_enter Tryz.func100, Tryz.ntmps100
  go_wp2_with fail
  refine H.out.mono ?_
  rintro e w1 ⟨rfl, b1⟩
  go_wp2_with fail
  go_ret
  exact ⟨rfl, b1⟩
end Go.Proofs.YtkcbmnboccjnnaaGreatDoor
