/- Contracts of package era: savedText, Text. -/
import Derived.Test.YtigmbkcjmlpfoaaGreatDoorErQ
import Derived.Test.YtigmbkcjmlpfoaaGreatDoorRuT
import Derived.Test.YtigmbkcjmlpfoaaGreatDoorMe
import Derived.Laws.OwnMore
import Derived.Deep.RegionHeld3
namespace Go.Proofs.YtigmbkcjmlpfoaaGreatDoor
open Go.RowKit
theorem grown_of_below {a w : World} (h : Below a.heap.size a w) (row : Option Nat) : a.grownBy w row := ⟨h.os, h.tape, h.output, h.size, fun i hi _ => h.block i hi⟩
/-- Texts of a row of the call's own, and others behind them. -/
theorem wpList_joins {w : World} {ops : Array Oper} {rest : List Oper} {o : Oper} {a : Act} {Q : Exit → Act → World → Prop} (hgd : o.guard = none) (s x : Operand)
    (ho : o.op = .call { callee := .builtin .append, args := #[s, x], argTypes := #[30, 30] }) (base : Nat) (v : Value) (L : List ByteArray) (hown : w.ownsRow base 9 1 v L.length (L.map Value.string)) (hs : a.eval s = v) (g n c : Nat) (M : List ByteArray)
    (hx : a.eval x = .slice (some ⟨g, 0, none⟩) n c) (hM : Txs w g M) (hn : M.length = n) (N : Nat) (hN : L.length + n = N) (hlen : N ≤ 4096) (hbase : base ≤ w.heap.size)
    (h : ∀ v' w', w'.ownsRow base 9 1 v' N ((L ++ M).map Value.string) → w.grownBy w' v.ownBlock → wpList Tryz.prog ops Q rest (a.put o.dst v') w') : wpList Tryz.prog ops Q (o :: rest) a w := by
  obtain ⟨i0, hi, hz0, hz1, hz2⟩ := info_parts str_info
  subst hn hN
  refine wpList_append_own w hgd s x 30 ho base 9 i0 (.string ⟨#[]⟩) 1 16 Tryz.underlying30 hi hz0 hz1 hz2 rfl (by omega) v L.length (L.map Value.string) hs hown ⟨g, 0, none⟩ M.length c (M.map Value.string) hx (by simp) (fun j u hu => ?_) (fun u hu => ?_) (by unfold maxLen; omega) (by omega) hbase (fun v' w' h1 h2 _ => ?_)
  · rw [addr_add]
    rw [List.getElem?_map] at hu; obtain ⟨t, ht, rfl⟩ := Option.map_eq_some_iff.1 hu; obtain ⟨hj, e⟩ := List.getElem?_eq_some_iff.1 ht; rw [hM.at_ j hj, List.getD_eq_getElem?_getD, ht]; rfl
  · obtain ⟨t, _, rfl⟩ := List.mem_map.1 hu
    rfl
  · refine h v' w' ?_ h2
    rw [List.map_append]
    exact h1
theorem own_texts {w : World} {base N : Nat} {v : Value} {L : List ByteArray} (h : w.ownsRow base 9 1 v N (L.map Value.string)) (hN : 0 < N) (hL : L.length = N) : ∃ g c, v = .slice (some ⟨g, 0, none⟩) N c ∧ N ≤ c ∧ c ≤ maxLen ∧ base ≤ g ∧ Txs w g L := by
  rcases h.2 with ⟨_, h0⟩ | ⟨g, cap, cur, he, hb, hg, hn, hc, _⟩
  · omega
  · subst he
    refine ⟨g, cap, rfl, hn, hc, hb, ?_, fun i hi => ?_⟩
    · have := (h.lt g rfl).2
      exact this
    · have hi' : i < N * 1 := by omega
      rw [h.cellAt i hi', List.getElem?_map, List.getElem?_eq_getElem hi, List.getD_eq_getElem?_getD, List.getElem?_eq_getElem hi]
      rfl
section
variable (sd k sv : Int) (ru fm : ByteArray) (en : Bool) (y m q n d s c : Int) (w : World)
theorem esvt_1 (T : ByteArray) (HE : Hid (Env w)) (s1 : -604800 ≤ sv) (s2 : sv ≤ 604800) (HT : Hid ((⟨(txt sv).toArray⟩ : ByteArray) = T)) : Calls Tryz.prog 31 #[.agg #[.int .i64 sd, .int .u8 1, .int .i64 sv, .string ru, .string fm, .bool en, .int .i64 y, .int .i64 m, .int .u8 q, .int .i64 n, .int .i64 d, .int .i64 s, .int .u8 c]] w fun e w' => e = .returned (.string T) ∧ Below w.heap.size w w' := by
  go_enter Tryz.func31, Tryz.ntmps31
  go_wp2_with fail
  refine (clk_text sv T _ (HE.out.alloc _) s1 s2 HT.out).mono ?_
  rintro e w1 ⟨rfl, b1⟩
  have a1 := ((Below.refl w.heap.size w).alloc (Nat.le_refl _) (.cells #[.int .i64 sd, .int .u8 1, .int .i64 sv, .string ru, .string fm, .bool en, .int .i64 y, .int .i64 m, .int .u8 q, .int .i64 n, .int .i64 d, .int .i64 s, .int .u8 c] 44)).trans (b1.mono (by simp))
  go_wp2_with fail
  go_ret
  exact ⟨rfl, a1⟩
theorem esvt_2 : Calls Tryz.prog 31 #[.agg #[.int .i64 sd, .int .u8 2, .int .i64 sv, .string ru, .string fm, .bool en, .int .i64 y, .int .i64 m, .int .u8 q, .int .i64 n, .int .i64 d, .int .i64 s, .int .u8 c]] w fun e w' => e = .returned (.string ru) ∧ Below w.heap.size w w' := by
  go_enter Tryz.func31, Tryz.ntmps31
  go_wp2_with fail
  go_ret
  exact ⟨rfl, (Below.refl _ _).alloc (Nat.le_refl _) _⟩
theorem esvt_0 : Calls Tryz.prog 31 #[.agg #[.int .i64 sd, .int .u8 0, .int .i64 sv, .string ru, .string fm, .bool en, .int .i64 y, .int .i64 m, .int .u8 q, .int .i64 n, .int .i64 d, .int .i64 s, .int .u8 c]] w fun e w' => e = .returned (.string ⟨#[45]⟩) ∧ Below w.heap.size w w' := by
  go_enter Tryz.func31, Tryz.ntmps31
  go_wp2_with fail
  go_ret
  exact ⟨rfl, (Below.refl _ _).alloc (Nat.le_refl _) _⟩
end
theorem esvt_T (e : Er) (T : ByteArray) (w : World) (hE : Env w) (h : El.right e = true) (hT : El.t1 e = T) : Calls Tryz.prog 31 #[erV e] w fun x w' => x = .returned (.string T) ∧ Below w.heap.size w w' := by
  subst hT
  obtain ⟨_, hk, _⟩ := el_parts h
  unfold El.t1
  obtain ⟨sd, k, sv, ru, fm, en, ⟨y, m, q, n, d, s, c⟩⟩ := e
  simp only at hk ⊢
  rcases kind_cases hk with ⟨rfl, _⟩ | ⟨rfl, ⟨s1, s2⟩, _⟩ | ⟨rfl, _⟩
  · rw [if_neg (by decide), if_neg (by decide)]
    exact esvt_0 sd sv ru fm en y m q n d s c w
  · rw [if_pos rfl]
    exact esvt_1 sd sv ru fm en y m q n d s c w _ (Lib.hid hE) s1 s2 (Lib.hid rfl)
  · rw [if_neg (by decide), if_pos rfl]
    exact esvt_2 sd sv ru fm en y m q n d s c w
/-- What Text answers: texts. -/
def ETxtE (w' : World) (L : List ByteArray) (n : Nat) (e : Ending) : Prop := ∃ g c, e = .returned (.tuple #[.slice (some ⟨g, 0, none⟩) n c, .int .i64 0]) ∧ n ≤ c ∧ c ≤ maxLen ∧ Txs w' g L
theorem etext_no (e : Er) (w : World) (hE : Ev w) (hs : e.ru.size ≤ 9223372036854775807) (h : El.right e = false) : Calls Tryz.prog 14 #[erV e] w fun x w' => x = .returned (.tuple #[.slice none 0 0, .int .i64 2]) ∧ Below w.heap.size w w' := by
  have H := Lib.hid (fun W (hE : Ev W) => eisRight_is e false W hE hs h)
  have HE := Lib.hid hE
  obtain ⟨sd, k, sv, ru, fm, en, ⟨y, m, q, n, d, s, c⟩⟩ := e
  clear h hE
  go_enter Tryz.func14, Tryz.ntmps14
  go_wp2_with fail
  refine (H.out _ (HE.out.alloc _)).mono ?_
  rintro e w1 ⟨rfl, b1⟩
  have a1 : Below w.heap.size w w1 := ((Below.refl _ _).alloc (Nat.le_refl _) _).trans (b1.mono (by simp))
  go_wp2_with fail
  go_ret2
  exact ⟨rfl, a1⟩
/-- What is kept while an era's first texts are made. -/
structure EKeep (B : Nat) (w0 w : World) : Prop where
  lt : B < w.heap.size
  ev : Ev w
  bel : Below B w0 w
section
variable {B : Nat} {w0 w w1 : World} {x0 x1 x2 x3 x4 x5 x6 x7 x8 x9 x10 x11 x12 : Value}
theorem ekeep_on (h : w.cell? ⟨B, 0, none⟩ = some x0 ∧ w.cell? ⟨B, 1, none⟩ = some x1 ∧ w.cell? ⟨B, 2, none⟩ = some x2 ∧ w.cell? ⟨B, 3, none⟩ = some x3 ∧ w.cell? ⟨B, 4, none⟩ = some x4 ∧ w.cell? ⟨B, 5, none⟩ = some x5 ∧ w.cell? ⟨B, 6, none⟩ = some x6 ∧ w.cell? ⟨B, 7, none⟩ = some x7 ∧ w.cell? ⟨B, 8, none⟩ = some x8 ∧ w.cell? ⟨B, 9, none⟩ = some x9 ∧ w.cell? ⟨B, 10, none⟩ = some x10 ∧ w.cell? ⟨B, 11, none⟩ = some x11 ∧ w.cell? ⟨B, 12, none⟩ = some x12 ∧ EKeep B w0 w) (hb : Below w.heap.size w w1) : w1.cell? ⟨B, 0, none⟩ = some x0 ∧ w1.cell? ⟨B, 1, none⟩ = some x1 ∧ w1.cell? ⟨B, 2, none⟩ = some x2 ∧ w1.cell? ⟨B, 3, none⟩ = some x3 ∧ w1.cell? ⟨B, 4, none⟩ = some x4 ∧ w1.cell? ⟨B, 5, none⟩ = some x5 ∧ w1.cell? ⟨B, 6, none⟩ = some x6 ∧ w1.cell? ⟨B, 7, none⟩ = some x7 ∧ w1.cell? ⟨B, 8, none⟩ = some x8 ∧ w1.cell? ⟨B, 9, none⟩ = some x9 ∧ w1.cell? ⟨B, 10, none⟩ = some x10 ∧ w1.cell? ⟨B, 11, none⟩ = some x11 ∧ w1.cell? ⟨B, 12, none⟩ = some x12 ∧ EKeep B w0 w1 := by
  obtain ⟨c0, c1, c2, c3, c4, c5, c6, c7, c8, c9, c10, c11, c12, hl, he, hbw⟩ := h
  obtain ⟨hc, _⟩ := bcell hb
  have := hb.size
  exact ⟨(hc _ _ hl).trans c0, (hc _ _ hl).trans c1, (hc _ _ hl).trans c2, (hc _ _ hl).trans c3, (hc _ _ hl).trans c4, (hc _ _ hl).trans c5, (hc _ _ hl).trans c6, (hc _ _ hl).trans c7, (hc _ _ hl).trans c8, (hc _ _ hl).trans c9, (hc _ _ hl).trans c10, (hc _ _ hl).trans c11, (hc _ _ hl).trans c12, by omega, he.below hb, hbw.trans (hb.mono (Nat.le_of_lt hl))⟩
theorem ekeep_keep (h : w.cell? ⟨B, 0, none⟩ = some x0 ∧ w.cell? ⟨B, 1, none⟩ = some x1 ∧ w.cell? ⟨B, 2, none⟩ = some x2 ∧ w.cell? ⟨B, 3, none⟩ = some x3 ∧ w.cell? ⟨B, 4, none⟩ = some x4 ∧ w.cell? ⟨B, 5, none⟩ = some x5 ∧ w.cell? ⟨B, 6, none⟩ = some x6 ∧ w.cell? ⟨B, 7, none⟩ = some x7 ∧ w.cell? ⟨B, 8, none⟩ = some x8 ∧ w.cell? ⟨B, 9, none⟩ = some x9 ∧ w.cell? ⟨B, 10, none⟩ = some x10 ∧ w.cell? ⟨B, 11, none⟩ = some x11 ∧ w.cell? ⟨B, 12, none⟩ = some x12 ∧ EKeep B w0 w) : EKeep B w0 w := h.2.2.2.2.2.2.2.2.2.2.2.2.2
end
set_option maxRecDepth 100000 in
set_option maxHeartbeats 4000000 in
theorem etext_in_no (sd k sv : Int) (ru fm : ByteArray) (y m q n d s c : Int) (T0 T1 : ByteArray) (w : World) (HE : Hid (Ev w)) (hs : ru.size ≤ 9223372036854775807) (H : Hid (El.right ⟨sd, k, sv, ru, fm, false, ⟨y, m, q, n, d, s, c⟩⟩ = true)) (v1 : -604800 ≤ sd) (v2 : sd ≤ 604800) (H0 : Hid ((⟨(txt sd).toArray⟩ : ByteArray) = T0)) (H1 : Hid (El.t1 ⟨sd, k, sv, ru, fm, false, ⟨y, m, q, n, d, s, c⟩⟩ = T1)) :
    Calls Tryz.prog 14 #[.agg #[.int .i64 sd, .int .u8 k, .int .i64 sv, .string ru, .string fm, .bool false, .int .i64 y, .int .i64 m, .int .u8 q, .int .i64 n, .int .i64 d, .int .i64 s, .int .u8 c]] w fun e w' => ETxtE w' [T0, T1, fm] 3 e ∧ Below w.heap.size w w' := by
  have HI := Lib.hid (fun W (hE : Ev W) => eisRight_is ⟨sd, k, sv, ru, fm, false, ⟨y, m, q, n, d, s, c⟩⟩ true W hE hs H.out)
  have HT1 := Lib.hid (fun W (hE : Env W) => esvt_T ⟨sd, k, sv, ru, fm, false, ⟨y, m, q, n, d, s, c⟩⟩ T1 W hE H.out H1.out)
  go_enter Tryz.func14, Tryz.ntmps14
  go_wp2_with fail
  refine (HI.out _ (HE.out.alloc _)).mono ?_
  rintro e w1 ⟨rfl, b1⟩
  have k1 := ekeep_on (w := w.alloc (.cells #[.int .i64 sd, .int .u8 k, .int .i64 sv, .string ru, .string fm, .bool false, .int .i64 y, .int .i64 m, .int .u8 q, .int .i64 n, .int .i64 d, .int .i64 s, .int .u8 c] 44)) (B := w.heap.size) (w0 := w) (x0 := .int .i64 sd) (x1 := .int .u8 k) (x2 := .int .i64 sv) (x3 := .string ru) (x4 := .string fm) (x5 := .bool false) (x6 := .int .i64 y) (x7 := .int .i64 m) (x8 := .int .u8 q) (x9 := .int .i64 n) (x10 := .int .i64 d) (x11 := .int .i64 s) (x12 := .int .u8 c) ⟨by go_simp, by go_simp, by go_simp, by go_simp, by go_simp, by go_simp, by go_simp, by go_simp, by go_simp, by go_simp, by go_simp, by go_simp, by go_simp, by simp, HE.out.alloc _, (Below.refl _ _).alloc (Nat.le_refl _) _⟩ b1
  clear b1
  have S0 := ekeep_on (B := w.heap.size) (w0 := w) (x0 := .int .i64 sd) (x1 := .int .u8 k) (x2 := .int .i64 sv) (x3 := .string ru) (x4 := .string fm) (x5 := .bool false) (x6 := .int .i64 y) (x7 := .int .i64 m) (x8 := .int .u8 q) (x9 := .int .i64 n) (x10 := .int .i64 d) (x11 := .int .i64 s) (x12 := .int .u8 c) k1 (Below.drew (Below.refl _ w1))
  have hlt := (ekeep_keep (B := w.heap.size) (w0 := w) (x0 := .int .i64 sd) (x1 := .int .u8 k) (x2 := .int .i64 sv) (x3 := .string ru) (x4 := .string fm) (x5 := .bool false) (x6 := .int .i64 y) (x7 := .int .i64 m) (x8 := .int .u8 q) (x9 := .int .i64 n) (x10 := .int .i64 d) (x11 := .int .i64 s) (x12 := .int .u8 c) k1).lt
  clear k1
  go_wp2_with fail
  go_region_held3 (fun w' => w'.cell? ⟨w.heap.size, 0, none⟩ = some (.int .i64 sd) ∧ w'.cell? ⟨w.heap.size, 1, none⟩ = some (.int .u8 k) ∧ w'.cell? ⟨w.heap.size, 2, none⟩ = some (.int .i64 sv) ∧ w'.cell? ⟨w.heap.size, 3, none⟩ = some (.string ru) ∧ w'.cell? ⟨w.heap.size, 4, none⟩ = some (.string fm) ∧ w'.cell? ⟨w.heap.size, 5, none⟩ = some (.bool false) ∧ w'.cell? ⟨w.heap.size, 6, none⟩ = some (.int .i64 y) ∧ w'.cell? ⟨w.heap.size, 7, none⟩ = some (.int .i64 m) ∧ w'.cell? ⟨w.heap.size, 8, none⟩ = some (.int .u8 q) ∧ w'.cell? ⟨w.heap.size, 9, none⟩ = some (.int .i64 n) ∧ w'.cell? ⟨w.heap.size, 10, none⟩ = some (.int .i64 d) ∧ w'.cell? ⟨w.heap.size, 11, none⟩ = some (.int .i64 s) ∧ w'.cell? ⟨w.heap.size, 12, none⟩ = some (.int .u8 c) ∧ EKeep w.heap.size w w')
    (first | assumption | exact ekeep_on (by assumption) (by assumption) | exact ekeep_on (by assumption) ((Below.refl _ _).alloc (Nat.le_refl _) _))
    (first
      | (go_at_call 27; refine (clk_text sd T0 _ (ekeep_keep (B := w.heap.size) (w0 := w) (x0 := .int .i64 sd) (x1 := .int .u8 k) (x2 := .int .i64 sv) (x3 := .string ru) (x4 := .string fm) (x5 := .bool false) (x6 := .int .i64 y) (x7 := .int .i64 m) (x8 := .int .u8 q) (x9 := .int .i64 n) (x10 := .int .i64 d) (x11 := .int .i64 s) (x12 := .int .u8 c) (by assumption)).ev.env v1 v2 H0.out).mono ?_; rintro e w' ⟨rfl, hb⟩)
      | (go_at_call 31; refine (HT1.out _ (ekeep_keep (B := w.heap.size) (w0 := w) (x0 := .int .i64 sd) (x1 := .int .u8 k) (x2 := .int .i64 sv) (x3 := .string ru) (x4 := .string fm) (x5 := .bool false) (x6 := .int .i64 y) (x7 := .int .i64 m) (x8 := .int .u8 q) (x9 := .int .i64 n) (x10 := .int .i64 d) (x11 := .int .i64 s) (x12 := .int .u8 c) (by assumption)).ev.env).mono ?_; rintro e w' ⟨rfl, hb⟩))
  have q5 : (w'.alloc (.cells #[.string T0, .string T1, .string fm] 9)).cell? ⟨w.heap.size, 0, none⟩ = some (.int .i64 sd) ∧ (w'.alloc (.cells #[.string T0, .string T1, .string fm] 9)).cell? ⟨w.heap.size, 1, none⟩ = some (.int .u8 k) ∧ (w'.alloc (.cells #[.string T0, .string T1, .string fm] 9)).cell? ⟨w.heap.size, 2, none⟩ = some (.int .i64 sv) ∧ (w'.alloc (.cells #[.string T0, .string T1, .string fm] 9)).cell? ⟨w.heap.size, 3, none⟩ = some (.string ru) ∧ (w'.alloc (.cells #[.string T0, .string T1, .string fm] 9)).cell? ⟨w.heap.size, 4, none⟩ = some (.string fm) ∧ (w'.alloc (.cells #[.string T0, .string T1, .string fm] 9)).cell? ⟨w.heap.size, 5, none⟩ = some (.bool false) ∧ (w'.alloc (.cells #[.string T0, .string T1, .string fm] 9)).cell? ⟨w.heap.size, 6, none⟩ = some (.int .i64 y) ∧ (w'.alloc (.cells #[.string T0, .string T1, .string fm] 9)).cell? ⟨w.heap.size, 7, none⟩ = some (.int .i64 m) ∧ (w'.alloc (.cells #[.string T0, .string T1, .string fm] 9)).cell? ⟨w.heap.size, 8, none⟩ = some (.int .u8 q) ∧ (w'.alloc (.cells #[.string T0, .string T1, .string fm] 9)).cell? ⟨w.heap.size, 9, none⟩ = some (.int .i64 n) ∧ (w'.alloc (.cells #[.string T0, .string T1, .string fm] 9)).cell? ⟨w.heap.size, 10, none⟩ = some (.int .i64 d) ∧ (w'.alloc (.cells #[.string T0, .string T1, .string fm] 9)).cell? ⟨w.heap.size, 11, none⟩ = some (.int .i64 s) ∧ (w'.alloc (.cells #[.string T0, .string T1, .string fm] 9)).cell? ⟨w.heap.size, 12, none⟩ = some (.int .u8 c) ∧ EKeep w.heap.size w (w'.alloc (.cells #[.string T0, .string T1, .string fm] 9)) := (by assumption)
  have k5 := ekeep_keep (B := w.heap.size) (w0 := w) (x0 := .int .i64 sd) (x1 := .int .u8 k) (x2 := .int .i64 sv) (x3 := .string ru) (x4 := .string fm) (x5 := .bool false) (x6 := .int .i64 y) (x7 := .int .i64 m) (x8 := .int .u8 q) (x9 := .int .i64 n) (x10 := .int .i64 d) (x11 := .int .i64 s) (x12 := .int .u8 c) q5
  have k6 : w.heap.size ≤ w'.heap.size := by
    have h := k5.lt
    simp at h
    omega
  have hO := World.ownsRow_lit (e := 9) (size := 1) (base := w.heap.size) w' #[.string T0, .string T1, .string fm] 3 k6 (by decide) rfl
  have hF : Txs (w'.alloc (.cells #[.string T0, .string T1, .string fm] 9)) w'.heap.size [T0, T1, fm] := ⟨by simp, fun i hi => by
    rw [cell_blk (heap_alloc_new _ _)]
    have hi3 : i = 0 ∨ i = 1 ∨ i = 2 := by simp at hi; omega
    rcases hi3 with rfl | rfl | rfl <;> rfl⟩
  generalize w'.alloc (.cells #[.string T0, .string T1, .string fm] 9) = w4 at *
  generalize w'.heap.size = g4 at *
  have Q5 := Lib.hid q5
  have HK := Lib.hid k5
  have HF := Lib.hid hF
  have HO := Lib.hid hO
  obtain ⟨c0', c1', c2', c3', c4', c5', c6', c7', c8', c9', c10', c11', c12', hk⟩ := q5
  have hlt5 := hk.lt
  clear hF hO k5 hk k6 S0
  go_wp2_with fail
  go_ret2
  exact ⟨⟨_, _, rfl, Nat.le_refl _, by decide, HF.out⟩, HK.out.bel⟩
set_option maxRecDepth 100000 in
set_option maxHeartbeats 4000000 in
theorem etext_in_yes (sd k sv : Int) (ru fm : ByteArray) (y m q n d s c : Int) (T0 T1 : ByteArray) (w : World) (HE : Hid (Ev w)) (hs : ru.size ≤ 9223372036854775807) (H : Hid (El.right ⟨sd, k, sv, ru, fm, true, ⟨y, m, q, n, d, s, c⟩⟩ = true)) (v1 : -604800 ≤ sd) (v2 : sd ≤ 604800) (H0 : Hid ((⟨(txt sd).toArray⟩ : ByteArray) = T0)) (H1 : Hid (El.t1 ⟨sd, k, sv, ru, fm, true, ⟨y, m, q, n, d, s, c⟩⟩ = T1)) (M : List ByteArray) (nd N : Nat) (hN : 3 + nd = N) (nd4 : nd ≤ 4) (HM : Hid (M.length = nd)) (HU : Hid (∀ W, Ev W → Calls Tryz.prog 32 #[.agg #[.int .i64 y, .int .i64 m, .int .u8 q, .int .i64 n, .int .i64 d, .int .i64 s, .int .u8 c]] W fun e w' => (∃ g, e = .returned (.tuple #[.slice (some ⟨g, 0, none⟩) nd nd, .int .i64 0]) ∧ W.heap.size ≤ g ∧ Txs w' g M) ∧ Below W.heap.size W w')) :
    Calls Tryz.prog 14 #[.agg #[.int .i64 sd, .int .u8 k, .int .i64 sv, .string ru, .string fm, .bool true, .int .i64 y, .int .i64 m, .int .u8 q, .int .i64 n, .int .i64 d, .int .i64 s, .int .u8 c]] w fun e w' => ETxtE w' ([T0, T1, fm] ++ M) N e ∧ Below w.heap.size w w' := by
  have HI := Lib.hid (fun W (hE : Ev W) => eisRight_is ⟨sd, k, sv, ru, fm, true, ⟨y, m, q, n, d, s, c⟩⟩ true W hE hs H.out)
  have HT1 := Lib.hid (fun W (hE : Env W) => esvt_T ⟨sd, k, sv, ru, fm, true, ⟨y, m, q, n, d, s, c⟩⟩ T1 W hE H.out H1.out)
  go_enter Tryz.func14, Tryz.ntmps14
  go_wp2_with fail
  refine (HI.out _ (HE.out.alloc _)).mono ?_
  rintro e w1 ⟨rfl, b1⟩
  have k1 := ekeep_on (w := w.alloc (.cells #[.int .i64 sd, .int .u8 k, .int .i64 sv, .string ru, .string fm, .bool true, .int .i64 y, .int .i64 m, .int .u8 q, .int .i64 n, .int .i64 d, .int .i64 s, .int .u8 c] 44)) (B := w.heap.size) (w0 := w) (x0 := .int .i64 sd) (x1 := .int .u8 k) (x2 := .int .i64 sv) (x3 := .string ru) (x4 := .string fm) (x5 := .bool true) (x6 := .int .i64 y) (x7 := .int .i64 m) (x8 := .int .u8 q) (x9 := .int .i64 n) (x10 := .int .i64 d) (x11 := .int .i64 s) (x12 := .int .u8 c) ⟨by go_simp, by go_simp, by go_simp, by go_simp, by go_simp, by go_simp, by go_simp, by go_simp, by go_simp, by go_simp, by go_simp, by go_simp, by go_simp, by simp, HE.out.alloc _, (Below.refl _ _).alloc (Nat.le_refl _) _⟩ b1
  clear b1
  have S0 := ekeep_on (B := w.heap.size) (w0 := w) (x0 := .int .i64 sd) (x1 := .int .u8 k) (x2 := .int .i64 sv) (x3 := .string ru) (x4 := .string fm) (x5 := .bool true) (x6 := .int .i64 y) (x7 := .int .i64 m) (x8 := .int .u8 q) (x9 := .int .i64 n) (x10 := .int .i64 d) (x11 := .int .i64 s) (x12 := .int .u8 c) k1 (Below.drew (Below.refl _ w1))
  have hlt := (ekeep_keep (B := w.heap.size) (w0 := w) (x0 := .int .i64 sd) (x1 := .int .u8 k) (x2 := .int .i64 sv) (x3 := .string ru) (x4 := .string fm) (x5 := .bool true) (x6 := .int .i64 y) (x7 := .int .i64 m) (x8 := .int .u8 q) (x9 := .int .i64 n) (x10 := .int .i64 d) (x11 := .int .i64 s) (x12 := .int .u8 c) k1).lt
  clear k1
  go_wp2_with fail
  go_region_held3 (fun w' => w'.cell? ⟨w.heap.size, 0, none⟩ = some (.int .i64 sd) ∧ w'.cell? ⟨w.heap.size, 1, none⟩ = some (.int .u8 k) ∧ w'.cell? ⟨w.heap.size, 2, none⟩ = some (.int .i64 sv) ∧ w'.cell? ⟨w.heap.size, 3, none⟩ = some (.string ru) ∧ w'.cell? ⟨w.heap.size, 4, none⟩ = some (.string fm) ∧ w'.cell? ⟨w.heap.size, 5, none⟩ = some (.bool true) ∧ w'.cell? ⟨w.heap.size, 6, none⟩ = some (.int .i64 y) ∧ w'.cell? ⟨w.heap.size, 7, none⟩ = some (.int .i64 m) ∧ w'.cell? ⟨w.heap.size, 8, none⟩ = some (.int .u8 q) ∧ w'.cell? ⟨w.heap.size, 9, none⟩ = some (.int .i64 n) ∧ w'.cell? ⟨w.heap.size, 10, none⟩ = some (.int .i64 d) ∧ w'.cell? ⟨w.heap.size, 11, none⟩ = some (.int .i64 s) ∧ w'.cell? ⟨w.heap.size, 12, none⟩ = some (.int .u8 c) ∧ EKeep w.heap.size w w')
    (first | assumption | exact ekeep_on (by assumption) (by assumption) | exact ekeep_on (by assumption) ((Below.refl _ _).alloc (Nat.le_refl _) _))
    (first
      | (go_at_call 27; refine (clk_text sd T0 _ (ekeep_keep (B := w.heap.size) (w0 := w) (x0 := .int .i64 sd) (x1 := .int .u8 k) (x2 := .int .i64 sv) (x3 := .string ru) (x4 := .string fm) (x5 := .bool true) (x6 := .int .i64 y) (x7 := .int .i64 m) (x8 := .int .u8 q) (x9 := .int .i64 n) (x10 := .int .i64 d) (x11 := .int .i64 s) (x12 := .int .u8 c) (by assumption)).ev.env v1 v2 H0.out).mono ?_; rintro e w' ⟨rfl, hb⟩)
      | (go_at_call 31; refine (HT1.out _ (ekeep_keep (B := w.heap.size) (w0 := w) (x0 := .int .i64 sd) (x1 := .int .u8 k) (x2 := .int .i64 sv) (x3 := .string ru) (x4 := .string fm) (x5 := .bool true) (x6 := .int .i64 y) (x7 := .int .i64 m) (x8 := .int .u8 q) (x9 := .int .i64 n) (x10 := .int .i64 d) (x11 := .int .i64 s) (x12 := .int .u8 c) (by assumption)).ev.env).mono ?_; rintro e w' ⟨rfl, hb⟩))
  have q5 : (w'.alloc (.cells #[.string T0, .string T1, .string fm] 9)).cell? ⟨w.heap.size, 0, none⟩ = some (.int .i64 sd) ∧ (w'.alloc (.cells #[.string T0, .string T1, .string fm] 9)).cell? ⟨w.heap.size, 1, none⟩ = some (.int .u8 k) ∧ (w'.alloc (.cells #[.string T0, .string T1, .string fm] 9)).cell? ⟨w.heap.size, 2, none⟩ = some (.int .i64 sv) ∧ (w'.alloc (.cells #[.string T0, .string T1, .string fm] 9)).cell? ⟨w.heap.size, 3, none⟩ = some (.string ru) ∧ (w'.alloc (.cells #[.string T0, .string T1, .string fm] 9)).cell? ⟨w.heap.size, 4, none⟩ = some (.string fm) ∧ (w'.alloc (.cells #[.string T0, .string T1, .string fm] 9)).cell? ⟨w.heap.size, 5, none⟩ = some (.bool true) ∧ (w'.alloc (.cells #[.string T0, .string T1, .string fm] 9)).cell? ⟨w.heap.size, 6, none⟩ = some (.int .i64 y) ∧ (w'.alloc (.cells #[.string T0, .string T1, .string fm] 9)).cell? ⟨w.heap.size, 7, none⟩ = some (.int .i64 m) ∧ (w'.alloc (.cells #[.string T0, .string T1, .string fm] 9)).cell? ⟨w.heap.size, 8, none⟩ = some (.int .u8 q) ∧ (w'.alloc (.cells #[.string T0, .string T1, .string fm] 9)).cell? ⟨w.heap.size, 9, none⟩ = some (.int .i64 n) ∧ (w'.alloc (.cells #[.string T0, .string T1, .string fm] 9)).cell? ⟨w.heap.size, 10, none⟩ = some (.int .i64 d) ∧ (w'.alloc (.cells #[.string T0, .string T1, .string fm] 9)).cell? ⟨w.heap.size, 11, none⟩ = some (.int .i64 s) ∧ (w'.alloc (.cells #[.string T0, .string T1, .string fm] 9)).cell? ⟨w.heap.size, 12, none⟩ = some (.int .u8 c) ∧ EKeep w.heap.size w (w'.alloc (.cells #[.string T0, .string T1, .string fm] 9)) := (by assumption)
  have k5 := ekeep_keep (B := w.heap.size) (w0 := w) (x0 := .int .i64 sd) (x1 := .int .u8 k) (x2 := .int .i64 sv) (x3 := .string ru) (x4 := .string fm) (x5 := .bool true) (x6 := .int .i64 y) (x7 := .int .i64 m) (x8 := .int .u8 q) (x9 := .int .i64 n) (x10 := .int .i64 d) (x11 := .int .i64 s) (x12 := .int .u8 c) q5
  have k6 : w.heap.size ≤ w'.heap.size := by
    have h := k5.lt
    simp at h
    omega
  have hO := World.ownsRow_lit (e := 9) (size := 1) (base := w.heap.size) w' #[.string T0, .string T1, .string fm] 3 k6 (by decide) rfl
  have hF : Txs (w'.alloc (.cells #[.string T0, .string T1, .string fm] 9)) w'.heap.size [T0, T1, fm] := ⟨by simp, fun i hi => by
    rw [cell_blk (heap_alloc_new _ _)]
    have hi3 : i = 0 ∨ i = 1 ∨ i = 2 := by simp at hi; omega
    rcases hi3 with rfl | rfl | rfl <;> rfl⟩
  generalize w'.alloc (.cells #[.string T0, .string T1, .string fm] 9) = w4 at *
  generalize w'.heap.size = g4 at *
  have Q5 := Lib.hid q5
  have HK := Lib.hid k5
  have HF := Lib.hid hF
  have HO := Lib.hid hO
  obtain ⟨c0', c1', c2', c3', c4', c5', c6', c7', c8', c9', c10', c11', c12', hk⟩ := q5
  have hlt5 := hk.lt
  clear hF hO k5 hk k6 S0
  go_wp2_with fail
  refine (HU.out _ HK.out.ev).mono ?_
  rintro e w5 ⟨⟨g5, rfl, hg5, hF5⟩, b5⟩
  have hO5 := Lib.hid (HO.out.kept (grown_of_below b5 none) (Classical.em _))
  have HF5 := Lib.hid hF5
  have a5 := HK.out.bel.trans (b5.mono HK.out.bel.size)
  obtain ⟨hc5, _⟩ := bcell b5
  clear HF HO hF5 Q5 b5
  go_wp2_with (at_builtin; refine wpList_joins rfl (.tmp 31) (.tmp 32) rfl w.heap.size _ [T0, T1, fm] hO5.out rfl g5 nd nd M rfl HF5.out HM.out N hN (by omega) a5.size ?_; intro v1' w6 hown1 hg1)
  have a6 := a5.grown hg1 a5.size (own_base hO5.out)
  obtain ⟨g6, c6, rfl, h1, h2, _, hT6⟩ := own_texts hown1 (by omega) (by rw [List.length_append, HM.out]; exact hN)
  have HT6 := Lib.hid hT6
  clear hown1 hg1 hT6
  go_wp2_with fail
  go_ret2
  exact ⟨⟨_, _, rfl, h1, h2, HT6.out⟩, a6⟩
theorem four_txs {w : World} {g nd : Nat} {T0 T1 T2 T3 : ByteArray} (h : Four w g T0 T1 T2 T3) : Txs w g (([T0, T1, T2, T3] : List ByteArray).take nd) :=
  ⟨h.lt, fun i hi => by
    rw [List.length_take] at hi
    have hi' : i < nd := by omega
    have hi4 : i = 0 ∨ i = 1 ∨ i = 2 ∨ i = 3 := by simp at hi; omega
    rw [List.getD_eq_getElem?_getD, List.getElem?_take_of_lt hi']
    rcases hi4 with rfl | rfl | rfl | rfl
    · exact h.c0
    · exact h.c1
    · exact h.c2
    · exact h.c3⟩
theorem etext_yes (e : Er) (w : World) (hE : Ev w) (h : El.right e = true) (c0 : 0 ≤ e.u.c) (hs : e.ru.size ≤ 9223372036854775807) :
    Calls Tryz.prog 14 #[erV e] w fun x w' => ETxtE w' (El.texts e) (El.num e) x ∧ Below w.heap.size w w' := by
  obtain ⟨⟨v1, v2⟩, _, _, he⟩ := el_parts h
  obtain ⟨sd, k, sv, ru, fm, en, u⟩ := e
  cases en with
  | false =>
    obtain ⟨y, m, q, n, d, s, c⟩ := u
    exact etext_in_no sd k sv ru fm y m q n d s c _ _ w (Lib.hid hE) hs (Lib.hid h) v1 v2 (Lib.hid rfl) (Lib.hid rfl)
  | true =>
    have hb := nd_bd (Mo.t1 u).data.toList (Mo.t2 u).data.toList (Mo.t3 u).data.toList
    have he : Mo.un u = true := he
    have hl : ((Mo.texts u).take (Mo.ndU u)).length = Mo.ndU u := by
      rw [List.length_take]
      show min (Mo.ndU u) 4 = Mo.ndU u
      unfold Mo.ndU
      omega
    have hU := fun W (hE : Ev W) => (utext_yes u W hE.env he c0).mono fun x w' (h : UTxtE W w' (Mo.t0 u) (Mo.t1 u) (Mo.t2 u) (Mo.t3 u) (Mo.ndU u) x ∧ Below W.heap.size W w') => (show (∃ g, x = .returned (.tuple #[.slice (some ⟨g, 0, none⟩) (Mo.ndU u) (Mo.ndU u), .int .i64 0]) ∧ W.heap.size ≤ g ∧ Txs w' g ((Mo.texts u).take (Mo.ndU u))) ∧ Below W.heap.size W w' from by
      obtain ⟨⟨g, hx, hg, hf⟩, hb⟩ := h
      exact ⟨⟨g, hx, hg, four_txs hf⟩, hb⟩)
    have e1 : El.texts ⟨sd, k, sv, ru, fm, true, u⟩ = [El.t0 ⟨sd, k, sv, ru, fm, true, u⟩, El.t1 ⟨sd, k, sv, ru, fm, true, u⟩, fm] ++ (Mo.texts u).take (Mo.ndU u) := rfl
    have e2 : El.num ⟨sd, k, sv, ru, fm, true, u⟩ = 3 + Mo.ndU u := rfl
    rw [e1, e2]
    obtain ⟨y, m, q, n, d, s, c⟩ := u
    exact etext_in_yes sd k sv ru fm y m q n d s c _ _ w (Lib.hid hE) hs (Lib.hid h) v1 v2 (Lib.hid rfl) (Lib.hid rfl) _ _ _ rfl hb.2 (Lib.hid hl) (Lib.hid hU)
end Go.Proofs.YtigmbkcjmlpfoaaGreatDoor
