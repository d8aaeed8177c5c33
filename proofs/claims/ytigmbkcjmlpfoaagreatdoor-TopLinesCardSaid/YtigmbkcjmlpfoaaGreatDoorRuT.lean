/- Contracts of package rule: toText, letterText, Text. -/
import Derived.Test.YtigmbkcjmlpfoaaGreatDoorRuQ
import Derived.Deep.RegionHeld3
namespace Go.Proofs.YtigmbkcjmlpfoaaGreatDoor
open Go.RowKit
/-- Texts at block g. -/
structure Txs (w : World) (g : Nat) (L : List ByteArray) : Prop where
  lt : g < w.heap.size
  at_ : ∀ i, i < L.length → w.cell? ⟨g, i, none⟩ = some (.string (L.getD i ByteArray.empty))
theorem Txs.below {w w' : World} {g : Nat} {L : List ByteArray} (h : Txs w g L) (hb : Below w.heap.size w w') : Txs w' g L := by
  obtain ⟨hc, _⟩ := bcell hb
  exact ⟨Nat.lt_of_lt_of_le h.lt hb.size, fun i hi => (hc _ _ h.lt).trans (h.at_ i hi)⟩
theorem Txs.sl {w : World} {g : Nat} {L : List ByteArray} (h : Txs w g L) (n : Nat) (hn : n ≤ L.length) (L' : List ByteArray) (hL : ∀ i, i < n → L'.getD i ByteArray.empty = L.getD i ByteArray.empty) : Sl w w.heap.size (some ⟨g, 0, none⟩) n (fun i => .string (L'.getD i ByteArray.empty)) := fun _ =>
  ⟨_, rfl, h.lt, fun i hi => by rw [addr_at]; show _ = some (Value.string (L'.getD i ByteArray.empty)); rw [hL i hi]; exact h.at_ i (by omega)⟩
def RKeep (B : Nat) (w0 w : World) (nm : ByteArray) (fr tl m k n d s c sv : Int) (lt : ByteArray) : Prop := w.cell? ⟨B, 0, none⟩ = some (.string nm) ∧ w.cell? ⟨B, 1, none⟩ = some (.int .i64 fr) ∧ w.cell? ⟨B, 2, none⟩ = some (.int .i64 tl) ∧ w.cell? ⟨B, 3, none⟩ = some (.int .i64 m) ∧ w.cell? ⟨B, 4, none⟩ = some (.int .u8 k) ∧ w.cell? ⟨B, 5, none⟩ = some (.int .i64 n) ∧ w.cell? ⟨B, 6, none⟩ = some (.int .i64 d) ∧ w.cell? ⟨B, 7, none⟩ = some (.int .i64 s) ∧ w.cell? ⟨B, 8, none⟩ = some (.int .u8 c) ∧ w.cell? ⟨B, 9, none⟩ = some (.int .i64 sv) ∧ w.cell? ⟨B, 10, none⟩ = some (.string lt) ∧ MKeep B w0 w
section
variable {B : Nat} {w0 w w1 : World} {x0 x1 x2 x3 x4 x5 x6 x7 x8 x9 x10 : Value}
theorem rkeep_on (h : w.cell? ⟨B, 0, none⟩ = some x0 ∧ w.cell? ⟨B, 1, none⟩ = some x1 ∧ w.cell? ⟨B, 2, none⟩ = some x2 ∧ w.cell? ⟨B, 3, none⟩ = some x3 ∧ w.cell? ⟨B, 4, none⟩ = some x4 ∧ w.cell? ⟨B, 5, none⟩ = some x5 ∧ w.cell? ⟨B, 6, none⟩ = some x6 ∧ w.cell? ⟨B, 7, none⟩ = some x7 ∧ w.cell? ⟨B, 8, none⟩ = some x8 ∧ w.cell? ⟨B, 9, none⟩ = some x9 ∧ w.cell? ⟨B, 10, none⟩ = some x10 ∧ MKeep B w0 w) (hb : Below w.heap.size w w1) : w1.cell? ⟨B, 0, none⟩ = some x0 ∧ w1.cell? ⟨B, 1, none⟩ = some x1 ∧ w1.cell? ⟨B, 2, none⟩ = some x2 ∧ w1.cell? ⟨B, 3, none⟩ = some x3 ∧ w1.cell? ⟨B, 4, none⟩ = some x4 ∧ w1.cell? ⟨B, 5, none⟩ = some x5 ∧ w1.cell? ⟨B, 6, none⟩ = some x6 ∧ w1.cell? ⟨B, 7, none⟩ = some x7 ∧ w1.cell? ⟨B, 8, none⟩ = some x8 ∧ w1.cell? ⟨B, 9, none⟩ = some x9 ∧ w1.cell? ⟨B, 10, none⟩ = some x10 ∧ MKeep B w0 w1 := by
  obtain ⟨c0, c1, c2, c3, c4, c5, c6, c7, c8, c9, c10, hl, he, hbw⟩ := h
  obtain ⟨hc, _⟩ := bcell hb
  have := hb.size
  exact ⟨(hc _ _ hl).trans c0, (hc _ _ hl).trans c1, (hc _ _ hl).trans c2, (hc _ _ hl).trans c3, (hc _ _ hl).trans c4, (hc _ _ hl).trans c5, (hc _ _ hl).trans c6, (hc _ _ hl).trans c7, (hc _ _ hl).trans c8, (hc _ _ hl).trans c9, (hc _ _ hl).trans c10, by omega, he.below hb, hbw.trans (hb.mono (Nat.le_of_lt hl))⟩
theorem rkeep_keep (h : w.cell? ⟨B, 0, none⟩ = some x0 ∧ w.cell? ⟨B, 1, none⟩ = some x1 ∧ w.cell? ⟨B, 2, none⟩ = some x2 ∧ w.cell? ⟨B, 3, none⟩ = some x3 ∧ w.cell? ⟨B, 4, none⟩ = some x4 ∧ w.cell? ⟨B, 5, none⟩ = some x5 ∧ w.cell? ⟨B, 6, none⟩ = some x6 ∧ w.cell? ⟨B, 7, none⟩ = some x7 ∧ w.cell? ⟨B, 8, none⟩ = some x8 ∧ w.cell? ⟨B, 9, none⟩ = some x9 ∧ w.cell? ⟨B, 10, none⟩ = some x10 ∧ MKeep B w0 w) : MKeep B w0 w := h.2.2.2.2.2.2.2.2.2.2.2
end
section
variable (nm : ByteArray) (fr tl m k n d s c sv : Int) (lt : ByteArray) (w : World)
theorem rtot_only (h : tl = fr) : Calls Tryz.prog 25 #[.agg #[.string nm, .int .i64 fr, .int .i64 tl, .int .i64 m, .int .u8 k, .int .i64 n, .int .i64 d, .int .i64 s, .int .u8 c, .int .i64 sv, .string lt]] w fun e w' => e = .returned (.string ⟨#[111, 110, 108, 121]⟩) ∧ Below w.heap.size w w' := by
  subst h
  go_enter Tryz.func25, Tryz.ntmps25
  go_wp2_with fail
  go_ret
  exact ⟨rfl, (Below.refl _ _).alloc (Nat.le_refl _) _⟩
theorem rtot_max (h : (tl == fr) = false) (h2 : tl = 9999) : Calls Tryz.prog 25 #[.agg #[.string nm, .int .i64 fr, .int .i64 tl, .int .i64 m, .int .u8 k, .int .i64 n, .int .i64 d, .int .i64 s, .int .u8 c, .int .i64 sv, .string lt]] w fun e w' => e = .returned (.string ⟨#[109, 97, 120]⟩) ∧ Below w.heap.size w w' := by
  subst h2
  go_enter Tryz.func25, Tryz.ntmps25
  go_wp2_with fail
  go_ret
  exact ⟨rfl, (Below.refl _ _).alloc (Nat.le_refl _) _⟩
theorem rtot_num (h : (tl == fr) = false) (h2 : (tl == 9999) = false) (T : ByteArray) (HE : Hid (Env w)) (h0 : 1 ≤ tl) (h1 : tl ≤ 9999) (HT : Hid ((⟨(Lib.itoa tl).toArray⟩ : ByteArray) = T)) : Calls Tryz.prog 25 #[.agg #[.string nm, .int .i64 fr, .int .i64 tl, .int .i64 m, .int .u8 k, .int .i64 n, .int .i64 d, .int .i64 s, .int .u8 c, .int .i64 sv, .string lt]] w fun e w' => e = .returned (.string T) ∧ Below w.heap.size w w' := by
  go_enter Tryz.func25, Tryz.ntmps25
  go_wp2_with fail
  refine (itoa_T tl T _ (HE.out.alloc _) (by omega) (by omega) HT.out).mono ?_
  rintro e w1 ⟨rfl, b1⟩
  have a1 := ((Below.refl w.heap.size w).alloc (Nat.le_refl _) (.cells #[.string nm, .int .i64 fr, .int .i64 tl, .int .i64 m, .int .u8 k, .int .i64 n, .int .i64 d, .int .i64 s, .int .u8 c, .int .i64 sv, .string lt] 29)).trans (b1.mono (by simp))
  go_wp2_with fail
  go_ret
  exact ⟨rfl, a1⟩
theorem rlet_dash (h : lt = ⟨#[]⟩) : Calls Tryz.prog 28 #[.agg #[.string nm, .int .i64 fr, .int .i64 tl, .int .i64 m, .int .u8 k, .int .i64 n, .int .i64 d, .int .i64 s, .int .u8 c, .int .i64 sv, .string lt]] w fun e w' => e = .returned (.string ⟨#[45]⟩) ∧ Below w.heap.size w w' := by
  subst h
  go_enter Tryz.func28, Tryz.ntmps28
  go_wp2_with fail
  go_ret
  exact ⟨rfl, (Below.refl _ _).alloc (Nat.le_refl _) _⟩
theorem rlet_own (h : lt.toList.isEmpty = false) (_h2 : ¬ lt.toList = []) : Calls Tryz.prog 28 #[.agg #[.string nm, .int .i64 fr, .int .i64 tl, .int .i64 m, .int .u8 k, .int .i64 n, .int .i64 d, .int .i64 s, .int .u8 c, .int .i64 sv, .string lt]] w fun e w' => e = .returned (.string lt) ∧ Below w.heap.size w w' := by
  go_enter Tryz.func28, Tryz.ntmps28
  go_wp2_with fail
  go_ret
  exact ⟨rfl, (Below.refl _ _).alloc (Nat.le_refl _) _⟩
end
theorem rtot_T (r : Ru) (T : ByteArray) (w : World) (hE : Env w) (h : Rl.right r = true) (hT : Rl.t2 r = T) : Calls Tryz.prog 25 #[ruV r] w fun e w' => e = .returned (.string T) ∧ Below w.heap.size w w' := by
  subst hT
  obtain ⟨_, ⟨y1, y2, y3⟩, _⟩ := rl_parts h
  unfold Rl.t2
  obtain ⟨nm, fr, tl, m, k, n, d, s, c, sv, lt⟩ := r
  simp only at y1 y2 y3 ⊢
  by_cases h1 : tl = fr
  · rw [if_pos h1]
    exact rtot_only nm fr tl m k n d s c sv lt w h1
  · rw [if_neg h1]
    have t1 : (tl == fr) = false := by rw [beq_eq_false_iff_ne]; exact h1
    by_cases h2 : tl = 9999
    · rw [if_pos h2]
      exact rtot_max nm fr tl m k n d s c sv lt w t1 h2
    · rw [if_neg h2]
      exact rtot_num nm fr tl m k n d s c sv lt w t1 (by rw [beq_eq_false_iff_ne]; exact h2) _ (Lib.hid hE) (by omega) y3 (Lib.hid rfl)
theorem rlet_T (r : Ru) (T : ByteArray) (w : World) (hT : Rl.t8 r = T) : Calls Tryz.prog 28 #[ruV r] w fun e w' => e = .returned (.string T) ∧ Below w.heap.size w w' := by
  subst hT
  unfold Rl.t8
  obtain ⟨nm, fr, tl, m, k, n, d, s, c, sv, lt⟩ := r
  simp only
  by_cases h : lt.data.toList = []
  · rw [if_pos h]
    exact rlet_dash nm fr tl m k n d s c sv lt w (ByteArray.ext (Array.toList_inj.1 h))
  · rw [if_neg h]
    exact rlet_own nm fr tl m k n d s c sv lt w (by rw [ByteArray.toList_eq]; simpa using h) (by rw [ByteArray.toList_eq]; exact h)
/-- What Text answers: so many texts. -/
def RTxtE (w w' : World) (L : List ByteArray) (e : Ending) : Prop := ∃ g, e = .returned (.tuple #[.slice (some ⟨g, 0, none⟩) L.length L.length, .int .i64 0]) ∧ w.heap.size ≤ g ∧ Txs w' g L
theorem rtext_no (r : Ru) (w : World) (hs : r.nm.size ≤ 9223372036854775807) (h : Rl.right r = false) : Calls Tryz.prog 9 #[ruV r] w fun e w' => e = .returned (.tuple #[.slice none 0 0, .int .i64 2]) ∧ Below w.heap.size w w' := by
  have H := Lib.hid (fun W => isRight_is r false W hs h)
  obtain ⟨nm, fr, tl, m, k, n, d, s, c, sv, lt⟩ := r
  clear h
  go_enter Tryz.func9, Tryz.ntmps9
  go_wp2_with fail
  refine (H.out _).mono ?_
  rintro e w1 ⟨rfl, b1⟩
  have a1 : Below w.heap.size w w1 := ((Below.refl _ _).alloc (Nat.le_refl _) _).trans (b1.mono (by simp))
  go_wp2_with fail
  go_ret2
  exact ⟨rfl, a1⟩
set_option maxRecDepth 100000 in
set_option maxHeartbeats 4000000 in
theorem rtext_in (nm : ByteArray) (fr tl m k n d s c sv : Int) (lt : ByteArray) (T1 T2 T4 T5 T6 T7 T8 : ByteArray) (w : World) (HE : Hid (Env w)) (hs : nm.size ≤ 9223372036854775807) (H : Hid (Rl.right ⟨nm, fr, tl, m, k, n, d, s, c, sv, lt⟩ = true)) (y1 : 1 ≤ fr) (y2 : fr ≤ 9999) (m1 : 1 ≤ m) (m2 : m ≤ 12) (v1 : -604800 ≤ sv) (v2 : sv ≤ 604800) (HD : Hid (Dy.right k n d = true)) (HR : Hid (Mo.right s c = true)) (c0 : 0 ≤ c)
    (H1 : Hid ((⟨(Lib.itoa fr).toArray⟩ : ByteArray) = T1)) (H2 : Hid (Rl.t2 ⟨nm, fr, tl, m, k, n, d, s, c, sv, lt⟩ = T2)) (H4 : Hid (Wd.three Wd.mons (m - 1).toNat = T4)) (H5 : Hid (Dy.txt k n d = T5)) (H6 : Hid (T6.data.toList = Mo.txt s c)) (H7 : Hid ((⟨(txt sv).toArray⟩ : ByteArray) = T7)) (H8 : Hid (Rl.t8 ⟨nm, fr, tl, m, k, n, d, s, c, sv, lt⟩ = T8)) :
    Calls Tryz.prog 9 #[.agg #[.string nm, .int .i64 fr, .int .i64 tl, .int .i64 m, .int .u8 k, .int .i64 n, .int .i64 d, .int .i64 s, .int .u8 c, .int .i64 sv, .string lt]] w fun e w' => RTxtE w w' [nm, T1, T2, ⟨#[45]⟩, T4, T5, T6, T7, T8] e ∧ Below w.heap.size w w' := by
  have HI := Lib.hid (fun W => isRight_is ⟨nm, fr, tl, m, k, n, d, s, c, sv, lt⟩ true W hs H.out)
  have HT2 := Lib.hid (fun W (hE : Env W) => rtot_T ⟨nm, fr, tl, m, k, n, d, s, c, sv, lt⟩ T2 W hE H.out H2.out)
  have HT8 := Lib.hid (fun W => rlet_T ⟨nm, fr, tl, m, k, n, d, s, c, sv, lt⟩ T8 W H8.out)
  go_enter Tryz.func9, Tryz.ntmps9
  go_wp2_with fail
  refine (HI.out _).mono ?_
  rintro e w1 ⟨rfl, b1⟩
  have k1 := rkeep_on (w := w.alloc (.cells #[.string nm, .int .i64 fr, .int .i64 tl, .int .i64 m, .int .u8 k, .int .i64 n, .int .i64 d, .int .i64 s, .int .u8 c, .int .i64 sv, .string lt] 29)) (B := w.heap.size) (w0 := w) (x0 := .string nm) (x1 := .int .i64 fr) (x2 := .int .i64 tl) (x3 := .int .i64 m) (x4 := .int .u8 k) (x5 := .int .i64 n) (x6 := .int .i64 d) (x7 := .int .i64 s) (x8 := .int .u8 c) (x9 := .int .i64 sv) (x10 := .string lt) ⟨by go_simp, by go_simp, by go_simp, by go_simp, by go_simp, by go_simp, by go_simp, by go_simp, by go_simp, by go_simp, by go_simp, by simp, HE.out.alloc _, (Below.refl _ _).alloc (Nat.le_refl _) _⟩ b1
  clear b1
  have K1 := Lib.hid k1
  obtain ⟨c0', c1', c2', c3', c4', c5', c6', c7', c8', c9', c10', hk⟩ := k1
  have hlt := hk.lt
  have HK := Lib.hid hk
  clear hk
  go_wp2_with fail
  refine (dtext_T k n d T5 _ HD.out H5.out).mono ?_
  rintro e w2 ⟨rfl, b2⟩
  have k2 := rkeep_on (B := w.heap.size) (w0 := w) (x0 := .string nm) (x1 := .int .i64 fr) (x2 := .int .i64 tl) (x3 := .int .i64 m) (x4 := .int .u8 k) (x5 := .int .i64 n) (x6 := .int .i64 d) (x7 := .int .i64 s) (x8 := .int .u8 c) (x9 := .int .i64 sv) (x10 := .string lt) K1.out b2
  clear b2 c0' c1' c2' c3' c4' c5' c6' c7' c8' c9' c10' hlt K1 HK
  have K2 := Lib.hid k2
  obtain ⟨c0', c1', c2', c3', c4', c5', c6', c7', c8', c9', c10', hk⟩ := k2
  have hlt := hk.lt
  have HK := Lib.hid hk
  clear hk
  go_wp2_with fail
  refine (mtext_yes s c T6 _ HK.out.env HR.out c0 H6.out).mono ?_
  rintro e w3 ⟨rfl, b3⟩
  have k3 := rkeep_on (B := w.heap.size) (w0 := w) (x0 := .string nm) (x1 := .int .i64 fr) (x2 := .int .i64 tl) (x3 := .int .i64 m) (x4 := .int .u8 k) (x5 := .int .i64 n) (x6 := .int .i64 d) (x7 := .int .i64 s) (x8 := .int .u8 c) (x9 := .int .i64 sv) (x10 := .string lt) K2.out b3
  clear b3 c0' c1' c2' c3' c4' c5' c6' c7' c8' c9' c10' hlt K2 HK
  have S0 := rkeep_on (B := w.heap.size) (w0 := w) (x0 := .string nm) (x1 := .int .i64 fr) (x2 := .int .i64 tl) (x3 := .int .i64 m) (x4 := .int .u8 k) (x5 := .int .i64 n) (x6 := .int .i64 d) (x7 := .int .i64 s) (x8 := .int .u8 c) (x9 := .int .i64 sv) (x10 := .string lt) k3 (Below.drew (Below.refl _ w3))
  have hlt := (rkeep_keep (B := w.heap.size) (w0 := w) (x0 := .string nm) (x1 := .int .i64 fr) (x2 := .int .i64 tl) (x3 := .int .i64 m) (x4 := .int .u8 k) (x5 := .int .i64 n) (x6 := .int .i64 d) (x7 := .int .i64 s) (x8 := .int .u8 c) (x9 := .int .i64 sv) (x10 := .string lt) k3).lt
  clear k3
  go_wp2_with fail
  go_region_held3 (fun w' => w'.cell? ⟨w.heap.size, 0, none⟩ = some (.string nm) ∧ w'.cell? ⟨w.heap.size, 1, none⟩ = some (.int .i64 fr) ∧ w'.cell? ⟨w.heap.size, 2, none⟩ = some (.int .i64 tl) ∧ w'.cell? ⟨w.heap.size, 3, none⟩ = some (.int .i64 m) ∧ w'.cell? ⟨w.heap.size, 4, none⟩ = some (.int .u8 k) ∧ w'.cell? ⟨w.heap.size, 5, none⟩ = some (.int .i64 n) ∧ w'.cell? ⟨w.heap.size, 6, none⟩ = some (.int .i64 d) ∧ w'.cell? ⟨w.heap.size, 7, none⟩ = some (.int .i64 s) ∧ w'.cell? ⟨w.heap.size, 8, none⟩ = some (.int .u8 c) ∧ w'.cell? ⟨w.heap.size, 9, none⟩ = some (.int .i64 sv) ∧ w'.cell? ⟨w.heap.size, 10, none⟩ = some (.string lt) ∧ MKeep w.heap.size w w')
    (first | assumption | exact rkeep_on (by assumption) (by assumption) | exact rkeep_on (by assumption) ((Below.refl _ _).alloc (Nat.le_refl _) _))
    (first
      | (go_at_call 24; refine (itoa_T fr T1 _ (rkeep_keep (B := w.heap.size) (w0 := w) (x0 := .string nm) (x1 := .int .i64 fr) (x2 := .int .i64 tl) (x3 := .int .i64 m) (x4 := .int .u8 k) (x5 := .int .i64 n) (x6 := .int .i64 d) (x7 := .int .i64 s) (x8 := .int .u8 c) (x9 := .int .i64 sv) (x10 := .string lt) (by assumption)).env (by omega) (by omega) H1.out).mono ?_; rintro e w' ⟨rfl, hb⟩)
      | (go_at_call 25; refine (HT2.out _ (rkeep_keep (B := w.heap.size) (w0 := w) (x0 := .string nm) (x1 := .int .i64 fr) (x2 := .int .i64 tl) (x3 := .int .i64 m) (x4 := .int .u8 k) (x5 := .int .i64 n) (x6 := .int .i64 d) (x7 := .int .i64 s) (x8 := .int .u8 c) (x9 := .int .i64 sv) (x10 := .string lt) (by assumption)).env).mono ?_; rintro e w' ⟨rfl, hb⟩)
      | (go_at_call 26; refine (month_T m T4 _ m1 m2 H4.out).mono ?_; rintro e w' ⟨rfl, hb⟩)
      | (go_at_call 27; refine (clk_text sv T7 _ (rkeep_keep (B := w.heap.size) (w0 := w) (x0 := .string nm) (x1 := .int .i64 fr) (x2 := .int .i64 tl) (x3 := .int .i64 m) (x4 := .int .u8 k) (x5 := .int .i64 n) (x6 := .int .i64 d) (x7 := .int .i64 s) (x8 := .int .u8 c) (x9 := .int .i64 sv) (x10 := .string lt) (by assumption)).env v1 v2 H7.out).mono ?_; rintro e w' ⟨rfl, hb⟩)
      | (go_at_call 28; refine (HT8.out _).mono ?_; rintro e w' ⟨rfl, hb⟩))
  go_wp2_with fail
  have k5 := (rkeep_keep (w := w'.alloc (.cells #[.string nm, .string T1, .string T2, .string ⟨#[45]⟩, .string T4, .string T5, .string T6, .string T7, .string T8] 9)) (B := w.heap.size) (w0 := w) (x0 := .string nm) (x1 := .int .i64 fr) (x2 := .int .i64 tl) (x3 := .int .i64 m) (x4 := .int .u8 k) (x5 := .int .i64 n) (x6 := .int .i64 d) (x7 := .int .i64 s) (x8 := .int .u8 c) (x9 := .int .i64 sv) (x10 := .string lt) (by assumption)).bel
  have k6 : w.heap.size ≤ w'.heap.size := by
    have h : w.heap.size < (w'.alloc (.cells #[.string nm, .string T1, .string T2, .string ⟨#[45]⟩, .string T4, .string T5, .string T6, .string T7, .string T8] 9)).heap.size := (rkeep_keep (w := w'.alloc (.cells #[.string nm, .string T1, .string T2, .string ⟨#[45]⟩, .string T4, .string T5, .string T6, .string T7, .string T8] 9)) (B := w.heap.size) (w0 := w) (x0 := .string nm) (x1 := .int .i64 fr) (x2 := .int .i64 tl) (x3 := .int .i64 m) (x4 := .int .u8 k) (x5 := .int .i64 n) (x6 := .int .i64 d) (x7 := .int .i64 s) (x8 := .int .u8 c) (x9 := .int .i64 sv) (x10 := .string lt) (by assumption)).lt
    simp at h
    omega
  have hF : Txs (w'.alloc (.cells #[.string nm, .string T1, .string T2, .string ⟨#[45]⟩, .string T4, .string T5, .string T6, .string T7, .string T8] 9)) w'.heap.size [nm, T1, T2, ⟨#[45]⟩, T4, T5, T6, T7, T8] := ⟨by simp, fun i hi => by
    rw [cell_blk (heap_alloc_new _ _)]
    have hi9 : i = 0 ∨ i = 1 ∨ i = 2 ∨ i = 3 ∨ i = 4 ∨ i = 5 ∨ i = 6 ∨ i = 7 ∨ i = 8 := by simp at hi; omega
    rcases hi9 with rfl | rfl | rfl | rfl | rfl | rfl | rfl | rfl | rfl <;> rfl⟩
  have HF := Lib.hid hF
  clear hF
  go_ret2
  exact ⟨⟨_, rfl, k6, HF.out⟩, k5⟩
theorem rtext_yes (r : Ru) (w : World) (hE : Env w) (h : Rl.right r = true) (c0 : 0 ≤ r.c) :
    Calls Tryz.prog 9 #[ruV r] w fun e w' => RTxtE w w' (Rl.texts r) e ∧ Below w.heap.size w w' := by
  obtain ⟨h1, ⟨y1, y2, y3⟩, ⟨m1, m2⟩, hd, hr, ⟨v1, v2⟩, hl⟩ := rl_parts h
  have hs : r.nm.size ≤ 64 := by
    have hz : r.nm.data.toList.length = r.nm.size := by simp
    unfold Rl.name at h1
    rw [Bool.and_eq_true] at h1
    have := of_decide_eq_true h1.1
    omega
  exact rtext_in r.nm r.fr r.tl r.m r.k r.n r.d r.s r.c r.sv r.lt _ _ _ _ _ _ _ w (Lib.hid hE) (by omega) (Lib.hid h) y1 (by omega) m1 m2 v1 v2 (Lib.hid hd) (Lib.hid hr) c0 (Lib.hid rfl) (Lib.hid rfl) (Lib.hid rfl) (Lib.hid rfl) (Lib.hid (by simp [Rl.t6])) (Lib.hid rfl) (Lib.hid rfl)
end Go.Proofs.YtigmbkcjmlpfoaaGreatDoor
