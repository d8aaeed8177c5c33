/- The iterator over a slice from behind (slices.Backward, at texts). -/
import Derived.Test.YthlbockphdbpkaaDoorNf
import Derived.RangeFuncNested
import Derived.RangeFuncBound
import Derived.RangeFuncCalls
import Derived.RangeFuncLeaves
import Derived.RangeFuncBox
import Derived.Shelf.Abstract
import Derived.Shelf.RegionOpen
import Derived.OwnWalkIn
import Derived.TacticsInMore
import Derived.LoopNIn
import Derived.LoopIn
import Derived.Maps.OwnIn
namespace Go.Proofs.YthlbockphdbpkaaDoor
open Go.RowKit Go.Maps Go.Shelf
set_option maxRecDepth 100000
attribute [local go_sem] Oper.semAt_some
/-- A place of a list, and what stands there. -/
abbrev Pa (L : List ByteArray) := { x : Nat × ByteArray // L[x.1]? = some x.2 }
def paAt (L : List ByteArray) (i : Nat) (h : i < L.length) : Pa L := ⟨(i, L[i]), List.getElem?_eq_getElem h⟩
/-- The last k places, from behind. -/
def bk (L : List ByteArray) : (k : Nat) → k ≤ L.length → List (Pa L)
  | 0, _ => []
  | k + 1, h => bk L k (by omega) ++ [paAt L (L.length - 1 - k) (by omega)]
theorem bk_len (L : List ByteArray) : ∀ (k : Nat) (h : k ≤ L.length), (bk L k h).length = k
  | 0, _ => rfl
  | k + 1, h => by
    show (bk L k _ ++ [_]).length = _
    rw [List.length_append, bk_len L k]
    rfl
def paVals {L : List ByteArray} (x : Pa L) : Array Value := #[.int .i64 (x.1.1 : Nat), .string x.1.2]
/-- All but block b stays, below n. -/
structure KpB (n b : Nat) (W W' : World) : Prop where
  size : W.heap.size ≤ W'.heap.size
  block : ∀ k, k < n → k ≠ b → W'.heap[k]? = W.heap[k]?
theorem KpB.refl (n b : Nat) (W : World) : KpB n b W W := ⟨Nat.le_refl _, fun _ _ _ => rfl⟩
theorem KpB.trans {n b : Nat} {X Y Z : World} (h : KpB n b X Y) (h' : KpB n b Y Z) : KpB n b X Z := ⟨Nat.le_trans h.size h'.size, fun k hk hb => (h'.block k hk hb).trans (h.block k hk hb)⟩
theorem KpB.cell {n b : Nat} {W W' : World} (h : KpB n b W W') {p : Addr} (hp : p.block < n) (hb : p.block ≠ b) : W'.cell? p = W.cell? p := World.cell?_of_block (h.block _ hp hb)
theorem KpB.put {n b : Nat} (W : World) (l : Nat) (o : Obj) (hl : n ≤ l) : KpB n b W (W.putObj l o) :=
  ⟨by simp [World.putObj], fun k hk _ => World.putObj_heap_other (by omega)⟩
set_option maxHeartbeats 4000000 in
theorem back1_in (F : Fence) (n : Nat) (hf : F.fn 49) (hro : F.round = none) (hn : 1 ≤ n) (l Bs n₀ b : Nat) (A : Option Addr) (c : Nat) (L : List ByteArray) (N : Nat) (hN : L.length = N) (hlen : N ≤ 4294967296)
    (hA : 0 < N → ∃ ab ao, A = some ⟨ab, ao, none⟩ ∧ ab < n₀ ∧ ab ≠ b) (hBs : Bs < n₀) (hBb : Bs ≠ b) (J Jx : List (Pa L) → World → Prop)
    (hY : ∀ pre x W, J pre W → pre.length < N → YieldAt F (n - 1) Tryd.prog l (paVals x) W fun e W' =>
      (e = .returned (.bool true) ∧ J (pre ++ [x]) W' ∧ KpB n₀ b W W') ∨ (e = .returned (.bool false) ∧ Jx (pre ++ [x]) W'))
    (W : World) (hc : W.cell? ⟨Bs, 0, none⟩ = some (.slice A N c)) (hT : ∀ ab ao, A = some ⟨ab, ao, none⟩ → ∀ j x, L[j]? = some x → W.cell? ⟨ab, ao + j, none⟩ = some (.string x)) (h0 : J [] W) :
    CallsIn F n Tryd.prog 49 #[.func (.yield l) #[] #[], .pointer (some ⟨Bs, 0, none⟩)] W fun e W' => (∃ v, e = .returned v) ∧
      ((∃ ys, (∃ h, ys = bk L N h) ∧ J ys W') ∨ (∃ pre, Jx pre W')) := by
  have HT := Lib.hid hT
  have HA := Lib.hid hA
  clear hT hA
  have HNN := Lib.hid hN
  clear hN
  refine callsIn_of_wp Tryd.func49 rfl hf ?_ hro
  simp only [Tryd.ntmps49, List.size_toArray, List.length_cons, List.length_nil, Nat.reduceAdd, Nat.reduceSub, Array.replicate_succ, Array.replicate_zero, List.push_toArray, List.append_toArray, List.nil_append, List.cons_append]
  gi_wp2
  gi_loopw [3] (fun i wr => ∃ (k : Nat) (h : k ≤ L.length), i = .int .i64 ((N : Int) - 1 - k) ∧ J (bk L k h) wr ∧ KpB n₀ b W wr) (fun i _ => (intOf i + 1).toNat)
  case atStart => exact ⟨0, Nat.zero_le _, by simp, h0, KpB.refl _ _ _⟩
  case round =>
    obtain ⟨k, hk, rfl, hJ, hkp⟩ := hrel
    have hkN : k ≤ N := by rw [← HNN.out]; exact hk
    have hcb := (hkp.cell (p := ⟨Bs, 0, none⟩) hBs hBb).trans hc
    by_cases hlt : k < N
    · obtain ⟨ab, ao, rfl, hab, habb⟩ := HA.out (by omega)
      have hk1 : k + 1 ≤ L.length := by rw [HNN.out]; omega
      obtain ⟨j, hj⟩ : ∃ j, j = N - 1 - k := ⟨_, rfl⟩
      have hjk : (N : Int) - 1 - k = (j : Int) := by omega
      rw [hjk]
      have hjl : j < L.length := by rw [HNN.out]; omega
      have cs := (hkp.cell (p := ⟨ab, ao + j, none⟩) hab habb).trans (HT.out ab ao rfl j L[j] (List.getElem?_eq_getElem hjl))
      obtain ⟨fn, tmps, assign, body, hy, hR⟩ := hY _ (paAt L j hjl) wr hJ (by rw [bk_len]; exact hlt)
      have HBK : Hid (bk L (k + 1) hk1 = bk L k hk ++ [paAt L j hjl]) := Lib.hid (by
        show bk L k _ ++ [_] = _
        congr 3
        rw [HNN.out]; exact hj.symm)
      have HHJ := Lib.hid hjk
      have HKP := Lib.hid hkp
      clear hj hjk hkp
      simp only [paVals, paAt] at hy
      have hjN : j < N := by rw [← HNN.out]; exact hjl
      gi_wp2
      refine hR.mono ?_
      rintro e W3 (⟨rfl, hJ3, hk3⟩ | ⟨rfl, hJx3⟩)
      · gi_wp2
        go_roundw
        case rel =>
          refine ⟨k + 1, hk1, ?_, ?_, HKP.out.trans hk3⟩
          · have := HHJ.out
            congr 1
            omega
          · rw [HBK.out]
            exact hJ3
        case measure => have := HHJ.out; first | (simp [intOf]; done) | (simp [intOf]; omega)
      · gi_wp2
        refine bodyPost_ret (results_none rfl _ _ _) rfl ?_
        exact ⟨⟨_, rfl⟩, .inr ⟨_, hJx3⟩⟩
    · obtain rfl : k = N := by omega
      have t0 : (k : Int) - 1 - k = -1 := by omega
      rw [t0]
      gi_wp2
      go_end0
      exact ⟨⟨_, rfl⟩, .inl ⟨_, ⟨_, rfl⟩, hJ⟩⟩
set_option maxHeartbeats 1000000 in
/-- slices.Backward: the slice is boxed; the function value holds the box. -/
theorem back_any (A : Option Addr) (N c : Nat) (w : World) :
    Calls Tryd.prog 30 #[.slice A N c] w fun e w' => e = .returned (.func (.func 49) #[] #[.pointer (some ⟨w.heap.size, 0, none⟩)]) ∧ w' = w.alloc (.cells #[.slice A N c] 41) := by
  go_enter Tryd.func30, Tryd.ntmps30
  go_wp2_with fail
  go_ret
  exact ⟨rfl, rfl⟩
theorem back_stops (n Bs n₀ b : Nat) (hn : 1 ≤ n) (A : Option Addr) (c : Nat) (L : List ByteArray) (N : Nat) (hN : L.length = N) (hlen : N ≤ 4294967296) (hA : 0 < N → ∃ ab ao, A = some ⟨ab, ao, none⟩ ∧ ab < n₀ ∧ ab ≠ b) (hBs : Bs < n₀) (hBb : Bs ≠ b)
    (w : World) (hn₀ : n₀ ≤ w.heap.size) (hc : w.cell? ⟨Bs, 0, none⟩ = some (.slice A N c)) (hT : ∀ ab ao, A = some ⟨ab, ao, none⟩ → ∀ j x, L[j]? = some x → w.cell? ⟨ab, ao + j, none⟩ = some (.string x)) :
    SeqStopsK Fence.wide n Tryd.prog 49 #[.pointer (some ⟨Bs, 0, none⟩)] paVals (KpB n₀ b) (fun ys => ∃ h, ys = bk L N h) (fun _ => True) N w := fun l J Jx W hW _ _ hY h0 =>
  (back1_in Fence.wide n trivial rfl hn l Bs n₀ b A c L N hN hlen hA hBs hBb J Jx hY W ((hW.cell (p := ⟨Bs, 0, none⟩) (by show Bs < _; omega)).trans hc)
    (fun ab ao e j x hx => by
      have hlt := (List.getElem?_eq_some_iff.1 hx).1
      obtain ⟨ab', ao', e', hl, _⟩ := hA (by omega)
      rw [e] at e'
      injection e' with e'
      injection e' with e1 e2
      subst e1
      exact (hW.cell (p := ⟨ab, ao + j, none⟩) (by show ab < _; omega)).trans (hT ab ao e j x hx)) h0).mono fun e W' ⟨he, h⟩ => ⟨he, h.imp id fun ⟨pre, hj⟩ => ⟨pre, trivial, hj⟩⟩
end Go.Proofs.YthlbockphdbpkaaDoor
