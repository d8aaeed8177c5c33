/- Contracts of package little: Out. -/
import Derived.Test.YtheakfhcllgndaaPut
import Derived.Deep.RegionLaw
import Derived.Lib.LazyBuf
namespace Go.Proofs.Ytheakfhcllgndaa
open Go.RowKit
theorem u8_info : (Try.prog.info? 5).map (fun i => (i.zero, i.size, i.bytes)) = some (some (.int .u8 0), 1, 1) := by kernel_rfl
theorem make_u8 (n c : Nat) (hnc : n ≤ c) (hn : c ≤ 140737488355328) (w : World) : (Instr.makeSlice 60 (.int .i64 (n : Int)) (.int .i64 (c : Int))).run Try.prog w = .ok (.slice (some ⟨w.heap.size, 0, none⟩) n c) (w.alloc (.cells (madeCells (Value.cells (.int .u8 0)) c) 5)) := by
  obtain ⟨i0, hi, hz0, hz1, hz2⟩ := info_parts u8_info
  have hr := run_make (P := Try.prog) w 60 5 i0 (.int .u8 0) Try.underlying60 hi hz0 .i64 .i64 n c (by omega) (by omega) (by rw [hz2]; omega) (by omega)
  rw [hz1] at hr
  simpa using hr
theorem isSome_blk {w : World} {g : Nat} {t : TypeId} {cs : Array Value} (h : w.heap[g]? = some (.cells cs t (0, 0))) (i : Nat) (hi : i < cs.size) : (w.cell? ⟨g, i, none⟩).isSome = true := by
  rw [cell_blk h, Array.getElem?_eq_getElem hi]; rfl
/-- What holds at each round of Out: the pieces that are left are the first bytes; those behind them stand in block G. -/
structure OutInv (w : World) (B g : Nat) (l : List UInt8) (x v : Value) (wr : World) : Prop where
  left : ∃ ps, Chain w B g v ps ∧ x = .int .i64 ((flat ps).length : Int) ∧ (flat ps).length ≤ l.length ∧ flat ps = l.take (flat ps).length ∧ ∀ j (hj : j < l.length), (flat ps).length ≤ j → wr.cell? ⟨w.heap.size, j, none⟩ = some (.int .u8 (l[j].toNat : Int))
  some_ : ∀ j, j < l.length → (wr.cell? ⟨w.heap.size, j, none⟩).isSome = true
  free : ∀ j, wr.frozen? ⟨w.heap.size, j, none⟩ = false
  below : Below w.heap.size w wr
  more : w.heap.size < wr.heap.size
theorem out_round {w wr : World} {B g : Nat} {l s r : List UInt8} {q : Value} {ps : List (List UInt8)} (hrl : r = flat ps) (hw : Chain w B g q ps) (hle : r.length + s.length ≤ l.length) (htk : r ++ s = l.take (r.length + s.length))
    (hc : ∀ j (hj : j < l.length), r.length + s.length ≤ j → wr.cell? ⟨w.heap.size, j, none⟩ = some (.int .u8 (l[j].toNat : Int))) (hs : ∀ j, j < l.length → (wr.cell? ⟨w.heap.size, j, none⟩).isSome = true) (hf : ∀ j, wr.frozen? ⟨w.heap.size, j, none⟩ = false)
    (hb : Below w.heap.size w wr) (hm : w.heap.size < wr.heap.size) : OutInv w B g l (.int .i64 (r.length : Int)) q (wr.setCells w.heap.size r.length (s.map fun x => Value.int .u8 (x.toNat : Int))) := by
  subst hrl
  have hsz : ∀ (vs : List Value) (o : Nat) (W : World), (W.setCells w.heap.size o vs).heap.size = W.heap.size := by
    intro vs
    induction vs with
    | nil => intro o W; rfl
    | cons v vs ih => intro o W; show ((W.setCell _ v).setCells _ _ vs).heap.size = _; rw [ih]; simp
  have hr : flat ps = l.take (flat ps).length := by
    have := congrArg (List.take (flat ps).length) htk
    rw [List.take_left, List.take_take, Nat.min_eq_left (by omega)] at this
    exact this
  refine ⟨⟨ps, hw, rfl, by omega, hr, ?_⟩, ?_, ?_, below_setCells (Nat.le_refl _) _ _ _ hb, by rw [hsz]; exact hm⟩
  · intro j hj hle2
    by_cases hin : j < (flat ps).length + s.length
    · obtain ⟨i, rfl⟩ : ∃ i, j = (flat ps).length + i := ⟨j - (flat ps).length, by omega⟩
      have hi : i < s.length := by omega
      rw [World.cell?_setCells_in w.heap.size _ _ wr (by intro k hk; simp at hk; exact hs _ (by omega)) i (by simpa using hi)]
      have e1 : l[(flat ps).length + i] = s[i] := by
        have h1 : (flat ps ++ s)[(flat ps).length + i]? = (l.take ((flat ps).length + s.length))[(flat ps).length + i]? := by rw [htk]
        rw [List.getElem?_append_right (by omega), Nat.add_sub_cancel_left, List.getElem?_take_of_lt (by omega), List.getElem?_eq_getElem hi, List.getElem?_eq_getElem hj] at h1
        injection h1 with h1
        exact h1.symm
      rw [e1]
      simp
    · rw [World.cell?_setCells_out w.heap.size _ _ wr _ (by intro _ _; right; simp; omega)]
      exact hc j hj (by omega)
  · intro j hj
    by_cases hin : (flat ps).length ≤ j ∧ j < (flat ps).length + s.length
    · obtain ⟨i, rfl⟩ : ∃ i, j = (flat ps).length + i := ⟨j - (flat ps).length, by omega⟩
      rw [World.cell?_setCells_in w.heap.size _ _ wr (by intro k hk; simp at hk; exact hs _ (by omega)) i (by simp; omega)]
      rfl
    · rw [World.cell?_setCells_out w.heap.size _ _ wr _ (by intro _ _; simp; omega)]
      exact hs j hj
  · intro j
    rw [World.frozen?_setCells]
    exact hf j
theorem out_any (B g : Nat) (l : List UInt8) (w : World) (h : Wr w B g l) (hl : l.length ≤ 4294967296) :
    Calls Try.prog 13 #[.pointer (some ⟨g, 0, none⟩)] w fun e w' => e = .returned (.string ⟨l.toArray⟩) ∧ Below w.heap.size w w' := by
  obtain ⟨p, ps, h1, h2, h3⟩ := h.last
  have h4 := h.size
  have h5 := h.f0
  have h6 := h.f1
  have h7 := h.lt
  have h8 := h.base
  have H3 := Lib.hid h3
  clear h3
  have hmk := make_u8 l.length l.length (Nat.le_refl _) (by omega)
  obtain ⟨q, rfl⟩ := h2.pointer
  go_enter Try.func13, Try.ntmps13
  go_wp2_with fail
  go_loopw [4, 5] (fun x v wr => OutInv w B g l x v wr) (fun x _ _ => (intOf x).toNat)
  case atStart =>
    have hn : (w.alloc (.cells (madeCells (Value.cells (.int .u8 0)) l.length) 5)).heap[w.heap.size]? = some (.cells (madeCells (Value.cells (.int .u8 0)) l.length) 5 (0, 0)) := heap_alloc_new _ _
    refine ⟨⟨ps, h2, by rw [H3.out], by rw [H3.out]; exact Nat.le_refl _, by rw [H3.out]; simp, fun j hj hle => ?_⟩, fun j hj => isSome_blk hn j (by rw [size_madeCells]; exact hj), fun j => frozen_blk hn j, (Below.refl _ _).alloc (Nat.le_refl _) _, by simp⟩
    rw [H3.out] at hle
    omega
  case round =>
    obtain ⟨⟨ps', hch, rfl, hle, htk, hc⟩, hsm, hfr, hbw, hmore⟩ := hrel
    cases ps' with
    | nil =>
      obtain rfl := hch
      have hconv := conv_blk (w := wr) (g := w.heap.size) (cap := l.length) (l := l) (n := l.length) rfl (fun j hj => hc j hj (Nat.zero_le _))
      clear hc hsm hfr htk hle hmk
      go_wp2_with fail
      go_ret
      exact ⟨rfl, hbw⟩
    | cons s r =>
      obtain ⟨b, q', rfl, hb1, hb2, hb3, hb4, hb5, hb6, hb7⟩ := hch
      have hfl : (flat (s :: r)).length = (flat r).length + s.length := by simp [flat]
      have hap : flat (s :: r) = flat r ++ s := rfl
      rw [hfl] at hle hc htk ⊢
      rw [hap] at htk
      generalize hrl : flat r = R at *
      have c0 := (hbw.cell (p := ⟨b, 0, none⟩) hb2).trans hb5
      have c1 := (hbw.cell (p := ⟨b, 1, none⟩) hb2).trans hb6
      have hpos : 0 < s.length := List.length_pos_iff.2 hb4
      have hsz : (⟨s.toArray⟩ : ByteArray).size = s.length := by simp [ByteArray.size]
      obtain ⟨qa, rfl⟩ := hb7.pointer
      have HC := Lib.hid hc
      have HSM := Lib.hid hsm
      have HFR := Lib.hid hfr
      have HTK := Lib.hid htk
      have HRL := Lib.hid hrl
      clear hc hsm hfr htk hmk hrl hap hfl
      have hRl : R.length ≤ l.length := by omega
      have hRn : ¬ l.length = R.length := by omega
      go_wp2_with fail
      go_region_law (refine step_copy_string rfl (.tmp 36) (.tmp 40) 60 9 rfl 5 Try.underlying60 size_u8 w.heap.size R.length (l.length - R.length) (l.length - R.length) (by simp [Act.eval]) ⟨s.toArray⟩ (by simp [Act.eval]) (by rw [hsz]; omega) (fun j hj => HSM.out _ (by rw [hsz] at hj; omega)) (fun j _ => HFR.out _) ?_)
      have hI := out_round (w := w) (wr := wr.drew) (B := B) (g := g) (l := l) (s := s) (r := R) (ps := r) (q := .pointer qa) HRL.out.symm hb7 hle HTK.out HC.out HSM.out HFR.out hbw.drew hmore
      have cq := (hI.below.cell (p := ⟨b, 0, none⟩) hb2).trans hb5
      clear HC HSM HFR HTK HRL c0 c1
      generalize (World.setCells _ _ _ _) = wn at hI cq ⊢
      go_wp2_with fail
      go_roundw
      case rel => exact hI
      case measure => simp [intOf]; omega
end Go.Proofs.Ytheakfhcllgndaa
