/- Contracts of package source: read, texts, faultAt. -/
import Derived.Test.YtkcbmnboccjnnaaGreatDoorRdC
import Derived.Test.YtkcbmnboccjnnaaGreatDoorRdD
import Derived.Test.YtkcbmnboccjnnaaGreatDoorLives05
namespace Go.Proofs.YtkcbmnboccjnnaaGreatDoor
open Go.RowKit Go.Shelf
set_option maxRecDepth 100000 in
set_option maxHeartbeats 4000000 in
theorem sread_any (g B gt n : Nat) (s : St) (L : List ByteArray) (W : World) (hE : Ev W) (hR : Rdr W B g s) (hg : s.good) (hL : Bx W gt (L.map Value.string)) (hl : L.length = n) (h1 : 1 ≤ n) (hn : n ≤ 24) (hs : ∀ t ∈ L, t.size ≤ 2048) :
    Calls Tryz.prog 27 #[.pointer (some ⟨g, 0, none⟩), .slice (some ⟨gt, 0, none⟩) n n] W fun e w' => ReadE (So.rd s L) B g e w' ∧ ReadB (So.rd s L) B W w' := by
  have n1 := hg.nr
  have n2 := hg.nz
  have n3 := hg.nl
  cases hc : s.cur with
  | some z =>
    have hz := (hg.c z hc).2.2.1
    have HRD := Lib.hid (show So.rd s L = So.eraL s z L by unfold So.rd; rw [hc])
    have H := Lib.hid (readEra_any g B gt n s z L W hE hR hc hL hl h1 hn hs (by omega) hz)
    obtain ⟨lim, vr, vz, vl, zd, cz, R⟩ := hR
    have c3 := cell_blk R.blk 3
    rw [hc] at c3
    change W.cell? ⟨g, 3, none⟩ = some (.bool true) at c3
    rw [HRD.out]
    clear HRD
    generalize So.eraL s z L = RR at *
    clear R hE hL hs hg n1 n2 n3 hz hc
    go_enter Tryz.func27, Tryz.ntmps27
    go_wp2_with fail
    refine H.out.mono ?_
    rintro e w1 ⟨hRE, b1⟩
    cases RR with
    | inr p =>
      change e = _ at hRE
      subst hRE
      go_wp2_with fail
      go_ret2
      exact ⟨rfl, b1⟩
    | inl s2 =>
      obtain ⟨rfl, hRD⟩ := hRE
      have HF := Lib.hid hRD
      clear hRD
      go_wp2_with fail
      go_ret2
      exact ⟨⟨rfl, HF.out⟩, b1⟩
  | none =>
    obtain ⟨lim, vr, vz, vl, zd, cz, R⟩ := hR
    have hR : Rdr W B g s := ⟨lim, vr, vz, vl, zd, cz, R⟩
    have c3 := cell_blk R.blk 3
    rw [hc] at c3
    change W.cell? ⟨g, 3, none⟩ = some (.bool false) at c3
    obtain ⟨t0, ht0⟩ : ∃ t0, So.at_ L 0 = t0 := ⟨_, rfl⟩
    have hL0 : (L.map Value.string)[0]? = some (.string t0) := by
      rw [List.getElem?_map, List.getElem?_eq_getElem (by omega), ← ht0]
      show some (Value.string L[0]) = some (Value.string (L.getD 0 ByteArray.empty))
      rw [List.getD_eq_getElem?_getD, List.getElem?_eq_getElem (by omega)]
      rfl
    have d0 : W.cell? ⟨gt, 0, none⟩ = some (.string t0) := hL.at_ 0 _ hL0
    have hz0 : t0.size ≤ 2048 := by rw [← ht0]; exact getD_small hs 0
    have tn : (0 : Int) < (n : Int) := by omega
    have tn0 : 0 < n := h1
    have hkw := fun v hv W => keyword_lit t0 v W (by omega) hv
    have hp1 := Wd.pick_ge t0 Wd.kinds
    have hp2 : Wd.pick t0 Wd.kinds < 3 := Wd.pick_lt t0 Wd.kinds
    have hkin : Wd.kinds = So.kinds := rfl
    have hBW : B ≤ W.heap.size := Nat.le_trans R.limB R.limW
    have hrd : So.rd s L = if Wd.pick t0 Wd.kinds = 0 then So.rule s L else if Wd.pick t0 Wd.kinds = 1 then So.zoneL s L else if Wd.pick t0 Wd.kinds = 2 then So.linkL s L else .inr (0, 7) := by
      unfold So.rd
      rw [hc]
      show So.first s L = _
      unfold So.first
      rw [ht0]
      rfl
    have HRD := Lib.hid hrd
    have HK := Lib.hid hkw
    have HR := Lib.hid hR
    have HL := Lib.hid hL
    have hkin2 : Wd.pick t0 Wd.kinds = -1 ∨ Wd.pick t0 Wd.kinds = 0 ∨ Wd.pick t0 Wd.kinds = 1 ∨ Wd.pick t0 Wd.kinds = 2 := by omega
    clear R hrd hkw hR hL ht0 hL0 hkin
    rcases hkin2 with hp | hp | hp | hp
    · have HKC := Lib.hid (HK.out 0 (by rw [hp]; rfl))
      rw [hp, if_neg (by decide), if_neg (by decide), if_neg (by decide)] at HRD
      rw [HRD.out]
      clear hp hp1 hp2 HK hE hc
      go_enter Tryz.func27, Tryz.ntmps27
      go_wp2_with fail
      refine (HKC.out _).mono ?_
      rintro e w1 ⟨rfl, b1⟩
      go_wp2_with fail
      go_ret2
      exact ⟨rfl, b1⟩
    all_goals
      first
        | (have HKC := Lib.hid (HK.out 1 (by rw [hp]; rfl))
           rw [hp, if_pos (by decide)] at HRD
           have HC := Lib.hid (fun W1 (hb : Below W.heap.size W W1) => readRule_any g B gt n s L W1 (hE.below hb).env (by obtain ⟨a, b, c, d, e, f, R⟩ := HR.out; exact ⟨a, b, c, d, e, f, R.on hb⟩) (HL.out.on hb) hl h1 hn hs n1)
           generalize So.rule s L = RR at *)
        | (have HKC := Lib.hid (HK.out 2 (by rw [hp]; rfl))
           rw [hp, if_neg (by decide), if_pos (by decide)] at HRD
           have HC := Lib.hid (fun W1 (hb : Below W.heap.size W W1) => readZone_any g B gt n s L W1 (hE.below hb) (by obtain ⟨a, b, c, d, e, f, R⟩ := HR.out; exact ⟨a, b, c, d, e, f, R.on hb⟩) hc (HL.out.on hb) hl h1 hn hs (by omega))
           generalize So.zoneL s L = RR at *)
        | (have HKC := Lib.hid (HK.out 3 (by rw [hp]; rfl))
           rw [hp, if_neg (by decide), if_neg (by decide), if_pos (by decide)] at HRD
           have HC := Lib.hid (fun W1 (hb : Below W.heap.size W W1) => readLink_any g B gt n s L W1 (by obtain ⟨a, b, c, d, e, f, R⟩ := HR.out; exact ⟨a, b, c, d, e, f, R.on hb⟩) (HL.out.on hb) hl h1 hn hs n3)
           generalize So.linkL s L = RR at *)
      rw [HRD.out]
      clear hp hp1 hp2 HK hE hc HR HL n1 n2 n3 hg hs HRD
      go_enter Tryz.func27, Tryz.ntmps27
      go_wp2_with fail
      refine (HKC.out _).mono ?_
      rintro e w1 ⟨rfl, b1⟩
      have H2 := Lib.hid (HC.out _ b1)
      have HB1 := Lib.hid b1
      clear b1 HC HKC c3 d0
      go_wp2_with fail
      refine H2.out.mono ?_
      rintro e w2 ⟨hRE, b2⟩
      have b3 := readB_trans HB1.out hBW b2
      cases RR with
      | inr p =>
        change e = _ at hRE
        subst hRE
        go_wp2_with fail
        go_ret2
        exact ⟨rfl, b3⟩
      | inl s2 =>
        obtain ⟨rfl, hRD⟩ := hRE
        have HF := Lib.hid hRD
        clear hRD
        go_wp2_with fail
        go_ret2
        exact ⟨⟨rfl, HF.out⟩, b3⟩
theorem fcell_at (fs : List (List UInt8 × Nat)) {i : Nat} {x : List UInt8 × Nat} (h : fs[i]? = some x) : (fcells fs)[i * 2]? = some (.string ⟨x.1.toArray⟩) ∧ (fcells fs)[i * 2 + 1]? = some (.int .i64 (x.2 : Int)) := by
  obtain ⟨hi, e⟩ := List.getElem?_eq_some_iff.1 h
  have := fcells_get fs i hi
  rw [e] at this
  exact this
theorem Sb.al {w wr : World} {n : Nat} {l : List (List UInt8)} (h : Sb w n l wr) (o : Obj) : Sb w n l (wr.alloc o) := by
  have hb := box_below wr o
  obtain ⟨hc, hf⟩ := bcell hb
  have hm := h.more
  exact ⟨fun j hj => (hc _ _ hm).trans (h.cells j hj), fun j hj => by rw [hc _ _ hm]; exact h.some_ j hj, fun j => (hf _ _ hm).trans (h.free j), h.below.trans (hb.mono h.below.size), Nat.lt_of_lt_of_le hm hb.size⟩
set_option maxRecDepth 100000 in
set_option maxHeartbeats 2000000 in
theorem stexts_any (d : Lnm) (w : World) (hn : d.fs.length ≤ 1000000) (hR : Rk w w.heap.size d.A (fcells d.fs)) :
    Calls Tryz.prog 28 #[.agg #[.int .i64 (d.no : Int), .slice d.A d.fs.length d.c]] w fun e w' => (∃ g, e = .returned (.slice (some ⟨g, 0, none⟩) d.fs.length d.fs.length) ∧ Bx w' g (d.ln.texts.map Value.string)) ∧ Below w.heap.size w w' := by
  obtain ⟨no, fs, A, c⟩ := d
  simp only at hn hR
  show Calls Tryz.prog 28 #[.agg #[.int .i64 (no : Int), .slice A fs.length c]] w fun e w' => (∃ g, e = .returned (.slice (some ⟨g, 0, none⟩) fs.length fs.length) ∧ Bx w' g ((LnD.texts (no, fs)).map Value.string)) ∧ Below w.heap.size w w'
  obtain ⟨n, hfn⟩ : ∃ n, fs.length = n := ⟨_, rfl⟩
  rw [hfn] at hn ⊢
  have HR := Lib.hid hR
  have HL := Lib.hid hfn
  have hmk := fun W => make_str n hn W
  clear hR hfn
  go_enter Tryz.func28, Tryz.ntmps28
  go_wp2_with fail
  clear hmk
  go_loopw [13] (fun i wr => ∃ k : Nat, k ≤ n ∧ i = .int .i64 k ∧ Sb (w.alloc (.cells #[.int .i64 (no : Int), .slice A n c] 74)) n ((fs.take k).map (·.1)) wr) (fun i _ => n - (intOf i).toNat)
  case atStart => exact ⟨0, Nat.zero_le _, rfl, Sb.new _ _ _ (size_madeCells _ _) _⟩
  case round =>
    obtain ⟨k, hk, rfl, hI⟩ := hrel
    have hbw := (box_below w (.cells #[.int .i64 (no : Int), .slice A n c] 74)).trans (hI.below.mono (by simp))
    by_cases hlt : k < n
    · obtain ⟨x, hx⟩ : ∃ x, fs[k]? = some x := ⟨_, List.getElem?_eq_getElem (by rw [HL.out]; exact hlt)⟩
      obtain ⟨f0, f1⟩ := fcell_at fs hx
      obtain ⟨b, o, rfl, hb, hc⟩ := (HR.out.below hbw) (by rw [fcells_len, HL.out]; omega)
      have c0 := hc _ _ f0
      have c1 := hc _ _ f1
      rw [← Nat.add_assoc] at c1
      have htk : fs.take (k + 1) = fs.take k ++ [x] := by
        obtain ⟨hi, e⟩ := List.getElem?_eq_some_iff.1 hx
        rw [List.take_succ_eq_append_getElem hi, e]
      have hlen : ((fs.take k).map (·.1)).length = k := by rw [List.length_map, List.length_take, HL.out]; omega
      have hput := (hI.put x.1 (by omega) k hlen.symm).al (.cells #[.string ⟨x.1.toArray⟩, .int .i64 (x.2 : Int)] 102)
      rw [← show ((fs.take (k + 1)).map (·.1)) = (fs.take k).map (·.1) ++ [x.1] by rw [htk, List.map_append]; rfl] at hput
      have HPUT := Lib.hid hput
      have hfr := hI.free k
      obtain ⟨v0, hsm⟩ := Option.isSome_iff_exists.1 (hI.some_ k hlt)
      have hmore := hI.more
      have hws : (w.alloc (.cells #[.int .i64 (no : Int), .slice (some ⟨b, o, none⟩) n c] 74)).heap.size = w.heap.size + 1 := by simp
      rw [hws] at hfr hsm hmore
      rw [hws] at HPUT
      have hne : w.heap.size + 1 ≠ wr.heap.size := by omega
      clear hc f0 f1 htk hlen hput hI hx hws
      go_wp2_with fail
      go_roundw
      case rel => exact ⟨k + 1, by omega, by go_num, HPUT.out⟩
      case measure => simp [intOf]; omega
    · obtain rfl : k = n := by omega
      rw [List.take_of_length_le (by rw [HL.out]; exact Nat.le_refl _)] at hI
      have HI := Lib.hid hI
      clear hI
      go_wp2_with fail
      go_ret
      refine ⟨⟨_, rfl, ?_⟩, hbw⟩
      have hws : (w.alloc (.cells #[.int .i64 (no : Int), .slice A k c] 74)).heap.size = w.heap.size + 1 := by simp
      have h := HI.out
      refine ⟨?_, fun i v hv => ?_⟩
      · have := h.more
        rw [hws] at this
        exact this
      · rw [List.getElem?_map] at hv
        obtain ⟨t, ht, rfl⟩ := Option.map_eq_some_iff.1 hv
        unfold LnD.texts at ht
        rw [List.getElem?_map] at ht
        obtain ⟨f, hf, rfl⟩ := Option.map_eq_some_iff.1 ht
        obtain ⟨hi, e⟩ := List.getElem?_eq_some_iff.1 hf
        have hc := h.cells i (by rw [List.length_map]; exact hi)
        rw [hws] at hc
        rw [hc]
        congr 3
        rw [List.getElem_map]
        exact congrArg (fun q : List UInt8 × Nat => q.1.toArray) e
set_option maxHeartbeats 1000000 in
theorem faultAt_any (d : Lnm) (k : Nat) (z : Int) (w : World) (h1 : d.fs ≠ []) (hn : d.fs.length ≤ 1000000) (hR : Rk w w.heap.size d.A (fcells d.fs)) :
    Calls Tryz.prog 29 #[.agg #[.int .i64 (d.no : Int), .slice d.A d.fs.length d.c], .int .i64 (k : Int), .int .i64 z] w fun e w' => e = .returned (.agg #[.int .i64 (d.no : Int), .int .i64 (d.ln.col k : Int), .int .i64 z]) ∧ Below w.heap.size w w' := by
  obtain ⟨no, fs, A, c⟩ := d
  simp only at hn hR h1
  have h0 : 0 < fs.length := List.length_pos_iff.2 h1
  obtain ⟨M, hM⟩ : ∃ M, min k (fs.length - 1) = M := ⟨_, rfl⟩
  obtain ⟨x, hx⟩ : ∃ x, fs[M]? = some x := ⟨_, List.getElem?_eq_getElem (by omega)⟩
  have hcol : LnD.col (no, fs) k = x.2 := by
    unfold LnD.col
    show (fs.getD (min k (fs.length - 1)) ([], 0)).2 = x.2
    rw [hM, List.getD_eq_getElem?_getD, hx]
    rfl
  show Calls Tryz.prog 29 #[.agg #[.int .i64 (no : Int), .slice A fs.length c], .int .i64 (k : Int), .int .i64 z] w fun e w' => e = .returned (.agg #[.int .i64 (no : Int), .int .i64 (LnD.col (no, fs) k : Int), .int .i64 z]) ∧ Below w.heap.size w w'
  rw [hcol]
  obtain ⟨f0, f1⟩ := fcell_at fs hx
  obtain ⟨b, o, rfl, hb, hc⟩ := hR (by rw [fcells_len]; omega)
  have c0 := hc _ _ f0
  have c1 := hc _ _ f1
  rw [← Nat.add_assoc] at c1
  have tm : min (k : Int) ((fs.length : Int) - 1) = (M : Int) := by omega
  have hMl : M < fs.length := by omega
  clear hc f0 f1 hcol hx hR hM h1
  generalize fs.length = n at *
  have hb1 : b < w.heap.size + 1 := by omega
  have hb2 : b < w.heap.size + 1 + 1 := by omega
  go_enter Tryz.func29, Tryz.ntmps29
  go_wp2_with fail
  refine bodyPost_ret (v := .agg #[.int .i64 (no : Int), .int .i64 (x.2 : Int), .int .i64 z]) (by simp [results, Tryz.results29, go_sem]) rfl ⟨rfl, ?_⟩
  repeat (first | exact Below.refl _ _ | assumption | refine below_drewN ?_ _ | refine Below.drew ?_ | refine Below.setCell ?_ (by first | omega | (simp; done) | (simp; omega)) _ | refine Below.alloc ?_ (by first | omega | (simp; done) | (simp; omega)) _)
end Go.Proofs.YtkcbmnboccjnnaaGreatDoor
