/- Contract of package scan: Lines. -/
import Derived.Test.YtkcbmnboccjnnaaGreatDoorAp
import Derived.Test.YtkcbmnboccjnnaaGreatDoorSc
import Derived.Lib.SplitLaws
namespace Go.Proofs.YtkcbmnboccjnnaaGreatDoor
open Go.RowKit
/-- A line in memory: its number, its fields, and where these lie. -/
structure Lnm where
  no : Nat
  fs : List (List UInt8 × Nat)
  A : Option Addr
  c : Nat
def lncell (d : Lnm) : List Value := [.int .i64 (d.no : Int), .slice d.A d.fs.length d.c]
theorem lncell_len (d : Lnm) : (lncell d).length = 2 := rfl
def Lnm.ln (d : Lnm) : LnD := (d.no, d.fs)
/-- What Lines answers of lines that are scanned. -/
def LinesE (R : LRes) (e : Ending) (w : World) : Prop := match R with
  | .inr f => e = .returned (.tuple #[.slice none 0 0, .agg #[.int .i64 (f.1 : Int), .int .i64 (f.2.1 : Int), .int .i64 (f.2.2 : Int)]])
  | .inl ls => ∃ (A : Option Addr) (c : Nat) (L : List Lnm), e = .returned (.tuple #[.slice A L.length c, .agg #[.int .i64 0, .int .i64 0, .int .i64 0]]) ∧ L.map Lnm.ln = ls ∧ Rk w w.heap.size A (L.flatMap lncell) ∧ ∀ d ∈ L, Rk w w.heap.size d.A (fcells d.fs)
/-- What the lines of a text are. -/
def Ln.all (l : List UInt8) : LRes := if 1048576 < l.length then .inr (0, 0, 6) else Ln.scan 1 (Ln.cut l)
/-- A text cut at its line feeds by the library. -/
theorem split_any (S : ByteArray) (hS : S.size ≤ 1048576) (w : World) (hM : ∃ m : Int, w.cell? ⟨1, 0, none⟩ = some (.int .i64 m)) :
    ∃ P : List ByteArray, P.map (·.data.toList) = Ln.cut S.data.toList ∧ P.length ≤ 1048577 ∧ (∀ p ∈ P, p.size ≤ 1048576) ∧
      Calls Tryz.prog 45 #[.string S, .string ⟨#[10]⟩] w fun e w' => e = .returned (.slice (some ⟨w.heap.size, 0, none⟩) P.length P.length) ∧ w' = w.alloc (.cells (P.map Value.string).toArray 9) := by
  obtain ⟨m, hm⟩ := hM
  have h := Tryz.strings_Split S ⟨#[10]⟩ m w (by omega) hm (by decide)
  have hl := Lib.splitB_all ⟨#[10]⟩ (by decide) 0 _ S rfl
  have hd : (Lib.splitB ⟨#[10]⟩ 0 (Lib.countB S ⟨#[10]⟩) S).map (·.data.toList) = Ln.cut S.data.toList := by
    rw [Lib.splitB_data]
    exact split_lf S.data.toList
  rw [← hl] at h
  have hz := lcut_size S.data.toList
  have hSl : S.data.toList.length = S.size := by simp
  generalize Lib.splitB ⟨#[10]⟩ 0 (Lib.countB S ⟨#[10]⟩) S = P at *
  have hlen : ∀ (l : List (List UInt8)), l.length ≤ Ln.size l ∧ ∀ x ∈ l, x.length + 1 ≤ Ln.size l := by
    intro l
    induction l with
    | nil => exact ⟨Nat.zero_le _, fun _ h => by cases h⟩
    | cons y l ih =>
      have e : Ln.size (y :: l) = y.length + 1 + Ln.size l := rfl
      rw [e, List.length_cons]
      refine ⟨by omega, fun x hx => ?_⟩
      rcases List.mem_cons.1 hx with rfl | hx
      · omega
      · have := ih.2 x hx
        omega
  obtain ⟨h1, h2⟩ := hlen (Ln.cut S.data.toList)
  refine ⟨P, hd, ?_, fun p hp => ?_, h⟩
  · have : P.length = (Ln.cut S.data.toList).length := by rw [← hd, List.length_map]
    omega
  · have := h2 p.data.toList (by rw [← hd]; exact List.mem_map.2 ⟨p, hp, rfl⟩)
    have hpl : p.data.toList.length = p.size := by simp
    omega
theorem lines_long (S : ByteArray) (h : 1048576 < S.size) (hs : S.size ≤ 9223372036854775807) (w : World) :
    Calls Tryz.prog 26 #[.string S] w fun e w' => e = .returned (.tuple #[.slice none 0 0, .agg #[.int .i64 0, .int .i64 0, .int .i64 6]]) ∧ Below w.heap.size w w' := by
  go_enter Tryz.func26, Tryz.ntmps26
  go_wp2_with fail
  refine bodyPost_ret (v := .tuple #[.slice none 0 0, .agg #[.int .i64 0, .int .i64 0, .int .i64 6]]) (by simp [results, Tryz.results26, go_sem]) rfl ⟨rfl, ?_⟩
  repeat (first | exact Below.refl _ _ | assumption | refine below_drewN ?_ _ | refine Below.drew ?_ | refine Below.setCell ?_ (by first | omega | (simp; done) | (simp; omega)) _ | refine Below.alloc ?_ (by first | omega | (simp; done) | (simp; omega)) _)
theorem own_form2 {w : World} {b : Nat} {e : TypeId} {k : Nat} {v : Value} {n : Nat} {xs : List Value} (h : w.ownsRow b e k v n xs) : ∃ A c, v = .slice A n c := by
  rcases h.2 with ⟨h1, h2⟩ | ⟨g, cap, _, h1, _⟩
  · exact ⟨none, 0, by rw [h1, h2]⟩
  · exact ⟨_, cap, h1⟩
/-- Rows of unlike elements lie in unlike blocks. -/
theorem own_apart {w : World} {b b' : Nat} {e e' : TypeId} {k k' n n' : Nat} {v v' : Value} {xs xs' : List Value} (h : w.ownsRow b e k v n xs) (h' : w.ownsRow b' e' k' v' n' xs') (hne : e ≠ e') : v.ownBlock = none ∨ v.ownBlock ≠ v'.ownBlock := by
  rcases h.2 with ⟨rfl, _⟩ | ⟨g, cap, cur, rfl, _, hg, _⟩
  · exact .inl rfl
  · refine .inr fun he => ?_
    rcases h'.2 with ⟨rfl, _⟩ | ⟨g', cap', cur', rfl, _, hg', _⟩
    · cases he
    · have : g = g' := by simpa [Value.ownBlock] using he
      subst this
      rw [hg] at hg'
      injection hg' with hg'
      injection hg' with _ ht
      exact hne ht
theorem own_mono {w : World} {b b' : Nat} {e : TypeId} {k n : Nat} {v : Value} {xs : List Value} (h : w.ownsRow b e k v n xs) (hb : b' ≤ b) : w.ownsRow b' e k v n xs :=
  ⟨h.1, h.2.imp id fun ⟨g, cap, cur, h1, h2, h3⟩ => ⟨g, cap, cur, h1, Nat.le_trans hb h2, h3⟩⟩
theorem own_on {w w' : World} {b : Nat} {e : TypeId} {k n : Nat} {v : Value} {xs : List Value} (h : w.ownsRow b e k v n xs) (hb : Below w.heap.size w w') : w'.ownsRow b e k v n xs :=
  h.kept (grown_of_below hb none) (by cases v.ownBlock <;> simp)
set_option maxRecDepth 100000 in
set_option maxHeartbeats 4000000 in
theorem lines_short (S : ByteArray) (hS : S.size ≤ 1048576) (w : World) (hE : Env w) :
    Calls Tryz.prog 26 #[.string S] w fun e w' => LinesE (Ln.scan 1 (Ln.cut S.data.toList)) e w' ∧ Below w.heap.size w w' := by
  have hE1 := (hE.below (box_below w (.cells #[.int .i64 0, .int .i64 0, .int .i64 0] 30))).longest
  obtain ⟨P, hP, hPl, hPz, H⟩ := split_any S hS _ hE1
  have HP := Lib.hid hP
  have HPZ := Lib.hid hPz
  have HC := Lib.hid H
  clear hE hE1 hP hPz H
  go_enter Tryz.func26, Tryz.ntmps26
  go_wp2_with fail
  refine HC.out.mono ?_
  rintro e w2 ⟨rfl, hw2⟩
  have b2 : Below w.heap.size w w2 := by
    rw [hw2]
    exact (box_below w _).alloc (by simp) _
  have hz2 : w2.heap.size = w.heap.size + 2 := by rw [hw2]; simp
  have f0 : w2.cell? ⟨w.heap.size, 0, none⟩ = some (.int .i64 0) := by rw [hw2]; go_simp
  have f1 : w2.cell? ⟨w.heap.size, 1, none⟩ = some (.int .i64 0) := by rw [hw2]; go_simp
  have f2 : w2.cell? ⟨w.heap.size, 2, none⟩ = some (.int .i64 0) := by rw [hw2]; go_simp
  have q0 : w2.frozen? ⟨w.heap.size, 0, none⟩ = false := by rw [hw2]; go_simp
  have q1 : w2.frozen? ⟨w.heap.size, 1, none⟩ = false := by rw [hw2]; go_simp
  have q2 : w2.frozen? ⟨w.heap.size, 2, none⟩ = false := by rw [hw2]; go_simp
  have HPC : Hid (∀ k p, P[k]? = some p → w2.cell? ⟨w.heap.size + 1, k, none⟩ = some (.string p)) := Lib.hid (fun k p hp => by
    rw [hw2, cell_blk (by have := heap_alloc_new (w.alloc (.cells #[.int .i64 0, .int .i64 0, .int .i64 0] 30)) (.cells (P.map Value.string).toArray 9); simpa using this)]
    simp [hp])
  clear hw2
  go_wp2_with fail
  go_loopw [4, 17] (fun v i wr => ∃ (k : Nat) (L : List Lnm), k ≤ P.length ∧ i = .int .i64 k ∧ Hid (wr.ownsRow w2.heap.size 74 2 v L.length (L.flatMap lncell)) ∧ Hid (∀ d ∈ L, wr.ownsRow w2.heap.size 102 2 (.slice d.A d.fs.length d.c) d.fs.length (fcells d.fs)) ∧ L.length ≤ k ∧
    Hid (Ln.scan 1 (Ln.cut S.data.toList) = Ln.join (L.map Lnm.ln) (Ln.scan (k + 1) ((P.map (·.data.toList)).drop k))) ∧ Below w2.heap.size w2 wr) (fun _ i _ => P.length - (intOf i).toNat)
  case atStart => exact ⟨0, [], Nat.zero_le _, rfl, Lib.hid (World.ownsRow_nil _ _ _ _), Lib.hid (fun _ h => by cases h), Nat.le_refl _, Lib.hid (by rw [List.map_nil, ljoin_nil, List.drop_zero, HP.out]), Below.refl _ _⟩
  case round =>
    obtain ⟨k, L, hk, rfl, hO, hF, hlk, hG, hbw⟩ := hrel
    by_cases hlt : k < P.length
    · obtain ⟨p, hp⟩ : ∃ p, P[k]? = some p := ⟨_, List.getElem?_eq_getElem hlt⟩
      have c0 : wr.cell? ⟨w.heap.size + 1, k, none⟩ = some (.string p) := (hbw.cell (p := ⟨w.heap.size + 1, k, none⟩) (by show w.heap.size + 1 < w2.heap.size; omega)).trans (HPC.out k p hp)
      have hpz := HPZ.out p (List.mem_of_getElem? hp)
      have hd : (P.map (·.data.toList)).drop k = p.data.toList :: (P.map (·.data.toList)).drop (k + 1) := by
        rw [List.drop_eq_getElem_cons (by rw [List.length_map]; exact hlt), List.getElem_map]
        congr 2
        obtain ⟨_, e⟩ := List.getElem?_eq_some_iff.1 hp
        rw [e]
      have hpl : p.data.toList.length = p.size := by simp
      have hG2 := hG.out
      rw [hd] at hG2
      have hlt0 : w.heap.size < w2.heap.size := by omega
      have g0 := (hbw.cell (p := ⟨w.heap.size, 0, none⟩) hlt0).trans f0
      have g1 := (hbw.cell (p := ⟨w.heap.size, 1, none⟩) hlt0).trans f1
      have g2 := (hbw.cell (p := ⟨w.heap.size, 2, none⟩) hlt0).trans f2
      have r0 := (hbw.frozen (p := ⟨w.heap.size, 0, none⟩) hlt0).trans q0
      have r1 := (hbw.frozen (p := ⟨w.heap.size, 1, none⟩) hlt0).trans q1
      have r2 := (hbw.frozen (p := ⟨w.heap.size, 2, none⟩) hlt0).trans q2
      have hbW := b2.trans (hbw.mono b2.size)
      by_cases hlong : 2048 < p.size
      · have HR := Lib.hid (show Ln.scan 1 (Ln.cut S.data.toList) = .inr (k + 1, 2049, 6) by
          rw [hG2, lscan_wrong (p := (2049, 6)) (by unfold Ln.fld; rw [if_pos (by omega)])]
          rfl)
        clear hG2 hG hd hO hF hp f0 f1 f2 q0 q1 q2
        go_wp2_with fail
        refine (fields_long p hlong (by omega) _).mono ?_
        rintro e w' ⟨rfl, rfl⟩
        go_wp2_with fail
        refine bodyPost_ret (v := .tuple #[.slice none 0 0, .agg #[.int .i64 ((k : Int) + 1), .int .i64 2049, .int .i64 6]]) (by simp [results, Tryz.results26, go_sem, g0, g1, g2]) rfl ⟨?_, ?_⟩
        · rw [HR.out]
          show _ = _
          simp
        · exact ((hbW.setCell (Nat.le_refl _) _).setCell (Nat.le_refl _) _).setCell (Nat.le_refl _) _
      · have hfld : Ln.fld p.data.toList = cutL p.data.toList none [] 0 := by unfold Ln.fld; rw [if_neg (by omega)]
        have HFL := Lib.hid hfld
        have HG2 := Lib.hid hG2
        have HHD := Lib.hid hd
        have HEP := Lib.hid hp
        clear hG2 hG hd hp f0 f1 f2 q0 q1 q2 hfld
        go_wp2_with fail
        refine (fields_any p (by omega) _).mono ?_
        rintro e w3 ⟨b3, hFE⟩
        have hz3 : w.heap.size < wr.heap.size := Nat.lt_of_lt_of_le hlt0 hbw.size
        have hb3 := hbw.trans (b3.mono hbw.size)
        generalize hRR : cutL p.data.toList none [] 0 = R at hFE
        have hRR := HFL.out.trans hRR
        have HRR := Lib.hid hRR
        clear hRR
        cases R with
        | inr q =>
          obtain ⟨c, y⟩ := q
          change e = _ at hFE
          subst hFE
          have g0 := (b3.cell (p := ⟨w.heap.size, 0, none⟩) hz3).trans g0
          have g1 := (b3.cell (p := ⟨w.heap.size, 1, none⟩) hz3).trans g1
          have g2 := (b3.cell (p := ⟨w.heap.size, 2, none⟩) hz3).trans g2
          have r0 := (b3.frozen (p := ⟨w.heap.size, 0, none⟩) hz3).trans r0
          have r1 := (b3.frozen (p := ⟨w.heap.size, 1, none⟩) hz3).trans r1
          have r2 := (b3.frozen (p := ⟨w.heap.size, 2, none⟩) hz3).trans r2
          have HY := Lib.hid (fld_cols p.data.toList)
          have hy0 : (((y : Nat) : Int) != 0) = true := by
            have := HY.out
            rw [HRR.out] at this
            have := this.2
            rw [bne_iff_ne]
            omega
          have HR := Lib.hid (show Ln.scan 1 (Ln.cut S.data.toList) = .inr (k + 1, c, y) by
            rw [HG2.out, lscan_wrong HRR.out]
            rfl)
          clear hO hF HG2 HHD HEP HFL HRR HY b3 c0
          go_wp2_with fail
          refine bodyPost_ret (v := .tuple #[.slice none 0 0, .agg #[.int .i64 ((k : Int) + 1), .int .i64 (c : Int), .int .i64 (y : Int)]]) (by simp [results, Tryz.results26, go_sem, g0, g1, g2]) rfl ⟨?_, ?_⟩
          · rw [HR.out]
            show _ = _
            simp
          · exact (((b2.trans (hb3.mono b2.size)).setCell (Nat.le_refl _) _).setCell (Nat.le_refl _) _).setCell (Nat.le_refl _) _
        | inl fs =>
          obtain ⟨vF, rfl, hvF⟩ := hFE
          obtain ⟨AF, cF, rfl⟩ := own_form2 hvF
          have hO3 := own_on hO.out b3
          have hF3 : ∀ d ∈ L, w3.ownsRow w2.heap.size 102 2 (.slice d.A d.fs.length d.c) d.fs.length (fcells d.fs) := fun d hd => own_on (hF.out d hd) b3
          have hvF2 := own_mono hvF hbw.size
          have HO3 := Lib.hid hO3
          have HF3 := Lib.hid hF3
          have HVF := Lib.hid hvF2
          clear hO hF hO3 hF3 hvF hvF2 b3 g0 g1 g2 r0 r1 r2 c0 hbW
          by_cases hn : fs = []
          · subst hn
            have HGN := Lib.hid (show Ln.scan 1 (Ln.cut S.data.toList) = Ln.join (L.map Lnm.ln) (Ln.scan (k + 1 + 1) ((P.map (·.data.toList)).drop (k + 1))) by rw [HG2.out, lscan_none HRR.out])
            clear HG2 HHD HEP HFL HRR
            go_wp2_with fail
            go_roundw
            case rel => exact ⟨k + 1, L, by omega, by go_num, HO3, HF3, by omega, HGN, hb3⟩
            case measure => simp [intOf]; omega
          · have hfl : 0 < fs.length := List.length_pos_iff.2 hn
            have HGN := Lib.hid (show Ln.scan 1 (Ln.cut S.data.toList) = Ln.join ((L ++ [(⟨k + 1, fs, AF, cF⟩ : Lnm)]).map Lnm.ln) (Ln.scan (k + 1 + 1) ((P.map (·.data.toList)).drop (k + 1))) by
              rw [HG2.out, lscan_some HRR.out hn, ljoin_join, List.map_append]
              rfl)
            clear HG2 HHD HEP HFL HRR hn
            have hzz := hb3.size
            go_wp2_with (at_builtin; refine wpList_ap_line rfl (.tmp 38) (.tmp 43) rfl w2.heap.size u4 L.length (L.flatMap lncell) rfl (HO3.out.alloc _) w3.heap.size 1 [.int .i64 ((k : Int) + 1), .slice AF fs.length cF] rfl rfl (fun j u hu => (Bx.mk' w3 w3.heap.size #[.int .i64 ((k : Int) + 1), .slice AF fs.length cF] 74 rfl).at_ j u hu) (by intro u hu; simp at hu; rcases hu with rfl | rfl <;> rfl) (by omega) (by simp; omega) ?_; intro g cap w4 ho4 hg4 hat4 hlt4)
            have HO4 : Hid (w4.ownsRow w2.heap.size 74 2 (.slice (some ⟨g, 0, none⟩) (L.length + 1) cap) (L ++ [(⟨k + 1, fs, AF, cF⟩ : Lnm)]).length ((L ++ [(⟨k + 1, fs, AF, cF⟩ : Lnm)]).flatMap lncell)) := Lib.hid (by
              rw [flat_snoc, List.length_append]
              have e : lncell ⟨k + 1, fs, AF, cF⟩ = [.int .i64 ((k : Int) + 1), .slice AF fs.length cF] := by
                unfold lncell
                simp
              rw [e]
              exact ho4)
            have HF4 : Hid (∀ d ∈ L ++ [(⟨k + 1, fs, AF, cF⟩ : Lnm)], w4.ownsRow w2.heap.size 102 2 (.slice d.A d.fs.length d.c) d.fs.length (fcells d.fs)) := Lib.hid (fun d hd => by
              have hw : w3.ownsRow w2.heap.size 102 2 (.slice d.A d.fs.length d.c) d.fs.length (fcells d.fs) := by
                rcases List.mem_append.1 hd with hd | hd
                · exact HF3.out d hd
                · obtain rfl : d = ⟨k + 1, fs, AF, cF⟩ := by simpa using hd
                  exact HVF.out
              exact (hw.alloc (.cells #[.int .i64 ((k : Int) + 1), .slice AF fs.length cF] 74)).kept hg4 (own_apart (hw.alloc (.cells #[.int .i64 ((k : Int) + 1), .slice AF fs.length cF] 74)) (HO3.out.alloc (.cells #[.int .i64 ((k : Int) + 1), .slice AF fs.length cF] 74)) (by decide)))
            have hb4 : Below w2.heap.size w2 w4 := (hb3.alloc hzz _).grown hg4 (by simp; omega) (own_base HO3.out)
            clear ho4 hg4 hat4 HO3 HF3 HVF hzz
            go_wp2_with fail
            go_roundw
            case rel => exact ⟨k + 1, L ++ [⟨k + 1, fs, AF, cF⟩], by omega, by go_num, HO4, HF4, by rw [List.length_append]; simp; omega, HGN, hb4⟩
            case measure => simp [intOf]; omega
    · obtain rfl : k = P.length := by omega
      have HR := Lib.hid (show Ln.scan 1 (Ln.cut S.data.toList) = .inl (L.map Lnm.ln) by
        rw [hG.out, List.drop_of_length_le (by rw [List.length_map]; exact Nat.le_refl _)]
        show Sum.inl (_ ++ []) = _
        rw [List.append_nil])
      obtain ⟨A, c, hv⟩ := own_form2 hO.out
      subst hv
      have hlt0 : w.heap.size < w2.heap.size := by omega
      have g0 := (hbw.cell (p := ⟨w.heap.size, 0, none⟩) hlt0).trans f0
      have g1 := (hbw.cell (p := ⟨w.heap.size, 1, none⟩) hlt0).trans f1
      have g2 := (hbw.cell (p := ⟨w.heap.size, 2, none⟩) hlt0).trans f2
      have r0 := (hbw.frozen (p := ⟨w.heap.size, 0, none⟩) hlt0).trans q0
      have r1 := (hbw.frozen (p := ⟨w.heap.size, 1, none⟩) hlt0).trans q1
      have r2 := (hbw.frozen (p := ⟨w.heap.size, 2, none⟩) hlt0).trans q2
      have hsc : ∀ (x : World) (u : Value) (j : Nat), x.heap.size = wr.heap.size → True := fun _ _ _ _ => trivial
      clear hG f0 f1 f2 q0 q1 q2 hsc
      go_wp2_with fail
      refine bodyPost_ret (v := .tuple #[.slice A L.length c, .agg #[.int .i64 0, .int .i64 0, .int .i64 0]]) (by simp [results, Tryz.results26, go_sem, g0, g1, g2]) rfl ⟨?_, ?_⟩
      · rw [HR.out]
        have k0 : ∀ {xs : List Value} {e : TypeId} {kk n : Nat} {vv : Value}, wr.ownsRow w2.heap.size e kk vv n xs → (((wr.setCell ⟨w.heap.size, 0, none⟩ (.int .i64 0)).setCell ⟨w.heap.size, 1, none⟩ (.int .i64 0)).setCell ⟨w.heap.size, 2, none⟩ (.int .i64 0)).ownsRow w2.heap.size e kk vv n xs := fun h =>
          ownsRow_setCell_below (ownsRow_setCell_below (ownsRow_setCell_below h (by show w.heap.size < w2.heap.size; omega) _) (by show w.heap.size < w2.heap.size; omega) _) (by show w.heap.size < w2.heap.size; omega) _
        exact ⟨A, c, L, rfl, rfl, Rk.of_own (k0 hO.out), fun d hd => Rk.of_own (k0 (hF.out d hd))⟩
      · exact (((b2.trans (hbw.mono b2.size)).setCell (Nat.le_refl _) _).setCell (Nat.le_refl _) _).setCell (Nat.le_refl _) _
theorem slines_any (S : ByteArray) (hs : S.size ≤ 9223372036854775807) (w : World) (hE : Env w) :
    Calls Tryz.prog 26 #[.string S] w fun e w' => LinesE (Ln.all S.data.toList) e w' ∧ Below w.heap.size w w' := by
  have hl : S.data.toList.length = S.size := by simp
  unfold Ln.all
  by_cases h : 1048576 < S.size
  · rw [if_pos (by omega)]
    exact lines_long S h hs w
  · rw [if_neg (by omega)]
    exact lines_short S (by omega) w hE
end Go.Proofs.YtkcbmnboccjnnaaGreatDoor
