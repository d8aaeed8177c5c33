/- link.Aliases. -/
import Derived.Test.YthlbockphdbpkaaDoorNl
import Derived.Test.YthlbockphdbpkaaDoorNe
namespace Go.Proofs.YthlbockphdbpkaaDoor
open Go.RowKit Go.Maps Go.Shelf
set_option maxRecDepth 100000
attribute [local go_sem] Oper.semAt_some
theorem each_any (g : Nat) (w : World) :
    Calls Tryd.prog 23 #[.pointer (some ⟨g, 0, none⟩)] w fun e w' => e = .returned (.func (.func 37) #[] #[.pointer (some ⟨w.heap.size, 0, none⟩)]) ∧ w' = w.alloc (.cells #[.pointer (some ⟨g, 0, none⟩)] 66) := by
  go_enter Tryd.func23, Tryd.ntmps23
  go_wp2_with fail
  go_ret
  exact ⟨rfl, rfl⟩
theorem each_stops (n Bs n₀ v B : Nat) (hn : 1 ≤ n) (Z : List ByteArray) (K : List Lk) (g : Nat) (d : Nd) (N : Nat) (hN : (Z ++ K.map Lk.nm).length = N) (hlen : (Ld.all Z K).length ≤ 4096)
    (hsz : ∀ x ∈ Ld.all Z K, x.size ≤ 9223372036854775807) (hv : B ≤ v) (hB : B ≤ n₀) (hBs : Bs < n₀) (hBv : Bs ≠ v)
    (w : World) (hn₀ : n₀ ≤ w.heap.size) (hc : w.cell? ⟨Bs, 0, none⟩ = some (.pointer (some ⟨g, 0, none⟩))) (hM : Nms w B Z K g d) :
    SeqStopsK Fence.wide n Tryd.prog 37 #[.pointer (some ⟨Bs, 0, none⟩)] nqVals (KpB n₀ v) (fun ys => ∃ h, ys = uqk (Z ++ K.map Lk.nm) N h) (fun _ => True) N w := fun l J Jx W hW hJ _ hY h0 =>
  (each1_in n hn l Bs n₀ v B Z K g d N hN hlen hsz hv hB hBs hBv J Jx (fun pre W' q h => hJ pre W' _ none h ⟨rfl, rfl, rfl, Nat.le_refl _, fun _ _ _ => rfl⟩ (fun r e => by cases e)) hY W ((hW.cell (p := ⟨Bs, 0, none⟩) (by show Bs < _; omega)).trans hc) (hM.below (hW.mono (by omega))) h0).mono fun e W' ⟨he, h⟩ => ⟨he, h.imp id fun ⟨pre, hj⟩ => ⟨pre, trivial, hj⟩⟩
theorem Full.kp {W0 W1 W : World} {n v : Nat} {Z : List ByteArray} {K : List Lk} {g : Nat} {d : Nd} (h : Full W0 Z K g d) (hb : Below W0.heap.size W0 W1) (hk : KpB n v W1 W) (hn : W0.heap.size ≤ n) (hv : W0.heap.size ≤ v) : Full W Z K g d := by
  have hs : W0.heap.size ≤ W.heap.size := Nat.le_trans hb.size hk.size
  refine ⟨((h.nm.below hb).kp hk hn hv).more hs, fun p hp => ?_, Nat.lt_of_lt_of_le h.ne hs⟩
  have hl := h.ne
  exact (hk.cell (p := ⟨d.eb, p, none⟩) (by show d.eb < n; omega) (by show d.eb ≠ v; omega)).trans ((hb.cell (p := ⟨d.eb, p, none⟩) hl).trans (h.en p hp))
/-- Of these names those that lead where a name does. -/
noncomputable def Ld.sel (Z : List ByteArray) (K : List Lk) (x : ByteArray) {L : List ByteArray} (pre : List (Nq L)) : List ByteArray :=
  (pre.map (·.1)).filter fun y => decide (Ld.zn Z K y = Ld.zn Z K x)
theorem sel_yes {Z : List ByteArray} {K : List Lk} {x : ByteArray} {L : List ByteArray} (pre : List (Nq L)) (y : Nq L) (h : Ld.zn Z K y.1 = Ld.zn Z K x) : Ld.sel Z K x (pre ++ [y]) = Ld.sel Z K x pre ++ [y.1] := by
  unfold Ld.sel
  rw [List.map_append, List.filter_append]
  simp [h]
theorem sel_no {Z : List ByteArray} {K : List Lk} {x : ByteArray} {L : List ByteArray} (pre : List (Nq L)) (y : Nq L) (h : Ld.zn Z K y.1 ≠ Ld.zn Z K x) : Ld.sel Z K x (pre ++ [y]) = Ld.sel Z K x pre := by
  unfold Ld.sel
  rw [List.map_append, List.filter_append]
  simp [h]
theorem sel_len {Z : List ByteArray} {K : List Lk} {x : ByteArray} {L : List ByteArray} (pre : List (Nq L)) : (Ld.sel Z K x pre).length ≤ pre.length := by
  unfold Ld.sel
  have := List.length_filter_le (fun y => decide (Ld.zn Z K y = Ld.zn Z K x)) (pre.map (·.1))
  rw [List.length_map] at this
  exact this
set_option maxHeartbeats 8000000 in
theorem lalias_no (d : Sd) (x : ByteArray) (w : World) (h : Lok d w) (hx : x.size ≤ 9223372036854775807) (hz : (Ld.zn d.Z d.ls x).2 ≠ 0) :
    Calls Tryd.prog 15 #[d.val, .string x] w fun e w' => e = .returned (.slice none 0 0) ∧ Below w.heap.size w w' := by
  have hb := box_below w (.cells #[.slice d.rA d.rs.length d.rc, .slice d.zA d.zs.length d.zc, .slice d.lA d.ls.length d.lc] 26)
  have HC := Lib.hid (lof_any d _ (h.on hb))
  clear h
  go_enter Tryd.func15, Tryd.ntmps15
  go_wp2_with fail
  refine HC.out.mono ?_
  rintro e w1 ⟨⟨g, D, rfl, hF⟩, b1⟩
  have HZ := Lib.hid (nzone_any d.Z d.ls g D x _ (hF.on (box_below w1 (.cells #[.pointer (some ⟨g, 0, none⟩)] 66))) hx)
  have HB1 := Lib.hid (hb.trans (b1.mono hb.size))
  have hs1 : w.heap.size < w1.heap.size := by have := b1.size; simp at this; omega
  have t1 : ((Ld.zn d.Z d.ls x).2 != 0) = true := by rw [bne_iff_ne]; exact hz
  clear hb b1 HC hF hz
  generalize Ld.zn d.Z d.ls x = p at *
  obtain ⟨k, y⟩ := p
  dsimp only at t1 HZ
  go_wp2_with (go_at_call 21; refine HZ.out.mono ?_; rintro e w2 ⟨rfl, rfl⟩)
  go_ret
  exact ⟨rfl, by have := HB1.out; exact (this.trans ((box_below w1 _).mono (by omega))).trans ((box_below _ _).mono (by simp; omega))⟩
/-- The aliases of a name that leads to a zone. -/
noncomputable def Ld.als (Z : List ByteArray) (K : List Lk) (x : ByteArray) : List ByteArray :=
  Ld.sel Z K x (uqk (Z ++ K.map Lk.nm) (Z ++ K.map Lk.nm).length (Nat.le_refl _))
theorem als_mem {Z : List ByteArray} {K : List Lk} {x y : ByteArray} : y ∈ Ld.als Z K x ↔ y ∈ Z ++ K.map Lk.nm ∧ Ld.zn Z K y = Ld.zn Z K x := by
  unfold Ld.als Ld.sel
  rw [List.mem_filter, uqk_mem]
  constructor
  · rintro ⟨⟨h1, _⟩, h2⟩
    exact ⟨h1, of_decide_eq_true h2⟩
  · rintro ⟨h1, h2⟩
    exact ⟨⟨h1, ix_lt h1⟩, decide_eq_true h2⟩
theorem als_eq {Z : List ByteArray} {K : List Lk} {x y : ByteArray} (h : Ld.zn Z K y = Ld.zn Z K x) : Ld.als Z K y = Ld.als Z K x := by
  unfold Ld.als Ld.sel
  rw [h]
set_option maxHeartbeats 8000000 in
theorem lalias_yes (d : Sd) (x : ByteArray) (w : World) (h : Lok d w) (hx : x.size ≤ 9223372036854775807) (hz : (Ld.zn d.Z d.ls x).2 = 0) :
    Calls Tryd.prog 15 #[d.val, .string x] w fun e w' => RowE w w' (Ld.als d.Z d.ls x) e ∧ Below w.heap.size w w' := by
  have hb := box_below w (.cells #[.slice d.rA d.rs.length d.rc, .slice d.zA d.zs.length d.zc, .slice d.lA d.ls.length d.lc] 26)
  have HC := Lib.hid (lof_any d _ (h.on hb))
  have hN : (Ld.all d.Z d.ls).length ≤ 4096 := by
    have := h.sz
    unfold Sd.Z
    rw [all_len, List.length_map]
    omega
  have hsz : ∀ y ∈ Ld.all d.Z d.ls, y.size ≤ 9223372036854775807 := fun y hy => by
    rcases List.mem_append.1 hy with hy | hy
    · rcases List.mem_append.1 hy with hy | hy
      · obtain ⟨z, hz, rfl⟩ := List.mem_map.1 hy
        exact h.zs z hz
      · obtain ⟨k, hk, rfl⟩ := List.mem_map.1 hy
        exact (h.ls k hk).2
    · obtain ⟨k, hk, rfl⟩ := List.mem_map.1 hy
      exact (h.ls k hk).1
  clear h
  refine (callsIn_wide (n := 8)).1 ?_
  refine callsIn_of_wp_marks Tryd.func15 rfl trivial ?_ rfl
  simp only [Tryd.ntmps15, List.size_toArray, List.length_cons, List.length_nil, Nat.reduceAdd, Nat.reduceSub, Array.replicate_succ, Array.replicate_zero, List.push_toArray, List.append_toArray, List.nil_append, List.cons_append]
  refine wpIn_wide.2 ?_
  go_wp2_with fail
  refine HC.out.mono ?_
  rintro e w1 ⟨⟨g, D, rfl, hF⟩, b1⟩
  have HZ := Lib.hid (nzone_any d.Z d.ls g D x _ (hF.on (box_below w1 (.cells #[.pointer (some ⟨g, 0, none⟩)] 66))) hx)
  have HB1 := Lib.hid (hb.trans (b1.mono hb.size))
  have hs1 : w.heap.size < w1.heap.size := by have := b1.size; simp at this; omega
  have HF := Lib.hid hF
  clear hb b1 HC hF
  generalize hp : Ld.zn d.Z d.ls x = p at *
  have HP := Lib.hid hp
  clear hp
  obtain ⟨k, y⟩ := p
  dsimp only at hz HZ
  subst hz
  go_wp2_with (first | (go_at_call 21; refine HZ.out.mono ?_; rintro e w2 ⟨rfl, rfl⟩) | (go_at_call 23; refine (each_any g _).mono ?_; rintro e w' ⟨rfl, rfl⟩))
  have HFY := Lib.hid ((((HF.out.on (box_below w1 (.cells #[.pointer (some ⟨g, 0, none⟩)] 66))).on (box_below _ (.cells #[.int .i64 k] 3))).on (box_below _ (.cells #[.slice none 0 0] 41))).on (box_below _ (.cells #[.pointer (some ⟨g, 0, none⟩)] 66)))
  have hbY := (box_below w1 (.cells #[.pointer (some ⟨g, 0, none⟩)] 66)).trans (((box_below _ (.cells #[.int .i64 k] 3)).mono (by simp)).trans (((box_below _ (.cells #[.slice none 0 0] 41)).mono (by simp; omega)).trans ((box_below _ (.cells #[.pointer (some ⟨g, 0, none⟩)] 66)).mono (by simp; omega))))
  have n0 : ((((w1.alloc (.cells #[.pointer (some ⟨g, 0, none⟩)] 66)).alloc (.cells #[.int .i64 k] 3)).alloc (.cells #[.slice none 0 0] 41)).alloc (.cells #[.pointer (some ⟨g, 0, none⟩)] 66)).cell? ⟨w1.heap.size, 0, none⟩ = some (.pointer (some ⟨g, 0, none⟩)) := by go_simp
  have n1 : ((((w1.alloc (.cells #[.pointer (some ⟨g, 0, none⟩)] 66)).alloc (.cells #[.int .i64 k] 3)).alloc (.cells #[.slice none 0 0] 41)).alloc (.cells #[.pointer (some ⟨g, 0, none⟩)] 66)).cell? ⟨w1.heap.size + 1, 0, none⟩ = some (.int .i64 k) := by go_simp
  have nv : ((((w1.alloc (.cells #[.pointer (some ⟨g, 0, none⟩)] 66)).alloc (.cells #[.int .i64 k] 3)).alloc (.cells #[.slice none 0 0] 41)).alloc (.cells #[.pointer (some ⟨g, 0, none⟩)] 66)).heap[w1.heap.size + 1 + 1]? = some (.cells #[.slice none 0 0] 41 (0, 0)) := by
    refine ((box_below _ _).block _ (by simp)).trans ?_
    have := heap_alloc_new ((w1.alloc (.cells #[.pointer (some ⟨g, 0, none⟩)] 66)).alloc (.cells #[.int .i64 k] 3)) (.cells #[.slice none 0 0] 41)
    simp only [World.size_alloc] at this
    exact this
  have nB : ((((w1.alloc (.cells #[.pointer (some ⟨g, 0, none⟩)] 66)).alloc (.cells #[.int .i64 k] 3)).alloc (.cells #[.slice none 0 0] 41)).alloc (.cells #[.pointer (some ⟨g, 0, none⟩)] 66)).cell? ⟨w1.heap.size + 1 + 1 + 1, 0, none⟩ = some (.pointer (some ⟨g, 0, none⟩)) := by go_simp
  have szY : ((((w1.alloc (.cells #[.pointer (some ⟨g, 0, none⟩)] 66)).alloc (.cells #[.int .i64 k] 3)).alloc (.cells #[.slice none 0 0] 41)).alloc (.cells #[.pointer (some ⟨g, 0, none⟩)] 66)).heap.size = w1.heap.size + 1 + 1 + 1 + 1 := by simp
  generalize hYY : ((((w1.alloc (.cells #[.pointer (some ⟨g, 0, none⟩)] 66)).alloc (.cells #[.int .i64 k] 3)).alloc (.cells #[.slice none 0 0] 41)).alloc (.cells #[.pointer (some ⟨g, 0, none⟩)] 66)) = Y at *
  refine (wpIn_wide (n := 8)).1 ?_
  refine wpIn_rangeFunc_ownG rfl (by omega) (gf := 37) (lb := #[.pointer (some ⟨w1.heap.size + 1 + 1 + 1, 0, none⟩)]) rfl trivial (enters_of Tryd.func37 (by kernel_rfl) rfl)
    (each_stops 7 (w1.heap.size + 1 + 1 + 1) Y.heap.size (w1.heap.size + 1 + 1) w1.heap.size (by omega) d.Z d.ls g D _ rfl hN hsz (by omega) (by omega) (by omega) (by omega) Y (Nat.le_refl _) nB (HF.out.nm.below hbY)) (fun h k => KpB.trans h k) (fun W l o o' h _ _ _ => KpB.put W l o' h) (Below.refl _ _) (fun _ => rfl)
    (fun pre W => (∃ A c, W.heap[w1.heap.size + 1 + 1]? = some (.cells #[.slice A (Ld.sel d.Z d.ls x pre).length c] 41 (0, 0)) ∧ W.ownsRow Y.heap.size 9 1 (.slice A (Ld.sel d.Z d.ls x pre).length c) (Ld.sel d.Z d.ls x pre).length ((Ld.sel d.Z d.ls x pre).map Value.string)) ∧ Y.grownBy W (some (w1.heap.size + 1 + 1))) (fun _ _ _ => False) ?hI (fun _ _ _ _ _ hs _ _ => hs) ⟨⟨none, 0, nv, World.ownsRow_nil _ _ _ _⟩, ⟨rfl, rfl, rfl, Nat.le_refl _, fun _ _ _ => rfl⟩⟩ ?a1 ?assign ?body ?done ?stop
  case hI =>
    rintro pre W W' row ⟨⟨A, c, h1, h2⟩, h3⟩ hg hr
    refine ⟨⟨A, c, (hg.block _ (lt_blk h1) (fun e => by have := (hr _ e.symm).1; omega)).trans h1, h2.kept hg ?_⟩, ?_⟩
    · rcases h2.2 with ⟨hv, _⟩ | ⟨gp, cap, cur, hv, _, hgp, _⟩
      · rw [hv]; exact .inl rfl
      · rw [hv]
        refine .inr (fun e => ?_)
        obtain ⟨_, o, ho, hc⟩ := hr gp (by rw [← e]; rfl)
        rw [hgp] at ho
        injection ho with ho
        rw [← ho] at hc
        cases hc
    · exact ⟨hg.os.trans h3.os, hg.tape.trans h3.tape, hg.output.trans h3.output, Nat.le_trans h3.size hg.size, fun j hj hne => (hg.block j (Nat.lt_of_lt_of_le hj h3.size) (fun e => by have := (hr _ e.symm).1; omega)).trans (h3.block j hj hne)⟩
  case assign =>
    intro l x W K hK
    unfold nqVals
    gi_wp2
    exact hK
  case body =>
    rintro l pre y W ⟨⟨A, c, hv, ho⟩, hg⟩ hlt
    have hkpY : KpB Y.heap.size (w1.heap.size + 1 + 1) Y W := ⟨hg.size, fun j hj hne => hg.block j hj (fun e => hne (by injection e))⟩
    have hFW := HF.out.kp hbY hkpY (by omega) (by omega)
    have k0 := (hkpY.cell (p := ⟨w1.heap.size, 0, none⟩) (by show w1.heap.size < _; omega) (by show w1.heap.size ≠ _; omega)).trans n0
    have k1 := (hkpY.cell (p := ⟨w1.heap.size + 1, 0, none⟩) (by show w1.heap.size + 1 < _; omega) (by show w1.heap.size + 1 ≠ _; omega)).trans n1
    have k2 : W.cell? ⟨w1.heap.size + 1 + 1, 0, none⟩ = some (.slice A (Ld.sel d.Z d.ls x pre).length c) := (cell_blk hv 0).trans rfl
    have k3 := frozen_blk hv 0
    have k4 := lt_blk hv
    have hym : y.1 ∈ Ld.all d.Z d.ls := List.mem_append.2 (.inl y.2)
    have HZ2 := Lib.hid (nzone_any d.Z d.ls g D y.1 W hFW (hsz _ hym))
    have hsl := sel_len (Z := d.Z) (K := d.ls) (x := x) pre
    have hpl : pre.length ≤ 4096 := by
      have h2 := all_len d.Z d.ls
      rw [List.length_append, List.length_map] at hlt
      omega
    have HSY := Lib.hid (sel_yes (Z := d.Z) (K := d.ls) (x := x) pre y)
    have HSN := Lib.hid (sel_no (Z := d.Z) (K := d.ls) (x := x) pre y)
    have hYW := hg.size
    have HO := Lib.hid ho
    have HV := Lib.hid hv
    have HG := Lib.hid hg
    clear hFW hkpY ho hv hg
    generalize hq : Ld.zn d.Z d.ls y.1 = q at *
    have HQ := Lib.hid hq
    clear hq
    obtain ⟨k', y'⟩ := q
    dsimp only at HZ2
    have hnot : ((k', y') : Nat × Int) ≠ (k, 0) → KeepsFrom Y.heap.size W W ∧ KpB Y.heap.size (w1.heap.size + 1 + 1) W W ∧ (∃ A c, W.heap[w1.heap.size + 1 + 1]? = some (.cells #[.slice A (Ld.sel d.Z d.ls x (pre ++ [y])).length c] 41 (0, 0)) ∧ W.ownsRow Y.heap.size 9 1 (.slice A (Ld.sel d.Z d.ls x (pre ++ [y])).length c) (Ld.sel d.Z d.ls x (pre ++ [y])).length ((Ld.sel d.Z d.ls x (pre ++ [y])).map Value.string)) ∧ Y.grownBy W (some (w1.heap.size + 1 + 1)) := fun hne => by
      rw [HSN.out (by rw [HP.out]; exact hne)]
      exact ⟨KeepsFrom.refl _ _, KpB.refl _ _ _, ⟨A, c, HV.out, HO.out⟩, HG.out⟩
    have HNOT := Lib.hid hnot
    clear hnot
    by_cases hy0 : y' = 0
    · by_cases hkk : k' = k
      · subst hy0 hkk
        obtain ⟨i0, hi, hz0, hz1, hz2⟩ := info_parts strs_info
        have hbx := Bx.mk' W W.heap.size #[.string y.1] 9 rfl
        have HBX := Lib.hid hbx
        have hsel := HSY.out HP.out.symm
        have HSEL := Lib.hid hsel
        have hvo : (Value.slice A (Ld.sel d.Z d.ls x pre).length c).ownBlock ≠ some (w1.heap.size + 1 + 1) := own_not_blk' HO.out HV.out (by decide)
        clear hbx hsel HNOT
        generalize hS : Ld.sel d.Z d.ls x pre = S at *
        have HS := Lib.hid hS
        clear hS
        gi_wp2_with (first
          | (refine ⟨trivial, ?_⟩; gi_at_call 21; refine (CallsIn.inRound l (callsIn_wide.2 HZ2.out)).mono ?_; rintro e w2 ⟨rfl, rfl⟩)
          | (gi_at_builtin; refine wpListIn_append_own _ rfl _ _ 41 rfl Y.heap.size 9 i0 (.string ⟨#[]⟩) 1 16 Tryd.underlying41 hi hz0 hz1 hz2 rfl (by decide) _ _ _ rfl (HO.out.alloc _) ⟨W.heap.size, 0, none⟩ 1 1 [.string y.1] rfl rfl (fun j u hu => by rw [addr_add]; exact HBX.out.at_ j u hu) (by simp [Value.oneCell']) (by unfold maxLen; omega) (by omega) (by simp; omega) ?_; intro v' w9 hown' hgrow _; obtain ⟨g', cap', rfl⟩ := ownsRow_succ hown'; have hv9 := (hgrow.block _ (by simp; omega) (fun e => hvo e.symm)).trans (((box_below W _).block _ k4).trans HV.out); have k5 := cell_blk hv9 0; have k6 := frozen_blk hv9 0; change w9.cell? ⟨w1.heap.size + 1 + 1, 0, none⟩ = some _ at k5; have HW9 := Lib.hid hown'; have HG9 := Lib.hid hgrow; have HV9 := Lib.hid hv9; clear hown' hgrow hv9))
        have hB9 : Below Y.heap.size W w9 := ((Below.refl Y.heap.size W).alloc hYW _).grown HG9.out (by simp; omega) (fun j e => (HO.out.lt j e).1)
        refine ⟨?_, ?_, ⟨some ⟨g', 0, none⟩, cap', ?_, ?_⟩, ?_⟩
        · refine (((KeepsOthers.alloc W _).trans (KeepsOthers.of_grownBy HG9.out fun j o ej hj => ?_)).trans (KeepsOthers.setCell _ _ _)).from _
          have ej : (Value.slice A S.length c).ownBlock = some j := ej
          rcases (HO.out.alloc (.cells #[.string y.1] 9)).2 with ⟨hv, _⟩ | ⟨gp, cap, cur, hv, _, hgp, _⟩
          · injection hv with hA _ _
            rw [hA] at ej
            cases ej
          · injection hv with hA _ _
            rw [hA] at ej
            obtain rfl : gp = j := by
              have : some gp = some j := ej
              injection this
            rw [hgp] at hj
            cases hj
            rfl
        · exact ⟨by have := hB9.size; simpa using this, fun j hj hne => ((grown_set w9 ⟨w1.heap.size + 1 + 1, 0, none⟩ _).block j (by have := hB9.size; omega) (fun e => hne (by injection e))).trans (hB9.block j hj)⟩
        · rw [HSEL.out, List.length_append]
          exact set_blk HV9.out 0 _
        · rw [HSEL.out, List.length_append, List.map_append]
          exact HW9.out.kept (grown_set _ _ _) (.inr (own_not_blk' HW9.out HV9.out (by decide)))
        · exact ⟨hB9.os.trans HG.out.os, hB9.tape.trans HG.out.tape, hB9.output.trans HG.out.output, by have := hB9.size; have := HG.out.size; simp; omega, fun j hj hne => ((grown_set w9 ⟨w1.heap.size + 1 + 1, 0, none⟩ _).block j (by have := hB9.size; omega) (fun e => hne (by injection e with e; rw [e]))).trans ((hB9.block j hj).trans (HG.out.block j hj hne))⟩
      · have t1 : ((k' : Int) == (k : Int)) = false := by rw [beq_eq_false_iff_ne]; omega
        have t2 : (k' == k) = false := by rw [beq_eq_false_iff_ne]; exact hkk
        have t3 : decide (k' = k) = false := decide_eq_false hkk
        subst hy0
        gi_wp2_with (refine ⟨trivial, ?_⟩; gi_at_call 21; refine (CallsIn.inRound l (callsIn_wide.2 HZ2.out)).mono ?_; rintro e w2 ⟨rfl, rfl⟩)
        exact HNOT.out (fun e => hkk (by injection e))
    · have t1 : ((y' : Int) == 0) = false := by rw [beq_eq_false_iff_ne]; exact hy0
      gi_wp2_with (refine ⟨trivial, ?_⟩; gi_at_call 21; refine (CallsIn.inRound l (callsIn_wide.2 HZ2.out)).mono ?_; rintro e w2 ⟨rfl, rfl⟩)
      exact HNOT.out (fun e => hy0 (by injection e))
  case done =>
    rintro D2 ys W hD ⟨hle, rfl⟩ ⟨⟨A, c, hv, ho⟩, hg⟩ hK
    have k2 : W.cell? ⟨w1.heap.size + 1 + 1, 0, none⟩ = some (.slice A (Ld.sel d.Z d.ls x (uqk (d.Z ++ d.ls.map Lk.nm) (d.Z ++ d.ls.map Lk.nm).length hle)).length c) := (cell_blk hv 0).trans rfl
    change W.cell? ⟨w1.heap.size + 1 + 1, 0, none⟩ = some (.slice A (Ld.als d.Z d.ls x).length c) at k2
    change W.ownsRow Y.heap.size 9 1 (.slice A (Ld.als d.Z d.ls x).length c) (Ld.als d.Z d.ls x).length ((Ld.als d.Z d.ls x).map Value.string) at ho
    have HO := Lib.hid ho
    have HG := Lib.hid hg
    clear hv ho hg
    go_wp2_with fail
    refine ⟨by simp, .inl ⟨_, _, rfl, run_takeDeferred hK, ?_⟩⟩
    refine ⟨_, results_tmp rfl _ _ _, ⟨A, c, rfl, own_mono (ownsRow_putObj HO.out _ hK rfl) (show w.heap.size ≤ Y.heap.size by omega)⟩, ?_⟩
    have hbw : Below w.heap.size w W := (HB1.out.trans (hbY.mono (by omega))).grown HG.out (by omega) (fun j e => by injection e with e; omega)
    exact hbw.trans (belowK_b (w := w) (Nat.le_refl _) W D2 _ _ (by omega) hK rfl rfl)
  case stop =>
    rintro D c pre W _ _ h _
    exact h.elim
end Go.Proofs.YthlbockphdbpkaaDoor
