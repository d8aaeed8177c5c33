/- All flaws of a source, and whether it is well (package valid): Flaws, Well. -/
import Derived.Test.YthlbockphdbpkaaDoorVo
namespace Go.Proofs.YthlbockphdbpkaaDoor
open Go.RowKit Go.Maps
set_option maxRecDepth 100000
/-- How large a source may be for Flaws' sake. -/
structure Fok (d : Sd) : Prop where
  sz : d.zs.length + d.ls.length ≤ 1000
  rs : d.rs.length ≤ 4096
  es : ∀ z ∈ d.zs, z.es.length ≤ 4096
  ft : d.fits
/-- A row of flaws of the call's own is answered. -/
def FlE (w w' : World) (L : List Fl) (e : Ending) : Prop := ∃ A c, e = .returned (.slice A L.length c) ∧ w'.ownsRow w.heap.size 62 2 (.slice A L.length c) L.length (L.flatMap fcell)
theorem tw_len (L : List ByteArray) : (Vd.tw L).length ≤ 1 * L.length := upto_len (fun k x => by unfold Vd.twF; split <;> simp) _
theorem names_sz {d : Sd} (h : d.fits) : ∀ x ∈ d.names, x.size ≤ 9223372036854775807 := fun x hx => by
  rcases List.mem_append.1 hx with hx | hx
  · obtain ⟨z, hz, rfl⟩ := List.mem_map.1 hx
    exact (h.zn z hz).1
  · obtain ⟨k, hk, rfl⟩ := List.mem_map.1 hx
    exact (h.ln k hk).2
theorem put_below {d : Sd} {g : Nat} {A : Option Addr} {c B : Nat} {L : List Fl} {W W' : World} (h : Fnd W d g A c L) (hk : Kf (Fx g A L.length c) W W') (hB : B ≤ g) : Below B W W' :=
  hk.below (Nat.le_trans hB (Nat.le_of_lt h.lt)) (by
    rintro i (e | e)
    · rw [e]; exact hB
    · have := (h.ow.lt _ e).1; omega)
set_option maxHeartbeats 4000000 in
theorem flaws_any (d : Sd) (w : World) (hd : d.at_ w w.heap.size) (h : Fok d) :
    Calls Tryd.prog 16 #[d.val] w fun e w' => FlE w w' (Vd.all d) e ∧ Below w.heap.size w w' := by
  obtain ⟨W2, hW2⟩ : ∃ W2, (w.alloc (.cells #[.slice d.rA d.rs.length d.rc, .slice d.zA d.zs.length d.zc, .slice d.lA d.ls.length d.lc] 26)).alloc (.cells #[.slice d.rA d.rs.length d.rc, .slice d.zA d.zs.length d.zc, .slice d.lA d.ls.length d.lc, .slice none 0 0] 75) = W2 := ⟨_, rfl⟩
  have b1 := box_below w (.cells #[.slice d.rA d.rs.length d.rc, .slice d.zA d.zs.length d.zc, .slice d.lA d.ls.length d.lc] 26)
  have b2 := box_below (w.alloc (.cells #[.slice d.rA d.rs.length d.rc, .slice d.zA d.zs.length d.zc, .slice d.lA d.ls.length d.lc] 26)) (.cells #[.slice d.rA d.rs.length d.rc, .slice d.zA d.zs.length d.zc, .slice d.lA d.ls.length d.lc, .slice none 0 0] 75)
  have hn := heap_alloc_new (w.alloc (.cells #[.slice d.rA d.rs.length d.rc, .slice d.zA d.zs.length d.zc, .slice d.lA d.ls.length d.lc] 26)) (.cells #[.slice d.rA d.rs.length d.rc, .slice d.zA d.zs.length d.zc, .slice d.lA d.ls.length d.lc, .slice none 0 0] 75)
  have hF : Fnd W2 d (w.heap.size + 1) none 0 [] := by
    rw [← hW2]
    refine ⟨?_, World.ownsRow_nil _ _ _ _, ?_⟩
    · have e : (w.alloc (.cells #[.slice d.rA d.rs.length d.rc, .slice d.zA d.zs.length d.zc, .slice d.lA d.ls.length d.lc] 26)).heap.size = w.heap.size + 1 := by simp
      rw [e] at hn
      exact hn
    · have := (hd.on b1).on b2
      exact ((hd.below b1).below (b2.mono (by simp))).more (by omega)
  have HB2 : Hid (Below w.heap.size w W2) := Lib.hid (by rw [← hW2]; exact b1.trans (b2.mono b1.size))
  have HW2 := Lib.hid hW2
  have HT := Lib.hid (twice_any d (w.heap.size + 1) none 0 [] W2 hF (by have := h.sz; omega) (names_sz h.ft) (by simp))
  have HF := Lib.hid hF
  have HOK := Lib.hid h
  obtain ⟨L1, hL1⟩ : ∃ L1, Vd.tw d.names = L1 := ⟨_, rfl⟩
  obtain ⟨L2, hL2⟩ : ∃ L2, Vd.rl d.rs d.zs d.zs.length = L2 := ⟨_, rfl⟩
  obtain ⟨L3, hL3⟩ : ∃ L3, Vd.or d.zs d.zs.length = L3 := ⟨_, rfl⟩
  obtain ⟨L4, hL4⟩ : ∃ L4, Vd.ul (d.zs.map Zd.nm) d.ls d.ls.length = L4 := ⟨_, rfl⟩
  have hl1 : L1.length ≤ 1000 := by
    rw [← hL1]
    have := tw_len d.names
    unfold Sd.names at this ⊢
    rw [List.length_append, List.length_map, List.length_map] at this
    have := h.sz
    omega
  have hl2 : L2.length ≤ 4096 * 1000 := by
    rw [← hL2]
    have := rl_len (rs := d.rs) h.es d.zs.length
    have := h.sz
    omega
  have hl3 : L3.length ≤ 4096 * 1000 := by
    rw [← hL3]
    have := or_len h.es d.zs.length
    have := h.sz
    omega
  have hall : Vd.all d = L1 ++ L2 ++ L3 ++ L4 := by unfold Vd.all; rw [hL1, hL2, hL3, hL4]
  rw [hL1, List.nil_append] at HT
  have H2 := Lib.hid hL2
  have H3 := Lib.hid hL3
  have H4 := Lib.hid hL4
  obtain ⟨LL, hLL⟩ : ∃ LL, Vd.all d = LL := ⟨_, rfl⟩
  have HLL := Lib.hid (hall.symm.trans hLL)
  rw [hLL]
  clear hLL hW2 b1 b2 hn hF h hL1 hL2 hL3 hL4 hall hd
  go_enter Tryd.func16, Tryd.ntmps16
  go_wp2_with fail
  rw [HW2.out]
  refine HT.out.mono ?_
  rintro e w1 ⟨rfl, A1, c1, F1, K1, O1⟩
  have HB3 : Hid (Below w.heap.size w w1) := Lib.hid (HB2.out.trans (put_below HF.out K1 (Nat.le_succ _)))
  have HC := Lib.hid (ruleless_any d (w.heap.size + 1) A1 c1 L1 w1 F1 HOK.out.rs (by have := HOK.out.sz; omega) HOK.out.es (fun r hr => (HOK.out.ft.rn r hr).1) (fun z hz e he => ((HOK.out.ft.zn z hz).2.2 e he).1) (by omega))
  rw [H2.out] at HC
  have HF1 := Lib.hid F1
  clear K1 O1 F1 HT HF HW2 HB2
  go_wp2_with fail
  refine HC.out.mono ?_
  rintro e w2 ⟨rfl, A2, c2, F2, K2, O2⟩
  have HB4 : Hid (Below w.heap.size w w2) := Lib.hid (HB3.out.trans (put_below HF1.out K2 (Nat.le_succ _)))
  have HC2 := Lib.hid (unordered_any d (w.heap.size + 1) A2 c2 (L1 ++ L2) w2 F2 (by have := HOK.out.sz; omega) HOK.out.es (by rw [List.length_append]; omega))
  rw [H3.out] at HC2
  have HF2 := Lib.hid F2
  clear K2 O2 F2 HC HF1 HB3
  go_wp2_with fail
  refine HC2.out.mono ?_
  rintro e w3 ⟨rfl, A3, c3, F3, K3, O3⟩
  have HB5 : Hid (Below w.heap.size w w3) := Lib.hid (HB4.out.trans (put_below HF2.out K3 (Nat.le_succ _)))
  have HC3 := Lib.hid (unled_any d (w.heap.size + 1) A3 c3 (L1 ++ L2 ++ L3) w3 F3 HOK.out.sz HOK.out.ft.ln (fun z hz => (HOK.out.ft.zn z hz).1) (by rw [List.length_append, List.length_append]; omega))
  rw [H4.out] at HC3
  have HF3 := Lib.hid F3
  clear K3 O3 F3 HC2 HF2 HB4
  go_wp2_with fail
  refine HC3.out.mono ?_
  rintro e w4 ⟨rfl, A4, c4, F4, K4, O4⟩
  have HB6 : Hid (Below w.heap.size w w4) := Lib.hid (HB5.out.trans (put_below HF3.out K4 (Nat.le_succ _)))
  rw [HLL.out] at F4
  have e3 := cell_blk F4.blk 3
  change w4.cell? ⟨w.heap.size + 1, 3, none⟩ = some (.slice A4 LL.length c4) at e3
  have HO4 := Lib.hid (own_mono F4.ow (b' := w.heap.size) (by omega))
  clear F4 K4 O4 HC3 HF3 HB5
  go_wp2_with fail
  go_ret
  exact ⟨⟨A4, c4, rfl, HO4.out⟩, HB6.out⟩
set_option maxHeartbeats 4000000 in
theorem well_any (d : Sd) (w : World) (hE : Ev w) (hd : d.at_ w w.heap.size) (h : Fok d) (v : Bool) (hv : So.right d.src = v) (L : List Fl) (hL : Vd.all d = L) :
    Calls Tryd.prog 8 #[d.val] w fun e w' => e = .returned (.bool (v && L.isEmpty)) ∧ Below w.heap.size w w' := by
  have b1 := box_below w (.cells #[.slice d.rA d.rs.length d.rc, .slice d.zA d.zs.length d.zc, .slice d.lA d.ls.length d.lc] 26)
  have HC := Lib.hid (scheck_any d _ (hE.below b1) h.ft (hd.on b1) v hv)
  have hx := Bx.mk' w w.heap.size #[.slice d.rA d.rs.length d.rc, .slice d.zA d.zs.length d.zc, .slice d.lA d.ls.length d.lc] 26 rfl
  have HX := Lib.hid hx
  have HB := Lib.hid b1
  have HD := Lib.hid (hd.on b1)
  have HOK := Lib.hid h
  have HLL := Lib.hid hL
  clear hv hL b1 hx hE hd h
  go_enter Tryd.func8, Tryd.ntmps8
  go_wp2_with fail
  refine HC.out.mono ?_
  rintro e w1 ⟨rfl, b1⟩
  have HB1 : Hid (Below w.heap.size w w1) := Lib.hid (HB.out.trans (b1.mono HB.out.size))
  have hx1 := HX.out.on b1
  have e0 := hx1.at_ 0 _ rfl
  have e1 := hx1.at_ 1 _ rfl
  have e2 := hx1.at_ 2 _ rfl
  have HF := Lib.hid (flaws_any d w1 (HD.out.on b1) HOK.out)
  rw [HLL.out] at HF
  have hsz := b1.size
  clear b1 hx1 HX HB HD HC
  cases v with
  | false =>
    go_wp2_with fail
    go_ret
    exact ⟨rfl, HB1.out⟩
  | true =>
    go_wp2_with fail
    refine HF.out.mono ?_
    rintro e w2 ⟨⟨A, c, rfl, _⟩, b2⟩
    have HB2 : Hid (Below w.heap.size w w2) := Lib.hid (HB1.out.trans (b2.mono HB1.out.size))
    clear b2 HF HLL
    cases L with
    | nil =>
      dsimp only [List.length_nil]
      go_wp2_with fail
      go_ret
      exact ⟨rfl, HB2.out⟩
    | cons f L =>
      dsimp only [List.length_cons]
      generalize L.length = n
      have tn : (((n + 1 : Nat) : Int) == 0) = false := by rw [beq_eq_false_iff_ne]; omega
      have tn2 : ((n : Int) + 1 == 0) = false := by rw [beq_eq_false_iff_ne]; omega
      go_wp2_with fail
      go_ret
      exact ⟨rfl, HB2.out⟩
end Go.Proofs.YthlbockphdbpkaaDoor
