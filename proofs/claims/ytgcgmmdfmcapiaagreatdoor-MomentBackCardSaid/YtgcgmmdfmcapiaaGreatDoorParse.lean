/- The contract of clock.Parse, first part: a text cut to pieces, and what they tell. -/
import Derived.Test.YtgcgmmdfmcapiaaGreatDoorEnv
namespace Go.Proofs.YtgcgmmdfmcapiaaGreatDoor
open Go.RowKit
theorem splitn_any (s : ByteArray) (L : List ByteArray) (w : World) (hE : Env w) (hs : s.size ≤ 4096) (hL : Hid (Lib.splitB ⟨#[58]⟩ 0 (min 3 (s.size + 1) - 1) s = L)) :
    Calls Tryz.prog 80 #[.string s, .string ⟨#[58]⟩, .int .i64 3] w fun e w' => e = .returned (.slice (some ⟨w.heap.size, 0, none⟩) L.length (min 3 (s.size + 1))) ∧ Below w.heap.size w w' ∧ w.heap.size < w'.heap.size ∧
      ∀ i p, L[i]? = some p → w'.cell? ⟨w.heap.size, i, none⟩ = some (.string p) := by
  obtain ⟨m, hm⟩ := hE.longest
  have h := Tryz.strings_SplitN s ⟨#[58]⟩ 3 m w (by omega) hm (by decide) (by omega) (by omega)
  refine h.mono fun e w' ⟨he, hw⟩ => ?_
  rw [hL.out] at he hw
  subst hw
  refine ⟨he, (Below.refl _ _).alloc (Nat.le_refl _) _, by simp, fun i p hp => ?_⟩
  have hi : i < L.length := (List.getElem?_eq_some_iff.1 hp).1
  rw [World.cell?_alloc_new]
  unfold Lib.cellsOf
  simp [List.getElem?_append, hi]
  exact (List.getElem?_eq_some_iff.1 hp).2
theorem bytes_list (s : ByteArray) : (⟨s.data.toList.toArray⟩ : ByteArray) = s := by simp
/-- The pieces of a text, as the program has them. -/
def pieces (s : ByteArray) : List ByteArray := Lib.splitB ⟨#[58]⟩ 0 (min 3 (s.size + 1) - 1) s
theorem pieces_data (s : ByteArray) : (pieces s).map (·.data.toList) = Lib.splitK [58] 0 2 s.data.toList := by
  unfold pieces
  rw [Lib.splitB_data, ← Txt.split_min]
  rw [Lib.size_eq]
theorem pieces_Q (s : ByteArray) : Txt.Q 0 ((pieces s).map (·.data.toList)) = Txt.G 0 [] s.data.toList := by
  rw [pieces_data, Txt.Q_split 2 0 _ rfl]
theorem pieces_len (s : ByteArray) : 1 ≤ (pieces s).length ∧ (pieces s).length ≤ 3 := by
  have := Txt.split_len 2 s.data.toList
  rw [← pieces_data, List.length_map] at this
  exact this
/-- The world in the midst of reading: what has been read stands in the second new block, the result's place in the first one, the pieces in the third one. -/
structure Mid (w W : World) (a b c : Int) (L : List ByteArray) : Prop where
  p0 : W.cell? ⟨w.heap.size + 1, 0, none⟩ = some (.int .i64 a)
  p1 : W.cell? ⟨w.heap.size + 1, 1, none⟩ = some (.int .i64 b)
  p2 : W.cell? ⟨w.heap.size + 1, 2, none⟩ = some (.int .i64 c)
  r0 : W.cell? ⟨w.heap.size, 0, none⟩ = some (.int .i64 0)
  r1 : W.cell? ⟨w.heap.size, 1, none⟩ = some (.int .i64 0)
  r2 : W.cell? ⟨w.heap.size, 2, none⟩ = some (.int .i64 0)
  pf : ∀ o, W.frozen? ⟨w.heap.size + 1, o, none⟩ = false
  rf : ∀ o, W.frozen? ⟨w.heap.size, o, none⟩ = false
  sz : w.heap.size + 2 < W.heap.size
  bl : Below w.heap.size w W
  ps : ∀ i p, L[i]? = some p → W.cell? ⟨w.heap.size + 1 + 1, i, none⟩ = some (.string p)
theorem addr_ne_off {b i j : Nat} (h : i ≠ j) : (⟨b, i, none⟩ : Addr) ≠ ⟨b, j, none⟩ := fun e => h (by injection e)
theorem addr_ne_block {b c i j : Nat} (h : b ≠ c) : (⟨b, i, none⟩ : Addr) ≠ ⟨c, j, none⟩ := fun e => h (by injection e)
theorem Mid.set0 {w W : World} {a b c : Int} {L : List ByteArray} (h : Mid w W a b c L) (v : Int) : Mid w (W.setCell ⟨w.heap.size + 1, 0, none⟩ (.int .i64 v)) v b c L where
  p0 := World.cell?_setCell_same _ _ _ h.p0
  p1 := (World.cell?_setCell_other _ _ _ _ (addr_ne_off (by omega))).trans h.p1
  p2 := (World.cell?_setCell_other _ _ _ _ (addr_ne_off (by omega))).trans h.p2
  r0 := (World.cell?_setCell_other _ _ _ _ (addr_ne_block (by omega))).trans h.r0
  r1 := (World.cell?_setCell_other _ _ _ _ (addr_ne_block (by omega))).trans h.r1
  r2 := (World.cell?_setCell_other _ _ _ _ (addr_ne_block (by omega))).trans h.r2
  pf := fun o => by rw [World.frozen?_setCell]; exact h.pf o
  rf := fun o => by rw [World.frozen?_setCell]; exact h.rf o
  sz := by rw [World.size_setCell]; exact h.sz
  bl := h.bl.setCell (by show w.heap.size ≤ w.heap.size + 1; omega) _
  ps := fun i p hp => (World.cell?_setCell_other _ _ _ _ (addr_ne_block (by omega))).trans (h.ps i p hp)
theorem Mid.set1 {w W : World} {a b c : Int} {L : List ByteArray} (h : Mid w W a b c L) (v : Int) : Mid w (W.setCell ⟨w.heap.size + 1, 1, none⟩ (.int .i64 v)) a v c L where
  p1 := World.cell?_setCell_same _ _ _ h.p1
  p0 := (World.cell?_setCell_other _ _ _ _ (addr_ne_off (by omega))).trans h.p0
  p2 := (World.cell?_setCell_other _ _ _ _ (addr_ne_off (by omega))).trans h.p2
  r0 := (World.cell?_setCell_other _ _ _ _ (addr_ne_block (by omega))).trans h.r0
  r1 := (World.cell?_setCell_other _ _ _ _ (addr_ne_block (by omega))).trans h.r1
  r2 := (World.cell?_setCell_other _ _ _ _ (addr_ne_block (by omega))).trans h.r2
  pf := fun o => by rw [World.frozen?_setCell]; exact h.pf o
  rf := fun o => by rw [World.frozen?_setCell]; exact h.rf o
  sz := by rw [World.size_setCell]; exact h.sz
  bl := h.bl.setCell (by show w.heap.size ≤ w.heap.size + 1; omega) _
  ps := fun i p hp => (World.cell?_setCell_other _ _ _ _ (addr_ne_block (by omega))).trans (h.ps i p hp)
theorem Mid.set2 {w W : World} {a b c : Int} {L : List ByteArray} (h : Mid w W a b c L) (v : Int) : Mid w (W.setCell ⟨w.heap.size + 1, 2, none⟩ (.int .i64 v)) a b v L where
  p2 := World.cell?_setCell_same _ _ _ h.p2
  p0 := (World.cell?_setCell_other _ _ _ _ (addr_ne_off (by omega))).trans h.p0
  p1 := (World.cell?_setCell_other _ _ _ _ (addr_ne_off (by omega))).trans h.p1
  r0 := (World.cell?_setCell_other _ _ _ _ (addr_ne_block (by omega))).trans h.r0
  r1 := (World.cell?_setCell_other _ _ _ _ (addr_ne_block (by omega))).trans h.r1
  r2 := (World.cell?_setCell_other _ _ _ _ (addr_ne_block (by omega))).trans h.r2
  pf := fun o => by rw [World.frozen?_setCell]; exact h.pf o
  rf := fun o => by rw [World.frozen?_setCell]; exact h.rf o
  sz := by rw [World.size_setCell]; exact h.sz
  bl := h.bl.setCell (by show w.heap.size ≤ w.heap.size + 1; omega) _
  ps := fun i p hp => (World.cell?_setCell_other _ _ _ _ (addr_ne_block (by omega))).trans (h.ps i p hp)
theorem mid_start (w w1 : World) (L : List ByteArray) {o1 o2 : Obj} (h1 : o1 = .cells #[.int .i64 0, .int .i64 0, .int .i64 0] 77) (h2 : o2 = .cells #[.int .i64 0, .int .i64 0, .int .i64 0] 77) (hb1 : Below ((w.alloc o1).alloc o2).heap.size ((w.alloc o1).alloc o2) w1) (hl1 : ((w.alloc o1).alloc o2).heap.size < w1.heap.size)
    (hp1 : ∀ i p, L[i]? = some p → w1.cell? ⟨((w.alloc o1).alloc o2).heap.size, i, none⟩ = some (.string p)) : Mid w w1 0 0 0 L := by
  subst h1 h2
  obtain ⟨hc1, hf1⟩ := bcell hb1
  have hz : ((w.alloc (.cells #[.int .i64 0, .int .i64 0, .int .i64 0] 77)).alloc (.cells #[.int .i64 0, .int .i64 0, .int .i64 0] 77)).heap.size = w.heap.size + 1 + 1 := by simp
  rw [hz] at hl1 hp1
  refine ⟨?_, ?_, ?_, ?_, ?_, ?_, ?_, ?_, by omega, ((((Below.refl w.heap.size w).alloc (Nat.le_refl _) _).alloc (by simp) _).trans (hb1.mono (by simp; omega))), hp1⟩
  · rw [hc1 _ _ (by rw [hz]; omega)]; go_simp
  · rw [hc1 _ _ (by rw [hz]; omega)]; go_simp
  · rw [hc1 _ _ (by rw [hz]; omega)]; go_simp
  · rw [hc1 _ _ (by rw [hz]; omega)]; go_simp
  · rw [hc1 _ _ (by rw [hz]; omega)]; go_simp
  · rw [hc1 _ _ (by rw [hz]; omega)]; go_simp
  · intro o; rw [hf1 _ _ (by rw [hz]; omega)]; go_simp
  · intro o; rw [hf1 _ _ (by rw [hz]; omega)]; go_simp
set_option maxHeartbeats 2000000 in
set_option maxRecDepth 100000 in
theorem read_1_yes (s q0 : ByteArray) (v0 : Int) (w : World) (hE : Env w) (hs : s.size ≤ 4096) (hL : Hid (pieces s = [q0])) (H0 : Hid (Txt.piece 0 q0.data.toList = some v0)) :
    Calls Tryz.prog 54 #[.string s] w fun e w' => e = .returned (.tuple #[.agg #[.int .i64 v0, .int .i64 0, .int .i64 0], .bool true]) ∧ Below w.heap.size w w' := by
  have hE2 := (hE.alloc (.cells #[.int .i64 0, .int .i64 0, .int .i64 0] 77)).alloc (.cells #[.int .i64 0, .int .i64 0, .int .i64 0] 77)
  clear hE
  go_enter Tryz.func54, Tryz.ntmps54
  go_wp2_with fail
  refine (splitn_any s _ _ hE2 hs hL).mono ?_
  rintro e w1 ⟨rfl, hb1, hl1, hp1⟩
  have hM : Mid w w1 0 0 0 [q0] := mid_start w w1 _ rfl rfl hb1 hl1 hp1
  clear hb1 hp1 hE2 hl1
  have p0 := hM.p0
  have p1 := hM.p1
  have p2 := hM.p2
  have r0 := hM.r0
  have r1 := hM.r1
  have r2 := hM.r2
  have pf := hM.pf
  have rf := hM.rf
  have sz := hM.sz
  have c0 := hM.ps 0 q0 rfl
  go_wp2_with fail
  refine wp_loop_rounds 4 ?_
  rw [rounds_succ]
  go_wp2_with (go_at_call 81; refine (readPart_yes 0 q0 v0 _ (by omega) H0).mono ?_; rintro e w' ⟨rfl, rfl⟩)
  replace hM := hM.set0 v0
  clear p0 p1 p2 r0 r1 r2 pf rf sz c0
  generalize World.setCell _ ⟨w.heap.size + 1, 0, none⟩ (.int .i64 v0) = W0 at *
  have p0 := hM.p0
  have p1 := hM.p1
  have p2 := hM.p2
  have r0 := hM.r0
  have r1 := hM.r1
  have r2 := hM.r2
  have pf := hM.pf
  have rf := hM.rf
  have sz := hM.sz
  have c0 := hM.ps 0 q0 rfl
  rw [rounds_succ]
  go_wp2_with fail
  refine bodyPost_ret (v := .tuple #[.agg #[.int .i64 v0, .int .i64 0, .int .i64 0], .bool true]) (by simp [results, Tryz.results54, go_sem, r0, r1, r2]) rfl ⟨rfl, ?_⟩
  have hB := hM.bl
  repeat (first | exact Below.refl _ _ | assumption | refine below_drewN ?_ _ | refine Below.drew ?_ | refine Below.setCell ?_ (by first | omega | (simp; done) | (simp; omega)) _ | refine Below.alloc ?_ (by first | omega | (simp; done) | (simp; omega)) _)
set_option maxHeartbeats 2000000 in
set_option maxRecDepth 100000 in
theorem read_1_no0 (s q0 : ByteArray)  (w : World) (hE : Env w) (hs : s.size ≤ 4096) (hL : Hid (pieces s = [q0]))  (H0 : Hid (Txt.piece 0 q0.data.toList = none)) :
    Calls Tryz.prog 54 #[.string s] w fun e w' => e = .returned (.tuple #[.agg #[.int .i64 0, .int .i64 0, .int .i64 0], .bool false]) ∧ Below w.heap.size w w' := by
  have hE2 := (hE.alloc (.cells #[.int .i64 0, .int .i64 0, .int .i64 0] 77)).alloc (.cells #[.int .i64 0, .int .i64 0, .int .i64 0] 77)
  clear hE
  go_enter Tryz.func54, Tryz.ntmps54
  go_wp2_with fail
  refine (splitn_any s _ _ hE2 hs hL).mono ?_
  rintro e w1 ⟨rfl, hb1, hl1, hp1⟩
  have hM : Mid w w1 0 0 0 [q0] := mid_start w w1 _ rfl rfl hb1 hl1 hp1
  clear hb1 hp1 hE2 hl1
  have p0 := hM.p0
  have p1 := hM.p1
  have p2 := hM.p2
  have r0 := hM.r0
  have r1 := hM.r1
  have r2 := hM.r2
  have pf := hM.pf
  have rf := hM.rf
  have sz := hM.sz
  have c0 := hM.ps 0 q0 rfl
  go_wp2_with fail
  refine wp_loop_rounds 4 ?_
  rw [rounds_succ]
  go_wp2_with fail
  obtain ⟨x, hx⟩ := readPart_no 0 q0 _ (by omega) H0
  refine hx.mono ?_
  rintro e w' ⟨rfl, rfl⟩
  go_wp2_with fail
  refine bodyPost_ret (v := .tuple #[.agg #[.int .i64 0, .int .i64 0, .int .i64 0], .bool false]) (by simp [results, Tryz.results54, go_sem, r0, r1, r2]) rfl ⟨rfl, ?_⟩
  have hB := hM.bl
  repeat (first | exact Below.refl _ _ | assumption | refine below_drewN ?_ _ | refine Below.drew ?_ | refine Below.setCell ?_ (by first | omega | (simp; done) | (simp; omega)) _ | refine Below.alloc ?_ (by first | omega | (simp; done) | (simp; omega)) _)
set_option maxHeartbeats 2000000 in
set_option maxRecDepth 100000 in
theorem read_2_yes (s q0 q1 : ByteArray) (v0 v1 : Int) (w : World) (hE : Env w) (hs : s.size ≤ 4096) (hL : Hid (pieces s = [q0, q1])) (H0 : Hid (Txt.piece 0 q0.data.toList = some v0)) (H1 : Hid (Txt.piece 1 q1.data.toList = some v1)) :
    Calls Tryz.prog 54 #[.string s] w fun e w' => e = .returned (.tuple #[.agg #[.int .i64 v0, .int .i64 v1, .int .i64 0], .bool true]) ∧ Below w.heap.size w w' := by
  have hE2 := (hE.alloc (.cells #[.int .i64 0, .int .i64 0, .int .i64 0] 77)).alloc (.cells #[.int .i64 0, .int .i64 0, .int .i64 0] 77)
  clear hE
  go_enter Tryz.func54, Tryz.ntmps54
  go_wp2_with fail
  refine (splitn_any s _ _ hE2 hs hL).mono ?_
  rintro e w1 ⟨rfl, hb1, hl1, hp1⟩
  have hM : Mid w w1 0 0 0 [q0, q1] := mid_start w w1 _ rfl rfl hb1 hl1 hp1
  clear hb1 hp1 hE2 hl1
  have p0 := hM.p0
  have p1 := hM.p1
  have p2 := hM.p2
  have r0 := hM.r0
  have r1 := hM.r1
  have r2 := hM.r2
  have pf := hM.pf
  have rf := hM.rf
  have sz := hM.sz
  have c0 := hM.ps 0 q0 rfl
  have c1 := hM.ps 1 q1 rfl
  go_wp2_with fail
  refine wp_loop_rounds 4 ?_
  rw [rounds_succ]
  go_wp2_with (go_at_call 81; refine (readPart_yes 0 q0 v0 _ (by omega) H0).mono ?_; rintro e w' ⟨rfl, rfl⟩)
  replace hM := hM.set0 v0
  clear p0 p1 p2 r0 r1 r2 pf rf sz c0 c1
  generalize World.setCell _ ⟨w.heap.size + 1, 0, none⟩ (.int .i64 v0) = W0 at *
  have p0 := hM.p0
  have p1 := hM.p1
  have p2 := hM.p2
  have r0 := hM.r0
  have r1 := hM.r1
  have r2 := hM.r2
  have pf := hM.pf
  have rf := hM.rf
  have sz := hM.sz
  have c0 := hM.ps 0 q0 rfl
  have c1 := hM.ps 1 q1 rfl
  rw [rounds_succ]
  go_wp2_with (go_at_call 81; refine (readPart_yes 1 q1 v1 _ (by omega) H1).mono ?_; rintro e w' ⟨rfl, rfl⟩)
  replace hM := hM.set1 v1
  clear p0 p1 p2 r0 r1 r2 pf rf sz c0 c1
  generalize World.setCell _ ⟨w.heap.size + 1, 1, none⟩ (.int .i64 v1) = W1 at *
  have p0 := hM.p0
  have p1 := hM.p1
  have p2 := hM.p2
  have r0 := hM.r0
  have r1 := hM.r1
  have r2 := hM.r2
  have pf := hM.pf
  have rf := hM.rf
  have sz := hM.sz
  have c0 := hM.ps 0 q0 rfl
  have c1 := hM.ps 1 q1 rfl
  rw [rounds_succ]
  go_wp2_with fail
  refine bodyPost_ret (v := .tuple #[.agg #[.int .i64 v0, .int .i64 v1, .int .i64 0], .bool true]) (by simp [results, Tryz.results54, go_sem, r0, r1, r2]) rfl ⟨rfl, ?_⟩
  have hB := hM.bl
  repeat (first | exact Below.refl _ _ | assumption | refine below_drewN ?_ _ | refine Below.drew ?_ | refine Below.setCell ?_ (by first | omega | (simp; done) | (simp; omega)) _ | refine Below.alloc ?_ (by first | omega | (simp; done) | (simp; omega)) _)
set_option maxHeartbeats 2000000 in
set_option maxRecDepth 100000 in
theorem read_2_no0 (s q0 q1 : ByteArray)  (w : World) (hE : Env w) (hs : s.size ≤ 4096) (hL : Hid (pieces s = [q0, q1]))  (H0 : Hid (Txt.piece 0 q0.data.toList = none)) :
    Calls Tryz.prog 54 #[.string s] w fun e w' => e = .returned (.tuple #[.agg #[.int .i64 0, .int .i64 0, .int .i64 0], .bool false]) ∧ Below w.heap.size w w' := by
  have hE2 := (hE.alloc (.cells #[.int .i64 0, .int .i64 0, .int .i64 0] 77)).alloc (.cells #[.int .i64 0, .int .i64 0, .int .i64 0] 77)
  clear hE
  go_enter Tryz.func54, Tryz.ntmps54
  go_wp2_with fail
  refine (splitn_any s _ _ hE2 hs hL).mono ?_
  rintro e w1 ⟨rfl, hb1, hl1, hp1⟩
  have hM : Mid w w1 0 0 0 [q0, q1] := mid_start w w1 _ rfl rfl hb1 hl1 hp1
  clear hb1 hp1 hE2 hl1
  have p0 := hM.p0
  have p1 := hM.p1
  have p2 := hM.p2
  have r0 := hM.r0
  have r1 := hM.r1
  have r2 := hM.r2
  have pf := hM.pf
  have rf := hM.rf
  have sz := hM.sz
  have c0 := hM.ps 0 q0 rfl
  have c1 := hM.ps 1 q1 rfl
  go_wp2_with fail
  refine wp_loop_rounds 4 ?_
  rw [rounds_succ]
  go_wp2_with fail
  obtain ⟨x, hx⟩ := readPart_no 0 q0 _ (by omega) H0
  refine hx.mono ?_
  rintro e w' ⟨rfl, rfl⟩
  go_wp2_with fail
  refine bodyPost_ret (v := .tuple #[.agg #[.int .i64 0, .int .i64 0, .int .i64 0], .bool false]) (by simp [results, Tryz.results54, go_sem, r0, r1, r2]) rfl ⟨rfl, ?_⟩
  have hB := hM.bl
  repeat (first | exact Below.refl _ _ | assumption | refine below_drewN ?_ _ | refine Below.drew ?_ | refine Below.setCell ?_ (by first | omega | (simp; done) | (simp; omega)) _ | refine Below.alloc ?_ (by first | omega | (simp; done) | (simp; omega)) _)
set_option maxHeartbeats 2000000 in
set_option maxRecDepth 100000 in
theorem read_2_no1 (s q0 q1 : ByteArray) (v0 : Int) (w : World) (hE : Env w) (hs : s.size ≤ 4096) (hL : Hid (pieces s = [q0, q1])) (H0 : Hid (Txt.piece 0 q0.data.toList = some v0)) (H1 : Hid (Txt.piece 1 q1.data.toList = none)) :
    Calls Tryz.prog 54 #[.string s] w fun e w' => e = .returned (.tuple #[.agg #[.int .i64 v0, .int .i64 0, .int .i64 0], .bool false]) ∧ Below w.heap.size w w' := by
  have hE2 := (hE.alloc (.cells #[.int .i64 0, .int .i64 0, .int .i64 0] 77)).alloc (.cells #[.int .i64 0, .int .i64 0, .int .i64 0] 77)
  clear hE
  go_enter Tryz.func54, Tryz.ntmps54
  go_wp2_with fail
  refine (splitn_any s _ _ hE2 hs hL).mono ?_
  rintro e w1 ⟨rfl, hb1, hl1, hp1⟩
  have hM : Mid w w1 0 0 0 [q0, q1] := mid_start w w1 _ rfl rfl hb1 hl1 hp1
  clear hb1 hp1 hE2 hl1
  have p0 := hM.p0
  have p1 := hM.p1
  have p2 := hM.p2
  have r0 := hM.r0
  have r1 := hM.r1
  have r2 := hM.r2
  have pf := hM.pf
  have rf := hM.rf
  have sz := hM.sz
  have c0 := hM.ps 0 q0 rfl
  have c1 := hM.ps 1 q1 rfl
  go_wp2_with fail
  refine wp_loop_rounds 4 ?_
  rw [rounds_succ]
  go_wp2_with (go_at_call 81; refine (readPart_yes 0 q0 v0 _ (by omega) H0).mono ?_; rintro e w' ⟨rfl, rfl⟩)
  replace hM := hM.set0 v0
  clear p0 p1 p2 r0 r1 r2 pf rf sz c0 c1
  generalize World.setCell _ ⟨w.heap.size + 1, 0, none⟩ (.int .i64 v0) = W0 at *
  have p0 := hM.p0
  have p1 := hM.p1
  have p2 := hM.p2
  have r0 := hM.r0
  have r1 := hM.r1
  have r2 := hM.r2
  have pf := hM.pf
  have rf := hM.rf
  have sz := hM.sz
  have c0 := hM.ps 0 q0 rfl
  have c1 := hM.ps 1 q1 rfl
  rw [rounds_succ]
  go_wp2_with fail
  obtain ⟨x, hx⟩ := readPart_no 1 q1 _ (by omega) H1
  refine hx.mono ?_
  rintro e w' ⟨rfl, rfl⟩
  go_wp2_with fail
  refine bodyPost_ret (v := .tuple #[.agg #[.int .i64 v0, .int .i64 0, .int .i64 0], .bool false]) (by simp [results, Tryz.results54, go_sem, r0, r1, r2]) rfl ⟨rfl, ?_⟩
  have hB := hM.bl
  repeat (first | exact Below.refl _ _ | assumption | refine below_drewN ?_ _ | refine Below.drew ?_ | refine Below.setCell ?_ (by first | omega | (simp; done) | (simp; omega)) _ | refine Below.alloc ?_ (by first | omega | (simp; done) | (simp; omega)) _)
set_option maxHeartbeats 2000000 in
set_option maxRecDepth 100000 in
theorem read_3_yes (s q0 q1 q2 : ByteArray) (v0 v1 v2 : Int) (w : World) (hE : Env w) (hs : s.size ≤ 4096) (hL : Hid (pieces s = [q0, q1, q2])) (H0 : Hid (Txt.piece 0 q0.data.toList = some v0)) (H1 : Hid (Txt.piece 1 q1.data.toList = some v1)) (H2 : Hid (Txt.piece 2 q2.data.toList = some v2)) :
    Calls Tryz.prog 54 #[.string s] w fun e w' => e = .returned (.tuple #[.agg #[.int .i64 v0, .int .i64 v1, .int .i64 v2], .bool true]) ∧ Below w.heap.size w w' := by
  have hE2 := (hE.alloc (.cells #[.int .i64 0, .int .i64 0, .int .i64 0] 77)).alloc (.cells #[.int .i64 0, .int .i64 0, .int .i64 0] 77)
  clear hE
  go_enter Tryz.func54, Tryz.ntmps54
  go_wp2_with fail
  refine (splitn_any s _ _ hE2 hs hL).mono ?_
  rintro e w1 ⟨rfl, hb1, hl1, hp1⟩
  have hM : Mid w w1 0 0 0 [q0, q1, q2] := mid_start w w1 _ rfl rfl hb1 hl1 hp1
  clear hb1 hp1 hE2 hl1
  have p0 := hM.p0
  have p1 := hM.p1
  have p2 := hM.p2
  have r0 := hM.r0
  have r1 := hM.r1
  have r2 := hM.r2
  have pf := hM.pf
  have rf := hM.rf
  have sz := hM.sz
  have c0 := hM.ps 0 q0 rfl
  have c1 := hM.ps 1 q1 rfl
  have c2 := hM.ps 2 q2 rfl
  go_wp2_with fail
  refine wp_loop_rounds 4 ?_
  rw [rounds_succ]
  go_wp2_with (go_at_call 81; refine (readPart_yes 0 q0 v0 _ (by omega) H0).mono ?_; rintro e w' ⟨rfl, rfl⟩)
  replace hM := hM.set0 v0
  clear p0 p1 p2 r0 r1 r2 pf rf sz c0 c1 c2
  generalize World.setCell _ ⟨w.heap.size + 1, 0, none⟩ (.int .i64 v0) = W0 at *
  have p0 := hM.p0
  have p1 := hM.p1
  have p2 := hM.p2
  have r0 := hM.r0
  have r1 := hM.r1
  have r2 := hM.r2
  have pf := hM.pf
  have rf := hM.rf
  have sz := hM.sz
  have c0 := hM.ps 0 q0 rfl
  have c1 := hM.ps 1 q1 rfl
  have c2 := hM.ps 2 q2 rfl
  rw [rounds_succ]
  go_wp2_with (go_at_call 81; refine (readPart_yes 1 q1 v1 _ (by omega) H1).mono ?_; rintro e w' ⟨rfl, rfl⟩)
  replace hM := hM.set1 v1
  clear p0 p1 p2 r0 r1 r2 pf rf sz c0 c1 c2
  generalize World.setCell _ ⟨w.heap.size + 1, 1, none⟩ (.int .i64 v1) = W1 at *
  have p0 := hM.p0
  have p1 := hM.p1
  have p2 := hM.p2
  have r0 := hM.r0
  have r1 := hM.r1
  have r2 := hM.r2
  have pf := hM.pf
  have rf := hM.rf
  have sz := hM.sz
  have c0 := hM.ps 0 q0 rfl
  have c1 := hM.ps 1 q1 rfl
  have c2 := hM.ps 2 q2 rfl
  rw [rounds_succ]
  go_wp2_with (go_at_call 81; refine (readPart_yes 2 q2 v2 _ (by omega) H2).mono ?_; rintro e w' ⟨rfl, rfl⟩)
  replace hM := hM.set2 v2
  clear p0 p1 p2 r0 r1 r2 pf rf sz c0 c1 c2
  generalize World.setCell _ ⟨w.heap.size + 1, 2, none⟩ (.int .i64 v2) = W2 at *
  have p0 := hM.p0
  have p1 := hM.p1
  have p2 := hM.p2
  have r0 := hM.r0
  have r1 := hM.r1
  have r2 := hM.r2
  have pf := hM.pf
  have rf := hM.rf
  have sz := hM.sz
  have c0 := hM.ps 0 q0 rfl
  have c1 := hM.ps 1 q1 rfl
  have c2 := hM.ps 2 q2 rfl
  rw [rounds_succ]
  go_wp2_with fail
  refine bodyPost_ret (v := .tuple #[.agg #[.int .i64 v0, .int .i64 v1, .int .i64 v2], .bool true]) (by simp [results, Tryz.results54, go_sem, r0, r1, r2]) rfl ⟨rfl, ?_⟩
  have hB := hM.bl
  repeat (first | exact Below.refl _ _ | assumption | refine below_drewN ?_ _ | refine Below.drew ?_ | refine Below.setCell ?_ (by first | omega | (simp; done) | (simp; omega)) _ | refine Below.alloc ?_ (by first | omega | (simp; done) | (simp; omega)) _)
set_option maxHeartbeats 2000000 in
set_option maxRecDepth 100000 in
theorem read_3_no0 (s q0 q1 q2 : ByteArray)  (w : World) (hE : Env w) (hs : s.size ≤ 4096) (hL : Hid (pieces s = [q0, q1, q2]))  (H0 : Hid (Txt.piece 0 q0.data.toList = none)) :
    Calls Tryz.prog 54 #[.string s] w fun e w' => e = .returned (.tuple #[.agg #[.int .i64 0, .int .i64 0, .int .i64 0], .bool false]) ∧ Below w.heap.size w w' := by
  have hE2 := (hE.alloc (.cells #[.int .i64 0, .int .i64 0, .int .i64 0] 77)).alloc (.cells #[.int .i64 0, .int .i64 0, .int .i64 0] 77)
  clear hE
  go_enter Tryz.func54, Tryz.ntmps54
  go_wp2_with fail
  refine (splitn_any s _ _ hE2 hs hL).mono ?_
  rintro e w1 ⟨rfl, hb1, hl1, hp1⟩
  have hM : Mid w w1 0 0 0 [q0, q1, q2] := mid_start w w1 _ rfl rfl hb1 hl1 hp1
  clear hb1 hp1 hE2 hl1
  have p0 := hM.p0
  have p1 := hM.p1
  have p2 := hM.p2
  have r0 := hM.r0
  have r1 := hM.r1
  have r2 := hM.r2
  have pf := hM.pf
  have rf := hM.rf
  have sz := hM.sz
  have c0 := hM.ps 0 q0 rfl
  have c1 := hM.ps 1 q1 rfl
  have c2 := hM.ps 2 q2 rfl
  go_wp2_with fail
  refine wp_loop_rounds 4 ?_
  rw [rounds_succ]
  go_wp2_with fail
  obtain ⟨x, hx⟩ := readPart_no 0 q0 _ (by omega) H0
  refine hx.mono ?_
  rintro e w' ⟨rfl, rfl⟩
  go_wp2_with fail
  refine bodyPost_ret (v := .tuple #[.agg #[.int .i64 0, .int .i64 0, .int .i64 0], .bool false]) (by simp [results, Tryz.results54, go_sem, r0, r1, r2]) rfl ⟨rfl, ?_⟩
  have hB := hM.bl
  repeat (first | exact Below.refl _ _ | assumption | refine below_drewN ?_ _ | refine Below.drew ?_ | refine Below.setCell ?_ (by first | omega | (simp; done) | (simp; omega)) _ | refine Below.alloc ?_ (by first | omega | (simp; done) | (simp; omega)) _)
set_option maxHeartbeats 2000000 in
set_option maxRecDepth 100000 in
theorem read_3_no1 (s q0 q1 q2 : ByteArray) (v0 : Int) (w : World) (hE : Env w) (hs : s.size ≤ 4096) (hL : Hid (pieces s = [q0, q1, q2])) (H0 : Hid (Txt.piece 0 q0.data.toList = some v0)) (H1 : Hid (Txt.piece 1 q1.data.toList = none)) :
    Calls Tryz.prog 54 #[.string s] w fun e w' => e = .returned (.tuple #[.agg #[.int .i64 v0, .int .i64 0, .int .i64 0], .bool false]) ∧ Below w.heap.size w w' := by
  have hE2 := (hE.alloc (.cells #[.int .i64 0, .int .i64 0, .int .i64 0] 77)).alloc (.cells #[.int .i64 0, .int .i64 0, .int .i64 0] 77)
  clear hE
  go_enter Tryz.func54, Tryz.ntmps54
  go_wp2_with fail
  refine (splitn_any s _ _ hE2 hs hL).mono ?_
  rintro e w1 ⟨rfl, hb1, hl1, hp1⟩
  have hM : Mid w w1 0 0 0 [q0, q1, q2] := mid_start w w1 _ rfl rfl hb1 hl1 hp1
  clear hb1 hp1 hE2 hl1
  have p0 := hM.p0
  have p1 := hM.p1
  have p2 := hM.p2
  have r0 := hM.r0
  have r1 := hM.r1
  have r2 := hM.r2
  have pf := hM.pf
  have rf := hM.rf
  have sz := hM.sz
  have c0 := hM.ps 0 q0 rfl
  have c1 := hM.ps 1 q1 rfl
  have c2 := hM.ps 2 q2 rfl
  go_wp2_with fail
  refine wp_loop_rounds 4 ?_
  rw [rounds_succ]
  go_wp2_with (go_at_call 81; refine (readPart_yes 0 q0 v0 _ (by omega) H0).mono ?_; rintro e w' ⟨rfl, rfl⟩)
  replace hM := hM.set0 v0
  clear p0 p1 p2 r0 r1 r2 pf rf sz c0 c1 c2
  generalize World.setCell _ ⟨w.heap.size + 1, 0, none⟩ (.int .i64 v0) = W0 at *
  have p0 := hM.p0
  have p1 := hM.p1
  have p2 := hM.p2
  have r0 := hM.r0
  have r1 := hM.r1
  have r2 := hM.r2
  have pf := hM.pf
  have rf := hM.rf
  have sz := hM.sz
  have c0 := hM.ps 0 q0 rfl
  have c1 := hM.ps 1 q1 rfl
  have c2 := hM.ps 2 q2 rfl
  rw [rounds_succ]
  go_wp2_with fail
  obtain ⟨x, hx⟩ := readPart_no 1 q1 _ (by omega) H1
  refine hx.mono ?_
  rintro e w' ⟨rfl, rfl⟩
  go_wp2_with fail
  refine bodyPost_ret (v := .tuple #[.agg #[.int .i64 v0, .int .i64 0, .int .i64 0], .bool false]) (by simp [results, Tryz.results54, go_sem, r0, r1, r2]) rfl ⟨rfl, ?_⟩
  have hB := hM.bl
  repeat (first | exact Below.refl _ _ | assumption | refine below_drewN ?_ _ | refine Below.drew ?_ | refine Below.setCell ?_ (by first | omega | (simp; done) | (simp; omega)) _ | refine Below.alloc ?_ (by first | omega | (simp; done) | (simp; omega)) _)
set_option maxHeartbeats 2000000 in
set_option maxRecDepth 100000 in
theorem read_3_no2 (s q0 q1 q2 : ByteArray) (v0 v1 : Int) (w : World) (hE : Env w) (hs : s.size ≤ 4096) (hL : Hid (pieces s = [q0, q1, q2])) (H0 : Hid (Txt.piece 0 q0.data.toList = some v0)) (H1 : Hid (Txt.piece 1 q1.data.toList = some v1)) (H2 : Hid (Txt.piece 2 q2.data.toList = none)) :
    Calls Tryz.prog 54 #[.string s] w fun e w' => e = .returned (.tuple #[.agg #[.int .i64 v0, .int .i64 v1, .int .i64 0], .bool false]) ∧ Below w.heap.size w w' := by
  have hE2 := (hE.alloc (.cells #[.int .i64 0, .int .i64 0, .int .i64 0] 77)).alloc (.cells #[.int .i64 0, .int .i64 0, .int .i64 0] 77)
  clear hE
  go_enter Tryz.func54, Tryz.ntmps54
  go_wp2_with fail
  refine (splitn_any s _ _ hE2 hs hL).mono ?_
  rintro e w1 ⟨rfl, hb1, hl1, hp1⟩
  have hM : Mid w w1 0 0 0 [q0, q1, q2] := mid_start w w1 _ rfl rfl hb1 hl1 hp1
  clear hb1 hp1 hE2 hl1
  have p0 := hM.p0
  have p1 := hM.p1
  have p2 := hM.p2
  have r0 := hM.r0
  have r1 := hM.r1
  have r2 := hM.r2
  have pf := hM.pf
  have rf := hM.rf
  have sz := hM.sz
  have c0 := hM.ps 0 q0 rfl
  have c1 := hM.ps 1 q1 rfl
  have c2 := hM.ps 2 q2 rfl
  go_wp2_with fail
  refine wp_loop_rounds 4 ?_
  rw [rounds_succ]
  go_wp2_with (go_at_call 81; refine (readPart_yes 0 q0 v0 _ (by omega) H0).mono ?_; rintro e w' ⟨rfl, rfl⟩)
  replace hM := hM.set0 v0
  clear p0 p1 p2 r0 r1 r2 pf rf sz c0 c1 c2
  generalize World.setCell _ ⟨w.heap.size + 1, 0, none⟩ (.int .i64 v0) = W0 at *
  have p0 := hM.p0
  have p1 := hM.p1
  have p2 := hM.p2
  have r0 := hM.r0
  have r1 := hM.r1
  have r2 := hM.r2
  have pf := hM.pf
  have rf := hM.rf
  have sz := hM.sz
  have c0 := hM.ps 0 q0 rfl
  have c1 := hM.ps 1 q1 rfl
  have c2 := hM.ps 2 q2 rfl
  rw [rounds_succ]
  go_wp2_with (go_at_call 81; refine (readPart_yes 1 q1 v1 _ (by omega) H1).mono ?_; rintro e w' ⟨rfl, rfl⟩)
  replace hM := hM.set1 v1
  clear p0 p1 p2 r0 r1 r2 pf rf sz c0 c1 c2
  generalize World.setCell _ ⟨w.heap.size + 1, 1, none⟩ (.int .i64 v1) = W1 at *
  have p0 := hM.p0
  have p1 := hM.p1
  have p2 := hM.p2
  have r0 := hM.r0
  have r1 := hM.r1
  have r2 := hM.r2
  have pf := hM.pf
  have rf := hM.rf
  have sz := hM.sz
  have c0 := hM.ps 0 q0 rfl
  have c1 := hM.ps 1 q1 rfl
  have c2 := hM.ps 2 q2 rfl
  rw [rounds_succ]
  go_wp2_with fail
  obtain ⟨x, hx⟩ := readPart_no 2 q2 _ (by omega) H2
  refine hx.mono ?_
  rintro e w' ⟨rfl, rfl⟩
  go_wp2_with fail
  refine bodyPost_ret (v := .tuple #[.agg #[.int .i64 v0, .int .i64 v1, .int .i64 0], .bool false]) (by simp [results, Tryz.results54, go_sem, r0, r1, r2]) rfl ⟨rfl, ?_⟩
  have hB := hM.bl
  repeat (first | exact Below.refl _ _ | assumption | refine below_drewN ?_ _ | refine Below.drew ?_ | refine Below.setCell ?_ (by first | omega | (simp; done) | (simp; omega)) _ | refine Below.alloc ?_ (by first | omega | (simp; done) | (simp; omega)) _)
end Go.Proofs.YtgcgmmdfmcapiaaGreatDoor
