/- Rows of texts put together (slices.Concat of two), and the line that print.join makes of them. -/
import Derived.Test.YtkcbmnboccjnnaaGreatDoorPg
import Derived.Test.YtkcbmnboccjnnaaGreatDoorSc
import Derived.Lib.AppendZeros
import Derived.Laws.AppendOwnNone
namespace Go.Proofs.YtkcbmnboccjnnaaGreatDoor
open Go.RowKit
set_option maxRecDepth 100000
/-- A slice of texts: nil, or a row of the memory. -/
def Tl (w : World) (v : Value) (L : List ByteArray) : Prop := (v = .slice none 0 0 ∧ L = []) ∨ ∃ ad c, v = .slice (some ad) L.length c ∧ ad.block < w.heap.size ∧ ∀ j, j < L.length → w.cell? (ad.add j) = some (.string (L.getD j ByteArray.empty))
theorem Tl.below {w w' : World} {v : Value} {L : List ByteArray} (h : Tl w v L) (hb : Below w.heap.size w w') : Tl w' v L := by
  rcases h with h | ⟨ad, c, e, hl, hc⟩
  · exact .inl h
  · exact .inr ⟨ad, c, e, Nat.lt_of_lt_of_le hl hb.size, fun j hj => (hb.cell (by rw [block_of_add]; exact hl)).trans (hc j hj)⟩
theorem Tl.len {w : World} {v : Value} {L : List ByteArray} (h : Tl w v L) : ∃ A c, v = .slice A L.length c := by
  rcases h with ⟨e, rfl⟩ | ⟨ad, c, e, _, _⟩
  · exact ⟨none, 0, e⟩
  · exact ⟨some ad, c, e⟩
theorem wpList_tl {w : World} {ops : Array Oper} {rest : List Oper} {o : Oper} {a : Act} {Q : Exit → Act → World → Prop} (hgd : o.guard = none) (s x : Operand)
    (ho : o.op = .call { callee := .builtin .append, args := #[s, x], argTypes := #[35, 35] }) (base : Nat) (v : Value) (L : List ByteArray) (hown : w.ownsRow base 9 1 v L.length (L.map Value.string)) (hs : a.eval s = v) (u : Value) (M : List ByteArray)
    (hx : a.eval x = u) (hM : Tl w u M) (hlen : L.length + M.length ≤ 4096) (hbase : base ≤ w.heap.size)
    (h : ∀ v' w', w'.ownsRow base 9 1 v' (L ++ M).length ((L ++ M).map Value.string) → w.grownBy w' v.ownBlock → wpList Tryz.prog ops Q rest (a.put o.dst v') w') : wpList Tryz.prog ops Q (o :: rest) a w := by
  obtain ⟨i0, hi, hz0, hz1, hz2⟩ := info_parts str_info
  rcases hM with ⟨rfl, rfl⟩ | ⟨ad, c, rfl, hl, hc⟩
  · refine wpList_append_own_none hgd s x 35 ho base 9 i0 1 Tryz.underlying35 hi v L.length (L.map Value.string) hs hown hx ?_
    exact h v w (by simpa using hown) ⟨rfl, rfl, rfl, Nat.le_refl _, fun _ _ _ => rfl⟩
  · refine wpList_append_own w hgd s x 35 ho base 9 i0 (.string ⟨#[]⟩) 1 16 Tryz.underlying35 hi hz0 hz1 hz2 rfl (by omega) v L.length (L.map Value.string) hs hown ad M.length c (M.map Value.string) hx (by simp) (fun j u hu => ?_) (fun u hu => ?_) (by unfold maxLen; omega) (by omega) hbase (fun v' w' h1 h2 _ => ?_)
    · rw [List.getElem?_map] at hu
      obtain ⟨t, ht, rfl⟩ := Option.map_eq_some_iff.1 hu
      obtain ⟨hj, e⟩ := List.getElem?_eq_some_iff.1 ht
      rw [hc j hj, List.getD_eq_getElem?_getD, ht]
      rfl
    · obtain ⟨t, _, rfl⟩ := List.mem_map.1 hu
      rfl
    · refine h v' w' ?_ h2
      rw [List.map_append, List.length_append]
      exact h1
set_option maxHeartbeats 2000000 in
theorem grow_strs (n : Nat) (h0 : 0 < n) (hn : n ≤ 4096) (w : World) :
    Calls Tryz.prog 126 #[.slice none 0 0, .int .i64 n] w fun e w' => (∃ v, e = .returned v ∧ w'.ownsRow w.heap.size 9 1 v 0 []) ∧ Below w.heap.size w w' := by
  obtain ⟨i0, hi, hz0, hz1, hz2⟩ := info_parts str_info
  have hr := Lib.run_append_nil_zeros (P := Tryz.prog) w 35 3 35 9 i0 (.string ⟨#[]⟩) .i64 .i64 Tryz.underlying35 Tryz.underlying3 hi hz0 n h0 (by omega) (by omega) (by rw [hz2]; omega)
  have hg1 := grownCap_ge w n 0 9
  have hg2 := grownCap_le_maxLen w n 0 9 (by unfold maxLen; omega)
  have hcs : (Builtin.zeroCells (Value.string ⟨#[]⟩).cells n ++ Builtin.zeroCells (Value.string ⟨#[]⟩).cells (grownCap w n 0 9 - n)).size = grownCap w n 0 9 * 1 := by
    rw [Array.size_append, size_zeroCells, size_zeroCells]
    show n * 1 + (grownCap w n 0 9 - n) * 1 = _
    omega
  have hO := World.ownsRow_made (base := w.heap.size) (e := 9) (size := 1) w.drew _ _ (Nat.le_refl _) hg2 hcs
  have hbl : Below w.heap.size w (w.drew.alloc (.cells (Builtin.zeroCells (Value.string ⟨#[]⟩).cells n ++ Builtin.zeroCells (Value.string ⟨#[]⟩).cells (grownCap w n 0 9 - n)) 9)) := (Below.drew (Below.refl _ _)).alloc (Nat.le_refl _) _
  clear hcs
  have HO := Lib.hid hO
  have HB := Lib.hid hbl
  clear hO hbl
  generalize w.drew.alloc _ = w1 at *
  generalize grownCap w n 0 9 = G at *
  unfold maxLen at hg2
  go_enter Tryz.func126, Tryz.ntmps126
  go_wp2_with (at_builtin; refine Lib.wpList_append_run _ rfl _ _ _ _ rfl _ _ rfl rfl _ _ hr ?_)
  go_ret
  exact ⟨⟨_, rfl, HO.out⟩, HB.out⟩
/-- A row of texts of the call's own is answered. -/
def RowE (w w' : World) (L : List ByteArray) (e : Ending) : Prop := ∃ A c, e = .returned (.slice A L.length c) ∧ w'.ownsRow w.heap.size 9 1 (.slice A L.length c) L.length (L.map Value.string)
theorem rowE_of {w w' : World} {L : List ByteArray} {v : Value} (h : w'.ownsRow w.heap.size 9 1 v L.length (L.map Value.string)) : RowE w w' L (.returned v) := by
  rcases h.2 with ⟨hv, h0⟩ | ⟨g, cap, cur, hv, _⟩
  · refine ⟨none, 0, by rw [hv, h0], ?_⟩
    rw [h0, ← hv]
    rw [h0] at h
    exact h
  · exact ⟨some ⟨g, 0, none⟩, cap, by rw [hv], by rw [← hv]; exact h⟩
set_option maxHeartbeats 4000000 in
theorem concat_two (p : Nat) (v1 v2 : Value) (L1 L2 : List ByteArray) (w : World) (h1 : Tl w v1 L1) (h2 : Tl w v2 L2) (c0 : w.cell? ⟨p, 0, none⟩ = some v1) (c1 : w.cell? ⟨p, 1, none⟩ = some v2) (hn0 : 0 < L1.length + L2.length) (hn : L1.length + L2.length ≤ 4096) :
    Calls Tryz.prog 76 #[.slice (some ⟨p, 0, none⟩) 2 2] w fun e w' => RowE w w' (L1 ++ L2) e ∧ Below w.heap.size w w' := by
  obtain ⟨A1, k1, rfl⟩ := h1.len
  obtain ⟨A2, k2, rfl⟩ := h2.len
  have H1 := Lib.hid h1
  have H2 := Lib.hid h2
  have hp := lt_cell c0
  have C0 := Lib.hid c0
  have C1 := Lib.hid c1
  clear h1 h2 c0 c1
  obtain ⟨n1, hn1⟩ : ∃ n, L1.length = n := ⟨_, rfl⟩
  obtain ⟨n2, hn2⟩ : ∃ n, L2.length = n := ⟨_, rfl⟩
  have HN1 := Lib.hid hn1
  have HN2 := Lib.hid hn2
  rw [hn1] at C0 hn0 hn
  rw [hn2] at C1 hn0 hn
  clear hn1 hn2
  go_enter Tryz.func76, Tryz.ntmps76
  go_wp2_with fail
  go_loopw [3, 11] (fun z i wr => ∃ (k m : Nat), k ≤ 2 ∧ i = .int .i64 k ∧ z = .int .i64 m ∧ Hid (m = (if k = 0 then 0 else if k = 1 then n1 else n1 + n2)) ∧ Hid (wr = w)) (fun _ i _ => 2 - (intOf i).toNat)
  case atStart => exact ⟨0, 0, by omega, rfl, rfl, Lib.hid rfl, Lib.hid rfl⟩
  case round =>
    obtain ⟨k, m, hk, rfl, rfl, hm, hw⟩ := hrel
    obtain rfl := hw.out.symm
    have hk3 : k = 0 ∨ k = 1 ∨ k = 2 := by omega
    rcases hk3 with rfl | rfl | rfl
    · have c0 := C0.out
      obtain rfl : m = 0 := by simpa using hm.out
      clear hm
      go_wp2_with fail
      go_roundw
      case rel => exact ⟨1, n1, by omega, by go_num, by go_num, Lib.hid (by simp), Lib.hid (by first | rfl | trivial)⟩
      case measure => simp [intOf]
    · have c1 := C1.out
      obtain rfl : m = n1 := by simpa using hm.out
      clear hm
      go_wp2_with fail
      go_roundw
      case rel => exact ⟨2, m + n2, by omega, by go_num, by go_num, Lib.hid (by simp), Lib.hid (by first | rfl | trivial)⟩
      case measure => simp [intOf]
    · have hm' : m = n1 + n2 := by simpa using hm.out
      have hm0 : 0 < m := by omega
      have hm1 : m ≤ 4096 := by omega
      have HM := Lib.hid hm'
      clear hm hm' hn0 hn hw
      go_wp2_with (go_at_call 126; refine (grow_strs m hm0 hm1 _).mono ?_)
      rintro e w1 ⟨⟨v, rfl, hO⟩, b1⟩
      have hO0 : w1.ownsRow w.heap.size 9 1 v ([] : List ByteArray).length (([] : List ByteArray).map Value.string) := hO
      have hN1 := Lib.hid (show L1.length + L2.length ≤ 4096 by have := HN1.out; have := HN2.out; have := HM.out; omega)
      have HO := Lib.hid hO0
      clear hO hO0
      go_wp2_with fail
      go_loopw [6, 27] (fun x i wq => ∃ (k : Nat) (L : List ByteArray), k ≤ 2 ∧ i = .int .i64 k ∧ Hid (L = (if k = 0 then [] else if k = 1 then L1 else L1 ++ L2)) ∧ Hid (wq.ownsRow w.heap.size 9 1 x L.length (L.map Value.string)) ∧ Below w.heap.size w wq) (fun _ i _ => 2 - (intOf i).toNat)
      case atStart => exact ⟨0, [], by omega, rfl, Lib.hid rfl, HO, b1⟩
      case round =>
        obtain ⟨k, L, hk, rfl, hL, hO, b2⟩ := hrel
        have hk3 : k = 0 ∨ k = 1 ∨ k = 2 := by omega
        rcases hk3 with rfl | rfl | rfl
        · have c0 := (b2.cell (p := ⟨p, 0, none⟩) hp).trans C0.out
          obtain rfl : L = [] := by simpa using hL.out
          have HT := Lib.hid (H1.out.below b2)
          rw [HN1.out] at HT
          clear hL
          go_wp2_with (at_builtin; refine wpList_tl rfl (.tmp 31) (.tmp 32) rfl w.heap.size _ [] hO.out rfl _ L1 rfl HT.out (by have := hN1.out; simp; omega) b2.size ?_; intro v1' w6 hown1 hg1)
          have b3 := b2.grown hg1 b2.size (own_base hO.out)
          have HO1 := Lib.hid hown1
          clear hown1 hg1 hO b2 HT c0
          go_wp2_with fail
          go_roundw
          case rel => exact ⟨1, L1, by omega, by go_num, Lib.hid (by simp), HO1, b3⟩
          case measure => simp [intOf]
        · have c1 := (b2.cell (p := ⟨p, 1, none⟩) hp).trans C1.out
          obtain rfl : L = L1 := by simpa using hL.out
          have HT := Lib.hid (H2.out.below b2)
          rw [HN2.out] at HT
          clear hL
          go_wp2_with (at_builtin; refine wpList_tl rfl (.tmp 31) (.tmp 32) rfl w.heap.size _ L hO.out rfl _ L2 rfl HT.out hN1.out b2.size ?_; intro v1' w6 hown1 hg1)
          have b3 := b2.grown hg1 b2.size (own_base hO.out)
          have HO1 := Lib.hid hown1
          clear hown1 hg1 hO b2 HT c1
          go_wp2_with fail
          go_roundw
          case rel => exact ⟨2, L ++ L2, by omega, by go_num, Lib.hid (by simp), HO1, b3⟩
          case measure => simp [intOf]
        · have hL' : L = L1 ++ L2 := by simpa using hL.out
          have HL := Lib.hid hL'
          clear hL'
          go_wp2_with fail
          go_ret
          rw [← HL.out]
          exact ⟨rowE_of hO.out, b2⟩
theorem pjoin_no (v u : Value) (k : Int) (w : World) (h : (k == 0) = false) (hk : ¬ k = 0) :
    Calls Tryz.prog 40 #[v, .int .i64 k, u] w fun e w' => e = tup [] k ∧ Below w.heap.size w w' := by
  unfold tup
  go_enter Tryz.func40, Tryz.ntmps40
  go_wp2_with fail
  go_ret2
  exact ⟨rfl, Below.refl _ _⟩
theorem join_texts (L : List ByteArray) (v : Value) (base : Nat) (w : World) (hO : w.ownsRow base 9 1 v L.length (L.map Value.string)) (h : PL.ok ([], L)) :
    Calls Tryz.prog 75 #[v] w fun e w' => e = tup (lineOf (bts L)) 0 ∧ Below w.heap.size w w' := by
  obtain ⟨g, c, rfl, hc1, hc2, _, hT⟩ := own_texts hO h.some_ rfl
  have hbl : (bts L).length = L.length := by unfold bts; rw [List.length_map]
  have hfew : L.length ≤ 10 := h.few
  have hlen : (lineOf (bts L)).length ≤ (bts L).length * (64 + 3) := line_len 64 (bts L) (fun s hs => by
    obtain ⟨t, ht, rfl⟩ := List.mem_map.1 hs
    have h1 : t.size ≤ 64 := h.small t ht
    have h2 : t.data.toList.length = t.size := by simp
    omega)
  refine (join_any (some ⟨g, 0, none⟩) L.length c (by omega) (bts L) hbl (fun k _ => by
    have hk' : k < (bts L).length := by omega
    rw [List.getD_eq_getElem?_getD, List.getElem?_eq_getElem hk']
    obtain ⟨t, ht, e⟩ := List.mem_map.1 (List.getElem_mem hk')
    have := h.small t ht
    have e' : t.data.toList = (bts L)[k] := e
    show (bts L)[k].length ≤ _
    rw [← e']
    have hz : t.data.toList.length = t.size := by simp
    omega) w.heap.size w (Nat.le_refl _) (fun _ => ⟨_, rfl, hT.lt, fun i hi => by
      show _ = some (Value.string ⟨((bts L).getD i []).toArray⟩)
      rw [bts_getD L i (by omega), addr_at]
      exact hT.at_ i (by omega)⟩)).mono ?_
  rintro e w2 ⟨hE, b2⟩
  refine ⟨?_, b2⟩
  have hok := okc_texts (L := L) h.gr
  rcases hE with ⟨h, _⟩ | ⟨_, ⟨s, hs, hn⟩, _⟩ | ⟨_, _, ⟨h, _⟩ | ⟨_, rfl⟩⟩
  · omega
  · have := hok s hs
    rw [hn] at this
    cases this
  · omega
  · rfl
set_option maxHeartbeats 2000000 in
theorem pjoin_yes (v u : Value) (T F : List ByteArray) (w : World) (hv : Tl w v T) (hu : Tl w u F) (h : PL.ok ([], F ++ T)) :
    Calls Tryz.prog 40 #[v, .int .i64 0, u] w fun e w' => e = tup (lineOf (bts (F ++ T))) 0 ∧ Below w.heap.size w w' := by
  have hn0 : 0 < F.length + T.length := by have := h.some_; simp at this; omega
  have hn : F.length + T.length ≤ 4096 := by have := h.few; simp at this; omega
  obtain ⟨A, c, rfl⟩ := hv.len
  obtain ⟨A', c', rfl⟩ := hu.len
  have HV := Lib.hid hv
  have HU := Lib.hid hu
  have HP := Lib.hid h
  have HB := Lib.hid (Bx.mk' w w.heap.size #[.slice A' F.length c', .slice A T.length c] 35 rfl)
  generalize hLL : bts (F ++ T) = LL
  have HLL := Lib.hid hLL
  clear hv hu h hLL
  go_enter Tryz.func40, Tryz.ntmps40
  go_wp2_with (go_at_call 76; refine (concat_two w.heap.size _ _ F T _ (HU.out.below (box_below _ _)) (HV.out.below (box_below _ _)) (HB.out.at_ 0 _ rfl) (HB.out.at_ 1 _ rfl) hn0 hn).mono ?_)
  rintro e w1 hr b1
  obtain ⟨A3, c3, rfl, hO⟩ := hr
  have a1 := (box_below w (.cells #[.slice A' F.length c', .slice A T.length c] 35)).trans (b1.mono (by simp))
  have HO := Lib.hid hO
  clear hO b1
  have HJ := Lib.hid (join_texts _ _ _ _ HO.out HP.out)
  clear HO
  rw [HLL.out] at HJ
  generalize (F ++ T).length = N at *
  clear HB HU HV HLL
  go_wp2_with fail
  refine HJ.out.mono ?_
  rintro e w2 ⟨rfl, b2⟩
  unfold tup
  go_wp2_with fail
  go_ret2
  exact ⟨rfl, a1.trans (b2.mono a1.size)⟩
end Go.Proofs.YtkcbmnboccjnnaaGreatDoor
