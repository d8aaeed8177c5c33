/- A source's rules of a name: source.Rules. -/
import Derived.Test.YthlbockphdbpkaaDoorNm
import Derived.Test.YthlbockphdbpkaaDoorSd0
namespace Go.Proofs.YthlbockphdbpkaaDoor
open Go.RowKit
set_option maxRecDepth 100000
def Sd.of (d : Sd) (N : ByteArray) : List Ru := d.rs.filter fun r => decide (r.nm.toList = N.toList)
/-- A row of rules of the call's own is answered. -/
def RulE (w w' : World) (L : List Ru) (e : Ending) : Prop := ∃ A c, e = .returned (.slice A L.length c) ∧ w'.ownsRow w.heap.size 34 11 (.slice A L.length c) L.length (L.flatMap rcell)
theorem rulE_of {w w' : World} {L : List Ru} {v : Value} {b : Nat} (h : w'.ownsRow b 34 11 v L.length (L.flatMap rcell)) (hb : w.heap.size ≤ b) : RulE w w' L (.returned v) := by
  have h := own_mono h hb
  rcases h.2 with ⟨hv, h0⟩ | ⟨g, cap, cur, hv, _⟩
  · refine ⟨none, 0, by rw [hv, h0], ?_⟩
    rw [h0, ← hv]
    rw [h0] at h
    exact h
  · exact ⟨some ⟨g, 0, none⟩, cap, by rw [hv], by rw [← hv]; exact h⟩
theorem filter_snoc {α : Type} (p : α → Bool) (l : List α) (k : Nat) (x : α) (h : l[k]? = some x) : (l.take (k + 1)).filter p = (l.take k).filter p ++ (if p x = true then [x] else []) := by
  obtain ⟨hk, e⟩ := List.getElem?_eq_some_iff.1 h
  rw [List.take_succ_eq_append_getElem hk, List.filter_append, e, List.filter_cons]
  rfl
theorem rcell_one (r : Ru) : ∀ u ∈ rcell r, u.oneCell' = true := by
  intro u hu
  simp only [rcell, List.mem_cons, List.not_mem_nil, or_false] at hu
  rcases hu with rfl | rfl | rfl | rfl | rfl | rfl | rfl | rfl | rfl | rfl | rfl <;> rfl
set_option maxHeartbeats 8000000 in
theorem rules_any (d : Sd) (N : ByteArray) (w : World) (hd : d.at_ w w.heap.size) (hz : d.rs.length ≤ 4096) :
    Calls Tryd.prog 11 #[d.val, .string N] w fun e w' => RulE w w' (d.of N) e ∧ Below w.heap.size w w' := by
  have hb := box_below w (.cells #[.slice d.rA d.rs.length d.rc, .slice d.zA d.zs.length d.zc, .slice d.lA d.ls.length d.lc] 26)
  have hbx : Bx (w.alloc (.cells #[.slice d.rA d.rs.length d.rc, .slice d.zA d.zs.length d.zc, .slice d.lA d.ls.length d.lc] 26)) w.heap.size [.slice d.rA d.rs.length d.rc, .slice d.zA d.zs.length d.zc, .slice d.lA d.ls.length d.lc] := Bx.mk' w w.heap.size #[.slice d.rA d.rs.length d.rc, .slice d.zA d.zs.length d.zc, .slice d.lA d.ls.length d.lc] _ rfl
  have HDr := Lib.hid hd.r
  obtain ⟨Q, hQ⟩ : ∃ Q, d.of N = Q := ⟨_, rfl⟩
  have HQ := Lib.hid hQ
  rw [hQ]
  clear hQ hd
  obtain ⟨rA, rc, rs, zA, zc, zs, lA, lc, ls⟩ := d
  have e0 := hbx.at_ 0 _ rfl
  unfold Sd.of at HQ
  dsimp only at HDr HQ hz hb hbx e0
  dsimp only [Sd.val] at ⊢
  generalize hnr : rs.length = nr at *
  generalize hnz : zs.length = nz at *
  generalize hnl : ls.length = nl at *
  have HNr := Lib.hid hnr
  clear hnr hnz hnl
  generalize hw1 : w.alloc (.cells #[.slice rA nr rc, .slice zA nz zc, .slice lA nl lc] 26) = w1 at *
  have HB := Lib.hid hb
  have hs1 : w1.heap.size = w.heap.size + 1 := by rw [← hw1]; simp
  clear hb hbx
  go_enter Tryd.func11, Tryd.ntmps11
  go_wp2_with fail
  go_loopw [5, 11] (fun v i wr => ∃ (k : Nat) (L : List Ru), k ≤ nr ∧ i = .int .i64 k ∧ Hid (L = (rs.take k).filter fun r => decide (r.nm.toList = N.toList)) ∧ Hid (wr.ownsRow (w.heap.size + 1) 34 11 v L.length (L.flatMap rcell)) ∧ Below (w.heap.size + 1) w1 wr) (fun _ i _ => nr - (intOf i).toNat)
  case atStart => exact ⟨0, [], Nat.zero_le _, rfl, Lib.hid (by rw [List.take_zero]; rfl), Lib.hid (World.ownsRow_nil _ _ _ _), Below.refl _ _⟩
  case round =>
    obtain ⟨k, L, hk, rfl, hL, hO, bw⟩ := hrel
    have aw := HB.out.trans (bw.mono (by omega))
    have hsz : w.heap.size + 1 ≤ wr.heap.size := by have := bw.size; omega
    by_cases hlt : k < nr
    · obtain ⟨x, hx⟩ : ∃ x, rs[k]? = some x := ⟨_, List.getElem?_eq_getElem (by rw [HNr.out]; exact hlt)⟩
      obtain ⟨b, o, rfl, hb, hc⟩ := (HDr.out.below aw).at_ rcell_len (by decide) hx
      have c0 : wr.cell? ⟨b, o + k * 11, none⟩ = some (Value.string x.nm) := hc 0 _ rfl
      have c1 : wr.cell? ⟨b, o + k * 11 + 1, none⟩ = some (Value.int .i64 x.fr) := hc 1 _ rfl
      have c2 : wr.cell? ⟨b, o + k * 11 + 2, none⟩ = some (Value.int .i64 x.tl) := hc 2 _ rfl
      have c3 : wr.cell? ⟨b, o + k * 11 + 3, none⟩ = some (Value.int .i64 x.m) := hc 3 _ rfl
      have c4 : wr.cell? ⟨b, o + k * 11 + 4, none⟩ = some (Value.int .u8 x.k) := hc 4 _ rfl
      have c5 : wr.cell? ⟨b, o + k * 11 + 5, none⟩ = some (Value.int .i64 x.n) := hc 5 _ rfl
      have c6 : wr.cell? ⟨b, o + k * 11 + 6, none⟩ = some (Value.int .i64 x.d) := hc 6 _ rfl
      have c7 : wr.cell? ⟨b, o + k * 11 + 7, none⟩ = some (Value.int .i64 x.s) := hc 7 _ rfl
      have c8 : wr.cell? ⟨b, o + k * 11 + 8, none⟩ = some (Value.int .u8 x.c) := hc 8 _ rfl
      have c9 : wr.cell? ⟨b, o + k * 11 + 9, none⟩ = some (Value.int .i64 x.sv) := hc 9 _ rfl
      have c10 : wr.cell? ⟨b, o + k * 11 + 10, none⟩ = some (Value.string x.lt) := hc 10 _ rfl
      have hfs := filter_snoc (fun r : Ru => decide (r.nm.toList = N.toList)) rs k x hx
      rw [← hL.out] at hfs
      have hlen : L.length ≤ 4096 := by
        have h1 : L.length ≤ (rs.take k).length := by rw [hL.out]; exact List.length_filter_le _ _
        rw [List.length_take, HNr.out] at h1
        omega
      have q1 := box_below wr (.cells #[.string x.nm, .int .i64 x.fr, .int .i64 x.tl, .int .i64 x.m, .int .u8 x.k, .int .i64 x.n, .int .i64 x.d, .int .i64 x.s, .int .u8 x.c, .int .i64 x.sv, .string x.lt] 34)
      have bq1 := bw.trans (q1.mono hsz)
      have hO1 := own_on hO.out q1
      by_cases hnm : x.nm.toList = N.toList
      · have hnb : (x.nm.toList == N.toList) = true := by simpa using hnm
        rw [if_pos (by simpa using hnm)] at hfs
        have HFS := Lib.hid hfs
        have q2 := box_below (wr.alloc (.cells #[.string x.nm, .int .i64 x.fr, .int .i64 x.tl, .int .i64 x.m, .int .u8 x.k, .int .i64 x.n, .int .i64 x.d, .int .i64 x.s, .int .u8 x.c, .int .i64 x.sv, .string x.lt] 34)) (.cells #[.string x.nm, .int .i64 x.fr, .int .i64 x.tl, .int .i64 x.m, .int .u8 x.k, .int .i64 x.n, .int .i64 x.d, .int .i64 x.s, .int .u8 x.c, .int .i64 x.sv, .string x.lt] 34)
        have HO2 := Lib.hid (own_on hO1 q2)
        have bq := bq1.trans (q2.mono (by simp; omega))
        have hsw : (wr.alloc (.cells #[.string x.nm, .int .i64 x.fr, .int .i64 x.tl, .int .i64 x.m, .int .u8 x.k, .int .i64 x.n, .int .i64 x.d, .int .i64 x.s, .int .u8 x.c, .int .i64 x.sv, .string x.lt] 34)).heap.size = wr.heap.size + 1 := by simp
        have hB2 := Bx.mk' (wr.alloc (.cells #[.string x.nm, .int .i64 x.fr, .int .i64 x.tl, .int .i64 x.m, .int .u8 x.k, .int .i64 x.n, .int .i64 x.d, .int .i64 x.s, .int .u8 x.c, .int .i64 x.sv, .string x.lt] 34)) (wr.heap.size + 1) #[.string x.nm, .int .i64 x.fr, .int .i64 x.tl, .int .i64 x.m, .int .u8 x.k, .int .i64 x.n, .int .i64 x.d, .int .i64 x.s, .int .u8 x.c, .int .i64 x.sv, .string x.lt] 34 (by simp)
        have HB2 := Lib.hid hB2
        clear hc hx q1 q2 hO bw bq1 hO1 hfs hB2
        go_wp2_with (at_builtin; refine wpList_ap_rule rfl (.tmp 19) (.tmp 21) rfl (w.heap.size + 1) _ L.length (L.flatMap rcell) rfl HO2.out (wr.heap.size + 1) 1 (rcell x) rfl rfl (fun j u hu => HB2.out.at_ j u hu) (rcell_one x) (by omega) (by have := bq.size; omega) ?_; intro g cap w8 hown1 hg1 _ _)
        have bw8 := bq.grown hg1 (by have := bq.size; omega) (own_base HO2.out)
        have HO8 : Hid (w8.ownsRow (w.heap.size + 1) 34 11 (.slice (some ⟨g, 0, none⟩) (L.length + 1) cap) (L ++ [x]).length ((L ++ [x]).flatMap rcell)) := Lib.hid (by rw [flat_snoc, List.length_append]; exact hown1)
        clear hown1 hg1 bq HO2 HB2
        go_wp2_with fail
        go_roundw
        case rel => exact ⟨k + 1, L ++ [x], by omega, by go_num, Lib.hid HFS.out.symm, HO8, bw8⟩
        case measure => simp [intOf]; omega
      · have hnb : (x.nm.toList == N.toList) = false := by simpa using hnm
        rw [if_neg (by simpa using hnm), List.append_nil] at hfs
        have HFS := Lib.hid hfs
        have HO1 := Lib.hid hO1
        clear hc hx q1 hO bw hO1 hfs
        go_wp2_with fail
        go_roundw
        case rel => exact ⟨k + 1, L, by omega, by go_num, Lib.hid HFS.out.symm, HO1, bq1⟩
        case measure => simp [intOf]; omega
    · obtain rfl : k = nr := by omega
      have htz : rs.take k = rs := List.take_of_length_le (by rw [HNr.out]; exact Nat.le_refl _)
      have hL2 := hL.out
      rw [htz, HQ.out] at hL2
      subst hL2
      have hO2 := rulE_of (w := w) hO.out (Nat.le_succ _)
      clear hO
      go_wp2_with fail
      go_ret
      exact ⟨hO2, aw⟩
end Go.Proofs.YthlbockphdbpkaaDoor
