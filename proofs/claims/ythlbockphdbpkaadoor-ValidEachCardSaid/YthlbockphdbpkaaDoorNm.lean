/- A source's names: source.Names. -/
import Derived.Test.YthlbockphdbpkaaDoorSd0
namespace Go.Proofs.YthlbockphdbpkaaDoor
open Go.RowKit
set_option maxRecDepth 100000
def Sd.names (d : Sd) : List ByteArray := d.zs.map Zd.nm ++ d.ls.map Lk.nm
theorem one_tl (w : World) (s : ByteArray) : Tl (w.alloc (.cells #[.string s] 9)) (.slice (some ⟨w.heap.size, 0, none⟩) 1 1) [s] :=
  .inr ⟨⟨w.heap.size, 0, none⟩, 1, rfl, by simp, fun j hj => by
    obtain rfl : j = 0 := by simpa using hj
    rw [addr_at]
    exact (Bx.mk' w w.heap.size #[.string s] 9 rfl).at_ 0 _ rfl⟩
theorem take_map_snoc {α : Type} (f : α → ByteArray) (l : List α) (k : Nat) (x : α) (h : l[k]? = some x) : (l.take (k + 1)).map f = (l.take k).map f ++ [f x] := by
  obtain ⟨hk, e⟩ := List.getElem?_eq_some_iff.1 h
  rw [List.take_succ_eq_append_getElem hk, List.map_append, e]
  rfl
set_option maxHeartbeats 8000000 in
theorem names_any (d : Sd) (w : World) (hd : d.at_ w w.heap.size) (hz : d.zs.length + d.ls.length ≤ 4096) :
    Calls Tryd.prog 9 #[d.val] w fun e w' => RowE w w' d.names e ∧ Below w.heap.size w w' := by
  have hb := box_below w (.cells #[.slice d.rA d.rs.length d.rc, .slice d.zA d.zs.length d.zc, .slice d.lA d.ls.length d.lc] 26)
  have hbx : Bx (w.alloc (.cells #[.slice d.rA d.rs.length d.rc, .slice d.zA d.zs.length d.zc, .slice d.lA d.ls.length d.lc] 26)) w.heap.size [.slice d.rA d.rs.length d.rc, .slice d.zA d.zs.length d.zc, .slice d.lA d.ls.length d.lc] := Bx.mk' w w.heap.size #[.slice d.rA d.rs.length d.rc, .slice d.zA d.zs.length d.zc, .slice d.lA d.ls.length d.lc] _ rfl
  have HDz := Lib.hid hd.z
  have HDl := Lib.hid hd.l
  obtain ⟨Q, hQ⟩ : ∃ Q, d.names = Q := ⟨_, rfl⟩
  have HQ := Lib.hid hQ
  rw [hQ]
  clear hQ hd
  obtain ⟨rA, rc, rs, zA, zc, zs, lA, lc, ls⟩ := d
  have c1 := hbx.at_ 1 _ rfl
  have c2 := hbx.at_ 2 _ rfl
  have hl1 := hbx.lt
  unfold Sd.names at HQ
  dsimp only at HDz HDl HQ hz hb hbx c1 c2
  dsimp only [Sd.val] at ⊢
  generalize hnr : rs.length = nr at *
  generalize hnz : zs.length = nz at *
  generalize hnl : ls.length = nl at *
  have HNz := Lib.hid hnz
  have HNl := Lib.hid hnl
  clear hnr hnz hnl
  generalize hw1 : w.alloc (.cells #[.slice rA nr rc, .slice zA nz zc, .slice lA nl lc] 26) = w1 at *
  have HB := Lib.hid hb
  have hs1 : w1.heap.size = w.heap.size + 1 := by rw [← hw1]; simp
  clear hb hbx
  go_enter Tryd.func9, Tryd.ntmps9
  go_wp2_with fail
  go_loopw [3, 11] (fun v i wr => ∃ k : Nat, k ≤ nz ∧ i = .int .i64 k ∧ Hid (wr.ownsRow (w.heap.size + 1) 9 1 v ((zs.take k).map Zd.nm).length (((zs.take k).map Zd.nm).map Value.string)) ∧ Below (w.heap.size + 1) w1 wr) (fun _ i _ => nz - (intOf i).toNat)
  case atStart => exact ⟨0, Nat.zero_le _, rfl, Lib.hid (by rw [List.take_zero]; exact World.ownsRow_nil _ _ _ _), Below.refl _ _⟩
  case round =>
    obtain ⟨k, hk, rfl, hO, bw⟩ := hrel
    have aw := HB.out.trans (bw.mono (by omega))
    have hsz : w.heap.size + 1 ≤ wr.heap.size := by have := bw.size; omega
    by_cases hlt : k < nz
    · obtain ⟨x, hx⟩ : ∃ x, zs[k]? = some x := ⟨_, List.getElem?_eq_getElem (by rw [HNz.out]; exact hlt)⟩
      obtain ⟨b, o, rfl, hb, hc⟩ := (HDz.out.below aw).at_ zcell_len (by decide) hx
      have c0' : wr.cell? ⟨b, o + k * 2, none⟩ = some (Value.string x.nm) := hc 0 _ rfl
      have c1' : wr.cell? ⟨b, o + k * 2 + 1, none⟩ = some (Value.slice x.A x.es.length x.c) := hc 1 _ rfl
      have HSN := Lib.hid (take_map_snoc Zd.nm zs k x hx)
      have hlen : ((zs.take k).map Zd.nm).length = k := by rw [List.length_map, List.length_take, HNz.out]; omega
      have q1 := box_below wr (.cells #[.string x.nm, .slice x.A x.es.length x.c] 37)
      have q2 := box_below (wr.alloc (.cells #[.string x.nm, .slice x.A x.es.length x.c] 37)) (.cells #[.string x.nm] 9)
      have HO2 := Lib.hid (own_on (own_on hO.out q1) q2)
      have HT2 := Lib.hid (one_tl (wr.alloc (.cells #[.string x.nm, .slice x.A x.es.length x.c] 37)) x.nm)
      have bq := (bw.trans (q1.mono hsz)).trans (q2.mono (by simp; omega))
      have hsw : (wr.alloc (.cells #[.string x.nm, .slice x.A x.es.length x.c] 37)).heap.size = wr.heap.size + 1 := by simp
      rw [hsw] at HT2
      clear hc hx q1 q2 hO bw
      go_wp2_with (at_builtin; refine wpList_tl rfl (.tmp 15) (.tmp 18) rfl (w.heap.size + 1) _ ((zs.take k).map Zd.nm) HO2.out rfl _ [x.nm] rfl HT2.out (by rw [hlen]; simp only [List.length_singleton]; omega) (by have := bq.size; omega) ?_; intro v1' w8 hown1 hg1)
      have bw8 := bq.grown hg1 (by have := bq.size; omega) (own_base HO2.out)
      rw [← HSN.out] at hown1
      have HO8 := Lib.hid hown1
      clear hown1 hg1 bq HO2 HT2
      go_wp2_with fail
      go_roundw
      case rel => exact ⟨k + 1, by omega, by go_num, HO8, bw8⟩
      case measure => simp [intOf]; omega
    · obtain rfl : k = nz := by omega
      have d2 := (bw.cell (p := ⟨w.heap.size, 2, none⟩) (Nat.lt_succ_self _)).trans c2
      have htz : zs.take k = zs := List.take_of_length_le (by rw [HNz.out]; exact Nat.le_refl _)
      rw [htz] at hO
      clear c1 c2 aw
      go_wp2_with fail
      go_loopw [3, 24] (fun v i wr => ∃ j : Nat, j ≤ nl ∧ i = .int .i64 j ∧ Hid (wr.ownsRow (w.heap.size + 1) 9 1 v (zs.map Zd.nm ++ (ls.take j).map Lk.nm).length ((zs.map Zd.nm ++ (ls.take j).map Lk.nm).map Value.string)) ∧ Below (w.heap.size + 1) w1 wr) (fun _ i _ => nl - (intOf i).toNat)
      case atStart => exact ⟨0, Nat.zero_le _, rfl, Lib.hid (by rw [List.take_zero, List.map_nil, List.append_nil]; exact hO.out), bw⟩
      case round =>
        clear hsz bw hO
        obtain ⟨j, hj, rfl, hO, bw⟩ := hrel
        have aw := HB.out.trans (bw.mono (by omega))
        have hsz : w.heap.size + 1 ≤ wr.heap.size := by have := bw.size; omega
        by_cases hlt2 : j < nl
        · obtain ⟨x, hx⟩ : ∃ x, ls[j]? = some x := ⟨_, List.getElem?_eq_getElem (by rw [HNl.out]; exact hlt2)⟩
          obtain ⟨b, o, rfl, hb, hc⟩ := (HDl.out.below aw).at_ lcell_len (by decide) hx
          have c0' : wr.cell? ⟨b, o + j * 2, none⟩ = some (Value.string x.tg) := hc 0 _ rfl
          have c1' : wr.cell? ⟨b, o + j * 2 + 1, none⟩ = some (Value.string x.nm) := hc 1 _ rfl
          have HSN := Lib.hid (take_map_snoc Lk.nm ls j x hx)
          have hlen : (zs.map Zd.nm ++ (ls.take j).map Lk.nm).length = k + j := by rw [List.length_append, List.length_map, List.length_map, List.length_take, HNz.out, HNl.out]; omega
          have q1 := box_below wr (.cells #[.string x.tg, .string x.nm] 56)
          have q2 := box_below (wr.alloc (.cells #[.string x.tg, .string x.nm] 56)) (.cells #[.string x.nm] 9)
          have HO2 := Lib.hid (own_on (own_on hO.out q1) q2)
          have HT2 := Lib.hid (one_tl (wr.alloc (.cells #[.string x.tg, .string x.nm] 56)) x.nm)
          have bq := (bw.trans (q1.mono hsz)).trans (q2.mono (by simp; omega))
          have hsw : (wr.alloc (.cells #[.string x.tg, .string x.nm] 56)).heap.size = wr.heap.size + 1 := by simp
          rw [hsw] at HT2
          clear hc hx q1 q2 hO bw
          go_wp2_with (at_builtin; refine wpList_tl rfl (.tmp 28) (.tmp 31) rfl (w.heap.size + 1) _ (zs.map Zd.nm ++ (ls.take j).map Lk.nm) HO2.out rfl _ [x.nm] rfl HT2.out (by rw [hlen]; simp only [List.length_singleton]; omega) (by have := bq.size; omega) ?_; intro v1' w8 hown1 hg1)
          have bw8 := bq.grown hg1 (by have := bq.size; omega) (own_base HO2.out)
          rw [List.append_assoc, ← HSN.out] at hown1
          have HO8 := Lib.hid hown1
          clear hown1 hg1 bq HO2 HT2
          go_wp2_with fail
          go_roundw
          case rel => exact ⟨j + 1, by omega, by go_num, HO8, bw8⟩
          case measure => simp [intOf]; omega
        · obtain rfl : j = nl := by omega
          have htl : ls.take j = ls := List.take_of_length_le (by rw [HNl.out]; exact Nat.le_refl _)
          rw [htl, HQ.out] at hO
          have hO2 := rowE_of (w := w) (own_mono hO.out (Nat.le_succ _))
          clear hO
          go_wp2_with fail
          go_ret
          exact ⟨hO2, aw⟩
end Go.Proofs.YthlbockphdbpkaaDoor
