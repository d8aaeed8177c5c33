/- link.Zone, link.Chain. -/
import Derived.Test.YthlbockphdbpkaaDoorNo
namespace Go.Proofs.YthlbockphdbpkaaDoor
open Go.RowKit Go.Maps
set_option maxRecDepth 100000
/-- What is asked of a source whose names are followed. -/
structure Lok (d : Sd) (W : World) : Prop where
  at_ : d.at_ W W.heap.size
  sz : d.zs.length + d.ls.length ≤ 1000
  ls : ∀ k ∈ d.ls, k.tg.size ≤ 9223372036854775807 ∧ k.nm.size ≤ 9223372036854775807
  zs : ∀ z ∈ d.zs, z.nm.size ≤ 9223372036854775807
theorem Lok.on {d : Sd} {W W' : World} (h : Lok d W) (hb : Below W.heap.size W W') : Lok d W' := ⟨h.at_.on hb, h.sz, h.ls, h.zs⟩
def Sd.Z (d : Sd) : List ByteArray := d.zs.map Zd.nm
theorem lof_any (d : Sd) (w : World) (h : Lok d w) :
    Calls Tryd.prog 20 #[d.val] w fun e w' => (∃ g D, e = .returned (.pointer (some ⟨g, 0, none⟩)) ∧ Full w' d.Z d.ls g D) ∧ Below w.heap.size w w' := of_any d w h.at_ h.sz h.ls h.zs
set_option maxHeartbeats 1000000 in
theorem lzone_any (d : Sd) (x : ByteArray) (w : World) (h : Lok d w) (hx : x.size ≤ 9223372036854775807) :
    Calls Tryd.prog 10 #[d.val, .string x] w fun e w' => e = .returned (.tuple #[.int .i64 (Ld.zn d.Z d.ls x).1, .int .i64 (Ld.zn d.Z d.ls x).2]) ∧ Below w.heap.size w w' := by
  have hb := box_below w (.cells #[.slice d.rA d.rs.length d.rc, .slice d.zA d.zs.length d.zc, .slice d.lA d.ls.length d.lc] 26)
  have HC := Lib.hid (lof_any d _ (h.on hb))
  go_enter Tryd.func10, Tryd.ntmps10
  go_wp2_with fail
  refine HC.out.mono ?_
  rintro e w1 ⟨⟨g, D, rfl, hF⟩, b1⟩
  have HZ := Lib.hid (nzone_any d.Z d.ls g D x w1 hF hx)
  have HB := Lib.hid (hb.trans (b1.mono hb.size))
  clear hb b1 hF HC h
  go_wp2_with fail
  refine HZ.out.mono ?_
  rintro e w2 ⟨rfl, rfl⟩
  go_wp2_with fail
  go_ret2
  exact ⟨rfl, HB.out⟩
/-- The first k names by which a name leads. -/
def Ld.chs (Z : List ByteArray) (K : List Lk) (x : ByteArray) (k : Nat) : List ByteArray := (List.range k).map fun j => Ld.it Z K j x
theorem chs_succ (Z : List ByteArray) (K : List Lk) (x : ByteArray) (k : Nat) : Ld.chs Z K x (k + 1) = Ld.chs Z K x k ++ [Ld.it Z K k x] := by
  unfold Ld.chs
  rw [List.range_succ, List.map_append]
  rfl
theorem chs_len (Z : List ByteArray) (K : List Lk) (x : ByteArray) (k : Nat) : (Ld.chs Z K x k).length = k := by
  unfold Ld.chs
  rw [List.length_map, List.length_range]
theorem chs_mem {Z : List ByteArray} {K : List Lk} {x y : ByteArray} {k : Nat} : y ∈ Ld.chs Z K x k ↔ ∃ j, j < k ∧ Ld.it Z K j x = y := by
  unfold Ld.chs
  rw [List.mem_map]
  exact ⟨fun ⟨j, hj, e⟩ => ⟨j, List.mem_range.1 hj, e⟩, fun ⟨j, hj, e⟩ => ⟨j, List.mem_range.2 hj, e⟩⟩
/-- No more names than links come ahead of an end. -/
theorem chs_le {Z : List ByteArray} {K : List Lk} {x : ByteArray} {k : Nat} (hd : (Ld.chs Z K x k).Nodup) (hn : ∀ j, j < k → Ld.nx Z K (Ld.it Z K j x) ≠ none) : k ≤ K.length := by
  have := hd.length_le_of_subset (l₂ := K.map Lk.nm) (fun y hy => by
    obtain ⟨j, hj, rfl⟩ := chs_mem.1 hy
    obtain ⟨t, ht⟩ := Option.ne_none_iff_exists'.1 (hn j hj)
    exact (nx_link ht).2.1)
  rw [chs_len, List.length_map] at this
  exact this
/-- The map has 1 at these texts. -/
def Ones (L : List ByteArray) (M : DataW Unit) : Prop := ∀ y, M.atKey (mkey y) (.lit (.int .i64 0)) = .lit (.int .i64 (if Ld.inb y L then 1 else 0))
theorem ones_nil : Ones [] (.map []) := fun _ => rfl
theorem ones_put {L : List ByteArray} {M : DataW Unit} {x : ByteArray} (h : Ones L M) (hM : IsMap M) (hs : x.size ≤ 9223372036854775807) : Ones (L ++ [x]) (M.put (mkey x) (.lit (.int .i64 1))) := fun y => by
  by_cases e : y = x
  · subst e
    rw [atKey_put_same hM (mkey_key hs), if_pos (inb_iff.2 (List.mem_append.2 (.inr (List.mem_singleton.2 rfl))))]
  · rw [atKey_put_other (mkey_ne e), h y]
    have : Ld.inb y (L ++ [x]) = Ld.inb y L := by
      rw [Bool.eq_iff_iff, inb_iff, inb_iff, List.mem_append]
      exact ⟨fun h => h.resolve_right (fun h' => e (List.mem_singleton.1 h')), .inl⟩
    rw [this]
/-- What a chain is. -/
def ChainP (Z : List ByteArray) (K : List Lk) (x : ByteArray) (k : Nat) : Prop :=
  0 < k ∧ k ≤ K.length + 1 ∧ (Ld.chs Z K x k).Nodup ∧ (∀ j, j + 1 < k → Ld.nx Z K (Ld.it Z K j x) ≠ none) ∧ (Ld.nx Z K (Ld.it Z K (k - 1) x) = none ∨ (Ld.nx Z K (Ld.it Z K (k - 1) x) ≠ none ∧ ∃ j, j < k ∧ Ld.it Z K k x = Ld.it Z K j x))
theorem ones_run {W : World} {b n : Nat} {M : DataW Unit} {L : List ByteArray} {y : ByteArray} (hm : MapAt W b n M) (ho : Ones L M) (hs : y.size ≤ 9223372036854775807) :
    (Instr.lookup 76 (.map (some b)) (.string y) false).run Tryd.prog W = .ok (.int .i64 (if Ld.inb y L then 1 else 0)) W := by
  obtain ⟨c, hrun, hat, _⟩ := World.ownsMap.lookup_int hm str_keyed Tryd.underlying76 Tryd.underlying3 (zero_int _) (key_of hs)
  have := (ho y).symm.trans hat
  injection this with this
  injection this with _ this
  rw [hrun, this]
theorem chs_pre {Z : List ByteArray} {K : List Lk} {x : ByteArray} {k : Nat} (h : (Ld.chs Z K x (k + 1)).Nodup) : (Ld.chs Z K x k).Nodup := by
  rw [chs_succ] at h
  exact (List.nodup_append.1 h).1
theorem it_size {Z : List ByteArray} {K : List Lk} {x : ByteArray} (hx : x.size ≤ 9223372036854775807) (hs : ∀ k ∈ K, k.tg.size ≤ 9223372036854775807) : ∀ n, (Ld.it Z K n x).size ≤ 9223372036854775807
  | 0 => hx
  | n + 1 => by
    show (Ld.st Z K (Ld.it Z K n x)).size ≤ _
    cases e : Ld.nx Z K (Ld.it Z K n x) with
    | none => rw [st_none e]; exact it_size hx hs n
    | some y =>
      rw [st_some e]
      obtain ⟨k, hk, rfl⟩ := List.mem_map.1 (nx_link e).2.2
      exact hs k hk
/-- How far a chain is followed: the name at hand, and whether it goes on. -/
structure ChF (Z : List ByteArray) (K : List Lk) (x : ByteArray) (k : Nat) (y : ByteArray) (c : Bool) : Prop where
  dis : (Ld.chs Z K x k).Nodup
  on : c = true → y = Ld.it Z K k x ∧ ∀ j, j < k → Ld.nx Z K (Ld.it Z K j x) ≠ none
  off : c = false → 0 < k ∧ Ld.nx Z K (Ld.it Z K (k - 1) x) = none ∧ ∀ j, j + 1 < k → Ld.nx Z K (Ld.it Z K j x) ≠ none
  ys : y.size ≤ 9223372036854775807
theorem chf_off {Z : List ByteArray} {K : List Lk} {x y : ByteArray} {k : Nat} (h : ChF Z K x k y false) : ChainP Z K x k := by
  obtain ⟨h0, h1, h2⟩ := h.off rfl
  refine ⟨h0, ?_, h.dis, h2, .inl h1⟩
  obtain ⟨j, rfl⟩ : ∃ j, k = j + 1 := ⟨k - 1, by omega⟩
  have := chs_le (chs_pre h.dis) (fun i hi => h2 i (by omega))
  omega
theorem chf_again {Z : List ByteArray} {K : List Lk} {x y : ByteArray} {k : Nat} (h : ChF Z K x k y true) (hi : Ld.inb y (Ld.chs Z K x k) = true) : ChainP Z K x k := by
  obtain ⟨rfl, h2⟩ := h.on rfl
  obtain ⟨j, hj, e⟩ := chs_mem.1 (inb_iff.1 hi)
  have hk := chs_le h.dis h2
  exact ⟨by omega, by omega, h.dis, fun i hi => h2 i (by omega), .inr ⟨h2 _ (by omega), j, hj, e.symm⟩⟩
theorem chf_dis {Z : List ByteArray} {K : List Lk} {x : ByteArray} {k : Nat} (h : (Ld.chs Z K x k).Nodup) (hi : Ld.inb (Ld.it Z K k x) (Ld.chs Z K x k) = false) : (Ld.chs Z K x (k + 1)).Nodup := by
  rw [chs_succ]
  refine List.nodup_append.2 ⟨h, (List.nodup_cons.2 ⟨by simp, List.nodup_nil⟩), fun a ha b hb e => ?_⟩
  rw [List.mem_singleton.1 hb] at e
  exact inb_no.1 hi (e ▸ ha)
theorem chf_next {Z : List ByteArray} {K : List Lk} {x y z : ByteArray} {k : Nat} (h : ChF Z K x k y true) (hi : Ld.inb y (Ld.chs Z K x k) = false) (hz : Ld.nx Z K y = some z) (hs : z.size ≤ 9223372036854775807) : ChF Z K x (k + 1) z true := by
  obtain ⟨rfl, h2⟩ := h.on rfl
  refine ⟨chf_dis h.dis hi, fun _ => ⟨(st_some hz).symm, fun j hj => ?_⟩, fun e => (by cases e), hs⟩
  by_cases hjk : j < k
  · exact h2 j hjk
  · obtain rfl : j = k := by omega
    rw [hz]
    exact fun e => by cases e
theorem chf_stop {Z : List ByteArray} {K : List Lk} {x y : ByteArray} {k : Nat} (h : ChF Z K x k y true) (hi : Ld.inb y (Ld.chs Z K x k) = false) (hz : Ld.nx Z K y = none) : ChF Z K x (k + 1) ⟨#[]⟩ false := by
  obtain ⟨rfl, h2⟩ := h.on rfl
  exact ⟨chf_dis h.dis hi, fun e => (by cases e), fun _ => ⟨by omega, hz, fun j hj => h2 j (by omega)⟩, by decide⟩
set_option maxHeartbeats 8000000 in
theorem lchain_any (d : Sd) (x : ByteArray) (w : World) (h : Lok d w) (hx : x.size ≤ 9223372036854775807) :
    Calls Tryd.prog 17 #[d.val, .string x] w fun e w' => (∃ k, ChainP d.Z d.ls x k ∧ RowE w w' (Ld.chs d.Z d.ls x k) e) ∧ Below w.heap.size w w' := by
  have hb := box_below w (.cells #[.slice d.rA d.rs.length d.rc, .slice d.zA d.zs.length d.zc, .slice d.lA d.ls.length d.lc] 26)
  have HC := Lib.hid (lof_any d _ (h.on hb))
  have hmm := @run_makeMap Tryd.prog
  have hsz := h.sz
  have HS := Lib.hid h.ls
  have hN : (Ld.all d.Z d.ls).length ≤ 4294967296 := by
    unfold Sd.Z
    rw [all_len, List.length_map]
    omega
  clear h
  go_enter Tryd.func17, Tryd.ntmps17
  go_wp2_with fail
  refine HC.out.mono ?_
  rintro e w1 ⟨⟨g, D, rfl, hF⟩, b1⟩
  have HB1 := Lib.hid (hb.trans (b1.mono hb.size))
  have hs1 : w.heap.size < w1.heap.size := by have := b1.size; simp at this; omega
  have HF := Lib.hid hF.nm
  have HM := Lib.hid (World.ownsMap_made (H := Unit) w1 Tryd.prog 9 (plainElem Tryd.prog 3))
  clear hb b1 HC hF
  generalize hnl : d.ls.length = m at *
  have HNL := Lib.hid hnl
  clear hnl
  go_wp2_with fail
  clear hmm
  go_loopg [1, 6, 8] (m + 2) (fun gk s1 s6 s8 wr => ∃ (k : Nat) (y : ByteArray) (c : Bool) (M : DataW Unit), k + gk = m + 2 ∧ s1 = .string y ∧ s8 = .bool c ∧ Hid (MapAt wr w1.heap.size k M) ∧ Hid (Ones (Ld.chs d.Z d.ls x k) M) ∧ Hid (wr.ownsRow (w1.heap.size + 1) 9 1 s6 k ((Ld.chs d.Z d.ls x k).map Value.string)) ∧ Hid (ChF d.Z d.ls x k y c) ∧ Hid (Below w1.heap.size w1 wr) ∧ w1.heap.size < wr.heap.size)
  case atStart => exact ⟨0, x, true, _, by omega, rfl, rfl, HM, Lib.hid ones_nil, Lib.hid (World.ownsRow_nil _ _ _ _), Lib.hid ⟨List.nodup_nil, fun _ => ⟨rfl, fun j hj => absurd hj (Nat.not_lt_zero _)⟩, fun e => (by cases e), hx⟩, Lib.hid (box_below _ _), by simp⟩
  case round =>
    obtain ⟨k, y, c, M, hk, rfl, rfl, HM, HO, HR, HC, HB, hsz2⟩ := hrel
    have hys := HC.out.ys
    have HRW : Hid (∀ k', k' = k → RowE w wr (Ld.chs d.Z d.ls x k) (.returned u6)) := Lib.hid fun _ _ => rowE_of (own_mono (by rw [chs_len]; exact HR.out) (by omega))
    have HBW := Lib.hid (HB1.out.trans (HB.out.mono HB1.out.size))
    cases c with
    | false =>
      go_wp2_with fail
      go_ret
      exact ⟨⟨k, chf_off HC.out, HRW.out k rfl⟩, HBW.out⟩
    | true =>
      have hrun := ones_run HM.out HO.out hys
      by_cases hi : Ld.inb y (Ld.chs d.Z d.ls x k) = true
      · rw [if_pos hi] at hrun
        have hi2 := Lib.hid hi
        clear hi
        go_wp2_with fail
        go_ret
        exact ⟨⟨k, chf_again HC.out hi2.out, HRW.out k rfl⟩, HBW.out⟩
      · have hif : Ld.inb y (Ld.chs d.Z d.ls x k) = false := by simpa using hi
        rw [hif] at hrun
        change (Instr.lookup 76 (.map (some w1.heap.size)) (.string y) false).run Tryd.prog wr = .ok (.int .i64 0) wr at hrun
        have HI := Lib.hid hif
        clear hi hif
        have hkm : k ≤ m := by
          have := chs_le HC.out.dis (HC.out.on rfl).2
          rw [HNL.out] at this
          exact this
        have hyk := (HC.out.on rfl).1
        have HYK := Lib.hid hyk
        clear hyk
        have hmp := HM.out
        have hlw : w1.heap.size < wr.heap.size := hsz2
        cases hz : Ld.nx d.Z d.ls y with
        | none =>
          have HZ := Lib.hid hz
          clear hz
          have hob : u6.ownBlock ≠ some w1.heap.size := fun e => by have := (HR.out.lt _ e).1; omega
          go_wp2_with (first
            | (at_mapUpdate; refine wpList_mapUpdate_own _ rfl _ _ _ 76 rfl 9 3 str_keyed Tryd.underlying76 _ w1.heap.size k _ rfl hmp (by unfold maxLen; omega) _ _ _ rfl rfl (key_of hys) _ [] (plainElem_int Tryd.underlying3 (by decide)) ?_; intro w4 hown4 hgr4; have HM4 := Lib.hid hown4; have hs4 := hgr4.size; have HR4 : Hid ((w4.alloc (.cells #[.string y] 9)).ownsRow (w1.heap.size + 1) 9 1 u6 (Ld.chs d.Z d.ls x k).length ((Ld.chs d.Z d.ls x k).map Value.string)) := Lib.hid (by rw [chs_len]; exact (HR.out.kept hgr4 (.inr hob)).alloc _); have HB4 : Hid (Below w1.heap.size w1 (w4.alloc (.cells #[.string y] 9))) := Lib.hid ((HB.out.grown hgr4 HB.out.size (fun j e => by injection e with e; omega)).alloc (by omega) _); have HT4 := Lib.hid (one_tl w4 y); clear hown4 hgr4)
            | (at_builtin; refine wpList_tl rfl (.tmp 29) (.tmp 31) rfl (w1.heap.size + 1) _ (Ld.chs d.Z d.ls x k) HR4.out rfl _ [y] rfl HT4.out (by rw [chs_len]; simp only [List.length_singleton]; omega) (by simp; omega) ?_; intro v8 w8 hown8 hg8; have HM8 := Lib.hid (World.ownsMap.kept (World.ownsMap.alloc HM4.out (.cells #[.string y] 9)) hg8 (fun e => hob e.symm)); have hs8 := hg8.size; simp only [World.size_alloc] at hs8; have HB8 : Hid (Below w1.heap.size w1 w8) := Lib.hid (HB4.out.grown hg8 (by simp; omega) (fun j e => by have := (HR4.out.lt j e).1; omega)); have HO8 := Lib.hid hown8; clear hown8 hg8)
            | (go_at_call 28; refine (nnext_any d.Z d.ls g D y _ (HF.out.below HB8.out) hys hN).mono ?_; rw [HZ.out]; dsimp only [NextR]; rintro e w9 ⟨rfl, q, rfl⟩))
          go_roundg (m + 2 - (k + 1))
          case measure => omega
          case rel => exact ⟨k + 1, _, false, _, by omega, rfl, rfl, HM8, Lib.hid (by rw [chs_succ, ← HYK.out]; exact ones_put HO.out (World.ownsMap.isMap HM.out) hys), Lib.hid (by have := HO8.out; rw [HYK.out, ← chs_succ, chs_len] at this; exact this), Lib.hid (chf_stop HC.out HI.out HZ.out), Lib.hid (below_drewN HB8.out _), by show w1.heap.size < w8.heap.size; omega⟩
        | some z =>
          have HZ := Lib.hid hz
          clear hz
          have hob : u6.ownBlock ≠ some w1.heap.size := fun e => by have := (HR.out.lt _ e).1; omega
          go_wp2_with (first
            | (at_mapUpdate; refine wpList_mapUpdate_own _ rfl _ _ _ 76 rfl 9 3 str_keyed Tryd.underlying76 _ w1.heap.size k _ rfl hmp (by unfold maxLen; omega) _ _ _ rfl rfl (key_of hys) _ [] (plainElem_int Tryd.underlying3 (by decide)) ?_; intro w4 hown4 hgr4; have HM4 := Lib.hid hown4; have hs4 := hgr4.size; have HR4 : Hid ((w4.alloc (.cells #[.string y] 9)).ownsRow (w1.heap.size + 1) 9 1 u6 (Ld.chs d.Z d.ls x k).length ((Ld.chs d.Z d.ls x k).map Value.string)) := Lib.hid (by rw [chs_len]; exact (HR.out.kept hgr4 (.inr hob)).alloc _); have HB4 : Hid (Below w1.heap.size w1 (w4.alloc (.cells #[.string y] 9))) := Lib.hid ((HB.out.grown hgr4 HB.out.size (fun j e => by injection e with e; omega)).alloc (by omega) _); have HT4 := Lib.hid (one_tl w4 y); clear hown4 hgr4)
            | (at_builtin; refine wpList_tl rfl (.tmp 29) (.tmp 31) rfl (w1.heap.size + 1) _ (Ld.chs d.Z d.ls x k) HR4.out rfl _ [y] rfl HT4.out (by rw [chs_len]; simp only [List.length_singleton]; omega) (by simp; omega) ?_; intro v8 w8 hown8 hg8; have HM8 := Lib.hid (World.ownsMap.kept (World.ownsMap.alloc HM4.out (.cells #[.string y] 9)) hg8 (fun e => hob e.symm)); have hs8 := hg8.size; simp only [World.size_alloc] at hs8; have HB8 : Hid (Below w1.heap.size w1 w8) := Lib.hid (HB4.out.grown hg8 (by simp; omega) (fun j e => by have := (HR4.out.lt j e).1; omega)); have HO8 := Lib.hid hown8; clear hown8 hg8)
            | (go_at_call 28; refine (nnext_any d.Z d.ls g D y _ (HF.out.below HB8.out) hys hN).mono ?_; rw [HZ.out]; dsimp only [NextR]; rintro e w9 ⟨rfl, q, rfl⟩))
          go_roundg (m + 2 - (k + 1))
          case measure => omega
          case rel => exact ⟨k + 1, _, true, _, by omega, rfl, rfl, HM8, Lib.hid (by rw [chs_succ, ← HYK.out]; exact ones_put HO.out (World.ownsMap.isMap HM.out) hys), Lib.hid (by have := HO8.out; rw [HYK.out, ← chs_succ, chs_len] at this; exact this), Lib.hid (chf_next HC.out HI.out HZ.out (by
            obtain ⟨kk, hkk, rfl⟩ := List.mem_map.1 (nx_link HZ.out).2.2
            exact (HS.out kk hkk).1)), Lib.hid (below_drewN HB8.out _), by show w1.heap.size < w8.heap.size; omega⟩
end Go.Proofs.YthlbockphdbpkaaDoor
