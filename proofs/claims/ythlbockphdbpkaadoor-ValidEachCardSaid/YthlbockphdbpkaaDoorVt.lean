/- Names that were there ahead (package valid): findTwice. -/
import Derived.Test.YthlbockphdbpkaaDoorVp
import Derived.Test.YthlbockphdbpkaaDoorNo
namespace Go.Proofs.YthlbockphdbpkaaDoor
open Go.RowKit Go.Maps
set_option maxRecDepth 100000
theorem cnt_nil : Cnt [] (.map [] : DataW Unit) := fun _ => rfl
theorem twF_in {L : List ByteArray} {k : Nat} {x : ByteArray} (h : 0 < Vd.cnt (L.take k) x) : Vd.twF L k x = [⟨8, x⟩] := by
  unfold Vd.twF
  rw [if_pos (inb_iff.2 (cnt_pos.1 h))]
theorem twF_out {L : List ByteArray} {k : Nat} {x : ByteArray} (h : Vd.cnt (L.take k) x = 0) : Vd.twF L k x = [] := by
  unfold Vd.twF
  rw [if_neg]
  intro hh
  have := cnt_pos.2 (inb_iff.1 hh)
  omega
theorem take_snoc1 {α : Type} {l : List α} {k : Nat} {x : α} (h : l[k]? = some x) : l.take (k + 1) = l.take k ++ [x] := by
  obtain ⟨hk, e⟩ := List.getElem?_eq_some_iff.1 h
  rw [List.take_succ_eq_append_getElem hk, e]
/-- The blocks that findTwice and findRuleless write. -/
def Fm (m g : Nat) (A : Option Addr) (n c : Nat) : Nat → Prop := fun k => k = m ∨ Fx g A n c k
/-- How a loop of theirs stands: the finder, the map, what stays. -/
structure Lp1 (W0 w1 W : World) (d : Sd) (m g : Nat) (A : Option Addr) (n c : Nat) (A' : Option Addr) (c' : Nat) (L : List Fl) (q : Nat) (M : DataW Unit) : Prop where
  fn : Fnd W d g A' c' L
  mp : MapAt W m q M
  mg : g < m
  mw : m < w1.heap.size
  kf : Kf (Fm m g A n c) w1 W
  ob : ∀ k, (Value.slice A' L.length c').ownBlock = some k → (Value.slice A n c).ownBlock = some k ∨ w1.heap.size ≤ k
  om : (Value.slice A n c).ownBlock ≠ some m
theorem Lp1.upd {W0 w1 W W' : World} {d : Sd} {m g : Nat} {A : Option Addr} {n c : Nat} {A' : Option Addr} {c' : Nat} {L : List Fl} {q q' : Nat} {M M' : DataW Unit} (h : Lp1 W0 w1 W d m g A n c A' c' L q M) (hg : W.grownBy W' (some m)) (hm : MapAt W' m q' M') : Lp1 W0 w1 W' d m g A n c A' c' L q' M' :=
  ⟨h.fn.kept hg (fun k e => by injection e with e; rw [← e]; exact h.mg) (fun k e => by
    injection e with e
    subst e
    intro e
    rcases h.ob _ e with e | e
    · exact h.om e
    · have := h.mw; omega), hm, h.mg, h.mw, h.kf.trans (Y := fun k => k = m) ⟨hg.os, hg.tape, hg.output, hg.size, fun k hk hx => hg.block k hk (fun e => hx (by injection e))⟩ (fun i _ e => .inl e), h.ob, h.om⟩
theorem Lp1.put {W0 w1 W W' : World} {d : Sd} {m g : Nat} {A : Option Addr} {n c : Nat} {A' : Option Addr} {c' : Nat} {L L' : List Fl} {q : Nat} {M : DataW Unit} (h : Lp1 W0 w1 W d m g A n c A' c' L q M) (hp : PutE d g A' L.length c' L' W W') : ∃ A2 c2, Lp1 W0 w1 W' d m g A n c A2 c2 L' q M := by
  obtain ⟨A2, c2, hf, hk, ho⟩ := hp
  have hml := World.ownsMap.lt h.mp
  refine ⟨A2, c2, hf, ?_, h.mg, h.mw, h.kf.trans hk (fun i hi hx => ?_), fun k e => ?_, h.om⟩
  · obtain ⟨es, ck, h1, h2⟩ := h.mp
    refine ⟨es, ck, (hk.block m hml ?_).trans h1, h2⟩
    rintro (e | e)
    · have := h.mg; omega
    · rcases h.ob _ e with e | e
      · exact h.om e
      · have := h.mw; omega
  · rcases hx with e | e
    · exact .inr (.inl e)
    · rcases h.ob _ e with e | e
      · exact .inr (.inr e)
      · omega
  · rcases ho k e with e | e
    · exact h.ob k e
    · exact .inr (Nat.le_trans h.kf.size e)
theorem Lp1.on {W0 w1 W W' : World} {d : Sd} {m g : Nat} {A : Option Addr} {n c : Nat} {A' : Option Addr} {c' : Nat} {L : List Fl} {q : Nat} {M : DataW Unit} (h : Lp1 W0 w1 W d m g A n c A' c' L q M) (hb : Below W.heap.size W W') : Lp1 W0 w1 W' d m g A n c A' c' L q M :=
  ⟨h.fn.on hb, h.mp.below hb, h.mg, h.mw, h.kf.trans (Y := fun _ => False) (Kf.of_below hb) (fun _ _ e => e.elim), h.ob, h.om⟩
theorem Lp1.done {W0 w1 W : World} {d : Sd} {m g : Nat} {A : Option Addr} {c : Nat} {A' : Option Addr} {c' : Nat} {L0 L : List Fl} {q : Nat} {M : DataW Unit} (h : Lp1 W0 w1 W d m g A L0.length c A' c' L q M) (hb : Below W0.heap.size W0 w1) (hm : W0.heap.size ≤ m) : PutE d g A L0.length c L W0 W :=
  ⟨A', c', h.fn, ⟨h.kf.os.trans hb.os, h.kf.tape.trans hb.tape, h.kf.output.trans hb.output, Nat.le_trans hb.size h.kf.size, fun k hk hx => (h.kf.block k (Nat.lt_of_lt_of_le hk hb.size) (fun e => e.elim (fun e => by omega) hx)).trans (hb.block k hk)⟩, fun k e => (h.ob k e).imp id (fun e => Nat.le_trans hb.size e)⟩
set_option maxHeartbeats 8000000 in
theorem twice_any (d : Sd) (g : Nat) (A : Option Addr) (c : Nat) (L : List Fl) (W : World) (h : Fnd W d g A c L) (hz : d.zs.length + d.ls.length ≤ 4096) (hs : ∀ x ∈ d.names, x.size ≤ 9223372036854775807) (hL : L.length ≤ 65536) :
    Calls Tryd.prog 24 #[.pointer (some ⟨g, 0, none⟩)] W fun e W' => e = .returned (.tuple #[]) ∧ PutE d g A L.length c (L ++ Vd.tw d.names) W W' := by
  have c0 := cell_blk h.blk 0
  have c1 := cell_blk h.blk 1
  have c2 := cell_blk h.blk 2
  change W.cell? ⟨g, 0, none⟩ = some (.slice d.rA d.rs.length d.rc) at c0
  change W.cell? ⟨g, 1, none⟩ = some (.slice d.zA d.zs.length d.zc) at c1
  change W.cell? ⟨g, 2, none⟩ = some (.slice d.lA d.ls.length d.lc) at c2
  have hg := h.lt
  have hmm := @run_makeMap Tryd.prog
  have bm := box_below W (.map #[] 0)
  have HN := Lib.hid (names_any d (W.alloc (.map #[] 0)) ((h.sd.more (Nat.le_of_lt hg)).on bm) hz)
  have HM := Lib.hid (World.ownsMap_made (H := Unit) W Tryd.prog 9 (plainElem Tryd.prog 3))
  have HF := Lib.hid (h.on bm)
  have HO := Lib.hid h.ow
  have HB := Lib.hid bm
  have hlen : d.names.length ≤ 4096 := by unfold Sd.names; rw [List.length_append, List.length_map, List.length_map]; exact hz
  have HS := Lib.hid hs
  clear h bm hs
  go_enter Tryd.func24, Tryd.ntmps24
  go_wp2_with fail
  clear hmm
  refine HN.out.mono ?_
  rintro e w1 ⟨⟨A2, cc, rfl, hown⟩, b1⟩
  generalize hNN : d.names = N at *
  have HNE := Lib.hid hNN
  clear HN hNN
  have hb1 := b1.size
  have hsa : (W.alloc (.map #[] 0)).heap.size = W.heap.size + 1 := by simp
  rw [hsa] at hb1 hown
  have HW := Lib.hid (hown.lt)
  have HRK := Lib.hid (Rk.of_own hown)
  have HP : Hid (Lp1 W w1 w1 d W.heap.size g A L.length c A c L 0 (.map [])) := Lib.hid ⟨HF.out.on b1, MapAt.below HM.out b1, hg, by omega, Kf.refl _ _, fun k e => .inl e, fun e => by have := (HO.out.lt _ e).2; omega⟩
  have HB1 := Lib.hid (HB.out.trans (b1.mono HB.out.size))
  clear HF HM HB b1 hown
  generalize hn : N.length = n at *
  have HNL := Lib.hid hn
  clear hn
  go_wp2_with fail
  go_loopw [12] (fun i wr => ∃ (k : Nat) (A' : Option Addr) (c' q : Nat) (M : DataW Unit), k ≤ n ∧ i = .int .i64 k ∧ q ≤ k ∧ Hid (Lp1 W w1 wr d W.heap.size g A L.length c A' c' (L ++ Vd.upto (Vd.twF N) N k) q M) ∧ Hid (Cnt (N.take k) M)) (fun i _ => n - (intOf i).toNat)
  case atStart => exact ⟨0, A, c, 0, _, Nat.zero_le _, rfl, Nat.le_refl _, Lib.hid (by show Lp1 _ _ _ _ _ _ _ _ _ _ _ (L ++ []) _ _; rw [List.append_nil]; exact HP.out), Lib.hid cnt_nil⟩
  case round =>
    obtain ⟨k, A', c', q, M, hk, rfl, hq, HL, HC⟩ := hrel
    by_cases hlt : k < n
    · obtain ⟨x, hx⟩ : ∃ x, N[k]? = some x := ⟨_, List.getElem?_eq_getElem (by rw [HNL.out]; exact hlt)⟩
      obtain ⟨b, o, rfl, hb, hc⟩ := HRK.out (by rw [List.length_map, HNL.out]; omega)
      have hb0 := (HW.out b rfl).1
      have cx : wr.cell? ⟨b, o + k, none⟩ = some (.string x) := (HL.out.kf.cell (p := ⟨b, o + k, none⟩) hb (by
        rintro (e | e | e)
        · simp at e; omega
        · simp at e; omega
        · have := (HO.out.lt _ e).2; simp at this; omega)).trans (hc k _ (by rw [List.getElem?_map, hx]; rfl))
      have hxs := HS.out x (List.mem_of_getElem? hx)
      have HU := Lib.hid (upto_snoc (Vd.twF N) N k x hx)
      have HT := Lib.hid (take_snoc1 hx)
      have hcn : Vd.cnt (N.take k) x ≤ 4096 := by
        have := cnt_le (N.take k) x
        rw [List.length_take, HNL.out] at this
        omega
      have HX := Lib.hid (HC.out x)
      have HY := Lib.hid (cnt_put HC.out (World.ownsMap.isMap HL.out.mp) hxs)
      rw [← HT.out] at HY
      obtain ⟨p, hp⟩ : ∃ p, Vd.cnt (N.take k) x = p := ⟨_, rfl⟩
      have HQ := Lib.hid hp
      rw [hp] at hcn HX HY
      clear hx hc hb hp
      have t1 : IntKind.i64.wrap ((p : Int) + 1) = (p : Int) + 1 := IntWalk.i64_in _ (by omega)
      have hup : (Vd.upto (Vd.twF N) N k).length ≤ 1 * k := upto_len (fun k x => by unfold Vd.twF; split <;> simp) k
      have HX7 : ∀ z, (M.put (mkey x) (.lit (.int .i64 ((p : Int) + 1)))).atKey (mkey x) z = .lit (.int .i64 ((p : Int) + 1)) := fun z => by
        rw [atKey_put_same (World.ownsMap.isMap HL.out.mp) (mkey_key hxs)]
      have HX7 := Lib.hid HX7
      by_cases h0 : p = 0
      · subst h0
        rw [twF_out HQ.out] at HU
        have HU2 := Lib.hid (HU.out.trans (List.append_nil _))
        go_wp2_with (first
          | (at_lookup; refine wpList_lookup_own_int _ rfl _ _ 76 rfl 9 3 .i64 str_keyed Tryd.underlying76 Tryd.underlying3 (zero_int _) W.heap.size q _ rfl HL.out.mp _ _ rfl (key_of hxs) ?_; intro cc3 hat hwc; obtain rfl : cc3 = (((0 : Nat) : Int) : Int) := (by have := HX.out.symm.trans hat; injection this with this; injection this with _ this; exact this.symm); clear hat hwc)
          | (at_mapUpdate; refine wpList_mapUpdate_own _ rfl _ _ _ 76 rfl 9 3 str_keyed Tryd.underlying76 _ W.heap.size q _ rfl HL.out.mp (by unfold maxLen; omega) _ _ _ rfl rfl (key_of hxs) _ [] (plainElem_int Tryd.underlying3 (WalkArith.wf_i64 (by omega))) ?_; intro w7 hown7 hgr7; have HL7 := Lib.hid (HL.out.upd hgr7 hown7))
          | (at_lookup; refine wpList_lookup_own_int _ rfl _ _ 76 rfl 9 3 .i64 str_keyed Tryd.underlying76 Tryd.underlying3 (zero_int _) W.heap.size (q + 1) _ rfl HL7.out.mp _ _ rfl (key_of hxs) ?_; intro cc3 hat hwc; obtain rfl : cc3 = (((0 : Nat) : Int) : Int) + 1 := (by have := (HX7.out _).symm.trans hat; injection this with this; injection this with _ this; exact this.symm); clear hat hwc)
          | (go_at_call 38; refine (put_any d g A' c' _ 8 x _ HL7.out.fn (by simp [List.length_append]; omega)).mono ?_; rintro e w8 ⟨rfl, hp8⟩))
        go_roundw
        case rel => exact ⟨k + 1, A', c', q + 1, _, by omega, by go_num, by omega, Lib.hid (by rw [HU2.out]; exact HL7.out), HY⟩
        case measure => simp [intOf]; omega
      · obtain ⟨r, rfl⟩ : ∃ r, p = r + 1 := ⟨p - 1, by omega⟩
        rw [twF_in (by rw [HQ.out]; omega)] at HU
        go_wp2_with (first
          | (at_lookup; refine wpList_lookup_own_int _ rfl _ _ 76 rfl 9 3 .i64 str_keyed Tryd.underlying76 Tryd.underlying3 (zero_int _) W.heap.size q _ rfl HL.out.mp _ _ rfl (key_of hxs) ?_; intro cc3 hat hwc; obtain rfl : cc3 = (((r + 1 : Nat) : Int) : Int) := (by have := HX.out.symm.trans hat; injection this with this; injection this with _ this; exact this.symm); clear hat hwc)
          | (at_mapUpdate; refine wpList_mapUpdate_own _ rfl _ _ _ 76 rfl 9 3 str_keyed Tryd.underlying76 _ W.heap.size q _ rfl HL.out.mp (by unfold maxLen; omega) _ _ _ rfl rfl (key_of hxs) _ [] (plainElem_int Tryd.underlying3 (WalkArith.wf_i64 (by omega))) ?_; intro w7 hown7 hgr7; have HL7 := Lib.hid (HL.out.upd hgr7 hown7))
          | (at_lookup; refine wpList_lookup_own_int _ rfl _ _ 76 rfl 9 3 .i64 str_keyed Tryd.underlying76 Tryd.underlying3 (zero_int _) W.heap.size (q + 1) _ rfl HL7.out.mp _ _ rfl (key_of hxs) ?_; intro cc3 hat hwc; obtain rfl : cc3 = (((r + 1 : Nat) : Int) : Int) + 1 := (by have := (HX7.out _).symm.trans hat; injection this with this; injection this with _ this; exact this.symm); clear hat hwc)
          | (go_at_call 38; refine (put_any d g A' c' _ 8 x _ HL7.out.fn (by simp [List.length_append]; omega)).mono ?_; rintro e w8 ⟨rfl, hp8⟩))
        obtain ⟨A8, c8, h8⟩ := HL7.out.put hp8
        have HL8 := Lib.hid h8
        clear hp8 h8
        go_roundw
        case rel => exact ⟨k + 1, A8, c8, q + 1, _, by omega, by go_num, by omega, Lib.hid (by rw [HU.out, ← List.append_assoc]; exact HL8.out), HY⟩
        case measure => simp [intOf]; omega
    · obtain rfl : k = n := by omega
      have hall : Vd.tw d.names = Vd.upto (Vd.twF N) N k := by
        unfold Vd.tw
        rw [HNE.out, HNL.out]
      have HA := Lib.hid hall
      clear hall
      go_wp2_with fail
      go_end0
      exact ⟨rfl, by rw [HA.out]; exact HL.out.done HB1.out (Nat.le_refl _)⟩
end Go.Proofs.YthlbockphdbpkaaDoor
