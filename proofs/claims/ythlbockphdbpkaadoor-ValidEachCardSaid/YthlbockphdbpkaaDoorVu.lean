/- Links whose targets lead to no zone (package valid): findUnled. -/
import Derived.Test.YthlbockphdbpkaaDoorVt
namespace Go.Proofs.YthlbockphdbpkaaDoor
open Go.RowKit Go.Maps
set_option maxRecDepth 100000
/-- How a loop without a map stands. -/
structure Lp2 (w1 W : World) (d : Sd) (g : Nat) (A : Option Addr) (n c : Nat) (A' : Option Addr) (c' : Nat) (L : List Fl) : Prop where
  fn : Fnd W d g A' c' L
  kf : Kf (Fx g A n c) w1 W
  ob : ∀ k, (Value.slice A' L.length c').ownBlock = some k → (Value.slice A n c).ownBlock = some k ∨ w1.heap.size ≤ k
theorem Lp2.put {w1 W W' : World} {d : Sd} {g : Nat} {A : Option Addr} {n c : Nat} {A' : Option Addr} {c' : Nat} {L L' : List Fl} (h : Lp2 w1 W d g A n c A' c' L) (hp : PutE d g A' L.length c' L' W W') : ∃ A2 c2, Lp2 w1 W' d g A n c A2 c2 L' := by
  obtain ⟨A2, c2, hf, hk, ho⟩ := hp
  refine ⟨A2, c2, hf, h.kf.trans hk (fun i hi hx => ?_), fun k e => ?_⟩
  · rcases hx with e | e
    · exact .inl e
    · rcases h.ob _ e with e | e
      · exact .inr e
      · omega
  · rcases ho k e with e | e
    · exact h.ob k e
    · exact .inr (Nat.le_trans h.kf.size e)
theorem Lp2.on {w1 W W' : World} {d : Sd} {g : Nat} {A : Option Addr} {n c : Nat} {A' : Option Addr} {c' : Nat} {L : List Fl} (h : Lp2 w1 W d g A n c A' c' L) (hb : Below W.heap.size W W') : Lp2 w1 W' d g A n c A' c' L :=
  ⟨h.fn.on hb, h.kf.trans (Y := fun _ => False) (Kf.of_below hb) (fun _ _ e => e.elim), h.ob⟩
theorem Lp2.done {W0 w1 W : World} {d : Sd} {g : Nat} {A : Option Addr} {c : Nat} {A' : Option Addr} {c' : Nat} {L0 L : List Fl} (h : Lp2 w1 W d g A L0.length c A' c' L) (hb : Below W0.heap.size W0 w1) : PutE d g A L0.length c L W0 W :=
  ⟨A', c', h.fn, ⟨h.kf.os.trans hb.os, h.kf.tape.trans hb.tape, h.kf.output.trans hb.output, Nat.le_trans hb.size h.kf.size, fun k hk hx => (h.kf.block k (Nat.lt_of_lt_of_le hk hb.size) hx).trans (hb.block k hk)⟩, fun k e => (h.ob k e).imp id (fun e => Nat.le_trans hb.size e)⟩
theorem Full.kf {X : Nat → Prop} {W W' : World} {Z : List ByteArray} {K : List Lk} {g B : Nat} {D : Nd} (h : Full W Z K g D) (hk : Kf X W W') (hl : LoN B g D) (hX : ∀ i, X i → i < B) : Full W' Z K g D := by
  obtain ⟨l1, l2, l3, l4⟩ := hl
  have nx : ∀ i, B ≤ i → ¬ X i := fun i hi hx => by have := hX i hx; omega
  refine ⟨⟨Nat.lt_of_lt_of_le h.nm.gb hk.size, fun i v hv => (hk.cell (p := ⟨g, i, none⟩) h.nm.gb (nx _ l1)).trans (h.nm.at_ i v hv), fun h0 => ?_, Nat.lt_of_lt_of_le h.nm.mb hk.size, ?_, h.nm.fm, h.nm.cp⟩, fun p hp => (hk.cell (p := ⟨D.eb, p, none⟩) h.ne (nx _ l3)).trans (h.en p hp), Nat.lt_of_lt_of_le h.ne hk.size⟩
  · obtain ⟨b, o, e, hb, hc⟩ := h.nm.tx h0
    exact ⟨b, o, e, Nat.lt_of_lt_of_le hb hk.size, fun j u hu => (hk.cell (p := ⟨b, o + j, none⟩) hb (nx b (l4 ⟨b, o, none⟩ e))).trans (hc j u hu)⟩
  · obtain ⟨es, ck, h1, h2⟩ := h.nm.mp
    exact ⟨es, ck, (hk.block _ h.nm.mb (nx _ l2)).trans h1, h2⟩
theorem ulF_len (Z : List ByteArray) (K : List Lk) (k : Lk) : (Vd.ulF Z K k).length ≤ 1 := by unfold Vd.ulF; split <;> simp
set_option maxHeartbeats 8000000 in
theorem unled_any (d : Sd) (g : Nat) (A : Option Addr) (c : Nat) (L : List Fl) (W : World) (h : Fnd W d g A c L) (hz : d.zs.length + d.ls.length ≤ 1000) (hs : ∀ k ∈ d.ls, k.tg.size ≤ 9223372036854775807 ∧ k.nm.size ≤ 9223372036854775807) (hs2 : ∀ z ∈ d.zs, z.nm.size ≤ 9223372036854775807) (hL : L.length ≤ 134217728) :
    Calls Tryd.prog 27 #[.pointer (some ⟨g, 0, none⟩)] W fun e W' => e = .returned (.tuple #[]) ∧ PutE d g A L.length c (L ++ Vd.ul (d.zs.map Zd.nm) d.ls d.ls.length) W W' := by
  have c0 := cell_blk h.blk 0
  have c1 := cell_blk h.blk 1
  have c2 := cell_blk h.blk 2
  change W.cell? ⟨g, 0, none⟩ = some (.slice d.rA d.rs.length d.rc) at c0
  change W.cell? ⟨g, 1, none⟩ = some (.slice d.zA d.zs.length d.zc) at c1
  change W.cell? ⟨g, 2, none⟩ = some (.slice d.lA d.ls.length d.lc) at c2
  have hg := h.lt
  have HOF := Lib.hid (of_lo d W (h.sd.more (Nat.le_of_lt hg)) hz hs hs2)
  have HF := Lib.hid h
  have HS := Lib.hid hs
  obtain ⟨lA, hlA⟩ : ∃ lA, d.lA = lA := ⟨_, rfl⟩
  have HLA := Lib.hid hlA
  obtain ⟨nl, hnl⟩ : ∃ n, d.ls.length = n := ⟨_, rfl⟩
  have HNL := Lib.hid hnl
  obtain ⟨Q, hQ⟩ : ∃ Q, Vd.ul (d.zs.map Zd.nm) d.ls d.ls.length = Q := ⟨_, rfl⟩
  have HQ := Lib.hid hQ
  rw [hQ]
  clear h hs hs2 hlA hQ hnl
  go_enter Tryd.func27, Tryd.ntmps27
  go_wp2_with fail
  clear c0 c1 c2
  refine HOF.out.mono ?_
  rintro e w1 ⟨⟨gn, D, rfl, hfull, hlo⟩, b1⟩
  have HFU := Lib.hid hfull
  have HLO := Lib.hid hlo
  have HB1 := Lib.hid b1
  have hFX : ∀ i, Fx g A L.length c i → i < W.heap.size := by
    rintro i (e | e)
    · rw [e]; exact hg
    · exact (HF.out.ow.lt _ e).2
  have HFX := Lib.hid hFX
  have HP : Hid (Lp2 w1 w1 d g A L.length c A c L) := Lib.hid ⟨HF.out.on b1, Kf.refl _ _, fun k e => .inl e⟩
  have d2 := cell_blk HP.out.fn.blk 2
  change w1.cell? ⟨g, 2, none⟩ = some (.slice d.lA d.ls.length d.lc) at d2
  rw [HLA.out, HNL.out] at d2
  rw [HNL.out] at hz
  clear hfull hlo b1 hFX HOF HF
  go_wp2_with fail
  clear d2
  go_loopw [18] (fun v wr => ∃ (k : Nat) (A' : Option Addr) (c' : Nat), k ≤ nl ∧ v = .int .i64 k ∧ Hid (Lp2 w1 wr d g A L.length c A' c' (L ++ Vd.ul (d.zs.map Zd.nm) d.ls k))) (fun v _ => nl - (intOf v).toNat)
  case atStart => exact ⟨0, A, c, Nat.zero_le _, rfl, Lib.hid (by show Lp2 _ _ _ _ _ _ _ _ _ (L ++ []); rw [List.append_nil]; exact HP.out)⟩
  case round =>
    clear HP
    obtain ⟨k, A1, k1, hk, rfl, HL⟩ := hrel
    by_cases hlt : k < nl
    · obtain ⟨x, hx⟩ : ∃ x, d.ls[k]? = some x := ⟨_, List.getElem?_eq_getElem (by rw [HNL.out]; exact hlt)⟩
      obtain ⟨b, o, hA, hb, hc⟩ := HL.out.fn.sd.l.at_ lcell_len (by decide) hx
      obtain rfl := HLA.out.symm.trans hA
      clear hA
      have e0 : wr.cell? ⟨b, o + k * 2, none⟩ = some (Value.string x.tg) := hc 0 _ rfl
      have e1 : wr.cell? ⟨b, o + k * 2 + 1, none⟩ = some (Value.string x.nm) := hc 1 _ rfl
      have hxs := HS.out x (List.mem_of_getElem? hx)
      have HU := Lib.hid (show Vd.ul (d.zs.map Zd.nm) d.ls (k + 1) = Vd.ul (d.zs.map Zd.nm) d.ls k ++ Vd.ulF (d.zs.map Zd.nm) d.ls x from upto_snoc (fun (_ : Nat) (k : Lk) => Vd.ulF (d.zs.map Zd.nm) d.ls k) d.ls k x hx)
      have hul : (Vd.ul (d.zs.map Zd.nm) d.ls k).length ≤ 1 * k := upto_len (fun _ k => ulF_len _ _ k) k
      have HLb := Lib.hid (HL.out.on (box_below wr (.cells #[.string x.tg, .string x.nm] 56)))
      have HZ := Lib.hid (nzone_any (d.zs.map Zd.nm) d.ls gn D x.tg _ (HFU.out.kf HLb.out.kf HLO.out HFX.out) hxs.1)
      have HUF : Hid (Vd.ulF (d.zs.map Zd.nm) d.ls x = if (Ld.zn (d.zs.map Zd.nm) d.ls x.tg).2 = 0 then [] else [⟨(Ld.zn (d.zs.map Zd.nm) d.ls x.tg).2, x.nm⟩]) := Lib.hid rfl
      generalize Ld.zn (d.zs.map Zd.nm) d.ls x.tg = p at *
      obtain ⟨z, y⟩ := p
      dsimp only at HZ HUF
      clear hx hc hb hxs
      by_cases hy : y = 0
      · subst hy
        have hF := HUF.out
        rw [if_pos rfl] at hF
        rw [hF] at HU
        have HU2 := Lib.hid (HU.out.trans (List.append_nil _))
        clear hF
        go_wp2_with (go_at_call 21; refine HZ.out.mono ?_; rintro e w2 ⟨rfl, rfl⟩)
        go_roundw
        case rel => exact ⟨k + 1, A1, k1, by omega, by go_num, Lib.hid (by rw [HU2.out]; exact HLb.out)⟩
        case measure => simp [intOf]; omega
      · have hF := HUF.out
        rw [if_neg hy] at hF
        rw [hF] at HU
        have ty : ((y : Int) != 0) = true := by rw [bne_iff_ne]; omega
        clear hF hy
        go_wp2_with (first
          | (go_at_call 21; refine HZ.out.mono ?_; rintro e w2 ⟨rfl, rfl⟩)
          | (go_at_call 38; refine (put_any d g A1 k1 _ (y : Int) x.nm _ HLb.out.fn (by simp only [List.length_append]; omega)).mono ?_; rintro r w8 ⟨rfl, hp8⟩))
        obtain ⟨A8, c8, h8⟩ := HLb.out.put hp8
        have HL8 := Lib.hid h8
        clear hp8 h8
        go_roundw
        case rel => exact ⟨k + 1, A8, c8, by omega, by go_num, Lib.hid (by rw [HU.out, ← List.append_assoc]; exact HL8.out)⟩
        case measure => simp [intOf]; omega
    · obtain rfl : k = nl := by omega
      rw [← HNL.out, HQ.out] at HL
      go_wp2_with fail
      go_end0
      exact ⟨rfl, HL.out.done HB1.out⟩
end Go.Proofs.YthlbockphdbpkaaDoor
