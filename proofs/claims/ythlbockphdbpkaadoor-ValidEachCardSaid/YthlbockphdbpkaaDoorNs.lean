/- How ends are found (package lead): settle, follow. -/
import Derived.Test.YthlbockphdbpkaaDoorNa
import Derived.Deep.LoopGhost
namespace Go.Proofs.YthlbockphdbpkaaDoor
open Go.RowKit Go.Maps
set_option maxRecDepth 100000
/-- A block holds these numbers. -/
def Arr (W : World) (eb : Nat) (e : List Int) : Prop := W.heap[eb]? = some (.cells (e.map (Value.int .i64)).toArray 3 (0, 0))
theorem Arr.cell {W : World} {eb : Nat} {e : List Int} (h : Arr W eb e) {p : Nat} {v : Int} (hv : e[p]? = some v) : W.cell? ⟨eb, p, none⟩ = some (.int .i64 v) := by
  rw [cell_blk h, List.getElem?_toArray, List.getElem?_map, hv]
  rfl
theorem Arr.set {W : World} {eb : Nat} {e : List Int} (h : Arr W eb e) (p : Nat) (v : Int) : Arr (W.setCell ⟨eb, p, none⟩ (.int .i64 v)) eb (e.set p v) := by
  have := set_blk h p (.int .i64 v)
  unfold Arr
  rw [this, List.map_set]
  simp
theorem Arr.on {W W' : World} {eb : Nat} {e : List Int} (h : Arr W eb e) (hb : Below W.heap.size W W') : Arr W' eb e := (hb.block eb (lt_blk h)).trans h
theorem Arr.grown {W W' : World} {eb : Nat} {e : List Int} {row : Option Nat} (h : Arr W eb e) (hg : W.grownBy W' row) (hr : row ≠ some eb) : Arr W' eb e := (hg.block eb (lt_blk h) (fun e => hr e.symm)).trans h
theorem grown_set (w : World) (a : Addr) (v : Value) : w.grownBy (w.setCell a v) (some a.block) :=
  ⟨rfl, rfl, rfl, by simp, fun k _ hne => by
    simp only [World.setCell]
    rw [Array.getElem?_modify, if_neg (fun e => hne (by rw [e]))]⟩
theorem grown_then {X Y Z : World} {r : Option Nat} (h : X.grownBy Y r) (h' : Y.grownBy Z r) : X.grownBy Z r :=
  ⟨h'.os.trans h.os, h'.tape.trans h.tape, h'.output.trans h.output, Nat.le_trans h.size h'.size, fun k hk hne => (h'.block k (Nat.lt_of_lt_of_le hk h.size) hne).trans (h.block k hk hne)⟩
theorem int_info : (Tryd.prog.info? 3).map (fun i => (i.zero, i.size, i.bytes)) = some (some (.int .i64 0), 1, 8) := by kernel_rfl
theorem wpList_ap_int {w : World} {ops : Array Oper} {rest : List Oper} {o : Oper} {a : Act} {Q : Exit → Act → World → Prop} (hgd : o.guard = none) (s x : Operand)
    (ho : o.op = .call { callee := .builtin .append, args := #[s, x], argTypes := #[79, 79] }) (base : Nat) (v : Value) (n : Nat) (xs : List Value) (hs : a.eval s = v) (hown : w.ownsRow base 3 1 v n xs)
    (gx cx : Nat) (news : List Value) (hx : a.eval x = .slice (some ⟨gx, 0, none⟩) 1 cx) (hl : news.length = 1) (hc : ∀ j u, news[j]? = some u → w.cell? ⟨gx, j, none⟩ = some u) (h1 : ∀ u ∈ news, u.oneCell' = true) (hn : n ≤ 4294967296) (hbase : base ≤ w.heap.size)
    (h : ∀ g cap w', w'.ownsRow base 3 1 (.slice (some ⟨g, 0, none⟩) (n + 1) cap) (n + 1) (xs ++ news) → w.grownBy w' v.ownBlock → (v.ownBlock = some g ∨ g = w.heap.size) → g < w'.heap.size → wpList Tryd.prog ops Q rest (a.put o.dst (.slice (some ⟨g, 0, none⟩) (n + 1) cap)) w') : wpList Tryd.prog ops Q (o :: rest) a w := by
  obtain ⟨i0, hi, hz0, hz1, hz2⟩ := info_parts int_info
  exact wpList_append_lies w hgd s x 79 ho base 3 i0 _ 1 8 Tryd.underlying79 hi hz0 hz1 hz2 rfl (by omega) v n xs hs hown ⟨gx, 0, none⟩ 1 cx news hx (by rw [hl]) (fun j u hu => by rw [addr_add]; exact hc j u hu) h1 (by omega) (by unfold maxLen; omega) (by omega) hbase _ rfl h
theorem nlink_text {W : World} {B : Nat} {Z : List ByteArray} {K : List Lk} {g p : Nat} {d : Nd} {k : Lk} (hN : Nms W B Z K g d) (hL : Ld.isL Z K p) (hk : K[p - Z.length]? = some k) :
    ∃ ab ao, d.A = some ⟨ab, ao, none⟩ ∧ W.cell? ⟨ab, ao + (p + K.length), none⟩ = some (.string k.tg) := by
  have hal := all_len Z K
  have h1 := hL.1
  have h2 := hL.2
  have htg : (Ld.all Z K)[p + K.length]? = some k.tg := by
    unfold Ld.all
    rw [List.getElem?_append_right (by rw [List.length_append, List.length_map]; omega)]
    rw [List.length_append, List.length_map, List.getElem?_map, show p + K.length - (Z.length + K.length) = p - Z.length by omega, hk]
    rfl
  obtain ⟨ab, ao, eA, _, hcs⟩ := hN.tx (by rw [List.length_map]; omega)
  exact ⟨ab, ao, eA, hcs _ (.string k.tg) (by rw [List.getElem?_map, htg]; rfl)⟩
theorem ntarget_any (Z : List ByteArray) (K : List Lk) (g p B : Nat) (d : Nd) (k : Lk) (W : World) (hN : Nms W B Z K g d) (hL : Ld.isL Z K p) (hk : K[p - Z.length]? = some k) (hn : (Ld.all Z K).length ≤ 4294967296) :
    Calls Tryd.prog 41 #[.pointer (some ⟨g, 0, none⟩), .int .i64 p] W fun e w' => e = .returned (.string k.tg) ∧ ∃ q, w' = W.drewN q := by
  obtain ⟨ab, ao, eA, hc⟩ := nlink_text hN hL hk
  have hal := all_len Z K
  have h2 := hL.2
  have c0 := hN.at_ 0 _ rfl
  rw [eA] at c0
  exact target_any g p K.length _ _ ab ao k.tg W c0 (hN.at_ 2 _ rfl) hc (by omega) hn
theorem nlook_run {W : World} {B : Nat} {Z : List ByteArray} {K : List Lk} {g : Nat} {d : Nd} {x : ByteArray} (hN : Nms W B Z K g d) (hx : x ∈ Ld.all Z K) (hs : x.size ≤ 9223372036854775807) (q : Nat) :
    (Instr.lookup 76 (.map (some d.b)) (.string x) false).run Tryd.prog (W.drewN q) = .ok (.int .i64 (Ld.ix x (Ld.all Z K) : Nat)) (W.drewN q) := by
  have hm : MapAt (W.drewN q) d.b d.mn d.M := hN.mp
  obtain ⟨c, hrun, hat, _⟩ := World.ownsMap.lookup_int hm str_keyed Tryd.underlying76 Tryd.underlying3 (zero_int _) (key_of hs)
  have := ((fst_in hN.fm hx).2 _).symm.trans hat
  injection this with this
  injection this with _ this
  rw [hrun, this]
def pcells (l : List Nat) : List Value := l.map fun (p : Nat) => Value.int .i64 (p : Int)
/-- What settling does: the ends of others stay, that of the place is known. -/
def SettleP (Z : List ByteArray) (K : List Lk) (e : List Int) (i0 eb : Nat) (w' : World) : Prop :=
  ∃ e2, Arr w' eb e2 ∧ Ld.Inv Z K e2 ∧ e2[i0]? = some (Ld.code Z K i0) ∧ ∀ p, e[p]? = some (Ld.code Z K p) → e2[p]? = some (Ld.code Z K p)
theorem mark_same {e : List Int} {c : Int} {q : Nat} (ps : List Nat) (h : e[q]? = some c) : (Ld.mark e c ps)[q]? = some c := by
  by_cases hq : q ∈ ps
  · exact mark_in c ps e q hq (List.getElem?_eq_some_iff.1 h).1
  · rw [mark_out c ps e q hq]; exact h
theorem own_way {w : World} {B eb k : Nat} {v : Value} {l : List Nat} (h : w.ownsRow B 3 1 v k (pcells l)) (hl : l.length = k) (hB : eb < B) :
    ∃ A c, v = .slice A k c ∧ (0 < k → ∃ gp, A = some ⟨gp, 0, none⟩ ∧ gp ≠ eb ∧ gp < w.heap.size ∧ ∀ j p, l[j]? = some p → w.cell? ⟨gp, j, none⟩ = some (.int .i64 (p : Nat))) := by
  rcases h.2 with ⟨hv, h0⟩ | ⟨gp, cap, cur, hv, hb, hg, _⟩
  · exact ⟨none, 0, by rw [hv, h0], fun hk => by omega⟩
  · subst hv
    refine ⟨_, _, rfl, fun _ => ⟨gp, rfl, by omega, lt_blk hg, fun j p hp => ?_⟩⟩
    have := h.cells (g := gp) rfl j (.int .i64 (p : Nat)) (by unfold pcells; rw [List.getElem?_map, hp]; rfl)
    rw [addr_add] at this
    exact this
theorem way_lt {Z : List ByteArray} {K : List Lk} {e e' : List Int} {i0 k : Nat} (hI : Ld.Inv Z K e) (h : Ld.Far Z K e i0 k e') (h0 : i0 < (Ld.all Z K).length) : Ld.pit Z K k i0 < e'.length := by
  rw [far_len h, hI.len]
  exact pit_lt h0 k
set_option maxHeartbeats 4000000 in
theorem settle_any (Z : List ByteArray) (K : List Lk) (g : Nat) (d : Nd) (e : List Int) (i0 : Nat) (W : World) (hN : Nms W d.eb Z K g d) (hA : Arr W d.eb e) (hI : Ld.Inv Z K e) (h0 : i0 < (Ld.all Z K).length) (hn : (Ld.all Z K).length ≤ 4096)
    (hs : ∀ k ∈ K, k.tg.size ≤ 9223372036854775807) :
    Calls Tryd.prog 50 #[.pointer (some ⟨g, 0, none⟩), .int .i64 i0] W fun r w' => r = .returned (.tuple #[]) ∧ SettleP Z K e i0 d.eb w' ∧ Below d.eb W w' := by
  have hal := all_len Z K
  have hlb := lt_blk hA
  have HN := Lib.hid hN
  have HI := Lib.hid hI
  have HA := Lib.hid hA
  have c4 := hN.at_ 4 _ rfl
  have hgb := hN.gb
  clear hN hI hA
  generalize hnn : (Ld.all Z K).length = n at *
  have HNN := Lib.hid hnn
  clear hnn
  go_enter Tryd.func50, Tryd.ntmps50
  go_wp2_with fail
  go_loopg [1, 4] (e.count (-1)) (fun gk i v wr => ∃ (k : Nat) (e' : List Int), gk = e'.count (-1) ∧ i = .int .i64 (Ld.pit Z K k i0) ∧ k + gk ≤ n ∧ Hid (Ld.Far Z K e i0 k e') ∧ Hid (Arr wr d.eb e') ∧ Hid (wr.ownsRow W.heap.size 3 1 v k (pcells (Ld.way Z K i0 k))) ∧ Below d.eb W wr ∧ W.heap.size ≤ wr.heap.size)
  case atStart => exact ⟨0, e, rfl, rfl, by have := List.count_le_length (l := e) (a := (-1 : Int)); rw [HI.out.len, HNN.out] at this; omega, Lib.hid (far_start _ _ _ _), HA, Lib.hid (World.ownsRow_nil _ _ _ _), Below.refl _ _, Nat.le_refl _⟩
  case round =>
    obtain ⟨k, e', hgk, rfl, hk, HF, HR, HO, bw, hsz⟩ := hrel
    have hpl := way_lt HI.out HF.out (by rw [HNN.out]; exact h0)
    have hel : e'.length = n := by rw [far_len HF.out, HI.out.len, HNN.out]
    obtain ⟨c, hc⟩ : ∃ c, e'[Ld.pit Z K k i0]? = some c := ⟨_, List.getElem?_eq_getElem hpl⟩
    have ce := HR.out.cell hc
    have cf := frozen_blk HR.out (Ld.pit Z K k i0)
    have d4 := (bw.cell (p := ⟨g, 4, none⟩) hgb).trans c4
    rw [hel] at hpl
    by_cases hc1 : c = -1
    · subst hc1
      obtain ⟨hL, hF2, hcount⟩ := far_step HI.out HF.out hc
      have hway := way_succ Z K i0 k
      obtain ⟨lk, hlk⟩ := link_at hL
      have hnp : Ld.pit Z K (k + 1) i0 = Ld.ix lk.tg (Ld.all Z K) := np_link hL hlk
      have HL := Lib.hid hL
      have HLK := Lib.hid hlk
      have HF2 := Lib.hid hF2
      have HC := Lib.hid hcount
      have HW := Lib.hid hway
      have HNP := Lib.hid hnp
      have HGK := Lib.hid hgk
      have HEL := Lib.hid hel
      have HMEM := Lib.hid (tg_all (Z := Z) (K := K) hlk)
      have HS := Lib.hid (hs lk (List.mem_of_getElem? hlk))
      clear hL hlk hF2 hcount hway hnp hgk hel
      have hbs : (Value.slice none 0 0).ownBlock ≠ some d.eb := by simp [Value.ownBlock]
      have hob : u4.ownBlock ≠ some d.eb := fun e => by have := (HO.out.lt _ e).1; omega
      have HO2 : Hid (((wr.setCell ⟨d.eb, Ld.pit Z K k i0, none⟩ (.int .i64 (-3))).alloc (.cells #[.int .i64 (Ld.pit Z K k i0 : Nat)] 3)).ownsRow W.heap.size 3 1 u4 k (pcells (Ld.way Z K i0 k))) := Lib.hid ((HO.out.kept (grown_set _ _ _) (.inr hob)).alloc _)
      have HR2 : Hid (Arr ((wr.setCell ⟨d.eb, Ld.pit Z K k i0, none⟩ (.int .i64 (-3))).alloc (.cells #[.int .i64 (Ld.pit Z K k i0 : Nat)] 3)) d.eb (e'.set (Ld.pit Z K k i0) (-3))) := Lib.hid ((HR.out.set _ _).on (box_below _ _))
      have HBX := Lib.hid (Bx.mk' (wr.setCell ⟨d.eb, Ld.pit Z K k i0, none⟩ (.int .i64 (-3))) wr.heap.size #[.int .i64 (Ld.pit Z K k i0 : Nat)] 3 (by simp))
      have HB2 : Hid (Below d.eb W ((wr.setCell ⟨d.eb, Ld.pit Z K k i0, none⟩ (.int .i64 (-3))).alloc (.cells #[.int .i64 (Ld.pit Z K k i0 : Nat)] 3))) := Lib.hid ((bw.setCell (p := ⟨d.eb, _, none⟩) (Nat.le_refl _) _).alloc (by simp; omega) _)
      clear HR HO hbs
      generalize hpp : Ld.pit Z K k i0 = p at *
      have HPP := Lib.hid hpp
      clear hpp hc
      go_wp2_with (at_builtin; refine wpList_ap_int rfl (.tmp 21) (.tmp 23) rfl W.heap.size u4 k (pcells (Ld.way Z K i0 k)) rfl HO2.out wr.heap.size 1 [.int .i64 (p : Nat)] rfl rfl HBX.out.at_ (by intro u hu; simp at hu; subst hu; rfl) (by omega) (by simp; omega) ?_; intro gg cap w3 hown3 hgrow hat hlt)
      have bw3 : Below d.eb W w3 := HB2.out.grown hgrow (by simp; omega) (fun k hk => by have := (HO2.out.lt k hk).1; omega)
      have HN3 := Lib.hid (HN.out.below bw3)
      have HR3 := Lib.hid (HR2.out.grown hgrow hob)
      have d3 : w3.cell? ⟨g, 3, none⟩ = some (.map (some d.b)) := HN3.out.at_ 3 _ rfl
      have hrun : ∀ q, (Instr.lookup 76 (.map (some d.b)) (.string lk.tg) false).run Tryd.prog (w3.drewN q) = .ok (.int .i64 (Ld.pit Z K (k + 1) i0 : Nat)) (w3.drewN q) := fun q => by
        rw [HNP.out]
        exact nlook_run HN3.out HMEM.out HS.out q
      have hs3 : W.heap.size ≤ w3.heap.size := by have := hgrow.size; simp at this; omega
      rw [show pcells (Ld.way Z K i0 k) ++ [.int .i64 (p : Nat)] = pcells (Ld.way Z K i0 (k + 1)) by rw [HW.out]; unfold pcells; rw [List.map_append]; rfl] at hown3
      have HO3 := Lib.hid hown3
      have HBW := Lib.hid bw3
      clear hown3 hgrow hat HO2 HR2 HBX HB2 bw3 ce cf d4
      go_region_with (go_at_call 41; refine (ntarget_any Z K g p d.eb d lk _ (HN3.out.below (by repeat (first | exact Below.refl _ _ | assumption | refine below_drewN ?_ _ | refine Below.drew ?_ | refine Below.setCell ?_ (by first | omega | (simp; done) | (simp; omega)) _ | refine Below.alloc ?_ (by first | omega | (simp; done) | (simp; omega)) _))) HL.out HLK.out (by rw [HNN.out]; omega)).mono ?_; rintro e w' ⟨rfl, q, rfl⟩)
      all_goals
        go_wp2_with fail
        go_roundg ((e'.set p (-3)).count (-1))
        case measure => rw [HGK.out]; exact HC.out
        case rel => exact ⟨k + 1, _, rfl, rfl, by have := HC.out; rw [← HGK.out] at this; omega, HF2, HR3, HO3, by have hbw := HBW.out; repeat (first | exact Below.refl _ _ | assumption | refine below_drewN ?_ _ | refine Below.drew ?_ | refine Below.setCell ?_ (by first | omega | (simp; done) | (simp; omega)) _ | refine Below.alloc ?_ (by first | omega | (simp; done) | (simp; omega)) _), hs3⟩
    · have t1 : ((c : Int) == -1) = false := by rw [beq_eq_false_iff_ne]; exact hc1
      obtain ⟨wo, rfl⟩ : ∃ wo : World, wo = wr := ⟨_, rfl⟩
      obtain ⟨A, cap, rfl, hA⟩ := own_way HO.out (way_len _ _ _ _) hlb
      have HE := Lib.hid (far_end HI.out (by rw [HI.out.len, HNN.out]; exact h0) HF.out hc hc1)
      have HAA := Lib.hid hA
      have HCC := Lib.hid hc
      have HEL := Lib.hid hel
      have HB := Lib.hid bw
      clear hA hc hel hc1 hgk HO HF bw
      generalize hpp : Ld.pit Z K k i0 = p at *
      have HPP := Lib.hid hpp
      clear hpp
      go_wp2_with fail
      go_loopw [35] (fun i w2 => ∃ j : Nat, j ≤ k ∧ i = .int .i64 j ∧ Hid (Arr w2 d.eb (Ld.mark e' c (Ld.way Z K i0 j))) ∧ Hid (wo.grownBy w2 (some d.eb)) ∧ Below d.eb W w2) (fun i _ => k - (intOf i).toNat)
      case atStart => exact ⟨0, Nat.zero_le _, rfl, HR, Lib.hid ⟨rfl, rfl, rfl, Nat.le_refl _, fun _ _ _ => rfl⟩, HB.out⟩
      case round =>
        obtain ⟨j, hj, rfl, HR2, HG, bq⟩ := hrel
        by_cases hlt : j < k
        · obtain ⟨gp, rfl, hne, hlp, hcs⟩ := HAA.out (by omega)
          have hcj := (World.cell?_of_block (a := ⟨gp, j, none⟩) (HG.out.block gp hlp (fun e => hne (by injection e)))).trans (hcs j _ (way_at hlt))
          have hq := pit_lt (Z := Z) (K := K) (i := i0) (by rw [HNN.out]; exact h0) j
          rw [HNN.out] at hq
          have HWS := Lib.hid (way_succ Z K i0 j)
          generalize hqq : Ld.pit Z K j i0 = q at *
          have HQQ := Lib.hid hqq
          have ci := HR2.out.cell (mark_same (Ld.way Z K i0 j) HCC.out)
          obtain ⟨u, hu⟩ : ∃ u, (Ld.mark e' c (Ld.way Z K i0 j))[q]? = some u := ⟨_, List.getElem?_eq_getElem (by rw [mark_len, HEL.out]; exact hq)⟩
          have cq := HR2.out.cell hu
          have fq := frozen_blk HR2.out q
          have d4 := (bq.cell (p := ⟨g, 4, none⟩) hgb).trans c4
          have hp2 : p < n := hpl
          have HR3 := Lib.hid (HR2.out.set q c)
          have HG3 := Lib.hid (grown_then HG.out (grown_set wr ⟨d.eb, q, none⟩ (.int .i64 c)))
          have hbq : Below d.eb W ((wr.setCell ⟨d.eb, q, none⟩ (.int .i64 c)).drew) := (bq.setCell (p := ⟨d.eb, q, none⟩) (Nat.le_refl _) _).drew
          have HB3 := Lib.hid hbq
          clear hcs hu hqq HR2 HG bq hbq
          go_wp2_with fail
          go_region
          go_wp2_with fail
          go_roundw
          case rel => exact ⟨j + 1, by omega, by go_num, by rw [HWS.out, mark_snoc]; exact HR3.out, Lib.hid ⟨HG3.out.1, HG3.out.2, HG3.out.3, HG3.out.4, HG3.out.5⟩, HB3.out⟩
          case measure => simp [intOf]; omega
        · obtain rfl : j = k := by omega
          go_wp2_with fail
          go_end0
          obtain ⟨he1, he2, he3, he4⟩ := HE.out
          exact ⟨rfl, ⟨_, HR2.out, he2, he3, he4⟩, bq⟩
end Go.Proofs.YthlbockphdbpkaaDoor
