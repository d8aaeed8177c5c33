/- LinkOne. -/
import Derived.Test.YtghllibpcehmdaaL13b
import Derived.Test.YtghllibpcehmdaaSm
namespace Go.Proofs.Ytghllibpcehmdaa
open Go.RowKit Go.Maps
set_option maxRecDepth 100000
/-- The source at hand, in its box. -/
structure K13 (w : World) (d : Sd) (g : Nat) (W : World) : Prop where
  bx : Bx W g [.slice d.rA d.rs.length d.rc, .slice d.zA d.zs.length d.zc, .slice d.lA d.ls.length d.lc]
  lk : Lok d W
  bel : Below w.heap.size w W
theorem K13.on {w W W' : World} {d : Sd} {g : Nat} (h : K13 w d g W) (hb : Below W.heap.size W W') : K13 w d g W' := ⟨h.bx.on hb, h.lk.on hb, h.bel.trans (hb.mono h.bel.size)⟩
theorem look_more {x t : ByteArray} {L : List Lk} : ∀ {K : List Lk}, Ld.look x K = some t → Ld.look x (K ++ L) = some t
  | [], h => by cases h
  | k :: l, h => by
    rw [List.cons_append]
    unfold Ld.look at h ⊢
    by_cases e : k.nm = x
    · rw [if_pos e] at h ⊢; exact h
    · rw [if_neg e] at h ⊢; exact look_more h
theorem nx_more {Z : List ByteArray} {K L : List Lk} {x t : ByteArray} (h : Ld.nx Z K x = some t) : Ld.nx Z (K ++ L) x = some t := by
  unfold Ld.nx at h ⊢
  by_cases hz : Ld.inb x Z = true
  · rw [if_pos hz] at h; cases h
  · rw [if_neg hz] at h ⊢; exact look_more h
theorem it_more {Z : List ByteArray} {K L : List Lk} {e : ByteArray} : ∀ (n : Nat) (x : ByteArray), Ld.it Z K n x = e → Ld.nx Z K e = none → ∃ m, Ld.it Z (K ++ L) m x = e
  | 0, x, h, _ => ⟨0, h⟩
  | n + 1, x, h, he => by
    rw [it_succ'] at h
    cases hx : Ld.nx Z K x with
    | none =>
      rw [st_none hx, it_stuck hx] at h
      exact ⟨0, h⟩
    | some t =>
      rw [st_some hx] at h
      obtain ⟨m, hm⟩ := it_more n t h he
      exact ⟨m + 1, by rw [it_succ', st_some (nx_more hx)]; exact hm⟩
theorem zn_more {Z : List ByteArray} {K L : List Lk} {x : ByteArray} (h : (Ld.zn Z K x).2 = 0) : Ld.zn Z (K ++ L) x = Ld.zn Z K x := by
  obtain ⟨n, e, hn, he, hz, _⟩ := zn_lt h
  obtain ⟨m, hm⟩ := it_more (L := L) n x hn he
  rw [zn_end hn he, zn_end hm (first_zone hz).2.2]
/-- A new name. -/
theorem fresh_of {Z : List ByteArray} {K : List Lk} {y : ByteArray} (h : Ld.zn Z K y = (0, 3)) (hc : ChainP Z K y 1) : y ∉ Z ∧ y ∉ K.map Lk.nm := by
  have hn : Ld.nx Z K y = none := by
    rcases hc.2.2.2.2 with h' | ⟨h1, j, hj, e⟩
    · exact h'
    · exfalso
      obtain rfl : j = 0 := by omega
      have := zn_again (Z := Z) (K := K) (x := y) (k := 0) e h1
      rw [h] at this
      exact absurd (congrArg Prod.snd this) (by decide)
  refine ⟨fun hz => ?_, fun hl => ?_⟩
  · rw [zn_end (n := 0) (y := y) rfl hn, if_pos (inb_iff.2 hz)] at h
    exact absurd (congrArg Prod.snd h) (show ¬ (0 : Int) = 3 by decide)
  · by_cases hz : y ∈ Z
    · rw [zn_end (n := 0) (y := y) rfl hn, if_pos (inb_iff.2 hz)] at h
      exact absurd (congrArg Prod.snd h) (show ¬ (0 : Int) = 3 by decide)
    · obtain ⟨k, _, _, h3, _⟩ := first_link hz hl
      rw [hn] at h3
      cases h3
theorem look_new {x y : ByteArray} : ∀ {K : List Lk}, y ∉ K.map Lk.nm → Ld.look y (K ++ [⟨x, y⟩]) = some x
  | [], _ => by
    show Ld.look y [⟨x, y⟩] = some x
    unfold Ld.look
    rw [if_pos rfl]
  | k :: l, h => by
    rw [List.cons_append]
    unfold Ld.look
    rw [List.map_cons] at h
    rw [if_neg (fun e => h (List.mem_cons.2 (.inl e.symm)))]
    exact look_new (fun h' => h (List.mem_cons.2 (.inr h')))
theorem zn_new {Z : List ByteArray} {K : List Lk} {x y : ByteArray} (hx : (Ld.zn Z K x).2 = 0) (h : y ∉ Z ∧ y ∉ K.map Lk.nm) : Ld.zn Z (K ++ [⟨x, y⟩]) y = Ld.zn Z K x := by
  have hn : Ld.nx Z (K ++ [⟨x, y⟩]) y = some x := by
    unfold Ld.nx
    rw [if_neg (by rw [inb_iff]; exact h.1)]
    exact look_new h.2
  rw [← zn_step, st_some hn, zn_more hx]
theorem in_names {Z : List ByteArray} {K : List Lk} {x : ByteArray} (h : (Ld.zn Z K x).2 = 0) : x ∈ Z ++ K.map Lk.nm := by
  cases hn : Ld.nx Z K x with
  | some t => exact List.mem_append.2 (.inr (nx_link hn).2.1)
  | none =>
    rw [zn_end (n := 0) (y := x) rfl hn] at h
    by_cases hz : Ld.inb x Z = true
    · exact List.mem_append.2 (.inl (inb_iff.1 hz))
    · rw [if_neg hz] at h
      exact absurd h (by decide)
/-- The last name of a chain that leads to a zone is that zone's. -/
theorem chain_last {Z : List ByteArray} {K : List Lk} {x : ByteArray} {k : Nat} (h : ChainP Z K x k) (hz : (Ld.zn Z K x).2 = 0) : Z[(Ld.zn Z K x).1]? = some (Ld.it Z K (k - 1) x) := by
  rcases h.2.2.2.2 with hn | ⟨h1, j, hj, e⟩
  · have hx := zn_end (n := k - 1) rfl hn
    rw [hx] at hz ⊢
    by_cases hi : Ld.inb (Ld.it Z K (k - 1) x) Z = true
    · rw [if_pos hi]
      exact ix_at (inb_iff.1 hi)
    · rw [if_neg hi] at hz
      exact absurd hz (by decide)
  · exfalso
    have hk := h.1
    have hjn : Ld.nx Z K (Ld.it Z K j x) ≠ none := by
      by_cases hjk : j + 1 < k
      · exact h.2.2.2.1 j hjk
      · rw [show j = k - 1 by omega]; exact h1
    have ha : Ld.it Z K (k - j - 1 + 1) (Ld.it Z K j x) = Ld.it Z K j x := by
      rw [← it_add, show k - j - 1 + 1 + j = k by omega, e]
    have := zn_again ha hjn
    rw [zn_it] at this
    rw [this] at hz
    exact absurd hz (by decide)
/-- A block of texts. -/
structure Tw (W : World) (g : Nat) (L : List ByteArray) : Prop where
  lt : g < W.heap.size
  at_ : ∀ j s, L[j]? = some s → W.cell? ⟨g, j, none⟩ = some (.string s)
theorem Tw.on {W W' : World} {g : Nat} {L : List ByteArray} (h : Tw W g L) (hb : Below W.heap.size W W') : Tw W' g L := ⟨Nat.lt_of_lt_of_le h.lt hb.size, fun j s hs => (hb.cell (p := ⟨g, j, none⟩) h.lt).trans (h.at_ j s hs)⟩
theorem Tw.sl {W : World} {g : Nat} {L : List ByteArray} (h : Tw W g L) : Sl W W.heap.size (some ⟨g, 0, none⟩) L.length (fun i => .string (L.getD i ByteArray.empty)) := fun _ =>
  ⟨⟨g, 0, none⟩, rfl, h.lt, fun i hi => by
    rw [addr_add, h.at_ i L[i] (List.getElem?_eq_getElem hi)]
    show _ = some (Value.string (L.getD i ByteArray.empty))
    rw [List.getD_eq_getElem?_getD, List.getElem?_eq_getElem hi]
    rfl⟩
theorem rowE_tw {w w' : World} {L : List ByteArray} {e : Ending} (h : RowE w w' L e) (hl : 0 < L.length) : ∃ g c, e = .returned (.slice (some ⟨g, 0, none⟩) L.length c) ∧ Tw w' g L := by
  obtain ⟨A, c, he, ho⟩ := h
  rcases ho.2 with ⟨_, h0⟩ | ⟨g, cap, cur, hv, _, hg, _⟩
  · omega
  · injection hv with hA _ _
    subst hA
    refine ⟨g, c, he, lt_blk hg, fun j s hs => ?_⟩
    have := ho.cells (g := g) rfl j (.string s) (by rw [List.getElem?_map, hs]; rfl)
    rw [addr_add] at this
    exact this
theorem inb_next {x v : ByteArray} {L : List ByteArray} {j : Nat} (h : L[j]? = some v) : Ld.inb x (L.take (j + 1)) = (Ld.inb x (L.take j) || (v.toList == x.toList)) := by
  obtain ⟨hj, e⟩ := List.getElem?_eq_some_iff.1 h
  have hv : (v.toList == x.toList) = decide (v = x) := by
    rw [Bool.eq_iff_iff, beq_iff_eq, decide_eq_true_iff]
    exact ⟨fun h => by
      have h1 : v.data.toList = x.data.toList := by rw [← ByteArray.toList_eq, ← ByteArray.toList_eq]; exact h
      cases v; cases x
      simpa using h1, fun h => by rw [h]⟩
  rw [hv]
  unfold Ld.inb
  rw [List.take_succ_eq_append_getElem hj, List.any_append, e]
  simp
theorem als_size {d : Sd} {W : World} {x v : ByteArray} (h : Lok d W) (hv : v ∈ Ld.als d.Z d.ls x) : v.size ≤ 9223372036854775807 := by
  rcases List.mem_append.1 (als_mem.1 hv).1 with h1 | h1
  · obtain ⟨z, hz, rfl⟩ := List.mem_map.1 h1
    exact h.zs z hz
  · obtain ⟨k, hk, rfl⟩ := List.mem_map.1 h1
    exact (h.ls k hk).2
theorem als_short {d : Sd} {W : World} {x : ByteArray} (h : Lok d W) : (Ld.als d.Z d.ls x).length ≤ 1000 := by
  unfold Ld.als
  refine Nat.le_trans (sel_len _) (Nat.le_trans (uqk_len _ _ _) ?_)
  have := h.sz
  unfold Sd.Z
  rw [List.length_append, List.length_map, List.length_map]
  exact this
theorem addr_o (b o j : Nat) : (⟨b, o, none⟩ : Addr).add j = ⟨b, o + j, none⟩ := by
  unfold Addr.add
  split <;> simp_all
theorem wpList_lks {w : World} {ops : Array Oper} {rest : List Oper} {o : Oper} {a : Act} {Q : Exit → Act → World → Prop} (hgd : o.guard = none) (s x : Operand)
    (ho : o.op = .call { callee := .builtin .append, args := #[s, x], argTypes := #[24, 24] }) (base : Nat) (v : Value) (L : List Lk) (hown : w.ownsRow base 39 2 v L.length (L.flatMap lcell)) (hs : a.eval s = v) (A : Option Addr) (c : Nat) (M : List Lk)
    (hx : a.eval x = .slice A M.length c) (hA : A = none → c = 0) (hM : Rk w w.heap.size A (M.flatMap lcell)) (hlen : L.length + M.length ≤ 4096) (hbase : base ≤ w.heap.size)
    (h : ∀ v' w', w'.ownsRow base 39 2 v' (L ++ M).length ((L ++ M).flatMap lcell) → w.grownBy w' v.ownBlock → wpList Try.prog ops Q rest (a.put o.dst v') w') : wpList Try.prog ops Q (o :: rest) a w := by
  obtain ⟨i0, hi, hz0, hz1, hz2⟩ := info_parts link_info
  cases A with
  | none =>
    have hm : M = [] := by
      cases M with
      | nil => rfl
      | cons k l => obtain ⟨b, o, e, _⟩ := hM (by simp [lcell]); cases e
    subst hm
    have hc := hA rfl
    subst hc
    refine wpList_append_own_none hgd s x 24 ho base 39 i0 2 Try.underlying24 hi v L.length (L.flatMap lcell) hs hown hx ?_
    exact h v w (by simpa using hown) ⟨rfl, rfl, rfl, Nat.le_refl _, fun _ _ _ => rfl⟩
  | some ad =>
    refine wpList_append_own w hgd s x 24 ho base 39 i0 _ 2 32 Try.underlying24 hi hz0 hz1 hz2 rfl (by omega) v L.length (L.flatMap lcell) hs hown ad M.length c (M.flatMap lcell) hx (by rw [flat_len lcell_len]) (fun j u hu => ?_) (fun u hu => ?_) (by unfold maxLen; omega) (by omega) hbase (fun v' w' h1 h2 _ => ?_)
    · have h0 : 0 < (M.flatMap lcell).length := by
        have := (List.getElem?_eq_some_iff.1 hu).1
        omega
      obtain ⟨b, o', e, _, hc⟩ := hM h0
      injection e with e
      subst e
      rw [addr_o]
      exact hc j u hu
    · obtain ⟨k, _, hk⟩ := List.mem_flatMap.1 hu
      simp [lcell] at hk
      rcases hk with rfl | rfl <;> rfl
    · refine h v' w' ?_ h2
      rw [List.flatMap_append, List.length_append]
      exact h1
theorem own_shape {W : World} {base : Nat} {e : TypeId} {size n : Nat} {v : Value} {xs : List Value} (h : W.ownsRow base e size v n xs) (hn : 0 < n) : ∃ g cap, v = .slice (some ⟨g, 0, none⟩) n cap := by
  rcases h.2 with ⟨_, h0⟩ | ⟨g, cap, _, rfl, _⟩
  · omega
  · exact ⟨g, cap, rfl⟩
theorem rk_links {w : World} {B c n : Nat} {A : Option Addr} {xs : List Value} (h : w.ownsRow B 39 2 (.slice A n c) n xs) : Rk w w.heap.size A xs := fun hn => by
  rcases h.2 with ⟨_, h0⟩ | ⟨g, cap, cur, hv, _, hg, _⟩
  · have := h.1
    rw [h0] at this
    omega
  · injection hv with h1 _ _
    subst h1
    refine ⟨g, 0, rfl, lt_blk hg, fun j u hu => ?_⟩
    have := h.cells (g := g) rfl j u hu
    rw [addr_add] at this
    rw [Nat.zero_add]
    exact this
theorem lok_of {d : Sd} {W : World} (hf : d.fits) (hd : d.at_ W W.heap.size) (h1 : d.zs.length ≤ 12) (h2 : d.ls.length ≤ 20) : Lok d W :=
  ⟨hd, by omega, fun k hk => hf.ln k hk, fun z hz => (hf.zn z hz).1⟩
set_option maxHeartbeats 16000000 in
theorem walkLinkOne (d : Sd) (hf : d.fits) (hnil : d.lA = none → d.lc = 0) (x : ByteArray) (hx : x.size ≤ 9223372036854775807) (y : ByteArray) (hy : y.size ≤ 9223372036854775807) (w : World) (hd : d.at_ w w.heap.size) :
    Calls Try.prog 3 #[d.val, .string x, .string y] w fun e w' => e = .returned (.bool true) ∧ Below w.heap.size w w' := by
  have hb := box_below w (.cells #[.slice d.rA d.rs.length d.rc, .slice d.zA d.zs.length d.zc, .slice d.lA d.ls.length d.lc] 26)
  have hbx : Bx (w.alloc (.cells #[.slice d.rA d.rs.length d.rc, .slice d.zA d.zs.length d.zc, .slice d.lA d.ls.length d.lc] 26)) w.heap.size [.slice d.rA d.rs.length d.rc, .slice d.zA d.zs.length d.zc, .slice d.lA d.ls.length d.lc] := Bx.mk' w w.heap.size #[.slice d.rA d.rs.length d.rc, .slice d.zA d.zs.length d.zc, .slice d.lA d.ls.length d.lc] _ rfl
  have HL := Lib.hid (lives13_true (w.alloc (.cells #[.slice d.rA d.rs.length d.rc, .slice d.zA d.zs.length d.zc, .slice d.lA d.ls.length d.lc] 26)))
  have HN := Lib.hid hnil
  clear hnil
  go_enter Try.func3, Try.ntmps3
  go_wp2_with fail
  refine HL.out.mono ?_
  rintro e w1 ⟨rfl, b1⟩
  have hx1 := hbx.on b1
  have d1 := (hd.on hb).on b1
  have bl1 := hb.trans (b1.mono hb.size)
  have c0 := hx1.at_ 0 _ rfl
  have c1 := hx1.at_ 1 _ rfl
  have c2 := hx1.at_ 2 _ rfl
  have HS := Lib.hid (ssmall_any d w1 hf d1)
  clear hbx hb HL b1
  go_wp2_with fail
  refine HS.out.mono ?_
  rintro e w2 ⟨hse, b2⟩
  rcases hse with rfl | ⟨rfl, g1, g2, g3, _⟩
  · have bl2 := bl1.trans (b2.mono bl1.size)
    clear c0 c1 c2 HS b2 hx1 d1 bl1 hf hd
    go_wp2_with fail
    go_ret
    exact ⟨rfl, bl2⟩
  · have H2 : Hid (K13 w d w.heap.size w2) := Lib.hid ⟨hx1.on b2, lok_of hf (d1.on b2) g2 g3, bl1.trans (b2.mono bl1.size)⟩
    clear c0 c1 c2 HS b2 hx1 d1 bl1
    --MAIN
    have c20 := H2.out.bx.at_ 0 _ rfl
    have c21 := H2.out.bx.at_ 1 _ rfl
    have c22 := H2.out.bx.at_ 2 _ rfl
    have g4 : d.zs.length ≤ 12 := g2
    have g5 : d.ls.length ≤ 20 := g3
    by_cases sx : x.size ≤ 1000
    · have tx : ¬ (1000 : Int) < (x.size : Int) := by omega
      by_cases sy : y.size ≤ 1000
      · have ty : ¬ (1000 : Int) < (y.size : Int) := by omega
        have KZ := Lib.hid (lzone_any d x _ H2.out.lk hx)
        go_wp2_with fail
        refine KZ.out.mono ?_
        rintro e w3 ⟨rfl, b3⟩
        have H3 := Lib.hid (H2.out.on b3)
        clear KZ b3 c20 c21 c22
        have c30 := H3.out.bx.at_ 0 _ rfl
        have c31 := H3.out.bx.at_ 1 _ rfl
        have c32 := H3.out.bx.at_ 2 _ rfl
        have KC := Lib.hid (lchain_any d x _ H3.out.lk hx)
        go_wp2_with fail
        refine KC.out.mono ?_
        rintro e w4 ⟨⟨k, hch, hrow⟩, b4⟩
        have hcl := chs_len d.Z d.ls x k
        obtain ⟨gc, qc, rfl, s4⟩ := rowE_tw hrow (by rw [hcl]; exact hch.1)
        have H4 := Lib.hid (H3.out.on b4)
        have T4 := Lib.hid s4
        have HCH := Lib.hid hch
        have hk0 := hch.1
        have hkl := hch.2.1
        have r0 : w4.cell? ⟨gc, 0, none⟩ = some (.string x) := s4.at_ 0 x (by unfold Ld.chs; rw [List.getElem?_map, List.getElem?_range hk0]; rfl)
        clear KC b4 c30 c31 c32 s4 hrow hch
        have c40 := H4.out.bx.at_ 0 _ rfl
        have c41 := H4.out.bx.at_ 1 _ rfl
        have c42 := H4.out.bx.at_ 2 _ rfl
        rw [hcl]
        clear hcl
        have tk : ((k : Int) == 0) = false := by rw [beq_eq_false_iff_ne]; omega
        have txx : (x.toList != x.toList) = false := by simp
        go_wp2_with fail
        clear r0 tk
        have HP := Lib.hid (rfl : Ld.zn d.Z d.ls x = Ld.zn d.Z d.ls x)
        obtain ⟨p, hp⟩ : ∃ p, Ld.zn d.Z d.ls x = p := ⟨_, rfl⟩
        have HPX := Lib.hid hp
        rw [hp] at HP ⊢
        obtain ⟨a, z0⟩ := p
        clear hp HP
        go_loopw [61] (fun i wr => ∃ j : Nat, j ≤ k ∧ i = .int .i64 j ∧ Hid (K13 w d w.heap.size wr) ∧ Hid (Tw wr gc (Ld.chs d.Z d.ls x k))) (fun i _ => k - (intOf i).toNat)
        case atStart => exact ⟨0, Nat.zero_le _, rfl, H4, T4⟩
        case round =>
          clear c40 c41 c42 H4 T4
          obtain ⟨j, hj, rfl, H4, T4⟩ := hrel
          have tz : ((z0 : Int) != z0) = false := by simp
          have ta : ((a : Int) != (a : Int)) = false := by simp
          have c40 := H4.out.bx.at_ 0 _ rfl
          have c41 := H4.out.bx.at_ 1 _ rfl
          have c42 := H4.out.bx.at_ 2 _ rfl
          by_cases hlt : j < k
          · have hnn := it_size (Z := d.Z) (K := d.ls) hx (fun q hq => (H4.out.lk.ls q hq).1) j
            have rj : wr.cell? ⟨gc, j, none⟩ = some (.string (Ld.it d.Z d.ls j x)) := T4.out.at_ j _ (by unfold Ld.chs; rw [List.getElem?_map, List.getElem?_range hlt]; rfl)
            have KZ := Lib.hid (lzone_any d (Ld.it d.Z d.ls j x) wr H4.out.lk hnn)
            go_wp2_with fail
            refine KZ.out.mono ?_
            rw [zn_it, HPX.out]
            rintro e w5 ⟨rfl, b5⟩
            have H5 := Lib.hid (H4.out.on b5)
            have T5 := Lib.hid (T4.out.on b5)
            clear KZ b5 rj c40 c41 c42
            go_wp2_with fail
            go_roundw
            case rel => exact ⟨j + 1, by omega, by go_num, H5, T5⟩
            case measure => simp [intOf]; omega
          · obtain rfl : j = k := by omega
            by_cases hz0 : z0 = 0
            · subst hz0
              have hzz : (Ld.zn d.Z d.ls x).2 = 0 := by rw [HPX.out]
              have KA := Lib.hid (lalias_yes d x wr H4.out.lk hx hzz)
              have hxa : x ∈ Ld.als d.Z d.ls x := als_mem.2 ⟨in_names hzz, rfl⟩
              have hla : 0 < (Ld.als d.Z d.ls x).length := List.length_pos_of_mem hxa
              go_wp2_with fail
              refine KA.out.mono ?_
              rintro e w6 ⟨hrow, b6⟩
              obtain ⟨ga, qa, rfl, s6⟩ := rowE_tw hrow hla
              have H6 := Lib.hid (H4.out.on b6)
              have T6 := Lib.hid (T4.out.on b6)
              have TA6 := Lib.hid s6
              have hlst := chain_last HCH.out hzz
              rw [HPX.out] at hlst
              have haz : a < d.zs.length := by
                have := (List.getElem?_eq_some_iff.1 hlst).1
                unfold Sd.Z at this
                rw [List.length_map] at this
                exact this
              have rl : w6.cell? ⟨gc, j - 1, none⟩ = some (.string (Ld.it d.Z d.ls (j - 1) x)) := T6.out.at_ (j - 1) _ (by unfold Ld.chs; rw [List.getElem?_map, List.getElem?_range (by omega)]; rfl)
              obtain ⟨zd, hzd⟩ : ∃ zd, d.zs[a]? = some zd := ⟨_, List.getElem?_eq_getElem haz⟩
              have hnm : zd.nm = Ld.it d.Z d.ls (j - 1) x := by
                unfold Sd.Z at hlst
                rw [List.getElem?_map, hzd] at hlst
                exact Option.some.inj hlst
              obtain ⟨bz, oz, eZ, hbz, hcz⟩ := H6.out.lk.at_.z.at_ zcell_len (by decide) hzd
              have rz : w6.cell? ⟨bz, oz + a * 2, none⟩ = some (.string (Ld.it d.Z d.ls (j - 1) x)) := by
                rw [← hnm]
                exact hcz 0 _ rfl
              clear KA b6 hrow s6 hlst c40 c41 c42 hcz
              have c60 := H6.out.bx.at_ 0 _ rfl
              have c61 := H6.out.bx.at_ 1 _ rfl
              have c62 := H6.out.bx.at_ 2 _ rfl
              rw [eZ] at c61
              generalize Ld.it d.Z d.ls (j - 1) x = lastn at *
              have HZD := Lib.hid hzd
              have HNM := Lib.hid hnm
              have HEZ := Lib.hid eZ
              clear hzd hnm eZ
              have t1 : decide (d.zs.length ≤ a) = false := decide_eq_false (by omega)
              have t2 : IntKind.i64.wrap ((j : Int) - 1) = (j : Int) - 1 := IntWalk.i64_in _ (by omega)
              have t3 : ((j : Int) - 1).toNat = j - 1 := by omega
              have t4 : (0 : Int) ≤ (j : Int) - 1 := by omega
              have t5 : (j : Int) - 1 < (j : Int) := by omega
              have t6 : (lastn.toList != lastn.toList) = false := by simp
              have t7 : decide ((a : Int) < 0) = false := decide_eq_false (by omega)
              go_wp2_with fail
              go_quiet (fail)
              go_wp2_with fail
              have hls := als_short (x := x) H6.out.lk
              have H6d := Lib.hid (H6.out.on (below_drewN (Below.refl w6.heap.size w6) nq))
              have TA6d := Lib.hid (TA6.out.on (below_drewN (Below.refl w6.heap.size w6) nq))
              clear c60 c61 c62 rl rz t1 t2 t3 t4 t5 t6 t7 T6 TA6 H6 T4
              generalize hL : (Ld.als d.Z d.ls x).length = n at *
              have HLL := Lib.hid hL
              clear hL
              go_loopw [15, 118] (fun s15 i wr => ∃ j2 : Nat, j2 ≤ n ∧ i = .int .i64 j2 ∧ s15 = .bool (Ld.inb x ((Ld.als d.Z d.ls x).take j2)) ∧ Hid (K13 w d w.heap.size wr) ∧ Hid (Tw wr ga (Ld.als d.Z d.ls x))) (fun _ i _ => n - (intOf i).toNat)
              case atStart => exact ⟨0, Nat.zero_le _, rfl, rfl, H6d, TA6d⟩
              case round =>
                clear H6d TA6d
                obtain ⟨j2, hj2, rfl, rfl, H6, TA6⟩ := hrel
                have c60 := H6.out.bx.at_ 0 _ rfl
                have c61 := H6.out.bx.at_ 1 _ rfl
                have c62 := H6.out.bx.at_ 2 _ rfl
                by_cases hlt : j2 < n
                · obtain ⟨v, hv⟩ : ∃ v, (Ld.als d.Z d.ls x)[j2]? = some v := ⟨_, List.getElem?_eq_getElem (by rw [HLL.out]; exact hlt)⟩
                  have hvm := List.mem_of_getElem? hv
                  have hzv := (als_mem.1 hvm).2.trans HPX.out
                  have hvs := als_size H6.out.lk hvm
                  have HIN := Lib.hid (inb_next (x := x) hv)
                  have rj : wr.cell? ⟨ga, j2, none⟩ = some (.string v) := TA6.out.at_ j2 v hv
                  have KZ := Lib.hid (lzone_any d v wr H6.out.lk hvs)
                  obtain ⟨c, hc⟩ : ∃ c, (v.toList == x.toList) = c := ⟨_, rfl⟩
                  clear hv hvm
                  cases hb : Ld.inb x ((Ld.als d.Z d.ls x).take j2) with
                  | true =>
                    have HB := Lib.hid hb
                    clear hb
                    go_wp2_with fail
                    refine KZ.out.mono ?_
                    rw [hzv]
                    rintro e w7 ⟨rfl, b7⟩
                    have H7 := Lib.hid (H6.out.on b7)
                    have TA7 := Lib.hid (TA6.out.on b7)
                    have KA := Lib.hid (lalias_yes d v w7 H7.out.lk hvs (by rw [hzv]))
                    clear KZ b7 rj c60 c61 c62
                    have c70 := H7.out.bx.at_ 0 _ rfl
                    have c71 := H7.out.bx.at_ 1 _ rfl
                    have c72 := H7.out.bx.at_ 2 _ rfl
                    go_wp2_with fail
                    refine KA.out.mono ?_
                    rw [als_eq (hzv.trans HPX.out.symm)]
                    rintro e w8 ⟨hrow, b8⟩
                    obtain ⟨g8, q8, rfl, s8⟩ := rowE_tw hrow (by rw [HLL.out]; exact hla)
                    have H8 := Lib.hid (H7.out.on b8)
                    have TA8 := Lib.hid (TA7.out.on b8)
                    have KT := Lib.hid (texts_eq (some ⟨g8, 0, none⟩) (some ⟨ga, 0, none⟩) (Ld.als d.Z d.ls x).length q8 qa (Ld.als d.Z d.ls x) (by rw [HLL.out]; omega) w8 s8.sl TA8.out.sl)
                    clear KA b8 hrow s8 c70 c71 c72
                    rw [HLL.out] at KT ⊢
                    go_wp2_with fail
                    refine KT.out.mono ?_
                    rintro e w9 ⟨rfl, b9⟩
                    have H9 := Lib.hid (H8.out.on b9)
                    have TA9 := Lib.hid (TA8.out.on b9)
                    clear KT b9
                    go_wp2_with fail
                    go_roundw
                    case rel => exact ⟨j2 + 1, by omega, by go_num, by rw [HIN.out, HB.out, Bool.true_or], H9, TA9⟩
                    case measure => simp [intOf]; omega
                  | false =>
                    have HB := Lib.hid hb
                    have HCV := Lib.hid hc
                    clear hb
                    go_wp2_with fail
                    refine KZ.out.mono ?_
                    rw [hzv]
                    rintro e w7 ⟨rfl, b7⟩
                    have H7 := Lib.hid (H6.out.on b7)
                    have TA7 := Lib.hid (TA6.out.on b7)
                    have KA := Lib.hid (lalias_yes d v w7 H7.out.lk hvs (by rw [hzv]))
                    clear KZ b7 rj c60 c61 c62
                    have c70 := H7.out.bx.at_ 0 _ rfl
                    have c71 := H7.out.bx.at_ 1 _ rfl
                    have c72 := H7.out.bx.at_ 2 _ rfl
                    go_wp2_with fail
                    refine KA.out.mono ?_
                    rw [als_eq (hzv.trans HPX.out.symm)]
                    rintro e w8 ⟨hrow, b8⟩
                    obtain ⟨g8, q8, rfl, s8⟩ := rowE_tw hrow (by rw [HLL.out]; exact hla)
                    have H8 := Lib.hid (H7.out.on b8)
                    have TA8 := Lib.hid (TA7.out.on b8)
                    have KT := Lib.hid (texts_eq (some ⟨g8, 0, none⟩) (some ⟨ga, 0, none⟩) (Ld.als d.Z d.ls x).length q8 qa (Ld.als d.Z d.ls x) (by rw [HLL.out]; omega) w8 s8.sl TA8.out.sl)
                    clear KA b8 hrow s8 c70 c71 c72
                    rw [HLL.out] at KT ⊢
                    go_wp2_with fail
                    refine KT.out.mono ?_
                    rintro e w9 ⟨rfl, b9⟩
                    have H9 := Lib.hid (H8.out.on b9)
                    have TA9 := Lib.hid (TA8.out.on b9)
                    clear KT b9
                    go_wp2_with fail
                    go_roundw
                    case rel => exact ⟨j2 + 1, by omega, by go_num, by rw [HIN.out, HB.out, Bool.false_or, HCV.out], H9, TA9⟩
                    case measure => simp [intOf]; omega
                · obtain rfl : j2 = n := by omega
                  have hm : Ld.inb x ((Ld.als d.Z d.ls x).take j2) = true := by
                    rw [List.take_of_length_le (by rw [HLL.out]; exact Nat.le_refl _), inb_iff]
                    exact hxa
                  rw [hm]
                  have KZ := Lib.hid (lzone_any d y wr H6.out.lk hy)
                  clear hm TA6
                  go_wp2_with fail
                  refine KZ.out.mono ?_
                  rintro e w10 ⟨rfl, b10⟩
                  have H10 := Lib.hid (H6.out.on b10)
                  clear KZ b10 c60 c61 c62
                  have c100 := H10.out.bx.at_ 0 _ rfl
                  have c101 := H10.out.bx.at_ 1 _ rfl
                  have c102 := H10.out.bx.at_ 2 _ rfl
                  obtain ⟨p2, hp2⟩ : ∃ p2, Ld.zn d.Z d.ls y = p2 := ⟨_, rfl⟩
                  have HPY := Lib.hid hp2
                  rw [hp2]
                  clear hp2
                  obtain ⟨a2, z2⟩ := p2
                  by_cases hz2 : z2 = 3
                  · subst hz2
                    have KC := Lib.hid (lchain_any d y w10 H10.out.lk hy)
                    go_wp2_with fail
                    refine KC.out.mono ?_
                    rintro e w11 ⟨⟨k2, hch, hrow⟩, b11⟩
                    obtain ⟨A11, q11, rfl, _⟩ := rowE_sl hrow
                    have H11 := Lib.hid (H10.out.on b11)
                    have hk2 := chs_len d.Z d.ls y k2
                    have hk3 := hch.2.1
                    rw [hk2]
                    have HCY := Lib.hid hch
                    clear KC b11 hrow hch hk2 c100 c101 c102
                    have c110 := H11.out.bx.at_ 0 _ rfl
                    have c111 := H11.out.bx.at_ 1 _ rfl
                    have c112 := H11.out.bx.at_ 2 _ rfl
                    by_cases h21 : k2 = 1
                    · subst h21
                      have hy3 : Ld.zn d.Z d.ls y = (0, 3) := by
                        rcases zn_why d.Z d.ls y with h | h | h
                        · rw [HPY.out] at h; exact absurd h (show ¬ (3 : Int) = 0 by decide)
                        · exact h
                        · rw [HPY.out] at h; exact absurd (congrArg Prod.snd h) (show ¬ (3 : Int) = 9 by decide)
                      have HFR := Lib.hid (fresh_of hy3 HCY.out)
                      clear hy3
                      have hzz2 : (Ld.zn d.Z d.ls x).2 = 0 := by rw [HPX.out]
                      have bS := box_below w11 (.cells #[.slice d.rA d.rs.length d.rc, .slice d.zA d.zs.length d.zc, .slice d.lA d.ls.length d.lc] 26)
                      have hS := heap_alloc_new w11 (.cells #[.slice d.rA d.rs.length d.rc, .slice d.zA d.zs.length d.zc, .slice d.lA d.ls.length d.lc] 26)
                      have bE := box_below (w11.alloc (.cells #[.slice d.rA d.rs.length d.rc, .slice d.zA d.zs.length d.zc, .slice d.lA d.ls.length d.lc] 26)) (.cells #[] 39)
                      have oE := World.ownsRow_lit (base := w11.heap.size + 1) (e := 39) (size := 2) (w11.alloc (.cells #[.slice d.rA d.rs.length d.rc, .slice d.zA d.zs.length d.zc, .slice d.lA d.ls.length d.lc] 26)) #[] 0 (by simp) (by decide) rfl
                      have rE := ((H11.out.lk.at_.l.below bS).below (bE.mono (by simp)))
                      have HOE : Hid (((w11.alloc (.cells #[.slice d.rA d.rs.length d.rc, .slice d.zA d.zs.length d.zc, .slice d.lA d.ls.length d.lc] 26)).alloc (.cells #[] 39)).ownsRow (w11.heap.size + 1) 39 2 (.slice (some ⟨w11.heap.size + 1, 0, none⟩) 0 0) ([] : List Lk).length (([] : List Lk).flatMap lcell)) := Lib.hid (by
                        have := oE
                        rw [World.size_alloc] at this
                        exact this)
                      have HRE := Lib.hid (rE.more (B' := ((w11.alloc (.cells #[.slice d.rA d.rs.length d.rc, .slice d.zA d.zs.length d.zc, .slice d.lA d.ls.length d.lc] 26)).alloc (.cells #[] 39)).heap.size) (by simp; omega))
                      have HBX := Lib.hid (bS.trans (bE.mono (by simp)))
                      have HSB := Lib.hid ((bE.block w11.heap.size (by simp)).trans hS)
                      have hlw := H11.out.bx.lt
                      clear bS hS bE oE rE
                      go_wp2_with (first
                        | (at_builtin; refine wpList_lks rfl (.tmp 168) (.tmp 170) rfl (w11.heap.size + 1) _ [] HOE.out rfl d.lA d.lc d.ls rfl HN.out HRE.out (by first | omega | (simp; done) | (simp; omega)) (by first | omega | (simp; done) | (simp; omega)) ?_; intro v1 Y1 hown1 hg1; have hb1 : Below (w11.heap.size + 1) ((w11.alloc (.cells #[.slice d.rA d.rs.length d.rc, .slice d.zA d.zs.length d.zc, .slice d.lA d.ls.length d.lc] 26)).alloc (.cells #[] 39)) Y1 := (Below.refl _ _).grown hg1 (by first | omega | (simp; done) | (simp; omega)) (fun k e => (HOE.out.lt k e).1); have HB1 := Lib.hid hb1; have hz1 := hb1.size; simp only [World.size_alloc] at hz1; have HO1 : Hid ((Y1.alloc (.cells #[.string x, .string y] 39)).ownsRow (w11.heap.size + 1) 39 2 v1 d.ls.length (d.ls.flatMap lcell)) := Lib.hid (World.ownsRow.alloc hown1 _); have HR1 : Hid (Rk (Y1.alloc (.cells #[.string x, .string y] 39)) (Y1.alloc (.cells #[.string x, .string y] 39)).heap.size (some ⟨Y1.heap.size, 0, none⟩) (([⟨x, y⟩] : List Lk).flatMap lcell)) := Lib.hid (rk_lit (heap_alloc_new Y1 (.cells #[.string x, .string y] 39))); clear hown1 hg1 hb1)
                        | (at_builtin; refine wpList_lks rfl (.tmp 171) (.tmp 175) rfl (w11.heap.size + 1) _ d.ls HO1.out rfl (some ⟨Y1.heap.size, 0, none⟩) 1 [⟨x, y⟩] rfl (fun e => by cases e) HR1.out (by first | omega | (simp; done) | (simp; omega)) (by first | omega | (simp; done) | (simp; omega)) ?_; intro v2 Y2 hown2 hg2; obtain ⟨gg, cap, rfl⟩ := own_shape hown2 (by first | omega | (simp; done) | (simp; omega)); have hb2 : Below (w11.heap.size + 1) (Y1.alloc (.cells #[.string x, .string y] 39)) Y2 := (Below.refl _ _).grown hg2 (by first | omega | (simp; done) | (simp; omega)) (fun k e => (HO1.out.lt k e).1); have hbX := HB1.out.trans (((box_below Y1 (.cells #[.string x, .string y] 39)).mono (by omega)).trans hb2); have hS2 := (hbX.block w11.heap.size (Nat.lt_succ_self _)).trans HSB.out; have k0 := cell_blk hS2 0; have k1 := cell_blk hS2 1; have k2' := cell_blk hS2 2; have kf := frozen_blk hS2 2; change Y2.cell? ⟨w11.heap.size, 0, none⟩ = some (.slice d.rA d.rs.length d.rc) at k0; change Y2.cell? ⟨w11.heap.size, 1, none⟩ = some (.slice d.zA d.zs.length d.zc) at k1; change Y2.cell? ⟨w11.heap.size, 2, none⟩ = some (.slice d.lA d.ls.length d.lc) at k2'; have HO2 := Lib.hid hown2; have HBXX := Lib.hid hbX; have HS2 := Lib.hid hS2; clear hown2 hg2 hb2 hbX hS2))
                      have hBw : Below w11.heap.size w11 Y2 := HBX.out.trans (HBXX.out.mono (Nat.le_succ _))
                      have hZ0 : Below w11.heap.size w11 (Y2.setCell ⟨w11.heap.size, 2, none⟩ (.slice (some ⟨gg, 0, none⟩) (d.ls ++ [Lk.mk x y]).length cap)) := hBw.setCell (p := ⟨w11.heap.size, 2, none⟩) (Nat.le_refl _) _
                      have hO3 : (Y2.setCell ⟨w11.heap.size, 2, none⟩ (.slice (some ⟨gg, 0, none⟩) (d.ls ++ [Lk.mk x y]).length cap)).ownsRow (w11.heap.size + 1) 39 2 (.slice (some ⟨gg, 0, none⟩) (d.ls ++ [Lk.mk x y]).length cap) (d.ls ++ [Lk.mk x y]).length ((d.ls ++ [Lk.mk x y]).flatMap lcell) := HO2.out.kept (grown_set _ _ _) (.inr (own_not_blk' HO2.out HS2.out (by decide)))
                      have hLok : Lok (⟨d.rA, d.rc, d.rs, d.zA, d.zc, d.zs, some ⟨gg, 0, none⟩, cap, d.ls ++ [Lk.mk x y]⟩ : Sd) (Y2.setCell ⟨w11.heap.size, 2, none⟩ (.slice (some ⟨gg, 0, none⟩) (d.ls ++ [Lk.mk x y]).length cap)) := by
                        have hd' := (H11.out.lk.at_.below hZ0).more hZ0.size
                        refine ⟨⟨hd'.r, hd'.z, hd'.e, rk_links hO3⟩, ?_, fun q hq => ?_, H11.out.lk.zs⟩
                        · show d.zs.length + (d.ls ++ [Lk.mk x y]).length ≤ 1000
                          rw [List.length_append, List.length_singleton]
                          omega
                        · rcases List.mem_append.1 hq with hq | hq
                          · exact H11.out.lk.ls q hq
                          · rw [List.mem_singleton.1 hq]
                            exact ⟨hx, hy⟩
                      have hZL := lzone_any (⟨d.rA, d.rc, d.rs, d.zA, d.zc, d.zs, some ⟨gg, 0, none⟩, cap, d.ls ++ [Lk.mk x y]⟩ : Sd) y _ hLok hy
                      have hlen : (d.ls ++ [Lk.mk x y]).length = d.ls.length + 1 := by rw [List.length_append]; rfl
                      dsimp only [Sd.val] at hZL
                      rw [hlen] at hZL hZ0
                      rw [show (⟨d.rA, d.rc, d.rs, d.zA, d.zc, d.zs, some ⟨gg, 0, none⟩, cap, d.ls ++ [Lk.mk x y]⟩ : Sd).Z = d.Z from rfl, zn_new hzz2 HFR.out, HPX.out] at hZL
                      have KZ := Lib.hid hZL
                      have HZ0 := Lib.hid hZ0
                      clear hBw hZ0 hO3 hLok hlen hZL
                      with_reducible refine KZ.out.mono ?_
                      rintro e w12 ⟨rfl, b12⟩
                      have hfin := H11.out.bel.trans ((HZ0.out.mono H11.out.bel.size).trans (b12.mono (Nat.le_trans H11.out.bel.size HZ0.out.size)))
                      have ta2 : ((a : Int) == (a : Int)) = true := by simp
                      clear k0 k1 k2' kf b12
                      go_wp2_with fail
                      go_ret
                      exact ⟨rfl, hfin⟩
                    · have t1 : ((k2 : Int) != 1) = true := by rw [bne_iff_ne]; omega
                      go_wp2_with fail
                      go_ret
                      exact ⟨rfl, H11.out.bel⟩
                  · have t1 : ((z2 : Int) != 3) = true := by rw [bne_iff_ne]; exact hz2
                    go_wp2_with fail
                    go_ret
                    exact ⟨rfl, H10.out.bel⟩
            · have hz0' : (Ld.zn d.Z d.ls x).2 ≠ 0 := by rw [HPX.out]; exact hz0
              have ha0 : a = 0 := by
                rcases zn_why d.Z d.ls x with h | h | h
                · exact absurd h hz0'
                · rw [HPX.out] at h; injection h
                · rw [HPX.out] at h; injection h
              subst ha0
              have KA := Lib.hid (lalias_no d x wr H4.out.lk hx hz0')
              have t1 : ((z0 : Int) != 0) = true := by rw [bne_iff_ne]; exact hz0
              go_wp2_with fail
              refine KA.out.mono ?_
              rintro e w6 ⟨rfl, b6⟩
              have H6 := Lib.hid (H4.out.on b6)
              clear b6 c40 c41 c42 hz0
              go_wp2_with fail
              go_ret
              exact ⟨rfl, H6.out.bel⟩
      · have ty : (1000 : Int) < (y.size : Int) := by omega
        go_wp2_with fail
        go_ret
        exact ⟨rfl, H2.out.bel⟩
    · have tx : (1000 : Int) < (x.size : Int) := by omega
      go_wp2_with fail
      go_ret
      exact ⟨rfl, H2.out.bel⟩
end Go.Proofs.Ytghllibpcehmdaa
