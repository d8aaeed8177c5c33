/- A source's text: print.Text. -/
import Derived.Test.YtkcbmnboccjnnaaGreatDoorPz
namespace Go.Proofs.YtkcbmnboccjnnaaGreatDoor
open Go.RowKit
set_option maxRecDepth 100000
theorem PgV.on {w w' : World} {B b : Nat} {p v : Value} {bs : List Value} {c : Int} (h : PgV w B b p v bs c) (hb : Below w.heap.size w w') : PgV w' B b p v bs c :=
  ⟨h.own, (hb.block b h.lt).trans h.hp, own_on h.row hb, h.ne⟩
theorem Pg.on {w w' : World} {B b : Nat} {bs : List Value} {c : Int} (h : Pg w B b bs c) (hb : Below w.heap.size w w') : Pg w' B b bs c := by
  obtain ⟨p, v, hp, h⟩ := h
  exact ⟨p, v, hp, h.on hb⟩
theorem pg_new (w : World) : Pg (w.alloc (.cells #[.pointer none, .slice none 0 0, .int .i64 0] 89)) w.heap.size w.heap.size (Lib.byteCells []) 0 :=
  ⟨_, _, .inl rfl, ⟨Nat.le_refl _, heap_alloc_new w _, World.ownsRow_nil _ _ _ _, by simp [Value.ownBlock]⟩⟩
theorem th_one (w : World) (s : ByteArray) : Th (w.alloc (.cells #[.string s] 9)) (.slice (some ⟨w.heap.size, 0, none⟩) 1 1) [s] :=
  .inr ⟨w.heap.size, 1, #[.string s], (0, 0), rfl, heap_alloc_new w _, fun j hj => by
    obtain rfl : j = 0 := by simpa using hj
    rfl⟩
theorem lfs_line (p : PL) (hp : p.1 = []) : lfs [(⟨(lineOf (bts p.2)).toArray⟩ : ByteArray)] = Pt.bytes [p] := by
  unfold lfs Pt.bytes PL.line
  simp [hp]
theorem lfs_zls (z : Zn) : lfs (zls z) = Pt.bytes (Pt.zone z) := by
  unfold lfs zls Pt.bytes
  rw [List.flatMap_map]
theorem PgW.on {w w' : World} {B b : Nat} {l : List UInt8} (h : PgW w B b l) (hb : Below w.heap.size w w') : PgW w' B b l := by
  rcases h with ⟨h1, h2⟩ | ⟨h1, bs, h2⟩
  · exact .inl ⟨h1, h2.on hb⟩
  · exact .inr ⟨h1, bs, h2.on hb⟩
theorem ecnt_le (l : List Er) : Er.cnt l ≤ 7 * l.length := by
  induction l with
  | nil => simp [Er.cnt]
  | cons e l ih =>
    have := (num_le7 e).2
    have h2 : Er.cnt (e :: l) = El.num e + Er.cnt l := by simp [Er.cnt]
    rw [h2, List.length_cons]
    omega
theorem zcnt_le (l : List Zn) (h : ∀ z ∈ l, z.es.length ≤ 64) : Zn.cnt l ≤ 450 * l.length := by
  induction l with
  | nil => simp [Zn.cnt]
  | cons z l ih =>
    have h1 := ecnt_le z.es
    have h3 := h z (List.mem_cons_self)
    have h2 : Zn.cnt (z :: l) = (2 + Er.cnt z.es) + Zn.cnt l := by simp [Zn.cnt]
    have := ih (fun z' hz' => h z' (List.mem_cons_of_mem _ hz'))
    rw [h2, List.length_cons]
    omega
theorem ptext_most {s : Src} (h : So.right s = true) : (Pt.text s).length ≤ 1099511627776 := by
  have h1 := ptext_len h
  obtain ⟨⟨l1, l2, l3⟩, _, p3, _⟩ := so_parts h
  have h2 := zcnt_le s.zs (fun z hz => (zone_parts (p3 z hz)).2.1.2)
  unfold Src.cnt at h1
  omega
theorem pre_len {s : Src} {q : List PL} (hz : (Pt.text s).length ≤ 1099511627776) (h : q <+: Pt.lines s) : (Pt.bytes q).length ≤ 1099511627776 := by
  obtain ⟨t, ht⟩ := h
  unfold Pt.text at hz
  rw [← ht, pbytes_app, List.length_append] at hz
  omega
theorem map_snoc_at {α β : Type} (f : α → β) (l : List α) (k : Nat) (x : α) (h : l[k]? = some x) : (l.take (k + 1)).map f = (l.take k).map f ++ [f x] := by
  obtain ⟨hk, e⟩ := List.getElem?_eq_some_iff.1 h
  rw [List.take_succ_eq_append_getElem hk, List.map_append, e]
  rfl
theorem flat_snoc_at {α β : Type} (f : α → List β) (l : List α) (k : Nat) (x : α) (h : l[k]? = some x) : (l.take (k + 1)).flatMap f = (l.take k).flatMap f ++ f x := by
  obtain ⟨hk, e⟩ := List.getElem?_eq_some_iff.1 h
  rw [List.take_succ_eq_append_getElem hk, List.flatMap_append, e]
  simp
theorem map_pre {α β : Type} (f : α → β) (l : List α) (k : Nat) : (l.take k).map f <+: l.map f := (List.take_prefix k l).map f
theorem flat_pre {α β : Type} (f : α → List β) (l : List α) (k : Nat) : (l.take k).flatMap f <+: l.flatMap f := by
  refine ⟨(l.drop k).flatMap f, ?_⟩
  rw [← List.flatMap_append, List.take_append_drop]
/-- The lines ahead of the k-th rule, zone, link. -/
def Pt.q1 (s : Src) (k : Nat) : List PL := (s.rs.take k).map Pt.rule
def Pt.q2 (s : Src) (k : Nat) : List PL := s.rs.map Pt.rule ++ (s.zs.take k).flatMap Pt.zone
def Pt.q3 (s : Src) (k : Nat) : List PL := s.rs.map Pt.rule ++ (s.zs.flatMap Pt.zone ++ (s.ls.take k).map Pt.link)
theorem q1_pre (s : Src) (k : Nat) : Pt.q1 s k <+: Pt.lines s := (map_pre _ _ _).trans (List.prefix_append _ _)
theorem q2_pre (s : Src) (k : Nat) : Pt.q2 s k <+: Pt.lines s := by
  unfold Pt.q2 Pt.lines
  exact (List.prefix_append_right_inj _).2 ((flat_pre _ _ _).trans (List.prefix_append _ _))
theorem q3_pre (s : Src) (k : Nat) : Pt.q3 s k <+: Pt.lines s := by
  unfold Pt.q3 Pt.lines
  exact (List.prefix_append_right_inj _).2 ((List.prefix_append_right_inj _).2 (map_pre _ _ _))
theorem q1_snoc (s : Src) (k : Nat) (x : Ru) (h : s.rs[k]? = some x) : Pt.q1 s (k + 1) = Pt.q1 s k ++ [Pt.rule x] := map_snoc_at _ _ _ _ h
theorem q2_snoc (s : Src) (k : Nat) (x : Zn) (h : s.zs[k]? = some x) : Pt.q2 s (k + 1) = Pt.q2 s k ++ Pt.zone x := by
  unfold Pt.q2
  rw [flat_snoc_at _ _ _ _ h, List.append_assoc]
theorem q3_snoc (s : Src) (k : Nat) (x : Lk) (h : s.ls[k]? = some x) : Pt.q3 s (k + 1) = Pt.q3 s k ++ [Pt.link x] := by
  unfold Pt.q3
  rw [map_snoc_at _ _ _ _ h]
  simp only [List.append_assoc]
theorem q1_end (s : Src) : Pt.q1 s s.rs.length = Pt.q2 s 0 := by unfold Pt.q1 Pt.q2; simp
theorem q2_end (s : Src) : Pt.q2 s s.zs.length = Pt.q3 s 0 := by unfold Pt.q2 Pt.q3; simp
theorem q3_end (s : Src) : Pt.q3 s s.ls.length = Pt.lines s := by unfold Pt.q3 Pt.lines; simp
theorem zn64 (z : Zn) (h : So.zone z = true) : z.es.length ≤ 64 := (zone_parts h).2.1.2
set_option maxHeartbeats 8000000 in
theorem ptext_right (d : Sd) (w : World) (hE : Ev w) (hf : d.fits) (hd : d.at_ w w.heap.size) (h : So.right d.src = true) (hn : So.nn d.src) :
    Calls Tryz.prog 15 #[d.val] w fun e w' => e = (if (Pt.text d.src).length ≤ 1048576 then tup (Pt.text d.src) 0 else tup [] 6) ∧ Below w.heap.size w w' := by
  have hz := ptext_most h
  have hb := box_below w (.cells #[.slice d.rA d.rs.length d.rc, .slice d.zA d.zs.length d.zc, .slice d.lA d.ls.length d.lc] 27)
  have hbx : Bx (w.alloc (.cells #[.slice d.rA d.rs.length d.rc, .slice d.zA d.zs.length d.zc, .slice d.lA d.ls.length d.lc] 27)) w.heap.size [.slice d.rA d.rs.length d.rc, .slice d.zA d.zs.length d.zc, .slice d.lA d.ls.length d.lc] := Bx.mk' w w.heap.size #[.slice d.rA d.rs.length d.rc, .slice d.zA d.zs.length d.zc, .slice d.lA d.ls.length d.lc] _ rfl
  obtain ⟨S, hS⟩ : ∃ S, S = d.src := ⟨_, rfl⟩
  have H := Lib.hid (scheck_any d _ (hE.below hb) hf (hd.on hb) true h)
  have HSr := Lib.hid (show S.rs = d.rs by rw [hS]; rfl)
  have HSz := Lib.hid (show S.zs = d.zs.map Zd.zn by rw [hS]; rfl)
  have HSl := Lib.hid (show S.ls = d.ls by rw [hS]; rfl)
  have HDr := Lib.hid hd.r
  have HDz := Lib.hid hd.z
  have HDe := Lib.hid hd.e
  have HDl := Lib.hid hd.l
  have HFz := Lib.hid hf.zn
  have HFl := Lib.hid hf.ln
  rw [← hS] at h hn hz ⊢
  obtain ⟨p1, p2, p3, p4⟩ := so_parts h
  have HE := Lib.hid hE
  have HP := Lib.hid (And.intro p2 (And.intro p3 p4))
  have HNN := Lib.hid hn
  have HPRE : Hid (∀ q, q <+: Pt.lines S → (Pt.bytes q).length ≤ 1099511627776) := Lib.hid (fun q hq => pre_len hz hq)
  obtain ⟨l1, l2, l3⟩ := p1
  have l1 : d.rs.length ≤ 4096 := by rw [← HSr.out]; exact l1
  have l2 : d.zs.length ≤ 1024 := by rw [HSz.out, List.length_map] at l2; exact l2
  have l3 : d.ls.length ≤ 4096 := by rw [← HSl.out]; exact l3
  obtain ⟨rA, rc, rs, zA, zc, zs, lA, lc, ls⟩ := d
  have c0 := hbx.at_ 0 _ rfl
  have c1 := hbx.at_ 1 _ rfl
  have c2 := hbx.at_ 2 _ rfl
  dsimp only at H HSr HSz HSl HDr HDz HDe HDl HFz HFl l1 l2 l3 hb hbx c0 c1 c2
  dsimp only [Sd.val] at H ⊢
  generalize hnr : rs.length = nr at *
  generalize hnz : zs.length = nz at *
  generalize hnl : ls.length = nl at *
  have HNr := Lib.hid hnr
  have HNz := Lib.hid hnz
  have HNl := Lib.hid hnl
  clear hnr hnz hnl
  generalize hw1 : w.alloc (.cells #[.slice rA nr rc, .slice zA nz zc, .slice lA nl lc] 27) = w1 at *
  have HB := Lib.hid hb
  have HX := Lib.hid hbx
  clear hb hbx p2 p3 p4 h hn hz hd hE hf hS
  go_enter Tryz.func15, Tryz.ntmps15
  go_wp2_with fail
  refine H.out.mono ?_
  rintro e w3 ⟨rfl, b3⟩
  have a3 := HB.out.trans (b3.mono HB.out.size)
  have hx3 := HX.out.on b3
  have hp4 := pg_new w3
  have hb4 := box_below w3 (.cells #[.pointer none, .slice none 0 0, .int .i64 0] 89)
  have hs4 : (w3.alloc (.cells #[.pointer none, .slice none 0 0, .int .i64 0] 89)).heap.size = w3.heap.size + 1 := by simp
  have a4 := a3.trans (hb4.mono a3.size)
  have hx4 := hx3.on hb4
  have e0 := hx4.at_ 0 _ rfl
  have e1 := hx4.at_ 1 _ rfl
  have e2 := hx4.at_ 2 _ rfl
  have hl3 := hx3.lt
  generalize hw4 : w3.alloc (.cells #[.pointer none, .slice none 0 0, .int .i64 0] 89) = w4 at *
  have HP4 := Lib.hid hp4
  clear hp4 hb4 hx4 hx3 b3 a3 c0 c1 c2 H HX HB
  have hBw : w.heap.size ≤ w3.heap.size := Nat.le_of_lt hl3
  go_wp2_with fail
  go_loopw [26] (fun i wr => ∃ k : Nat, k ≤ nr ∧ i = .int .i64 k ∧ Hid (PgW wr w3.heap.size w3.heap.size (Pt.bytes (Pt.q1 S k))) ∧ Below w3.heap.size w4 wr) (fun i _ => nr - (intOf i).toNat)
  case atStart => exact ⟨0, Nat.zero_le _, rfl, (by have h0 : Pt.bytes (Pt.q1 S 0) = [] := rfl; rw [h0]; exact Lib.hid (.inl ⟨by decide, HP4.out⟩)), Below.refl _ _⟩
  case round =>
    obtain ⟨k, hk, rfl, hI, bw⟩ := hrel
    have aw := a4.trans (bw.mono hBw)
    by_cases hlt : k < nr
    · obtain ⟨x, hx⟩ : ∃ x, rs[k]? = some x := ⟨_, List.getElem?_eq_getElem (by rw [HNr.out]; exact hlt)⟩
      obtain ⟨b, o, rfl, hb, hc⟩ := (HDr.out.below aw).at_ rcell_len (by decide) hx
      have c0 : wr.cell? ⟨b, o + k * 11, none⟩ = some (Value.string x.nm) := hc 0 _ rfl
      have c1 : wr.cell? ⟨b, o + k * 11 + 1, none⟩ = some (Value.int .i64 x.fr) := hc 1 _ rfl
      have c2 : wr.cell? ⟨b, o + k * 11 + 2, none⟩ = some (Value.int .i64 x.tl) := hc 2 _ rfl
      have c3 : wr.cell? ⟨b, o + k * 11 + 3, none⟩ = some (Value.int .i64 x.m) := hc 3 _ rfl
      have c4 : wr.cell? ⟨b, o + k * 11 + 4, none⟩ = some (Value.int .u8 x.k) := hc 4 _ rfl
      have c5 : wr.cell? ⟨b, o + k * 11 + 5, none⟩ = some (Value.int .i64 x.n) := hc 5 _ rfl
      have c6 : wr.cell? ⟨b, o + k * 11 + 6, none⟩ = some (Value.int .i64 x.d) := hc 6 _ rfl
      have c7 : wr.cell? ⟨b, o + k * 11 + 7, none⟩ = some (Value.int .i64 x.s) := hc 7 _ rfl
      have c8 : wr.cell? ⟨b, o + k * 11 + 8, none⟩ = some (Value.int .u8 x.c) := hc 8 _ rfl
      have c9 : wr.cell? ⟨b, o + k * 11 + 9, none⟩ = some (Value.int .i64 x.sv) := hc 9 _ rfl
      have c10 : wr.cell? ⟨b, o + k * 11 + 10, none⟩ = some (Value.string x.lt) := hc 10 _ rfl
      have hmem := List.mem_of_getElem? hx
      have hbx := box_below wr (.cells #[.string x.nm, .int .i64 x.fr, .int .i64 x.tl, .int .i64 x.m, .int .u8 x.k, .int .i64 x.n, .int .i64 x.d, .int .i64 x.s, .int .u8 x.c, .int .i64 x.sv, .string x.lt] 48)
      have hEw := (HE.out.below aw).below hbx
      have hCall := prule_yes x _ hEw.env (HP.out.1 x (by rw [HSr.out]; exact hmem)) (HNN.out.r x (by rw [HSr.out]; exact hmem))
      have HC := Lib.hid hCall
      have hsn := q1_snoc S k x (by rw [HSr.out]; exact hx)
      have hpre := HPRE.out _ (q1_pre S (k + 1))
      rw [hsn, pbytes_app] at hpre
      have HPRE2 := Lib.hid hpre
      have HSN := Lib.hid hsn
      have hbig : w3.heap.size ≤ wr.heap.size := by have := bw.size; omega
      have bw1 := bw.trans (hbx.mono hbig)
      have HI1 := Lib.hid (hI.out.on hbx)
      have hwa : (wr.alloc (.cells #[.string x.nm, .int .i64 x.fr, .int .i64 x.tl, .int .i64 x.m, .int .u8 x.k, .int .i64 x.n, .int .i64 x.d, .int .i64 x.s, .int .u8 x.c, .int .i64 x.sv, .string x.lt] 48)).heap.size = wr.heap.size + 1 := by simp
      clear hc hx hmem hEw hbx hsn hpre hCall bw aw hI
      go_wp2_with fail
      refine HC.out.mono ?_
      rintro e w5 ⟨rfl, b5⟩
      have bw5 := bw1.trans (b5.mono (by omega))
      have HI5 := HI1.out.on b5
      have hbx5 := box_below w5 (.cells #[.string ⟨(lineOf (bts (Pt.rule x).2)).toArray⟩] 9)
      have h55 : w3.heap.size ≤ w5.heap.size := by have := bw5.size; omega
      have bw6 := bw5.trans (hbx5.mono h55)
      have hput := put_w w3.heap.size w3.heap.size _ _ _ _ (HI5.on hbx5) (th_one w5 ⟨(lineOf (bts (Pt.rule x).2)).toArray⟩) (by rw [lfs_line (Pt.rule x) rfl]; exact HPRE2.out) (by simp) (by have := bw6.size; omega)
      rw [lfs_line (Pt.rule x) rfl] at hput
      have HPU := Lib.hid hput
      clear HC HI1 bw1 b5 hput HI5 hbx5 bw5 c0 c1 c2 c3 c4 c5 c6 c7 c8 c9 c10
      unfold tup
      generalize (⟨(lineOf (bts (Pt.rule x).2)).toArray⟩ : ByteArray) = LY at *
      generalize wr.alloc _ = w9 at *
      go_wp2_with fail
      refine HPU.out.mono ?_
      rintro e w7 ⟨⟨rfl, hP7⟩, b7⟩
      have bw7 := bw6.trans b7
      rw [← pbytes_app, ← HSN.out] at hP7
      have HP7 := Lib.hid hP7
      clear HPU hP7
      go_wp2_with fail
      go_roundw
      case rel => exact ⟨k + 1, by omega, by go_num, HP7, bw7⟩
      case measure => simp [intOf]; omega
    · obtain rfl : k = nr := by omega
      have hI2 := hI.out
      have hq : Pt.q1 S k = Pt.q2 S 0 := by have h0 := q1_end S; rw [HSr.out, HNr.out] at h0; exact h0
      rw [hq] at hI2
      have HI2 := Lib.hid hI2
      have f1 := (bw.cell (p := ⟨w.heap.size, 1, none⟩) hl3).trans e1
      clear hI hI2 hq
      go_wp2_with fail
      go_loopw [43] (fun i wr => ∃ k : Nat, k ≤ nz ∧ i = .int .i64 k ∧ Hid (PgW wr w3.heap.size w3.heap.size (Pt.bytes (Pt.q2 S k))) ∧ Below w3.heap.size w4 wr) (fun i _ => nz - (intOf i).toNat)
      case atStart => exact ⟨0, Nat.zero_le _, rfl, HI2, bw⟩
      case round =>
        obtain ⟨k, hk, rfl, hI, bw⟩ := hrel
        have aw := a4.trans (bw.mono hBw)
        by_cases hlt : k < nz
        · obtain ⟨x, hx⟩ : ∃ x, zs[k]? = some x := ⟨_, List.getElem?_eq_getElem (by rw [HNz.out]; exact hlt)⟩
          obtain ⟨b, o, rfl, hb, hc⟩ := (HDz.out.below aw).at_ zcell_len (by decide) hx
          have c0 : wr.cell? ⟨b, o + k * 2, none⟩ = some (Value.string x.nm) := hc 0 _ rfl
          have c1 : wr.cell? ⟨b, o + k * 2 + 1, none⟩ = some (Value.slice x.A x.es.length x.c) := hc 1 _ rfl
          have hmem := List.mem_of_getElem? hx
          have hbx := box_below wr (.cells #[.string x.nm, .slice x.A x.es.length x.c] 52)
          have hEw := (HE.out.below aw).below hbx
          have hmz : x.zn ∈ S.zs := by rw [HSz.out]; exact List.mem_map.2 ⟨x, hmem, rfl⟩
          have hzr := HP.out.2.1 x.zn hmz
          have HZR := Lib.hid hzr
          have hfx := HFz.out x hmem
          have hCall := pzone_yes x _ hEw hzr (HNN.out.z x.zn hmz) hfx.1 hfx.2.1 hfx.2.2 ((((HDe.out x hmem).below aw).more aw.size).on hbx)
          have HC := Lib.hid hCall
          have hsn := q2_snoc S k x.zn (by rw [HSz.out, List.getElem?_map, hx]; rfl)
          clear hmz hzr hfx
          have hpre := HPRE.out _ (q2_pre S (k + 1))
          rw [hsn, pbytes_app] at hpre
          have HPRE2 := Lib.hid hpre
          have HSN := Lib.hid hsn
          have hbig : w3.heap.size ≤ wr.heap.size := by have := bw.size; omega
          have bw1 := bw.trans (hbx.mono hbig)
          have HI1 := Lib.hid (hI.out.on hbx)
          have hwa : (wr.alloc (.cells #[.string x.nm, .slice x.A x.es.length x.c] 52)).heap.size = wr.heap.size + 1 := by simp
          clear hc hx hmem hEw hbx hsn hpre hCall bw aw hI
          go_wp2_with fail
          refine HC.out.mono ?_
          rintro e w5 ⟨⟨v, rfl, hTh⟩, b5⟩
          have bw5 := bw1.trans (b5.mono (by omega))
          have HI5 := Lib.hid (HI1.out.on b5)
          have hput := put_w w3.heap.size w3.heap.size _ v _ w5 HI5.out hTh (by rw [lfs_zls]; exact HPRE2.out) (by rw [zls_len]; exact Nat.le_trans (zn64 _ HZR.out) (by decide)) (by have := bw5.size; omega)
          rw [lfs_zls] at hput
          have HPU := Lib.hid hput
          clear HC HI1 bw1 b5 hput HI5 hTh c0 c1
          generalize wr.alloc _ = w9 at *
          go_wp2_with fail
          refine HPU.out.mono ?_
          rintro e w7 ⟨⟨rfl, hP7⟩, b7⟩
          have bw7 := bw5.trans b7
          rw [← pbytes_app, ← HSN.out] at hP7
          have HP7 := Lib.hid hP7
          clear HPU hP7
          go_wp2_with fail
          go_roundw
          case rel => exact ⟨k + 1, by omega, by go_num, HP7, bw7⟩
          case measure => simp [intOf]; omega
        · obtain rfl : k = nz := by omega
          have hI2 := hI.out
          have hq : Pt.q2 S k = Pt.q3 S 0 := by have h0 := q2_end S; rw [HSz.out, List.length_map, HNz.out] at h0; exact h0
          rw [hq] at hI2
          have HI2 := Lib.hid hI2
          have f2 := (bw.cell (p := ⟨w.heap.size, 2, none⟩) hl3).trans e2
          clear hI hI2 hq
          go_wp2_with fail
          go_loopw [59] (fun i wr => ∃ k : Nat, k ≤ nl ∧ i = .int .i64 k ∧ Hid (PgW wr w3.heap.size w3.heap.size (Pt.bytes (Pt.q3 S k))) ∧ Below w3.heap.size w4 wr) (fun i _ => nl - (intOf i).toNat)
          case atStart => exact ⟨0, Nat.zero_le _, rfl, HI2, bw⟩
          case round =>
            obtain ⟨k, hk, rfl, hI, bw⟩ := hrel
            have aw := a4.trans (bw.mono hBw)
            by_cases hlt : k < nl
            · obtain ⟨x, hx⟩ : ∃ x, ls[k]? = some x := ⟨_, List.getElem?_eq_getElem (by rw [HNl.out]; exact hlt)⟩
              obtain ⟨b, o, rfl, hb, hc⟩ := (HDl.out.below aw).at_ lcell_len (by decide) hx
              have c0 : wr.cell? ⟨b, o + k * 2, none⟩ = some (Value.string x.tg) := hc 0 _ rfl
              have c1 : wr.cell? ⟨b, o + k * 2 + 1, none⟩ = some (Value.string x.nm) := hc 1 _ rfl
              have hmem := List.mem_of_getElem? hx
              have hbx := box_below wr (.cells #[.string x.tg, .string x.nm] 57)
              have hEw := (HE.out.below aw).below hbx
              have hCall := plink_yes x _ hEw (HP.out.2.2 x (by rw [HSl.out]; exact hmem)) (HFl.out x hmem).1 (HFl.out x hmem).2
              have HC := Lib.hid hCall
              have hsn := q3_snoc S k x (by rw [HSl.out]; exact hx)
              have hpre := HPRE.out _ (q3_pre S (k + 1))
              rw [hsn, pbytes_app] at hpre
              have HPRE2 := Lib.hid hpre
              have HSN := Lib.hid hsn
              have hbig : w3.heap.size ≤ wr.heap.size := by have := bw.size; omega
              have bw1 := bw.trans (hbx.mono hbig)
              have HI1 := Lib.hid (hI.out.on hbx)
              have hwa : (wr.alloc (.cells #[.string x.tg, .string x.nm] 57)).heap.size = wr.heap.size + 1 := by simp
              clear hc hx hmem hEw hbx hsn hpre hCall bw aw hI
              go_wp2_with fail
              refine HC.out.mono ?_
              rintro e w5 ⟨rfl, b5⟩
              have bw5 := bw1.trans (b5.mono (by omega))
              have HI5 := HI1.out.on b5
              have hbx5 := box_below w5 (.cells #[.string ⟨(lineOf (bts (Pt.link x).2)).toArray⟩] 9)
              have h55 : w3.heap.size ≤ w5.heap.size := by have := bw5.size; omega
              have bw6 := bw5.trans (hbx5.mono h55)
              have hput := put_w w3.heap.size w3.heap.size _ _ _ _ (HI5.on hbx5) (th_one w5 ⟨(lineOf (bts (Pt.link x).2)).toArray⟩) (by rw [lfs_line (Pt.link x) rfl]; exact HPRE2.out) (by simp) (by have := bw6.size; omega)
              rw [lfs_line (Pt.link x) rfl] at hput
              have HPU := Lib.hid hput
              clear HC HI1 bw1 b5 hput HI5 hbx5 bw5 c0 c1
              unfold tup
              generalize (⟨(lineOf (bts (Pt.link x).2)).toArray⟩ : ByteArray) = LY at *
              generalize wr.alloc _ = w9 at *
              go_wp2_with fail
              refine HPU.out.mono ?_
              rintro e w7 ⟨⟨rfl, hP7⟩, b7⟩
              have bw7 := bw6.trans b7
              rw [← pbytes_app, ← HSN.out] at hP7
              have HP7 := Lib.hid hP7
              clear HPU hP7
              go_wp2_with fail
              go_roundw
              case rel => exact ⟨k + 1, by omega, by go_num, HP7, bw7⟩
              case measure => simp [intOf]; omega
            · obtain rfl : k = nl := by omega
              have hI2 := hI.out
              have hq : Pt.q3 S k = Pt.lines S := by have h0 := q3_end S; rw [HSl.out, HNl.out] at h0; exact h0
              rw [hq] at hI2
              have HI2 := Lib.hid hI2
              clear hI hI2 hq
              have hq : Pt.lines S = Pt.lines S := rfl
              have aw2 := aw.trans (Below.refl _ _)
              have hsw : w.heap.size ≤ w3.heap.size := hBw
              have hI3 : PgW wr w3.heap.size w3.heap.size (Pt.text S) := HI2.out
              clear HI2 hq
              rcases hI3 with ⟨hle, hpg⟩ | ⟨hgt, bs, hpg⟩
              · have hS := pgstring_any (Pt.text S) wr hpg (by have := bw.size; omega)
                obtain ⟨pp, vv, _, hV⟩ := hpg
                have g2 := hV.cell2
                have HS := Lib.hid hS
                have HLE := Lib.hid hle
                clear hV hS hle
                go_wp2_with fail
                refine HS.out.mono ?_
                rintro e w9 ⟨rfl, b9⟩
                have a9 := aw2.trans (b9.mono hsw)
                go_wp2_with fail
                go_ret2
                exact ⟨rfl, a9⟩
              · obtain ⟨pp, vv, _, hV⟩ := hpg
                have g2 := hV.cell2
                have hngt : ¬ (Pt.text S).length ≤ 1048576 := by omega
                clear hV hgt
                go_wp2_with fail
                go_quiet (fail)
                all_goals
                  go_wp2_with fail
                  go_ret2
                  exact ⟨rfl, by first | exact below_drewN aw2 _ | exact aw2.drew | exact aw2⟩


theorem ptext_yes (d : Sd) (w : World) (hE : Ev w) (hf : d.fits) (hd : d.at_ w w.heap.size) (h : So.right d.src = true) (hn : So.nn d.src) (hz : (Pt.text d.src).length ≤ 1048576) :
    Calls Tryz.prog 15 #[d.val] w fun e w' => e = tup (Pt.text d.src) 0 ∧ Below w.heap.size w w' := by
  have := ptext_right d w hE hf hd h hn
  rw [if_pos hz] at this
  exact this
set_option maxHeartbeats 2000000 in
theorem ptext_no (d : Sd) (w : World) (hE : Ev w) (hf : d.fits) (hd : d.at_ w w.heap.size) (h : So.right d.src = false) :
    Calls Tryz.prog 15 #[d.val] w fun e w' => e = tup [] 2 ∧ Below w.heap.size w w' := by
  have hb := box_below w (.cells #[.slice d.rA d.rs.length d.rc, .slice d.zA d.zs.length d.zc, .slice d.lA d.ls.length d.lc] 27)
  have H := Lib.hid (scheck_any d _ (hE.below hb) hf (hd.on hb) false h)
  have HB := Lib.hid hb
  clear hb h hd hE hf
  unfold tup
  go_enter Tryz.func15, Tryz.ntmps15
  go_wp2_with fail
  refine H.out.mono ?_
  rintro e w3 ⟨rfl, b3⟩
  have a3 := HB.out.trans (b3.mono HB.out.size)
  clear H HB
  go_wp2_with fail
  go_ret2
  exact ⟨rfl, a3⟩
end Go.Proofs.YtkcbmnboccjnnaaGreatDoor
