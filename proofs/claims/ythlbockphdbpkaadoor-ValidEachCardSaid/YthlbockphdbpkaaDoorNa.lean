/- Names in memory (package lead): where they stand, isLink, target, Zone, Next. -/
import Derived.Test.YthlbockphdbpkaaDoorLp
import Derived.Test.YthlbockphdbpkaaDoorNm
import Derived.Maps.OwnSet
import Derived.Maps.OwnOps
import Derived.Deep.QuietTactic
import Derived.BigQuiet
namespace Go.Proofs.YthlbockphdbpkaaDoor
open Go.RowKit Go.Maps
set_option maxRecDepth 100000
theorem str_keyed : Maps.Keyed Tryd.prog 9 := Maps.string_keyed Tryd.underlying9
theorem zero_int (w : World) : (zeroValue 3).run Tryd.prog w = .ok (.int .i64 0) w := by kernel_rfl
def mkey (x : ByteArray) : Lit := .string x.data.toList
theorem mkey_ne {x y : ByteArray} (h : x ≠ y) : mkey x ≠ mkey y := fun e => h (by
  unfold mkey at e
  injection e with e
  cases x; cases y
  simpa using e)
theorem key_of {x : ByteArray} (h : x.size ≤ 9223372036854775807) : keyOf Tryd.prog 9 (.string x) = some (mkey x) := WideMaps.keyOf_string_mk Tryd.underlying9 (by unfold maxLen; omega)
theorem mkey_key {x : ByteArray} (h : x.size ≤ 9223372036854775807) : WideAt.IsKeyLit (mkey x) := str_keyed.key (key_of h)
abbrev MapAt (W : World) (b n : Nat) (M : DataW Unit) : Prop := W.ownsMap Tryd.prog 9 (plainElem Tryd.prog 3) b n M
theorem MapAt.below {W W' : World} {b n : Nat} {M : DataW Unit} (h : MapAt W b n M) (hb : Below W.heap.size W W') : MapAt W' b n M := by
  have hl := World.ownsMap.lt h
  obtain ⟨es, ck, h1, h2⟩ := h
  exact ⟨es, ck, (hb.block b hl).trans h1, h2⟩
/-- The map has, of each text that stands from the place j on, the first such place. -/
def Fst (L : List ByteArray) (j : Nat) (M : DataW Unit) : Prop := ∀ x, Maps.has M (mkey x) = Ld.inb x (L.drop j) ∧ (x ∈ L.drop j → ∀ z, M.atKey (mkey x) z = .lit (.int .i64 ((j + Ld.ix x (L.drop j) : Nat) : Int)))
theorem fst_nil (L : List ByteArray) : Fst L L.length (.map []) := fun x => by
  rw [List.drop_length]
  exact ⟨rfl, fun h => by cases h⟩
theorem fst_put {L : List ByteArray} {j : Nat} {M : DataW Unit} {x : ByteArray} (h : Fst L (j + 1) M) (hM : IsMap M) (hx : L[j]? = some x) (hs : x.size ≤ 9223372036854775807) : Fst L j (M.put (mkey x) (.lit (.int .i64 (j : Int)))) := fun y => by
  obtain ⟨hj, e⟩ := List.getElem?_eq_some_iff.1 hx
  have hd : L.drop j = x :: L.drop (j + 1) := by rw [List.drop_eq_getElem_cons hj, e]
  rw [hd]
  by_cases hxy : x = y
  · subst hxy
    refine ⟨?_, fun _ z => ?_⟩
    · rw [has_put_same hM (mkey_key hs)]
      exact (inb_iff.2 (List.mem_cons_self)).symm
    · rw [atKey_put_same hM (mkey_key hs)]
      unfold Ld.ix
      rw [if_pos rfl]
      rfl
  · obtain ⟨h1, h2⟩ := h y
    refine ⟨?_, fun hm z => ?_⟩
    · rw [has_put_other (mkey_ne (Ne.symm hxy)), h1]
      unfold Ld.inb
      rw [List.any_cons, decide_eq_false hxy, Bool.false_or]
    · rw [atKey_put_other (mkey_ne (Ne.symm hxy)), h2 ((List.mem_cons.1 hm).resolve_left (Ne.symm hxy)) z]
      conv => rhs; unfold Ld.ix
      rw [if_neg hxy, show j + 1 + Ld.ix y (L.drop (j + 1)) = j + (Ld.ix y (L.drop (j + 1)) + 1) by omega]
theorem fst_in {L : List ByteArray} {M : DataW Unit} {x : ByteArray} (h : Fst L 0 M) (hx : x ∈ L) : Maps.has M (mkey x) = true ∧ ∀ z, M.atKey (mkey x) z = .lit (.int .i64 (Ld.ix x L : Nat)) := by
  obtain ⟨h1, h2⟩ := h x
  rw [List.drop_zero] at h1 h2
  exact ⟨h1.trans (inb_iff.2 hx), fun z => by rw [h2 hx z, Nat.zero_add]⟩
theorem fst_out {L : List ByteArray} {M : DataW Unit} {x : ByteArray} (h : Fst L 0 M) (hx : x ∉ L) : Maps.has M (mkey x) = false := by
  obtain ⟨h1, _⟩ := h x
  rw [List.drop_zero] at h1
  rw [h1, inb_no]
  exact hx
theorem isLink_lo (g z i : Nat) (w : World) (c1 : w.cell? ⟨g, 1, none⟩ = some (.int .i64 z)) (h : i < z) :
    Calls Tryd.prog 40 #[.pointer (some ⟨g, 0, none⟩), .int .i64 i] w fun e w' => e = .returned (.bool false) ∧ ∃ q, w' = w.drewN q := by
  have t1 : decide (z ≤ i) = false := by simp; omega
  go_enter Tryd.func40, Tryd.ntmps40
  go_wp2_with fail
  go_quiet (fail)
  go_wp2_with fail
  go_ret
  exact ⟨rfl, _, rfl⟩
theorem isLink_hi (g z m i : Nat) (w : World) (c1 : w.cell? ⟨g, 1, none⟩ = some (.int .i64 z)) (c2 : w.cell? ⟨g, 2, none⟩ = some (.int .i64 m)) (h : z ≤ i) (hz : z ≤ 4294967296) (hm : m ≤ 4294967296) :
    Calls Tryd.prog 40 #[.pointer (some ⟨g, 0, none⟩), .int .i64 i] w fun e w' => e = .returned (.bool (decide ((i : Int) < (z : Int) + (m : Int)))) ∧ ∃ q, w' = w.drewN q := by
  have t1 : decide (z ≤ i) = true := by simp; omega
  have t2 : IntKind.i64.wrap ((z : Int) + (m : Int)) = (z : Int) + (m : Int) := IntWalk.i64_in _ (by omega)
  go_enter Tryd.func40, Tryd.ntmps40
  go_wp2_with fail
  go_quiet (fail)
  go_wp2_with fail
  go_ret
  exact ⟨rfl, _, rfl⟩
theorem isLink_any (g z m i : Nat) (w : World) (c1 : w.cell? ⟨g, 1, none⟩ = some (.int .i64 z)) (c2 : w.cell? ⟨g, 2, none⟩ = some (.int .i64 m)) (hz : z ≤ 4294967296) (hm : m ≤ 4294967296) :
    Calls Tryd.prog 40 #[.pointer (some ⟨g, 0, none⟩), .int .i64 i] w fun e w' => e = .returned (.bool (decide (z ≤ i ∧ i < z + m))) ∧ ∃ q, w' = w.drewN q := by
  by_cases h : i < z
  · have e0 : decide (z ≤ i ∧ i < z + m) = false := decide_eq_false (by omega)
    rw [e0]
    exact isLink_lo g z i w c1 h
  · have e0 : decide (z ≤ i ∧ i < z + m) = decide ((i : Int) < (z : Int) + (m : Int)) := by
      rw [Bool.eq_iff_iff]; simp; omega
    rw [e0]
    exact isLink_hi g z m i w c1 c2 (by omega) hz hm
theorem target_any (g i m n c ab ao : Nat) (s : ByteArray) (w : World) (c0 : w.cell? ⟨g, 0, none⟩ = some (.slice (some ⟨ab, ao, none⟩) n c)) (c2 : w.cell? ⟨g, 2, none⟩ = some (.int .i64 m)) (cs : w.cell? ⟨ab, ao + (i + m), none⟩ = some (.string s)) (h : i + m < n) (hn : n ≤ 4294967296) :
    Calls Tryd.prog 41 #[.pointer (some ⟨g, 0, none⟩), .int .i64 i] w fun e w' => e = .returned (.string s) ∧ ∃ q, w' = w.drewN q := by
  have t2 : IntKind.i64.wrap ((i : Int) + (m : Int)) = (i : Int) + (m : Int) := IntWalk.i64_in _ (by omega)
  have t3 : ((i : Int) + (m : Int)).toNat = i + m := by omega
  have t4 : (0 : Int) ≤ (i : Int) + (m : Int) := by omega
  have t5 : (i : Int) + (m : Int) < (n : Int) := by omega
  go_enter Tryd.func41, Tryd.ntmps41
  go_wp2_with fail
  go_quiet (fail)
  go_wp2_with fail
  go_ret
  exact ⟨rfl, _, rfl⟩
/-- Where the parts of names lie: their texts, the map, the ends. -/
structure Nd where
  A : Option Addr
  c : Nat
  b : Nat
  eb : Nat
  mn : Nat
  M : DataW Unit
/-- All but the ends lies below block B. -/
structure Nms (W : World) (B : Nat) (Z : List ByteArray) (K : List Lk) (g : Nat) (d : Nd) : Prop where
  gb : g < B
  at_ : ∀ i v, [Value.slice d.A (Ld.all Z K).length d.c, .int .i64 Z.length, .int .i64 K.length, .map (some d.b), .slice (some ⟨d.eb, 0, none⟩) (Ld.all Z K).length (Ld.all Z K).length][i]? = some v → W.cell? ⟨g, i, none⟩ = some v
  tx : Rk W B d.A ((Ld.all Z K).map Value.string)
  mb : d.b < B
  mp : MapAt W d.b d.mn d.M
  fm : Fst (Ld.all Z K) 0 d.M
  cp : (Ld.all Z K).length ≤ d.c
theorem MapAt.belowB {W W' : World} {B b n : Nat} {M : DataW Unit} (h : MapAt W b n M) (hl : b < B) (hb : Below B W W') : MapAt W' b n M := by
  obtain ⟨es, ck, h1, h2⟩ := h
  exact ⟨es, ck, (hb.block b hl).trans h1, h2⟩
theorem Nms.below {W W' : World} {B : Nat} {Z : List ByteArray} {K : List Lk} {g : Nat} {d : Nd} (h : Nms W B Z K g d) (hb : Below B W W') : Nms W' B Z K g d :=
  ⟨h.gb, fun i v hv => (hb.cell (p := ⟨g, i, none⟩) h.gb).trans (h.at_ i v hv), h.tx.below hb, h.mb, h.mp.belowB h.mb hb, h.fm, h.cp⟩
theorem Nms.more {W : World} {B B' : Nat} {Z : List ByteArray} {K : List Lk} {g : Nat} {d : Nd} (h : Nms W B Z K g d) (hb : B ≤ B') : Nms W B' Z K g d :=
  ⟨Nat.lt_of_lt_of_le h.gb hb, h.at_, h.tx.more hb, Nat.lt_of_lt_of_le h.mb hb, h.mp, h.fm, h.cp⟩
theorem Nms.on {W W' : World} {Z : List ByteArray} {K : List Lk} {g : Nat} {d : Nd} (h : Nms W W.heap.size Z K g d) (hb : Below W.heap.size W W') : Nms W' W'.heap.size Z K g d := (h.below hb).more hb.size
def Codes (W : World) (Z : List ByteArray) (K : List Lk) (eb : Nat) : Prop := ∀ p, p < (Ld.all Z K).length → W.cell? ⟨eb, p, none⟩ = some (.int .i64 (Ld.code Z K p))
theorem Codes.on {W W' : World} {Z : List ByteArray} {K : List Lk} {eb : Nat} (h : Codes W Z K eb) (hb : Below W.heap.size W W') (hl : eb < W.heap.size) : Codes W' Z K eb := fun p hp => (hb.cell (p := ⟨eb, p, none⟩) hl).trans (h p hp)
/-- Names in memory, with their ends. -/
structure Full (W : World) (Z : List ByteArray) (K : List Lk) (g : Nat) (d : Nd) : Prop where
  nm : Nms W W.heap.size Z K g d
  en : Codes W Z K d.eb
  ne : d.eb < W.heap.size
theorem Full.on {W W' : World} {Z : List ByteArray} {K : List Lk} {g : Nat} {d : Nd} (h : Full W Z K g d) (hb : Below W.heap.size W W') : Full W' Z K g d := ⟨h.nm.on hb, h.en.on hb h.ne, Nat.lt_of_lt_of_le h.ne hb.size⟩
theorem zn_out {Z : List ByteArray} {K : List Lk} {x : ByteArray} (h : x ∉ Ld.all Z K) : Ld.zn Z K x = (0, 3) := by
  have h1 : x ∉ Z := fun hx => h (List.mem_append.2 (.inl (List.mem_append.2 (.inl hx))))
  have h2 : x ∉ K.map Lk.nm := fun hx => h (List.mem_append.2 (.inl (List.mem_append.2 (.inr hx))))
  rw [zn_end (n := 0) (y := x) rfl (first_rest h1 h2).2, if_neg (by rw [inb_iff]; exact h1)]
set_option maxHeartbeats 1000000 in
theorem nzone_any (Z : List ByteArray) (K : List Lk) (g : Nat) (d : Nd) (x : ByteArray) (w : World) (hF : Full w Z K g d) (hx : x.size ≤ 9223372036854775807) :
    Calls Tryd.prog 21 #[.pointer (some ⟨g, 0, none⟩), .string x] w fun e w' => e = .returned (.tuple #[.int .i64 (Ld.zn Z K x).1, .int .i64 (Ld.zn Z K x).2]) ∧ w = w' := by
  have c3 := hF.nm.at_ 3 _ rfl
  have c4 := hF.nm.at_ 4 _ rfl
  have HM := Lib.hid hF.nm.mp
  by_cases hin : x ∈ Ld.all Z K
  · obtain ⟨h1, h2⟩ := fst_in hF.nm.fm hin
    have hl := ix_lt hin
    have ce := hF.en _ hl
    rw [code_first] at ce
    have HA := Lib.hid h2
    clear hF h2
    generalize hix : Ld.ix x (Ld.all Z K) = ix at *
    generalize (Ld.all Z K).length = n at *
    rcases zn_why Z K x with h0 | h0 | h0
    · have hs := zn_small (Z := Z) (K := K) (x := x)
      generalize Ld.zn Z K x = p at *
      obtain ⟨k, y⟩ := p
      obtain rfl : y = 0 := h0
      have ce' : w.cell? ⟨d.eb, ix, none⟩ = some (.int .i64 (k : Int)) := ce
      clear ce hs hix
      have u1 : ((k : Int) == -2) = false := by rw [beq_eq_false_iff_ne]; omega
      have u2 : ((k : Int) == -3) = false := by rw [beq_eq_false_iff_ne]; omega
      go_enter Tryd.func21, Tryd.ntmps21
      go_wp2_with (at_lookup; refine wpList_lookup_own_ok_int _ rfl _ _ 76 rfl 9 3 .i64 str_keyed Tryd.underlying76 Tryd.underlying3 (zero_int _) d.b d.mn d.M rfl HM.out _ _ rfl (key_of hx) ?_; intro c hat hwc; obtain rfl : c = (ix : Int) := (by have := (HA.out _).symm.trans hat; injection this with this; injection this with _ this; exact this.symm); rw [h1]; clear hat hwc)
      go_ret2
      exact ⟨rfl, rfl⟩
    · rw [h0] at ce ⊢
      have ce' : w.cell? ⟨d.eb, ix, none⟩ = some (.int .i64 (-2)) := ce
      clear ce h0 hix
      go_enter Tryd.func21, Tryd.ntmps21
      go_wp2_with (at_lookup; refine wpList_lookup_own_ok_int _ rfl _ _ 76 rfl 9 3 .i64 str_keyed Tryd.underlying76 Tryd.underlying3 (zero_int _) d.b d.mn d.M rfl HM.out _ _ rfl (key_of hx) ?_; intro c hat hwc; obtain rfl : c = (ix : Int) := (by have := (HA.out _).symm.trans hat; injection this with this; injection this with _ this; exact this.symm); rw [h1]; clear hat hwc)
      go_ret2
      exact ⟨rfl, rfl⟩
    · rw [h0] at ce ⊢
      have ce' : w.cell? ⟨d.eb, ix, none⟩ = some (.int .i64 (-3)) := ce
      clear ce h0 hix
      go_enter Tryd.func21, Tryd.ntmps21
      go_wp2_with (at_lookup; refine wpList_lookup_own_ok_int _ rfl _ _ 76 rfl 9 3 .i64 str_keyed Tryd.underlying76 Tryd.underlying3 (zero_int _) d.b d.mn d.M rfl HM.out _ _ rfl (key_of hx) ?_; intro c hat hwc; obtain rfl : c = (ix : Int) := (by have := (HA.out _).symm.trans hat; injection this with this; injection this with _ this; exact this.symm); rw [h1]; clear hat hwc)
      go_ret2
      exact ⟨rfl, rfl⟩
  · have h1 := fst_out hF.nm.fm hin
    rw [zn_out hin]
    clear hF hin
    go_enter Tryd.func21, Tryd.ntmps21
    go_wp2_with (at_lookup; refine wpList_lookup_own_ok_int _ rfl _ _ 76 rfl 9 3 .i64 str_keyed Tryd.underlying76 Tryd.underlying3 (zero_int _) d.b d.mn d.M rfl HM.out _ _ rfl (key_of hx) ?_; intro c hat hwc; rw [h1]; clear hat hwc)
    go_ret2
    exact ⟨rfl, rfl⟩
/-- What Next answers. -/
def NextR : Option ByteArray → Value
  | some y => .tuple #[.string y, .bool true]
  | none => .tuple #[.string ⟨#[]⟩, .bool false]
set_option maxHeartbeats 1000000 in
theorem nnext_any (Z : List ByteArray) (K : List Lk) (g : Nat) (d : Nd) (x : ByteArray) (w : World) {B : Nat} (hF : Nms w B Z K g d) (hx : x.size ≤ 9223372036854775807) (hn : (Ld.all Z K).length ≤ 4294967296) :
    Calls Tryd.prog 28 #[.pointer (some ⟨g, 0, none⟩), .string x] w fun e w' => e = .returned (NextR (Ld.nx Z K x)) ∧ ∃ q, w' = w.drewN q := by
  have c0 := hF.at_ 0 _ rfl
  have c1 := hF.at_ 1 _ rfl
  have c2 := hF.at_ 2 _ rfl
  have c3 := hF.at_ 3 _ rfl
  have HM := Lib.hid hF.mp
  have hal := all_len Z K
  by_cases hin : x ∈ Ld.all Z K
  · obtain ⟨h1, h2⟩ := fst_in hF.fm hin
    have hl := ix_lt hin
    have HA := Lib.hid h2
    have HT := Lib.hid hF.tx
    clear hF h2
    by_cases hlk : Ld.nx Z K x = none
    · have hnl : ¬ Ld.isL Z K (Ld.ix x (Ld.all Z K)) := fun h => (isL_iff x).1 h hlk
      rw [hlk]
      unfold Ld.isL at hnl
      have HNL := Lib.hid (decide_eq_false hnl)
      clear hlk hnl
      generalize hix : Ld.ix x (Ld.all Z K) = ix at *
      generalize (Ld.all Z K).length = n at *
      clear hix
      generalize Z.length = z at *
      generalize K.length = m at *
      clear HT
      go_enter Tryd.func28, Tryd.ntmps28
      go_wp2_with (first | (at_lookup; refine wpList_lookup_own_ok_int _ rfl _ _ 76 rfl 9 3 .i64 str_keyed Tryd.underlying76 Tryd.underlying3 (zero_int _) d.b d.mn d.M rfl HM.out _ _ rfl (key_of hx) ?_; intro c hat hwc; obtain rfl : c = (ix : Int) := (by have := (HA.out _).symm.trans hat; injection this with this; injection this with _ this; exact this.symm); rw [h1]; clear hat hwc) | (go_at_call 40; ((with_reducible refine (isLink_any g z m ix _ c1 c2 (by omega) (by omega)).mono ?_); rw [HNL.out]; rintro e w' ⟨rfl, q, rfl⟩)))
      go_ret2
      exact ⟨rfl, _, rfl⟩
    · obtain ⟨y, hy⟩ := Option.ne_none_iff_exists'.1 hlk
      have hL := (isL_iff x).2 hlk
      obtain ⟨hz, hm, _⟩ := nx_link hy
      obtain ⟨k, hl1, hl2, hl3, _⟩ := first_link hz hm
      have hyk : k.tg = y := by rw [hl3] at hy; exact Option.some.inj hy
      have htg : (Ld.all Z K)[Ld.ix x (Ld.all Z K) + K.length]? = some y := by
        unfold Ld.all
        rw [List.getElem?_append_right (by rw [List.length_append, List.length_map]; have := hl1.1; unfold Ld.all at this; omega)]
        rw [List.length_append, List.length_map, List.getElem?_map, show Ld.ix x (Z ++ K.map Lk.nm ++ K.map Lk.tg) + K.length - (Z.length + K.length) = Ld.ix x (Ld.all Z K) - Z.length by unfold Ld.all; omega, hl2, ← hyk]
        rfl
      have hlt2 := (List.getElem?_eq_some_iff.1 htg).1
      obtain ⟨ab, ao, eA, _, hcs⟩ := HT.out (by rw [List.length_map]; omega)
      have cs := hcs _ (.string y) (by rw [List.getElem?_map, htg]; rfl)
      rw [eA] at c0
      rw [hy]
      have HNL := Lib.hid (decide_eq_true (show Z.length ≤ Ld.ix x (Ld.all Z K) ∧ Ld.ix x (Ld.all Z K) < Z.length + K.length from hL))
      clear hlk hcs htg hl2 hl3 hyk hy HT hl1 hL hz hm
      generalize hix : Ld.ix x (Ld.all Z K) = ix at *
      generalize (Ld.all Z K).length = n at *
      clear hix
      generalize Z.length = z at *
      generalize K.length = m at *
      go_enter Tryd.func28, Tryd.ntmps28
      go_wp2_with (first | (at_lookup; refine wpList_lookup_own_ok_int _ rfl _ _ 76 rfl 9 3 .i64 str_keyed Tryd.underlying76 Tryd.underlying3 (zero_int _) d.b d.mn d.M rfl HM.out _ _ rfl (key_of hx) ?_; intro c hat hwc; obtain rfl : c = (ix : Int) := (by have := (HA.out _).symm.trans hat; injection this with this; injection this with _ this; exact this.symm); rw [h1]; clear hat hwc) | (go_at_call 40; ((with_reducible refine (isLink_any g z m ix _ c1 c2 (by omega) (by omega)).mono ?_); rw [HNL.out]; rintro e w' ⟨rfl, q, rfl⟩)) | (go_at_call 41; ((refine (target_any g ix m n d.c ab ao y _ (by go_simp) (by go_simp) (by go_simp) (by omega) (by omega)).mono ?_); rintro e w' ⟨rfl, q2, rfl⟩)))
      go_ret2
      exact ⟨rfl, _, rfl⟩
  · have h1 := fst_out hF.fm hin
    have hnx : Ld.nx Z K x = none := by
      cases e : Ld.nx Z K x with
      | none => rfl
      | some y => exact absurd (List.mem_append.2 (.inl (List.mem_append.2 (.inr (nx_link e).2.1)))) hin
    rw [hnx]
    clear hF hin hnx
    go_enter Tryd.func28, Tryd.ntmps28
    go_wp2_with (at_lookup; refine wpList_lookup_own_ok_int _ rfl _ _ 76 rfl 9 3 .i64 str_keyed Tryd.underlying76 Tryd.underlying3 (zero_int _) d.b d.mn d.M rfl HM.out _ _ rfl (key_of hx) ?_; intro c hat hwc; rw [h1]; clear hat hwc)
    go_ret2
    exact ⟨rfl, 0, rfl⟩
end Go.Proofs.YthlbockphdbpkaaDoor
