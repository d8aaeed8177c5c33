/- The lines of rules, links and zones: print.Rule, Link, Zone. -/
import Derived.Test.YtkcbmnboccjnnaaGreatDoorPu
import Derived.Test.YtkcbmnboccjnnaaGreatDoorAp
namespace Go.Proofs.YtkcbmnboccjnnaaGreatDoor
open Go.RowKit
set_option maxRecDepth 100000
theorem Bx.tl {w : World} {g : Nat} {L : List ByteArray} (h : Bx w g (L.map Value.string)) (c : Nat) : Tl w (.slice (some ⟨g, 0, none⟩) L.length c) L :=
  .inr ⟨⟨g, 0, none⟩, c, rfl, h.lt, fun j hj => by rw [addr_at]; exact h.txs.at_ j hj⟩
theorem lit_tl (w : World) (L : List ByteArray) (cs : Array Value) (hcs : cs = (L.map Value.string).toArray) (n : Nat) (hn : n = L.length) : Tl (w.alloc (.cells cs 9)) (.slice (some ⟨w.heap.size, 0, none⟩) n n) L := by
  subst hcs hn
  exact (Bx.mk' w w.heap.size (L.map Value.string).toArray 9 rfl : Bx _ _ (L.map Value.string).toArray.toList).tl _
set_option maxHeartbeats 2000000 in
theorem prule_yes (r : Ru) (w : World) (hE : Env w) (h : Rl.right r = true) (c0 : 0 ≤ r.c) :
    Calls Tryz.prog 17 #[.agg #[.string r.nm, .int .i64 r.fr, .int .i64 r.tl, .int .i64 r.m, .int .u8 r.k, .int .i64 r.n, .int .i64 r.d, .int .i64 r.s, .int .u8 r.c, .int .i64 r.sv, .string r.lt]] w fun e w' => e = tup (lineOf (bts (Pt.rule r).2)) 0 ∧ Below w.heap.size w w' := by
  have hok := rule_ok h
  obtain ⟨L, hL⟩ : ∃ L, Rl.texts r = L := ⟨_, rfl⟩
  have hpr : Pt.rule r = ([], [Pt.ruleW] ++ L) := by unfold Pt.rule; rw [hL]; rfl
  have hl : L.length = 9 := by rw [← hL]; rfl
  rw [hpr] at hok ⊢
  have hb := box_below w (.cells (rcell r).toArray 48)
  have H := Lib.hid (rtext_bx r L 9 _ (hE.below hb) h c0 hL hl)
  have HB := Lib.hid hb
  have HO := Lib.hid hok
  have HL := Lib.hid hl
  generalize hLL : bts ([Pt.ruleW] ++ L) = LL
  have HLL := Lib.hid hLL
  clear hb hok hpr hL hl h c0 hE hLL
  obtain ⟨nm, fr, tl, m, k, n, d, s, c, sv, lt⟩ := r
  unfold rcell at H HB
  go_enter Tryz.func17, Tryz.ntmps17
  go_wp2_with fail
  refine H.out.mono ?_
  rintro e w1 ⟨⟨g, rfl, hT⟩, b1⟩
  have a1 := HB.out.trans (b1.mono (by simp))
  have HT := Lib.hid hT
  clear H HB hT b1
  have hb2 := box_below w1 (.cells #[.string ⟨#[82, 117, 108, 101]⟩] 9)
  have hT2 := (HT.out.tl 9).below hb2
  rw [HL.out] at hT2
  have hJ := pjoin_yes _ _ L [Pt.ruleW] _ hT2 (lit_tl w1 [Pt.ruleW] #[.string ⟨#[82, 117, 108, 101]⟩] rfl 1 rfl) HO.out
  rw [HLL.out] at hJ
  have HJ := Lib.hid hJ
  have HB2 := Lib.hid (a1.trans (hb2.mono a1.size))
  clear hJ hT2 hb2 HT HO HLL a1
  go_wp2_with fail
  refine HJ.out.mono ?_
  rintro e w2 ⟨rfl, b2⟩
  have a2 := HB2.out.trans (b2.mono (HB2.out.size))
  clear HJ HB2 b2
  unfold tup
  go_wp2_with fail
  go_ret2
  exact ⟨rfl, a2⟩
theorem link_right (k : Lk) : So.right ⟨[], [], [k]⟩ = So.link k := by unfold So.right; simp
set_option maxHeartbeats 2000000 in
theorem plink_yes (k : Lk) (w : World) (hE : Ev w) (h : So.link k = true) (s1 : k.tg.size ≤ 9223372036854775807) (s2 : k.nm.size ≤ 9223372036854775807) :
    Calls Tryz.prog 22 #[.agg #[.string k.tg, .string k.nm]] w fun e w' => e = tup (lineOf (bts (Pt.link k).2)) 0 ∧ Below w.heap.size w w' := by
  have hok := link_ok h
  have hpr : Pt.link k = ([], [Pt.linkW] ++ [k.tg, k.nm]) := rfl
  rw [hpr] at hok ⊢
  have hb := box_below w (.cells #[.string k.tg, .string k.nm] 57)
  have hbx : Bx (w.alloc (.cells #[.string k.tg, .string k.nm] 57)) w.heap.size [.string k.tg, .string k.nm] := Bx.mk' w w.heap.size #[.string k.tg, .string k.nm] _ rfl
  generalize hw1 : w.alloc (.cells #[.string k.tg, .string k.nm] 57) = w1 at *
  have hb1 := box_below w1 (.cells #[.string k.tg, .string k.nm] 57)
  have hbx1 : Bx (w1.alloc (.cells #[.string k.tg, .string k.nm] 57)) w1.heap.size [.string k.tg, .string k.nm] := Bx.mk' w1 w1.heap.size #[.string k.tg, .string k.nm] _ rfl
  have HS : w1.heap.size = w.heap.size + 1 := by rw [← hw1]; simp
  rw [HS] at hbx1
  have H := Lib.hid (scheck_any ⟨none, 0, [], none, 0, [], some ⟨w.heap.size + 1, 0, none⟩, 1, [k]⟩ (w1.alloc (.cells #[.string k.tg, .string k.nm] 57)) ((hE.below hb).below hb1)
    ⟨by simp, by simp, by simp, by simp, by simp, by intro x hx; simp at hx; subst hx; exact ⟨s1, s2⟩⟩
    ⟨Rk.nil, Rk.nil, (fun _ h => by cases h), fun _ => ⟨_, 0, rfl, hbx1.lt, fun j u hu => by rw [Nat.zero_add]; exact hbx1.at_ j u (by simpa [lcell] using hu)⟩⟩ true (by rw [← h]; exact link_right k))
  have a1 := Lib.hid (hb.trans (hb1.mono hb.size))
  have HX := Lib.hid (hbx.on hb1)
  have c0 := hbx.at_ 0 _ rfl
  have c1 := hbx.at_ 1 _ rfl
  have HO := Lib.hid hok
  generalize hLL : bts ([Pt.linkW] ++ [k.tg, k.nm]) = LL
  have HLL := Lib.hid hLL
  clear hb hok hpr h s1 s2 hE hLL hbx hb1 hbx1
  obtain ⟨tg, nm⟩ := k
  go_enter Tryz.func22, Tryz.ntmps22
  go_wp2_with fail
  refine H.out.mono ?_
  rintro e w3 ⟨rfl, b3⟩
  have a3 := a1.out.trans (b3.mono a1.out.size)
  have hx3 := HX.out.on b3
  have d0 := hx3.at_ 0 _ rfl
  have d1 := hx3.at_ 1 _ rfl
  have hb4 := box_below w3 (.cells #[.string tg, .string nm] 9)
  have ht4 := lit_tl w3 [tg, nm] #[.string tg, .string nm] rfl 2 rfl
  have hs4 : (w3.alloc (.cells #[.string tg, .string nm] 9)).heap.size = w3.heap.size + 1 := by simp
  clear H a1 HX b3 hx3 c0 c1
  generalize hw4 : w3.alloc (.cells #[.string tg, .string nm] 9) = w4 at *
  have hb5 := box_below w4 (.cells #[.string ⟨#[76, 105, 110, 107]⟩] 9)
  have hJ := pjoin_yes _ _ [tg, nm] [Pt.linkW] _ (ht4.below hb5) (lit_tl w4 [Pt.linkW] #[.string ⟨#[76, 105, 110, 107]⟩] rfl 1 rfl) HO.out
  rw [HLL.out] at hJ
  rw [hs4] at hJ
  have HJ := Lib.hid hJ
  have a5 := (a3.trans (hb4.mono a3.size))
  have HB5 := Lib.hid (a5.trans (hb5.mono a5.size))
  clear hJ hb5 ht4 a5 hb4 a3 HO HLL
  go_wp2_with fail
  refine HJ.out.mono ?_
  rintro e w6 ⟨rfl, b6⟩
  have a6 := HB5.out.trans (b6.mono HB5.out.size)
  clear HJ HB5 b6
  unfold tup
  go_wp2_with fail
  go_ret2
  exact ⟨rfl, a6⟩
end Go.Proofs.YtkcbmnboccjnnaaGreatDoor
