/- The first question of layer 12: lives. -/
import Derived.Test.YtkcbmnboccjnnaaGreatDoorPn
import Derived.Test.YtkcbmnboccjnnaaGreatDoorPs
namespace Go.Proofs.YtkcbmnboccjnnaaGreatDoor
open Go.RowKit
set_option maxRecDepth 100000
def t12 : List UInt8 := "Rule EU 1981 max - Mar lastSun 1:00u 1:00 S\nZone A/B 1:00 EU CE%sT 2000\n\t2:00 - X\nLink A/B C\n".toUTF8.data.toList
def b12 : Src := match So.prs t12 with
  | .inl s => s
  | .inr _ => ⟨[], [], []⟩
def r12 : Ru := b12.rs.getD 0 Ru.zero
def z12 : Zn := b12.zs.getD 0 ⟨⟨#[]⟩, []⟩
theorem prs_b12 : So.prs t12 = .inl b12 := by kernel_rfl
theorem rs_b12 : b12.rs = [r12] := by kernel_rfl
theorem zs_b12 : b12.zs = [z12] := by kernel_rfl
theorem text_b12 : Pt.text b12 = t12 := by kernel_rfl
theorem line_r12 : lineOf (bts (Pt.rule r12).2) = [82, 117, 108, 101, 32, 69, 85, 32, 49, 57, 56, 49, 32, 109, 97, 120, 32, 45, 32, 77, 97, 114, 32, 108, 97, 115, 116, 83, 117, 110, 32, 49, 58, 48, 48, 117, 32, 49, 58, 48, 48, 32, 83] := by kernel_rfl
theorem lines_z12 : zls z12 = [⟨#[90, 111, 110, 101, 32, 65, 47, 66, 32, 49, 58, 48, 48, 32, 69, 85, 32, 67, 69, 37, 115, 84, 32, 50, 48, 48, 48]⟩, ⟨#[9, 50, 58, 48, 48, 32, 45, 32, 88]⟩] := by kernel_rfl
theorem right_b12 : So.right b12 = true := (sprs_right prs_b12).1
theorem nn_b12 : So.nn b12 := (sprs_right prs_b12).2.1
theorem t12_lit : t12 = [82, 117, 108, 101, 32, 69, 85, 32, 49, 57, 56, 49, 32, 109, 97, 120, 32, 45, 32, 77, 97, 114, 32, 108, 97, 115, 116, 83, 117, 110, 32, 49, 58, 48, 48, 117, 32, 49, 58, 48, 48, 32, 83, 10, 90, 111, 110, 101, 32, 65, 47, 66, 32, 49, 58, 48, 48, 32, 69, 85, 32, 67, 69, 37, 115, 84, 32, 50, 48, 48, 48, 10, 9, 50, 58, 48, 48, 32, 45, 32, 88, 10, 76, 105, 110, 107, 32, 65, 47, 66, 32, 67, 10] := by kernel_rfl
theorem line_l12 : lineOf (bts (Pt.link ⟨⟨#[65]⟩, ⟨#[66]⟩⟩).2) = [76, 105, 110, 107, 32, 65, 32, 66] := by kernel_rfl
theorem Th.on {w w' : World} {v : Value} {L : List ByteArray} (h : Th w v L) (hb : Below w.heap.size w w') : Th w' v L := by
  rcases h with h | ⟨g, c, cs, fr, e, hg, hc⟩
  · exact .inl h
  · have hlt : g < w.heap.size := by
      rcases Nat.lt_or_ge g w.heap.size with h' | h'
      · exact h'
      · simp [Array.getElem?_eq_none h'] at hg
    exact .inr ⟨g, c, cs, fr, e, (hb.block g hlt).trans hg, hc⟩
theorem Th.sl {w : World} {A : Option Addr} {n c : Nat} {L : List ByteArray} (h : Th w (.slice A n c) L) (hn : L.length = n) : Sl w w.heap.size A n (fun i => .string (L.getD i ByteArray.empty)) := fun h0 => by
  obtain ⟨g, rfl, hc0⟩ := h.at_ (k := 0) (by omega)
  refine ⟨_, rfl, lt_cell hc0, fun i hi => ?_⟩
  obtain ⟨g', e, hc⟩ := h.at_ (k := i) (by omega)
  injection e with e
  injection e with e _ _
  subst e
  rw [addr_at]
  exact hc
set_option maxHeartbeats 8000000 in
theorem lives12_true (w : World) (hE : Ev w) :
    Calls Tryz.prog 14 #[] w fun e w' => e = .returned (.bool true) ∧ Below w.heap.size w w' := by
  have hP := sparse_any ⟨t12.toArray⟩ w (by rw [t12_lit]; decide) hE
  have hpr : So.prs (⟨t12.toArray⟩ : ByteArray).data.toList = .inl b12 := prs_b12
  rw [hpr] at hP
  have HTX := Lib.hid (show Pt.text b12 = t12 from text_b12)
  rw [t12_lit] at hP HTX
  have HP := Lib.hid hP
  have HE := Lib.hid hE
  clear hP hpr hE
  go_enter Tryz.func14, Tryz.ntmps14
  go_wp2_with fail
  refine HP.out.mono ?_
  rintro e w1 ⟨⟨d, hd, hf, ha, rfl⟩, b1⟩
  have hr : So.right d.src = true := by rw [hd]; exact right_b12
  have hn : So.nn d.src := by rw [hd]; exact nn_b12
  have hlen : (Pt.text d.src).length ≤ 1048576 := by rw [hd, HTX.out]; decide
  have HT := Lib.hid (fun (W : World) (hb : Below w1.heap.size w1 W) => ptext_yes d W ((HE.out.below b1).below hb) hf (ha.on hb) hr hn hlen)
  rw [hd, HTX.out] at HT
  obtain ⟨rA, rc, rs, zA, zc, zs, lA, lc, ls⟩ := d
  have hrs : rs = [r12] := (congrArg Src.rs hd).trans rs_b12
  obtain ⟨zd, rfl, hzd⟩ : ∃ zd, zs = [zd] ∧ zd.zn = z12 := by
    have h1 : zs.map Zd.zn = [z12] := (congrArg Src.zs hd).trans zs_b12
    cases zs with
    | nil => cases h1
    | cons a l =>
      cases l with
      | nil => exact ⟨a, rfl, by simpa using h1⟩
      | cons b l => simp at h1
  subst hrs
  obtain ⟨br, ox, hrA, hbr, hcr⟩ := ha.r.at_ (i := 0) rcell_len (by decide) rfl
  obtain ⟨bz, oz, hzA, hbz, hcz⟩ := ha.z.at_ (i := 0) zcell_len (by decide) rfl
  dsimp only at hrA hzA hzd
  subst hrA hzA
  obtain ⟨_, p2, p3, _⟩ := so_parts hr
  have hrr : Rl.right r12 = true := p2 r12 (List.mem_cons_self)
  have hzz : So.zone zd.zn = true := p3 zd.zn (List.mem_map.2 ⟨zd, List.mem_cons_self, rfl⟩)
  have HRr := Lib.hid (fun (W : World) (hb : Below w1.heap.size w1 W) => prule_yes r12 W ((HE.out.below b1).below hb).env hrr (hn.r r12 (List.mem_cons_self)))
  have hfz := hf.zn zd (List.mem_cons_self)
  have HRz := Lib.hid (fun (W : World) (hb : Below w1.heap.size w1 W) => pzone_yes zd W ((HE.out.below b1).below hb) hzz (hn.z zd.zn (List.mem_map.2 ⟨zd, List.mem_cons_self, rfl⟩)) hfz.1 hfz.2.1 hfz.2.2 ((ha.e zd (List.mem_cons_self)).on hb))
  rw [hzd, lines_z12] at HRz
  rw [line_r12] at HRr
  dsimp only at HRr
  have HLk := Lib.hid (fun (W : World) (hb : Below w1.heap.size w1 W) => plink_yes ⟨⟨#[65]⟩, ⟨#[66]⟩⟩ W ((HE.out.below b1).below hb) (by kernel_rfl) (by decide) (by decide))
  rw [line_l12] at HLk
  have HLn := Lib.hid (fun (W : World) (hb : Below w1.heap.size w1 W) => plink_no ⟨⟨#[65]⟩, ⟨#[]⟩⟩ W ((HE.out.below b1).below hb) (by kernel_rfl) (by decide) (by decide))
  have HZn := Lib.hid (fun (W : World) (hb : Below w1.heap.size w1 W) => pzone_no ⟨⟨#[65]⟩, none, 0, []⟩ W ((HE.out.below b1).below hb) (by kernel_rfl) (by decide) (by decide) (fun _ h => by cases h) Rk.nil)
  generalize r12 = r at *
  obtain ⟨zn, zA, zzc, zes⟩ := zd
  have q1 := box_below w1 (.cells #[.slice (some ⟨br, ox, none⟩) 1 rc, .slice (some ⟨bz, oz, none⟩) 1 zc, .slice lA ls.length lc] 27)
  have q2 := q1.trans ((box_below (w1.alloc (.cells #[.slice (some ⟨br, ox, none⟩) 1 rc, .slice (some ⟨bz, oz, none⟩) 1 zc, .slice lA ls.length lc] 27)) (.cells #[.int .i64 0, .int .i64 0, .int .i64 0] 30)).mono q1.size)
  have hX := (Bx.mk' w1 w1.heap.size #[.slice (some ⟨br, ox, none⟩) 1 rc, .slice (some ⟨bz, oz, none⟩) 1 zc, .slice lA ls.length lc] 27 rfl).al (.cells #[.int .i64 0, .int .i64 0, .int .i64 0] 30)
  have hF := Bx.mk' (w1.alloc (.cells #[.slice (some ⟨br, ox, none⟩) 1 rc, .slice (some ⟨bz, oz, none⟩) 1 zc, .slice lA ls.length lc] 27)) (w1.heap.size + 1) #[.int .i64 0, .int .i64 0, .int .i64 0] 30 (by simp)
  have HC := Lib.hid (HT.out _ q2)
  have HX := Lib.hid hX
  have HF := Lib.hid hF
  have HQ := Lib.hid q2
  clear hX hF q1 q2 hfz hzz hrr p2 p3 hr hn hf ha hd hlen HT HP
  go_wp2_with fail
  refine HC.out.mono ?_
  rintro e w3 ⟨rfl, b3⟩
  have q3 := HQ.out.trans (b3.mono HQ.out.size)
  have hX3 := HX.out.on b3
  have hF3 := HF.out.on b3
  have x0 := hX3.at_ 0 _ rfl
  have x1 := hX3.at_ 1 _ rfl
  have f2 := hF3.at_ 2 _ rfl
  have c0 : w3.cell? ⟨br, ox, none⟩ = some (Value.string r.nm) := (q3.cell (p := ⟨br, ox, none⟩) hbr).trans (by have := hcr 0 _ rfl; simpa using this)
  have c1 : w3.cell? ⟨br, ox + 1, none⟩ = some (Value.int .i64 r.fr) := (q3.cell (p := ⟨br, ox + 1, none⟩) hbr).trans (by have := hcr 1 _ rfl; simpa using this)
  have c2 : w3.cell? ⟨br, ox + 2, none⟩ = some (Value.int .i64 r.tl) := (q3.cell (p := ⟨br, ox + 2, none⟩) hbr).trans (by have := hcr 2 _ rfl; simpa using this)
  have c3 : w3.cell? ⟨br, ox + 3, none⟩ = some (Value.int .i64 r.m) := (q3.cell (p := ⟨br, ox + 3, none⟩) hbr).trans (by have := hcr 3 _ rfl; simpa using this)
  have c4 : w3.cell? ⟨br, ox + 4, none⟩ = some (Value.int .u8 r.k) := (q3.cell (p := ⟨br, ox + 4, none⟩) hbr).trans (by have := hcr 4 _ rfl; simpa using this)
  have c5 : w3.cell? ⟨br, ox + 5, none⟩ = some (Value.int .i64 r.n) := (q3.cell (p := ⟨br, ox + 5, none⟩) hbr).trans (by have := hcr 5 _ rfl; simpa using this)
  have c6 : w3.cell? ⟨br, ox + 6, none⟩ = some (Value.int .i64 r.d) := (q3.cell (p := ⟨br, ox + 6, none⟩) hbr).trans (by have := hcr 6 _ rfl; simpa using this)
  have c7 : w3.cell? ⟨br, ox + 7, none⟩ = some (Value.int .i64 r.s) := (q3.cell (p := ⟨br, ox + 7, none⟩) hbr).trans (by have := hcr 7 _ rfl; simpa using this)
  have c8 : w3.cell? ⟨br, ox + 8, none⟩ = some (Value.int .u8 r.c) := (q3.cell (p := ⟨br, ox + 8, none⟩) hbr).trans (by have := hcr 8 _ rfl; simpa using this)
  have c9 : w3.cell? ⟨br, ox + 9, none⟩ = some (Value.int .i64 r.sv) := (q3.cell (p := ⟨br, ox + 9, none⟩) hbr).trans (by have := hcr 9 _ rfl; simpa using this)
  have c10 : w3.cell? ⟨br, ox + 10, none⟩ = some (Value.string r.lt) := (q3.cell (p := ⟨br, ox + 10, none⟩) hbr).trans (by have := hcr 10 _ rfl; simpa using this)
  have HX3 := Lib.hid hX3
  have HF3 := Lib.hid hF3
  have HCr := Lib.hid (HRr.out w3 q3)
  clear hX3 hF3 HC HX HF HQ b3 HRr hcr
  unfold tup
  go_wp2_with fail
  refine HCr.out.mono ?_
  rintro e w4 ⟨rfl, b4⟩
  have q4 := q3.trans (b4.mono q3.size)
  have hX4 := HX3.out.on b4
  have y1 := hX4.at_ 1 _ rfl
  have z0 : w4.cell? ⟨bz, oz, none⟩ = some (Value.string zn) := (q4.cell (p := ⟨bz, oz, none⟩) hbz).trans (by have := hcz 0 _ rfl; simpa using this)
  have z1 : w4.cell? ⟨bz, oz + 1, none⟩ = some (Value.slice zA zes.length zzc) := (q4.cell (p := ⟨bz, oz + 1, none⟩) hbz).trans (by have := hcz 1 _ rfl; simpa using this)
  have HCz := Lib.hid (HRz.out w4 q4)
  clear HCr HX3 HF3 hX4 b4 hcz HRz c0 c1 c2 c3 c4 c5 c6 c7 c8 c9 c10 x0 x1 f2
  unfold tup
  go_wp2_with fail
  refine HCz.out.mono ?_
  rintro e w5 ⟨⟨v, rfl, hTh⟩, b5⟩
  obtain ⟨vA, vc, rfl⟩ := hTh.len
  have q5 := q4.trans (b5.mono q4.size)
  have HTh5 := Lib.hid hTh
  have HCl := Lib.hid (HLk.out w5 q5)
  clear HCz b5 hTh HLk z0 z1 y1
  go_wp2_with fail
  refine HCl.out.mono ?_
  rintro e w6 ⟨rfl, b6⟩
  have q6 := q5.trans (b6.mono q5.size)
  have HTh6 := Lib.hid (HTh5.out.on b6)
  have HCn := Lib.hid (HLn.out w6 q6)
  clear HCl b6 HTh5 HLn
  unfold tup
  go_wp2_with fail
  refine HCn.out.mono ?_
  rintro e w7 ⟨rfl, b7⟩
  have q7 := q6.trans (b7.mono q6.size)
  have HTh7 := Lib.hid (HTh6.out.on b7)
  have HCy := Lib.hid (HZn.out w7 q7)
  clear HCn b7 HTh6 HZn
  unfold tup
  go_wp2_with fail
  refine HCy.out.mono ?_
  rintro e w8 ⟨rfl, b8⟩
  have q8 := q7.trans (b8.mono q7.size)
  have hTh8 := HTh7.out.on b8
  have hb9 := box_below w8 (.cells #[.string ⟨#[90, 111, 110, 101, 32, 65, 47, 66, 32, 49, 58, 48, 48, 32, 69, 85, 32, 67, 69, 37, 115, 84, 32, 50, 48, 48, 48]⟩, .string ⟨#[9, 50, 58, 48, 48, 32, 45, 32, 88]⟩] 9)
  have hS1 := (hTh8.on hb9).sl rfl
  have hS2 := (Bx.mk' w8 w8.heap.size #[.string ⟨#[90, 111, 110, 101, 32, 65, 47, 66, 32, 49, 58, 48, 48, 32, 69, 85, 32, 67, 69, 37, 115, 84, 32, 50, 48, 48, 48]⟩, .string ⟨#[9, 50, 58, 48, 48, 32, 45, 32, 88]⟩] 9 rfl : Bx _ _ ([⟨#[90, 111, 110, 101, 32, 65, 47, 66, 32, 49, 58, 48, 48, 32, 69, 85, 32, 67, 69, 37, 115, 84, 32, 50, 48, 48, 48]⟩, ⟨#[9, 50, 58, 48, 48, 32, 45, 32, 88]⟩].map Value.string)).txs.sl 2 (Nat.le_refl _) [⟨#[90, 111, 110, 101, 32, 65, 47, 66, 32, 49, 58, 48, 48, 32, 69, 85, 32, 67, 69, 37, 115, 84, 32, 50, 48, 48, 48]⟩, ⟨#[9, 50, 58, 48, 48, 32, 45, 32, 88]⟩] (fun _ _ => rfl)
  have HEQ := Lib.hid (texts_eq vA (some ⟨w8.heap.size, 0, none⟩) 2 vc 2 [⟨#[90, 111, 110, 101, 32, 65, 47, 66, 32, 49, 58, 48, 48, 32, 69, 85, 32, 67, 69, 37, 115, 84, 32, 50, 48, 48, 48]⟩, ⟨#[9, 50, 58, 48, 48, 32, 45, 32, 88]⟩] (by decide) _ hS1 hS2)
  have HQ9 := Lib.hid (q8.trans (hb9.mono q8.size))
  clear HCy b8 HTh7 hTh8 hb9 hS1 hS2
  go_wp2_with fail
  refine HEQ.out.mono ?_
  rintro e w10 ⟨rfl, b10⟩
  have q10 := b1.trans ((HQ9.out.trans (b10.mono HQ9.out.size)).mono b1.size)
  clear HEQ HQ9 b10
  go_wp2_with fail
  go_ret
  exact ⟨rfl, q10⟩
end Go.Proofs.YtkcbmnboccjnnaaGreatDoor
