/- The first questions of layer 10's statement (by program). -/
import Derived.Test.YtigmbkcjmlpfoaaGreatDoorEx
namespace Go.Proofs.YtigmbkcjmlpfoaaGreatDoor
open Go.RowKit
theorem us_prs : El.prs ([⟨#[45, 53, 58, 48, 48]⟩, ⟨#[85, 83]⟩, ⟨#[69, 37, 115, 84]⟩, ⟨#[50, 48, 48, 55]⟩, ⟨#[77, 97, 114]⟩, ⟨#[83, 117, 110, 62, 61, 56]⟩, ⟨#[50, 58, 48, 48, 115]⟩] : List ByteArray) = (⟨-18000, 2, 0, ⟨#[85, 83]⟩, ⟨#[69, 37, 115, 84]⟩, true, ⟨2007, 3, 2, 8, 0, 7200, 1⟩⟩, 0, 0) := by kernel_rfl
theorem us_texts : El.texts ⟨-18000, 2, 0, ⟨#[85, 83]⟩, ⟨#[69, 37, 115, 84]⟩, true, ⟨2007, 3, 2, 8, 0, 7200, 1⟩⟩ = ([⟨#[45, 53, 58, 48, 48]⟩, ⟨#[85, 83]⟩, ⟨#[69, 37, 115, 84]⟩, ⟨#[50, 48, 48, 55]⟩, ⟨#[77, 97, 114]⟩, ⟨#[83, 117, 110, 62, 61, 56]⟩, ⟨#[50, 58, 48, 48, 115]⟩] : List ByteArray) := by decide +kernel
theorem us_num : El.num ⟨-18000, 2, 0, ⟨#[85, 83]⟩, ⟨#[69, 37, 115, 84]⟩, true, ⟨2007, 3, 2, 8, 0, 7200, 1⟩⟩ = 7 := by decide +kernel
theorem us2_prs : El.prs ([⟨#[45, 53, 58, 48, 48]⟩, ⟨#[85, 83]⟩] : List ByteArray) = (⟨0, 0, 0, ⟨#[]⟩, ⟨#[]⟩, false, ⟨0, 0, 0, 0, 0, 0, 0⟩⟩, 2, 5) := by kernel_rfl
theorem us8_prs : El.prs ([⟨#[45, 53, 58, 48, 48]⟩, ⟨#[85, 83]⟩, ⟨#[69, 37, 115, 84]⟩, ⟨#[50, 48, 48, 55]⟩, ⟨#[77, 97, 114]⟩, ⟨#[83, 117, 110, 62, 61, 56]⟩, ⟨#[50, 58, 48, 48, 115]⟩, ⟨#[120]⟩] : List ByteArray) = (⟨0, 0, 0, ⟨#[]⟩, ⟨#[]⟩, false, ⟨0, 0, 0, 0, 0, 0, 0⟩⟩, 7, 6) := by kernel_rfl
theorem lb_prs : El.prs ([⟨#[45]⟩, ⟨#[45, 48, 58, 50, 48]⟩, ⟨#[120]⟩] : List ByteArray) = (⟨0, 1, -1200, ⟨#[]⟩, ⟨#[120]⟩, false, ⟨0, 0, 0, 0, 0, 0, 0⟩⟩, 0, 0) := by kernel_rfl
theorem lk_prs : El.prs ([⟨#[49, 58, 48, 48]⟩, ⟨#[45, 120]⟩, ⟨#[121]⟩] : List ByteArray) = (⟨0, 0, 0, ⟨#[]⟩, ⟨#[]⟩, false, ⟨0, 0, 0, 0, 0, 0, 0⟩⟩, 1, 7) := by kernel_rfl
set_option maxRecDepth 100000 in
set_option maxHeartbeats 8000000 in
theorem lives10 (w : World) (HE : Hid (Ev w)) : Calls Tryz.prog 12 #[] w fun e w' => e = .returned (.bool true) ∧ Below w.heap.size w w' := by
  have HC0 : Hid (Cy w w) := Lib.hid ⟨HE.out, Below.refl _ _⟩
  go_enter Tryz.func12, Tryz.ntmps12
  go_wp2_with fail
  refine (eprs_bx w.heap.size 7 7 ([⟨#[45, 53, 58, 48, 48]⟩, ⟨#[85, 83]⟩, ⟨#[69, 37, 115, 84]⟩, ⟨#[50, 48, 48, 55]⟩, ⟨#[77, 97, 114]⟩, ⟨#[83, 117, 110, 62, 61, 56]⟩, ⟨#[50, 58, 48, 48, 115]⟩] : List ByteArray) ([⟨#[45, 53, 58, 48, 48]⟩, ⟨#[85, 83]⟩, ⟨#[69, 37, 115, 84]⟩, ⟨#[50, 48, 48, 55]⟩, ⟨#[77, 97, 114]⟩, ⟨#[83, 117, 110, 62, 61, 56]⟩, ⟨#[50, 58, 48, 48, 115]⟩] : List ByteArray) ⟨-18000, 2, 0, ⟨#[85, 83]⟩, ⟨#[69, 37, 115, 84]⟩, true, ⟨2007, 3, 2, 8, 0, 7200, 1⟩⟩ 0 0 _ (HC0.out.al _).env (Bx.mk' _ w.heap.size (#[.string ⟨#[45, 53, 58, 48, 48]⟩, .string ⟨#[85, 83]⟩, .string ⟨#[69, 37, 115, 84]⟩, .string ⟨#[50, 48, 48, 55]⟩, .string ⟨#[77, 97, 114]⟩, .string ⟨#[83, 117, 110, 62, 61, 56]⟩, .string ⟨#[50, 58, 48, 48, 115]⟩] : Array Value) 9 (by simp)) (by decide) (by decide) (by decide) (by decide) rfl (by decide) us_prs).mono ?_
  rintro e v1 ⟨rfl, b1⟩
  have HC1 := Lib.hid ((HC0.out.al _).on b1)
  have HX_l := Lib.hid ((Bx.mk' _ w.heap.size (#[.string ⟨#[45, 53, 58, 48, 48]⟩, .string ⟨#[85, 83]⟩, .string ⟨#[69, 37, 115, 84]⟩, .string ⟨#[50, 48, 48, 55]⟩, .string ⟨#[77, 97, 114]⟩, .string ⟨#[83, 117, 110, 62, 61, 56]⟩, .string ⟨#[50, 58, 48, 48, 115]⟩] : Array Value) 9 (by simp)).on b1)
  clear b1 HC0 
  have HB_l := HX_l
  clear HX_l
  go_wp2_with fail
  refine (etext_bx ⟨-18000, 2, 0, ⟨#[85, 83]⟩, ⟨#[69, 37, 115, 84]⟩, true, ⟨2007, 3, 2, 8, 0, 7200, 1⟩⟩ ([⟨#[45, 53, 58, 48, 48]⟩, ⟨#[85, 83]⟩, ⟨#[69, 37, 115, 84]⟩, ⟨#[50, 48, 48, 55]⟩, ⟨#[77, 97, 114]⟩, ⟨#[83, 117, 110, 62, 61, 56]⟩, ⟨#[50, 58, 48, 48, 115]⟩] : List ByteArray) 7 _ (HC1.out.al _).env (by decide +kernel) (by decide) (by decide) us_texts us_num).mono ?_
  rintro e v2 ⟨⟨g_t, c_t, rfl, _, _, h_t⟩, b2⟩
  have HCj := Lib.hid ((HC1.out.al _).on b2)
  have HX_l := Lib.hid ((HB_l.out.al _).on b2)
  have HX_a := Lib.hid ((Bx.mk' _ v1.heap.size #[.int .i64 (-18000), .int .u8 2, .int .i64 0, .string ⟨#[85, 83]⟩, .string ⟨#[69, 37, 115, 84]⟩, .bool true, .int .i64 2007, .int .i64 3, .int .u8 2, .int .i64 8, .int .i64 0, .int .i64 7200, .int .u8 1] 44 (by simp)).on b2)
  clear HC1 HB_l
  have HB_l := HX_l
  have HB_a := HX_a
  clear HX_l HX_a
  have HB_t := Lib.hid h_t
  clear h_t b2
  go_wp2_with fail
  refine (eprs_bx v2.heap.size 3 3 ([⟨#[45]⟩, ⟨#[45, 48, 58, 50, 48]⟩, ⟨#[120]⟩] : List ByteArray) ([⟨#[45]⟩, ⟨#[45, 48, 58, 50, 48]⟩, ⟨#[120]⟩] : List ByteArray) ⟨0, 1, -1200, ⟨#[]⟩, ⟨#[120]⟩, false, ⟨0, 0, 0, 0, 0, 0, 0⟩⟩ 0 0 _ (HCj.out.al _).env (Bx.mk' _ v2.heap.size (#[.string ⟨#[45]⟩, .string ⟨#[45, 48, 58, 50, 48]⟩, .string ⟨#[120]⟩] : Array Value) 9 (by simp)) (by decide) (by decide) (by decide) (by decide) rfl (by decide) lb_prs).mono ?_
  rintro e v3 ⟨rfl, b3⟩
  have HC3 := Lib.hid ((HCj.out.al _).on b3)
  have HX_l := Lib.hid ((HB_l.out.al _).on b3)
  have HX_a := Lib.hid ((HB_a.out.al _).on b3)
  have HX_t := Lib.hid ((HB_t.out.al _).on b3)
  clear b3 HCj HB_l HB_a HB_t
  have HB_l := HX_l
  have HB_a := HX_a
  have HB_t := HX_t
  clear HX_l HX_a HX_t
  have hE0 := own_lit (e := 9) (base := (v3.alloc (.cells #[.int .i64 0, .int .u8 1, .int .i64 (-1200), .string ⟨#[]⟩, .string ⟨#[120]⟩, .bool false, .int .i64 0, .int .i64 0, .int .u8 0, .int .i64 0, .int .i64 0, .int .i64 0, .int .u8 0] 44)).heap.size) (v3.alloc (.cells #[.int .i64 0, .int .u8 1, .int .i64 (-1200), .string ⟨#[]⟩, .string ⟨#[120]⟩, .bool false, .int .i64 0, .int .i64 0, .int .u8 0, .int .i64 0, .int .i64 0, .int .i64 0, .int .u8 0] 44)) (v3.heap.size + 1) (by simp) #[] 0 (Nat.le_refl _) (by decide) rfl
  have hL0 : Hid (Txs ((v3.alloc (.cells #[.int .i64 0, .int .u8 1, .int .i64 (-1200), .string ⟨#[]⟩, .string ⟨#[120]⟩, .bool false, .int .i64 0, .int .i64 0, .int .u8 0, .int .i64 0, .int .i64 0, .int .i64 0, .int .u8 0] 44)).alloc (.cells #[] 9)) w.heap.size ([⟨#[45, 53, 58, 48, 48]⟩, ⟨#[85, 83]⟩, ⟨#[69, 37, 115, 84]⟩, ⟨#[50, 48, 48, 55]⟩, ⟨#[77, 97, 114]⟩, ⟨#[83, 117, 110, 62, 61, 56]⟩, ⟨#[50, 58, 48, 48, 115]⟩] : List ByteArray)) := Lib.hid (((HB_l.out.al _).al _).txs (L := ([⟨#[45, 53, 58, 48, 48]⟩, ⟨#[85, 83]⟩, ⟨#[69, 37, 115, 84]⟩, ⟨#[50, 48, 48, 55]⟩, ⟨#[77, 97, 114]⟩, ⟨#[83, 117, 110, 62, 61, 56]⟩, ⟨#[50, 58, 48, 48, 115]⟩] : List ByteArray)))
  have HE0 := Lib.hid hE0
  clear hE0
  go_wp2_with (first
    | (at_builtin; refine wpList_joins rfl (.tmp 39) (.tmp 40) rfl (v3.alloc (.cells #[.int .i64 0, .int .u8 1, .int .i64 (-1200), .string ⟨#[]⟩, .string ⟨#[120]⟩, .bool false, .int .i64 0, .int .i64 0, .int .u8 0, .int .i64 0, .int .i64 0, .int .i64 0, .int .u8 0] 44)).heap.size _ [] HE0.out rfl w.heap.size 7 7 ([⟨#[45, 53, 58, 48, 48]⟩, ⟨#[85, 83]⟩, ⟨#[69, 37, 115, 84]⟩, ⟨#[50, 48, 48, 55]⟩, ⟨#[77, 97, 114]⟩, ⟨#[83, 117, 110, 62, 61, 56]⟩, ⟨#[50, 58, 48, 48, 115]⟩] : List ByteArray) rfl hL0.out rfl 7 rfl (by decide) (by simp) ?_; intro x1 wA ho1 hg1; have bA := ((Below.refl (v3.alloc (.cells #[.int .i64 0, .int .u8 1, .int .i64 (-1200), .string ⟨#[]⟩, .string ⟨#[120]⟩, .bool false, .int .i64 0, .int .i64 0, .int .u8 0, .int .i64 0, .int .i64 0, .int .i64 0, .int .u8 0] 44)).heap.size (v3.alloc (.cells #[.int .i64 0, .int .u8 1, .int .i64 (-1200), .string ⟨#[]⟩, .string ⟨#[120]⟩, .bool false, .int .i64 0, .int .i64 0, .int .u8 0, .int .i64 0, .int .i64 0, .int .i64 0, .int .u8 0] 44))).alloc (Nat.le_refl _) (.cells #[] 9)).grown hg1 (by simp) (own_base HE0.out); have hA := Lib.hid ((World.ownsRow.alloc ho1 (.cells (#[.string ⟨#[120]⟩] : Array Value) 9))); clear ho1 hg1)
    | (at_builtin; refine wpList_joins rfl (.tmp 41) (.tmp 42) rfl (v3.alloc (.cells #[.int .i64 0, .int .u8 1, .int .i64 (-1200), .string ⟨#[]⟩, .string ⟨#[120]⟩, .bool false, .int .i64 0, .int .i64 0, .int .u8 0, .int .i64 0, .int .i64 0, .int .i64 0, .int .u8 0] 44)).heap.size _ ([⟨#[45, 53, 58, 48, 48]⟩, ⟨#[85, 83]⟩, ⟨#[69, 37, 115, 84]⟩, ⟨#[50, 48, 48, 55]⟩, ⟨#[77, 97, 114]⟩, ⟨#[83, 117, 110, 62, 61, 56]⟩, ⟨#[50, 58, 48, 48, 115]⟩] : List ByteArray) hA.out rfl wA.heap.size 1 1 ([⟨#[120]⟩] : List ByteArray) rfl (Bx.txs (L := ([⟨#[120]⟩] : List ByteArray)) (Bx.mk' wA wA.heap.size (#[.string ⟨#[120]⟩] : Array Value) 9 rfl)) rfl 8 rfl (by decide) (by have := bA.size; simp at this ⊢; omega) ?_; intro x2 wB ho2 hg2; have bB := (bA.alloc bA.size (.cells (#[.string ⟨#[120]⟩] : Array Value) 9)).grown hg2 (by have := bA.size; simp at this ⊢; omega) (own_base hA.out); obtain ⟨gB, cB, rfl, q1, q2, _, hTB⟩ := own_texts ho2 (by decide) rfl; have HTB := Lib.hid hTB; clear ho2 hg2 hTB))
  unfold maxLen at q2
  have HCj := Lib.hid ((HC3.out.al _).on bB)
  have HX_l := Lib.hid ((HB_l.out.al _).on bB)
  have HX_a := Lib.hid ((HB_a.out.al _).on bB)
  have HX_t := Lib.hid ((HB_t.out.al _).on bB)
  have HX_b := Lib.hid ((Bx.mk' _ v3.heap.size #[.int .i64 0, .int .u8 1, .int .i64 (-1200), .string ⟨#[]⟩, .string ⟨#[120]⟩, .bool false, .int .i64 0, .int .i64 0, .int .u8 0, .int .i64 0, .int .i64 0, .int .i64 0, .int .u8 0] 44 (by simp)).on bB)
  clear HC3 HB_l HB_a HB_t
  have HB_l := HX_l
  have HB_a := HX_a
  have HB_t := HX_t
  have HB_b := HX_b
  clear HX_l HX_a HX_t HX_b
  clear bA bB hA HE0 hL0
  refine (eprs_bx gB 8 cB ([⟨#[45, 53, 58, 48, 48]⟩, ⟨#[85, 83]⟩, ⟨#[69, 37, 115, 84]⟩, ⟨#[50, 48, 48, 55]⟩, ⟨#[77, 97, 114]⟩, ⟨#[83, 117, 110, 62, 61, 56]⟩, ⟨#[50, 58, 48, 48, 115]⟩, ⟨#[120]⟩] : List ByteArray) ([⟨#[45, 53, 58, 48, 48]⟩, ⟨#[85, 83]⟩, ⟨#[69, 37, 115, 84]⟩, ⟨#[50, 48, 48, 55]⟩, ⟨#[77, 97, 114]⟩, ⟨#[83, 117, 110, 62, 61, 56]⟩, ⟨#[50, 58, 48, 48, 115]⟩, ⟨#[120]⟩] : List ByteArray) ⟨0, 0, 0, ⟨#[]⟩, ⟨#[]⟩, false, ⟨0, 0, 0, 0, 0, 0, 0⟩⟩ 7 6 _ HCj.out.env HTB.out.bx (by decide) (by decide) q1 (by omega) rfl (by decide) us8_prs).mono ?_
  rintro e v5 ⟨rfl, b5⟩
  have HC5 := Lib.hid (HCj.out.on b5)
  have HX_l := Lib.hid (HB_l.out.on b5)
  have HX_a := Lib.hid (HB_a.out.on b5)
  have HX_t := Lib.hid (HB_t.out.on b5)
  have HX_b := Lib.hid (HB_b.out.on b5)
  clear b5 HCj HB_l HB_a HB_t HB_b
  have HB_l := HX_l
  have HB_a := HX_a
  have HB_t := HX_t
  have HB_b := HX_b
  clear HX_l HX_a HX_t HX_b
  clear HTB
  go_wp2_with fail
  refine (eprs_bx (v5.heap.size + 1) 3 3 ([⟨#[49, 58, 48, 48]⟩, ⟨#[45, 120]⟩, ⟨#[121]⟩] : List ByteArray) ([⟨#[49, 58, 48, 48]⟩, ⟨#[45, 120]⟩, ⟨#[121]⟩] : List ByteArray) ⟨0, 0, 0, ⟨#[]⟩, ⟨#[]⟩, false, ⟨0, 0, 0, 0, 0, 0, 0⟩⟩ 1 7 _ ((HC5.out.al _).al _).env (Bx.mk' _ (v5.heap.size + 1) (#[.string ⟨#[49, 58, 48, 48]⟩, .string ⟨#[45, 120]⟩, .string ⟨#[121]⟩] : Array Value) 9 (by simp)) (by decide) (by decide) (by decide) (by decide) rfl (by decide) lk_prs).mono ?_
  rintro e v6 ⟨rfl, b6⟩
  have HC6 := Lib.hid (((HC5.out.al _).al _).on b6)
  have HX_l := Lib.hid (((HB_l.out.al _).al _).on b6)
  have HX_a := Lib.hid (((HB_a.out.al _).al _).on b6)
  have HX_t := Lib.hid (((HB_t.out.al _).al _).on b6)
  have HX_b := Lib.hid (((HB_b.out.al _).al _).on b6)
  clear b6 HC5 HB_l HB_a HB_t HB_b
  have HB_l := HX_l
  have HB_a := HX_a
  have HB_t := HX_t
  have HB_b := HX_b
  clear HX_l HX_a HX_t HX_b
  have lt_l := HB_l.out.lt
  go_wp2_with fail
  refine (eprs_bx w.heap.size 2 7 ([⟨#[45, 53, 58, 48, 48]⟩, ⟨#[85, 83]⟩, ⟨#[69, 37, 115, 84]⟩, ⟨#[50, 48, 48, 55]⟩, ⟨#[77, 97, 114]⟩, ⟨#[83, 117, 110, 62, 61, 56]⟩, ⟨#[50, 58, 48, 48, 115]⟩] : List ByteArray) ([⟨#[45, 53, 58, 48, 48]⟩, ⟨#[85, 83]⟩] : List ByteArray) ⟨0, 0, 0, ⟨#[]⟩, ⟨#[]⟩, false, ⟨0, 0, 0, 0, 0, 0, 0⟩⟩ 2 5 _ (HC6.out.al _).env (HB_l.out.al _) (by decide) (by decide) (by decide) (by decide) rfl (by decide) us2_prs).mono ?_
  rintro e v7 ⟨rfl, b7⟩
  clear lt_l
  have HC7 := Lib.hid ((HC6.out.al _).on b7)
  have HX_l := Lib.hid ((HB_l.out.al _).on b7)
  have HX_a := Lib.hid ((HB_a.out.al _).on b7)
  have HX_t := Lib.hid ((HB_t.out.al _).on b7)
  have HX_b := Lib.hid ((HB_b.out.al _).on b7)
  clear b7 HC6 HB_l HB_a HB_t HB_b
  have HB_l := HX_l
  have HB_a := HX_a
  have HB_t := HX_t
  have HB_b := HX_b
  clear HX_l HX_a HX_t HX_b
  have lt_a := HB_a.out.lt
  have c_a_0 := HB_a.out.at_ 0 _ rfl
  have c_a_1 := HB_a.out.at_ 1 _ rfl
  have c_a_2 := HB_a.out.at_ 2 _ rfl
  have c_a_3 := HB_a.out.at_ 3 _ rfl
  have c_a_4 := HB_a.out.at_ 4 _ rfl
  have c_a_5 := HB_a.out.at_ 5 _ rfl
  have c_a_6 := HB_a.out.at_ 6 _ rfl
  have c_a_7 := HB_a.out.at_ 7 _ rfl
  have c_a_8 := HB_a.out.at_ 8 _ rfl
  have c_a_9 := HB_a.out.at_ 9 _ rfl
  have c_a_10 := HB_a.out.at_ 10 _ rfl
  have c_a_11 := HB_a.out.at_ 11 _ rfl
  have c_a_12 := HB_a.out.at_ 12 _ rfl
  go_wp2_with fail
  refine (texts_bx g_t w.heap.size 7 c_t 7 ([⟨#[45, 53, 58, 48, 48]⟩, ⟨#[85, 83]⟩, ⟨#[69, 37, 115, 84]⟩, ⟨#[50, 48, 48, 55]⟩, ⟨#[77, 97, 114]⟩, ⟨#[83, 117, 110, 62, 61, 56]⟩, ⟨#[50, 58, 48, 48, 115]⟩] : List ByteArray) _ (by decide) rfl ((HB_t.out.al _).al _) ((HB_l.out.al _).al _)).mono ?_
  rintro e v8 ⟨rfl, b8⟩
  clear lt_a c_a_0 c_a_1 c_a_2 c_a_3 c_a_4 c_a_5 c_a_6 c_a_7 c_a_8 c_a_9 c_a_10 c_a_11 c_a_12
  have HC8 := Lib.hid (((HC7.out.al _).al _).on b8)
  have HX_b := Lib.hid (((HB_b.out.al _).al _).on b8)
  have HX_want := Lib.hid ((Bx.mk' _ (v7.heap.size + 1) #[.int .i64 (-18000), .int .u8 2, .int .i64 0, .string ⟨#[85, 83]⟩, .string ⟨#[69, 37, 115, 84]⟩, .bool true, .int .i64 2007, .int .i64 3, .int .u8 2, .int .i64 8, .int .i64 0, .int .i64 7200, .int .u8 1] 44 (by simp)).on b8)
  clear b8 HC7 HB_l HB_a HB_t HB_b
  have HB_b := HX_b
  have HB_want := HX_want
  clear HX_b HX_want
  have lt_b := HB_b.out.lt
  have c_b_0 := HB_b.out.at_ 0 _ rfl
  have c_b_1 := HB_b.out.at_ 1 _ rfl
  have c_b_2 := HB_b.out.at_ 2 _ rfl
  have c_b_3 := HB_b.out.at_ 3 _ rfl
  have c_b_4 := HB_b.out.at_ 4 _ rfl
  have c_b_5 := HB_b.out.at_ 5 _ rfl
  have c_b_6 := HB_b.out.at_ 6 _ rfl
  have c_b_7 := HB_b.out.at_ 7 _ rfl
  have c_b_8 := HB_b.out.at_ 8 _ rfl
  have c_b_9 := HB_b.out.at_ 9 _ rfl
  have c_b_10 := HB_b.out.at_ 10 _ rfl
  have c_b_11 := HB_b.out.at_ 11 _ rfl
  have c_b_12 := HB_b.out.at_ 12 _ rfl
  have lt_want := HB_want.out.lt
  have c_want_0 := HB_want.out.at_ 0 _ rfl
  have c_want_1 := HB_want.out.at_ 1 _ rfl
  have c_want_2 := HB_want.out.at_ 2 _ rfl
  have c_want_3 := HB_want.out.at_ 3 _ rfl
  have c_want_4 := HB_want.out.at_ 4 _ rfl
  have c_want_5 := HB_want.out.at_ 5 _ rfl
  have c_want_6 := HB_want.out.at_ 6 _ rfl
  have c_want_7 := HB_want.out.at_ 7 _ rfl
  have c_want_8 := HB_want.out.at_ 8 _ rfl
  have c_want_9 := HB_want.out.at_ 9 _ rfl
  have c_want_10 := HB_want.out.at_ 10 _ rfl
  have c_want_11 := HB_want.out.at_ 11 _ rfl
  have c_want_12 := HB_want.out.at_ 12 _ rfl
  go_wp2_with fail
  refine (echeck_yes ⟨-18000, 2, 0, ⟨#[85, 83]⟩, ⟨#[69, 37, 115, 84]⟩, true, ⟨2007, 3, 2, 8, 0, 7200, 1⟩⟩ _ HC8.out.env (by decide) (by decide +kernel)).mono ?_
  rintro e v9 ⟨rfl, b9⟩
  clear lt_b c_b_0 c_b_1 c_b_2 c_b_3 c_b_4 c_b_5 c_b_6 c_b_7 c_b_8 c_b_9 c_b_10 c_b_11 c_b_12 lt_want c_want_0 c_want_1 c_want_2 c_want_3 c_want_4 c_want_5 c_want_6 c_want_7 c_want_8 c_want_9 c_want_10 c_want_11 c_want_12
  have HC9 := Lib.hid (HC8.out.on b9)
  clear b9 HC8 HB_b HB_want
  go_wp2_with fail
  refine (echeck_no ⟨0, 0, 0, ⟨#[]⟩, ⟨#[]⟩, false, ⟨0, 0, 0, 0, 0, 0, 0⟩⟩ _ HC9.out.env (by decide) (by decide +kernel)).mono ?_
  rintro e v10 ⟨rfl, b10⟩
  have HC10 := Lib.hid (HC9.out.on b10)
  clear b10 HC9 
  go_wp2_with fail
  go_ret
  exact ⟨rfl, HC10.out.bel⟩
end Go.Proofs.YtigmbkcjmlpfoaaGreatDoor
