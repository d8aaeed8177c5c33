/- The first questions of layer 13. (By program: genlives13.py.) -/
import Derived.Test.YtghllibpcehmdaaL13
namespace Go.Proofs.Ytghllibpcehmdaa
open Go.RowKit Go.Maps
set_option maxRecDepth 100000
set_option maxHeartbeats 8000000 in
theorem lives13_true (w : World) : Calls Try.prog 4 #[] w fun e w' => e = .returned (.bool true) ∧ Below w.heap.size w w' := by
  have H0 := Lib.hid (b13_start w)
  go_enter Try.func4, Try.ntmps4
  go_wp2_with fail
  generalize hW0 : (((w.alloc (.cells #[.string ⟨#[65]⟩, .slice none 0 0, .string ⟨#[66]⟩, .slice none 0 0] 36)).alloc (.cells #[.string ⟨#[67]⟩, .string ⟨#[68]⟩, .string ⟨#[66]⟩, .string ⟨#[67]⟩, .string ⟨#[70]⟩, .string ⟨#[69]⟩, .string ⟨#[69]⟩, .string ⟨#[70]⟩, .string ⟨#[120]⟩, .string ⟨#[71]⟩] 39)).alloc (.cells #[.slice none 0 0, .slice (some ⟨w.heap.size, 0, none⟩) 2 2, .slice (some ⟨w.heap.size + 1, 0, none⟩) 5 5] 26)) = W0 at *
  clear hW0
  have c00 := H0.out.bx.at_ 0 _ rfl
  have c01 := H0.out.bx.at_ 1 _ rfl
  have c02 := H0.out.bx.at_ 2 _ rfl
  have K1 := Lib.hid (lzone_any (s13 w.heap.size) ⟨#[68]⟩ _ H0.out.lk (by decide))
  go_wp2_with fail
  refine K1.out.mono ?_
  rw [s13_Z, show (s13 w.heap.size).ls = ks13 from rfl, zn_D]
  rintro e W1 ⟨rfl, b1⟩
  have H1 := Lib.hid (H0.out.on b1)
  clear b1 K1
  clear c00 c01 c02
  have c10 := H1.out.bx.at_ 0 _ rfl
  have c11 := H1.out.bx.at_ 1 _ rfl
  have c12 := H1.out.bx.at_ 2 _ rfl
  have K2 := Lib.hid (lzone_any (s13 w.heap.size) ⟨#[69]⟩ _ H1.out.lk (by decide))
  go_wp2_with fail
  refine K2.out.mono ?_
  rw [s13_Z, show (s13 w.heap.size).ls = ks13 from rfl, zn_E]
  rintro e W2 ⟨rfl, b2⟩
  have H2 := Lib.hid (H1.out.on b2)
  clear b2 K2
  clear c10 c11 c12
  have c20 := H2.out.bx.at_ 0 _ rfl
  have c21 := H2.out.bx.at_ 1 _ rfl
  have c22 := H2.out.bx.at_ 2 _ rfl
  have K3 := Lib.hid (lzone_any (s13 w.heap.size) ⟨#[71]⟩ _ H2.out.lk (by decide))
  go_wp2_with fail
  refine K3.out.mono ?_
  rw [s13_Z, show (s13 w.heap.size).ls = ks13 from rfl, zn_G]
  rintro e W3 ⟨rfl, b3⟩
  have H3 := Lib.hid (H2.out.on b3)
  clear b3 K3
  clear c20 c21 c22
  have c30 := H3.out.bx.at_ 0 _ rfl
  have c31 := H3.out.bx.at_ 1 _ rfl
  have c32 := H3.out.bx.at_ 2 _ rfl
  have K4 := Lib.hid (lzone_any (s13 w.heap.size) ⟨#[65]⟩ _ H3.out.lk (by decide))
  go_wp2_with fail
  refine K4.out.mono ?_
  rw [s13_Z, show (s13 w.heap.size).ls = ks13 from rfl, zn_A]
  rintro e W4 ⟨rfl, b4⟩
  have H4 := Lib.hid (H3.out.on b4)
  clear b4 K4
  clear c30 c31 c32
  have c40 := H4.out.bx.at_ 0 _ rfl
  have c41 := H4.out.bx.at_ 1 _ rfl
  have c42 := H4.out.bx.at_ 2 _ rfl
  have K5 := Lib.hid (lchain_any (s13 w.heap.size) ⟨#[68]⟩ _ H4.out.lk (by decide))
  go_wp2_with fail
  refine K5.out.mono ?_
  rw [s13_Z, show (s13 w.heap.size).ls = ks13 from rfl]
  rintro e W5 ⟨⟨k5, p5, r5⟩, b5⟩
  obtain rfl := chain_is p5 ch_D
  rw [chs_D] at r5
  obtain ⟨A5, q5, rfl, s5⟩ := rowE_sl r5
  have H5 := Lib.hid (H4.out.on b5)
  have T5 := Lib.hid (texts_eq A5 (some ⟨W5.heap.size, 0, none⟩) 3 q5 3 [⟨#[68]⟩, ⟨#[67]⟩, ⟨#[66]⟩] (by decide) (W5.alloc (.cells #[.string ⟨#[68]⟩, .string ⟨#[67]⟩, .string ⟨#[66]⟩] 9)) ((s5.below (box_below _ _)).more (by simp)) (sl_lit (L := [⟨#[68]⟩, ⟨#[67]⟩, ⟨#[66]⟩]) (heap_alloc_new W5 (.cells #[.string ⟨#[68]⟩, .string ⟨#[67]⟩, .string ⟨#[66]⟩] 9))))
  clear b5 K5 r5 s5
  clear c40 c41 c42
  have H5x := Lib.hid (H5.out.on (box_below W5 (.cells #[.string ⟨#[68]⟩, .string ⟨#[67]⟩, .string ⟨#[66]⟩] 9)))
  go_wp2_with fail
  refine T5.out.mono ?_
  rintro e W6 ⟨rfl, b6⟩
  have H6 := Lib.hid (H5x.out.on b6)
  clear b6 T5 H5 H5x
  have c60 := H6.out.bx.at_ 0 _ rfl
  have c61 := H6.out.bx.at_ 1 _ rfl
  have c62 := H6.out.bx.at_ 2 _ rfl
  have K7 := Lib.hid (lchain_any (s13 w.heap.size) ⟨#[69]⟩ _ H6.out.lk (by decide))
  go_wp2_with fail
  refine K7.out.mono ?_
  rw [s13_Z, show (s13 w.heap.size).ls = ks13 from rfl]
  rintro e W7 ⟨⟨k7, p7, r7⟩, b7⟩
  obtain rfl := chain_is p7 ch_E
  rw [chs_E] at r7
  obtain ⟨A7, q7, rfl, s7⟩ := rowE_sl r7
  have H7 := Lib.hid (H6.out.on b7)
  have T7 := Lib.hid (texts_eq A7 (some ⟨W7.heap.size, 0, none⟩) 2 q7 2 [⟨#[69]⟩, ⟨#[70]⟩] (by decide) (W7.alloc (.cells #[.string ⟨#[69]⟩, .string ⟨#[70]⟩] 9)) ((s7.below (box_below _ _)).more (by simp)) (sl_lit (L := [⟨#[69]⟩, ⟨#[70]⟩]) (heap_alloc_new W7 (.cells #[.string ⟨#[69]⟩, .string ⟨#[70]⟩] 9))))
  clear b7 K7 r7 s7
  clear c60 c61 c62
  have H7x := Lib.hid (H7.out.on (box_below W7 (.cells #[.string ⟨#[69]⟩, .string ⟨#[70]⟩] 9)))
  go_wp2_with fail
  refine T7.out.mono ?_
  rintro e W8 ⟨rfl, b8⟩
  have H8 := Lib.hid (H7x.out.on b8)
  clear b8 T7 H7 H7x
  have c80 := H8.out.bx.at_ 0 _ rfl
  have c81 := H8.out.bx.at_ 1 _ rfl
  have c82 := H8.out.bx.at_ 2 _ rfl
  have K9 := Lib.hid (lalias_yes (s13 w.heap.size) ⟨#[67]⟩ _ H8.out.lk (by decide) (by rw [s13_Z, show (s13 w.heap.size).ls = ks13 from rfl, zn_C]))
  go_wp2_with fail
  refine K9.out.mono ?_
  rw [s13_Z, show (s13 w.heap.size).ls = ks13 from rfl, als_C]
  rintro e W9 ⟨r9, b9⟩
  obtain ⟨A9, q9, rfl, s9⟩ := rowE_sl r9
  have H9 := Lib.hid (H8.out.on b9)
  have T9 := Lib.hid (texts_eq A9 (some ⟨W9.heap.size, 0, none⟩) 3 q9 3 [⟨#[66]⟩, ⟨#[68]⟩, ⟨#[67]⟩] (by decide) (W9.alloc (.cells #[.string ⟨#[66]⟩, .string ⟨#[68]⟩, .string ⟨#[67]⟩] 9)) ((s9.below (box_below _ _)).more (by simp)) (sl_lit (L := [⟨#[66]⟩, ⟨#[68]⟩, ⟨#[67]⟩]) (heap_alloc_new W9 (.cells #[.string ⟨#[66]⟩, .string ⟨#[68]⟩, .string ⟨#[67]⟩] 9))))
  clear b9 K9 r9 s9
  clear c80 c81 c82
  have H9x := Lib.hid (H9.out.on (box_below W9 (.cells #[.string ⟨#[66]⟩, .string ⟨#[68]⟩, .string ⟨#[67]⟩] 9)))
  go_wp2_with fail
  refine T9.out.mono ?_
  rintro e W10 ⟨rfl, b10⟩
  have H10 := Lib.hid (H9x.out.on b10)
  clear b10 T9 H9 H9x
  have c100 := H10.out.bx.at_ 0 _ rfl
  have c101 := H10.out.bx.at_ 1 _ rfl
  have c102 := H10.out.bx.at_ 2 _ rfl
  have K11 := Lib.hid (lalias_no (s13 w.heap.size) ⟨#[69]⟩ _ H10.out.lk (by decide) (by rw [s13_Z, show (s13 w.heap.size).ls = ks13 from rfl, zn_E]; decide))
  go_wp2_with fail
  refine K11.out.mono ?_
  rintro e W11 ⟨rfl, b11⟩
  have H11 := Lib.hid (H10.out.on b11)
  go_wp2_with fail
  go_ret
  exact ⟨rfl, H11.out.bel⟩
end Go.Proofs.Ytghllibpcehmdaa
