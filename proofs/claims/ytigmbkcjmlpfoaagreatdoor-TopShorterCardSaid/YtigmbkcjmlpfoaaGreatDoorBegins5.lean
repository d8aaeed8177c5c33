/- The first questions of stage 5's statements (by program). -/
import Derived.Test.YtigmbkcjmlpfoaaGreatDoorOkt
namespace Go.Proofs.YtigmbkcjmlpfoaaGreatDoor
open Go.RowKit
theorem x3_texts : El.texts ⟨3600, 0, 0, ⟨#[]⟩, ⟨#[120]⟩, false, ⟨0, 0, 0, 0, 0, 0, 0⟩⟩ = ([⟨#[49, 58, 48, 48]⟩, ⟨#[45]⟩, ⟨#[120]⟩] : List ByteArray) := by decide +kernel
theorem x3_num : El.num ⟨3600, 0, 0, ⟨#[]⟩, ⟨#[120]⟩, false, ⟨0, 0, 0, 0, 0, 0, 0⟩⟩ = 3 := by decide +kernel
set_option maxRecDepth 100000 in
set_option maxHeartbeats 2000000 in
theorem begins5 (w : World) (HE : Hid (Ev w)) : Calls Tryz.prog 17 #[] w fun e w' => e = .returned (.bool true) ∧ Below w.heap.size w w' := by
  have HC0 : Hid (Cy w w) := Lib.hid ⟨HE.out, Below.refl _ _⟩
  go_enter Tryz.func17, Tryz.ntmps17
  go_wp2_with fail
  refine (etext_bx ⟨3600, 0, 0, ⟨#[]⟩, ⟨#[120]⟩, false, ⟨0, 0, 0, 0, 0, 0, 0⟩⟩ ([⟨#[49, 58, 48, 48]⟩, ⟨#[45]⟩, ⟨#[120]⟩] : List ByteArray) 3 _ HC0.out.env (by decide +kernel) (by decide) (by decide) x3_texts x3_num).mono ?_
  rintro e u1 ⟨⟨g_t, c_t, rfl, q_t, p_t, h_t⟩, bb⟩
  have HCj := Lib.hid (HC0.out.on bb)
  clear HC0 
  have HB_t := Lib.hid h_t
  clear h_t bb
  have HCt := HCj
  clear HCj
  go_wp2_with fail
  refine (texts_bx g_t u1.heap.size 3 c_t 3 ([⟨#[49, 58, 48, 48]⟩, ⟨#[45]⟩, ⟨#[120]⟩] : List ByteArray) _ (by decide) rfl (HB_t.out.al _) (Bx.mk' _ u1.heap.size (#[.string ⟨#[49, 58, 48, 48]⟩, .string ⟨#[45]⟩, .string ⟨#[120]⟩] : Array Value) 9 (by simp))).mono ?_
  rintro e v2 ⟨rfl, b2⟩
  have HC2 := Lib.hid ((HCt.out.al _).on b2)
  clear b2 HCt HB_t
  go_wp2_with fail
  refine (rname_is ⟨#[97]⟩ true _ (by decide) (by decide +kernel)).mono ?_
  rintro e w' ⟨rfl, rfl⟩
  go_wp2_with fail
  go_ret
  exact ⟨rfl, HC2.out.bel⟩
end Go.Proofs.YtigmbkcjmlpfoaaGreatDoor
