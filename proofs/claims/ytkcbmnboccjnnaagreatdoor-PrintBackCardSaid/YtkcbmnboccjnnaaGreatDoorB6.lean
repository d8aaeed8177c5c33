/- The first question of stage 6's theorems: begins6. -/
import Derived.Test.YtkcbmnboccjnnaaGreatDoorPx
import Derived.Test.YtkcbmnboccjnnaaGreatDoorPs
namespace Go.Proofs.YtkcbmnboccjnnaaGreatDoor
open Go.RowKit
set_option maxRecDepth 100000
def b6src : Src := ⟨[], [], [⟨⟨#[65]⟩, ⟨#[66]⟩⟩]⟩
theorem prs_b6 : So.prs [76, 105, 110, 107, 32, 65, 32, 66] = .inl b6src := by kernel_rfl
theorem text_b6 : Pt.text b6src = [76, 105, 110, 107, 32, 65, 32, 66, 10] := by kernel_rfl
theorem right_b6 : So.right b6src = true := by kernel_rfl
set_option maxHeartbeats 2000000 in
theorem begins6_true (w : World) (hE : Ev w) :
    Calls Tryz.prog 24 #[] w fun e w' => e = .returned (.bool true) ∧ Below w.heap.size w w' := by
  have hP := sparse_any ⟨#[76, 105, 110, 107, 32, 65, 32, 66]⟩ w (by decide) hE
  have hpr : So.prs (⟨#[76, 105, 110, 107, 32, 65, 32, 66]⟩ : ByteArray).data.toList = .inl b6src := prs_b6
  rw [hpr] at hP
  have HP := Lib.hid hP
  have HE := Lib.hid hE
  clear hP hpr hE
  go_enter Tryz.func24, Tryz.ntmps24
  go_wp2_with fail
  refine HP.out.mono ?_
  rintro e w1 ⟨⟨d, hd, hf, ha, rfl⟩, b1⟩
  have hr : So.right d.src = true := by rw [hd]; exact right_b6
  have hn : So.nn d.src := by rw [hd]; exact ⟨(fun r hr => by cases hr), (fun z hz => by cases hz)⟩
  have HT : ∀ W, Below w1.heap.size w1 W → Calls Tryz.prog 15 #[d.val] W fun e w' => e = tup [76, 105, 110, 107, 32, 65, 32, 66, 10] 0 ∧ Below W.heap.size W w' := fun W hb => by
    have := ptext_yes d W ((HE.out.below b1).below hb) hf (ha.on hb) hr hn (by rw [hd, text_b6]; decide)
    rw [hd, text_b6] at this
    exact this
  have HT := Lib.hid HT
  have q1 := box_below w1 (.cells #[.slice d.rA d.rs.length d.rc, .slice d.zA d.zs.length d.zc, .slice d.lA d.ls.length d.lc] 27)
  have q2 := q1.trans ((box_below (w1.alloc (.cells #[.slice d.rA d.rs.length d.rc, .slice d.zA d.zs.length d.zc, .slice d.lA d.ls.length d.lc] 27)) (.cells #[.int .i64 0, .int .i64 0, .int .i64 0] 30)).mono q1.size)
  have hF := Bx.mk' (w1.alloc (.cells #[.slice d.rA d.rs.length d.rc, .slice d.zA d.zs.length d.zc, .slice d.lA d.ls.length d.lc] 27)) (w1.heap.size + 1) #[.int .i64 0, .int .i64 0, .int .i64 0] 30 (by simp)
  have HC := Lib.hid (HT.out _ q2)
  have HF := Lib.hid hF
  have a2 := Lib.hid (b1.trans (q2.mono b1.size))
  clear HP hr hn ha hf hd HT q1 q2 hF
  go_wp2_with fail
  refine HC.out.mono ?_
  rintro e w2 ⟨rfl, b2⟩
  have hF2 := HF.out.on b2
  have f0 := hF2.at_ 0 _ rfl
  have f1 := hF2.at_ 1 _ rfl
  have f2 := hF2.at_ 2 _ rfl
  have a3 := a2.out.trans (b2.mono a2.out.size)
  clear HC HF a2 hF2 b2
  unfold tup
  go_wp2_with fail
  go_ret
  exact ⟨rfl, a3⟩
end Go.Proofs.YtkcbmnboccjnnaaGreatDoor
