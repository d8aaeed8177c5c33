/- The walk of layer 7's statement MomentWhen. -/
import Derived.Test.YtgcgmmdfmcapiaaGreatDoorLives07
import Derived.OpenShut
namespace Go.Proofs.YtgcgmmdfmcapiaaGreatDoor
open Go.RowKit
theorem rnominal_lit (k n d y m s c v z : Int) (w : World) (h : Mo.nomV k n d y m s c = (v, z)) :
    Calls Tryz.prog 6 #[.int .i64 y, .int .i64 m, .agg #[.int .u8 k, .int .i64 n, .int .i64 d], .agg #[.int .i64 s, .int .u8 c]] w fun e w' => e = .returned (.tuple #[.int .i64 v, .int .i64 z]) ∧ Below w.heap.size w w' := by
  have hp := rnominal_all k n d y m s c w
  rw [h] at hp
  exact hp
theorem rinstant_lit (n c s v x z : Int) (w : World) (h0 : 0 ≤ c) (h : Mo.instV n c s v = (x, z)) : Calls Tryz.prog 8 #[.int .i64 n, .int .u8 c, .int .i64 s, .int .i64 v] w fun e w' => e = .returned (.tuple #[.int .i64 x, .int .i64 z]) ∧ w = w' := by
  have hp := rinstant_all n c s v w h0
  rw [h] at hp
  exact hp
set_option maxRecDepth 100000 in
set_option maxHeartbeats 2000000 in
theorem when_in (y m k n d s c t std save V Z X Q : Int) (c0 : 0 ≤ c) (w : World) (HE : Hid (Env w)) (HN : Hid (Mo.nomV k n d y m s c = (V, Z))) (HI : Hid (Mo.instV t c std save = (X, Q))) :
    Calls Tryz.prog 3 #[.int .i64 y, .int .i64 m, .agg #[.int .u8 k, .int .i64 n, .int .i64 d], .agg #[.int .i64 s, .int .u8 c], .int .i64 t, .int .i64 std, .int .i64 save] w fun e w' => e = .returned (.bool true) ∧ Below w.heap.size w w' := by
  go_enter Tryz.func3, Tryz.ntmps3
  go_wp2_with fail
  refine (nominal_lit k n d y m s c V Z _ HN.out).mono ?_
  rintro e w1 ⟨rfl, b1⟩
  obtain ⟨hc1, _⟩ := bcell b1
  have z1 : w.heap.size + 1 < w1.heap.size := by have := b1.size; simp at this; omega
  have z1' : w.heap.size < w1.heap.size := by omega
  have a1 : Below w.heap.size w w1 := (((Below.refl _ _).alloc (Nat.le_refl _) _).alloc (by simp) _).trans (b1.mono (by simp; omega))
  clear b1
  go_wp2_with fail
  refine (rnominal_lit k n d y m s c V Z _ HN.out).mono ?_
  rintro e w2 ⟨rfl, b2⟩
  obtain ⟨hc2, _⟩ := bcell b2
  have z2 : w.heap.size + 1 < w2.heap.size := by have := b2.size; omega
  have z2' : w.heap.size < w2.heap.size := by omega
  have a2 := a1.trans (b2.mono a1.size)
  clear b2
  go_wp2_with fail
  refine (instant_lit t c std save X Q _ c0 HI.out).mono ?_
  rintro e w' ⟨rfl, rfl⟩
  go_wp2_with fail
  refine (rinstant_lit t c std save X Q _ c0 HI.out).mono ?_
  rintro e w' ⟨rfl, rfl⟩
  go_wp2_with fail
  refine (lives07 _ (Lib.hid (HE.out.below a2))).mono ?_
  rintro e w3 ⟨rfl, b3⟩
  have a3 := a2.trans (b3.mono a2.size)
  go_wp2_with fail
  go_ret
  exact ⟨rfl, a3⟩
theorem walkMomentWhen (y : Int) (_ : (Lit.int .i64 y).wf = true) (m : Int) (_ : (Lit.int .i64 m).wf = true) (k : Int) (_ : (Lit.int .u8 k).wf = true) (n : Int) (_ : (Lit.int .i64 n).wf = true) (d : Int) (_ : (Lit.int .i64 d).wf = true) (s : Int) (_ : (Lit.int .i64 s).wf = true) (c : Int) (hc : (Lit.int .u8 c).wf = true)
    (t : Int) (_ : (Lit.int .i64 t).wf = true) (std : Int) (_ : (Lit.int .i64 std).wf = true) (save : Int) (_ : (Lit.int .i64 save).wf = true) (w : World) (hE : Env w) :
    Calls Tryz.prog 3 #[.int .i64 y, .int .i64 m, .agg #[.int .u8 k, .int .i64 n, .int .i64 d], .agg #[.int .i64 s, .int .u8 c], .int .i64 t, .int .i64 std, .int .i64 save] w fun e w' => e = .returned (.bool true) ∧ Below w.heap.size w w' :=
  when_in y m k n d s c t std save _ _ _ _ (by have := bounds_u8 hc; omega) w (Lib.hid hE) (Lib.hid rfl) (Lib.hid rfl)
end Go.Proofs.YtgcgmmdfmcapiaaGreatDoor
