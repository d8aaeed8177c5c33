/- The first questions of stage 4's theorems. -/
import Derived.Test.YtgcgmmdfmcapiaaDoorOf
import Derived.Test.YtgcgmmdfmcapiaaDoorMo
namespace Go.Proofs.YtgcgmmdfmcapiaaDoor
open Go.RowKit
theorem offset_is (t : Int) (S : ByteArray) (w : World) (hE : Units w) (h1 : -360000 < t) (h2 : t < 360000) (hS : (⟨(offT t).toArray⟩ : ByteArray) = S) :
    Calls Tryd.prog 7 #[.int .i64 t] w fun e w' => e = .returned (.tuple #[.string S, .int .i64 0]) ∧ Below w.heap.size w w' := by
  subst hS
  exact offset_yes t w hE h1 h2
theorem begins4_any (w : World) (hE : Units w) : Calls Tryd.prog 12 #[] w fun e w' => e = .returned (.bool true) ∧ Below w.heap.size w w' := by
  have HE := Lib.hid hE
  clear hE
  go_enter Tryd.func12, Tryd.ntmps12
  go_wp2_with fail
  refine (instant_yes 100 0 10 1 _ (by omega) (by omega) (by omega) (by omega) (by omega) (by omega) (by omega) (by omega)).mono ?_
  rintro e w' ⟨rfl, rfl⟩
  go_wp2_with fail
  refine (offset_is 3600 ⟨#[43, 48, 49]⟩ _ HE.out (by omega) (by omega) (by decide +kernel)).mono ?_
  rintro e w2 ⟨rfl, b2⟩
  have hi : Mo.inst 100 0 10 1 = 89 := rfl
  go_wp2_with fail
  go_ret
  exact ⟨rfl, b2⟩
end Go.Proofs.YtgcgmmdfmcapiaaDoor
