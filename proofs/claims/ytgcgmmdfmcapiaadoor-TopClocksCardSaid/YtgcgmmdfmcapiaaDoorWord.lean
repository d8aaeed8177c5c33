/- Contracts of package word: small, begins, Same, Pick. -/
import Derived.Test.YtgcgmmdfmcapiaaDoorCivil2
import Derived.Test.YtgcgmmdfmcapiaaDoorWd
import Derived.Test.YtgcgmmdfmcapiaaDoorSl
import Derived.OpenShut
import Derived.LoopTactic
import Derived.Below
import Derived.Calls
namespace Go.Proofs.YtgcgmmdfmcapiaaDoor
open Go.RowKit
theorem idx_any (S : ByteArray) (kd : IntKind) (k : Nat) (hk : k < S.size) (W : World) : (Instr.index 9 (.string S) (.int kd (k : Int))).run Tryd.prog W = .ok (.int .u8 (S[k].toNat : Int)) W := by
  rw [run_index_string (P := Tryd.prog) W 9 S kd k Tryd.underlying9, dif_pos ⟨by omega, by omega⟩]
  rfl
theorem idx_str (S : ByteArray) (k : Nat) (hk : k < S.size) (W : World) : (Instr.index 9 (.string S) (.int .i64 (k : Int))).run Tryd.prog W = .ok (.int .u8 (S[k].toNat : Int)) W := idx_any S .i64 k hk W
theorem ret_bool {a b : Bool} (h : a = b) : Ending.returned (.bool a) = .returned (.bool b) := by rw [h]
theorem not_empty {S : ByteArray} (h : S.size ≠ 0) : S.toList.isEmpty = false := by
  have hlen : S.data.toList.length = S.size := by simp
  rw [ByteArray.toList_eq]
  cases h' : S.data.toList with
  | nil => rw [h'] at hlen; simp at hlen; omega
  | cons a r => rfl
end Go.Proofs.YtgcgmmdfmcapiaaDoor
