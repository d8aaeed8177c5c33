/- The contract of clock.Add. -/
import Derived.Test.YtgcgmmdfmcapiaaGreatDoorClock
namespace Go.Proofs.YtgcgmmdfmcapiaaGreatDoor
open Go.RowKit
/-- Both near, and their sum. -/
def Near (a b : Int) : Prop := -1099511627776 ≤ a ∧ a ≤ 1099511627776 ∧ -1099511627776 ≤ b ∧ b ≤ 1099511627776 ∧ -1099511627776 ≤ a + b ∧ a + b ≤ 1099511627776
end Go.Proofs.YtgcgmmdfmcapiaaGreatDoor
