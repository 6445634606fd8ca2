/-
  The law reads the number of an error as it is.
-/
import Derived.Test.YtnjndbckejghcaaGreatDoorBase
namespace Go.Proofs.YtnjndbckejghcaaGreatDoor
open Go.RowKit

set_option maxHeartbeats 400000 in
theorem num_any (n : Int) (w : World) : Calls Tryz.prog 32 #[.int .i64 n] w fun e w' => e = .returned (.int .i64 n) ∧ w' = w := by
  go_enter Tryz.func32, Tryz.ntmps32
  go_wp2
  go_ret
  exact ⟨rfl, rfl⟩

end Go.Proofs.YtnjndbckejghcaaGreatDoor
