/- What this text proves: the walks of sha.Blocks and of the document's Blocks over this program. -/
import Derived.Test.YtcgpgnajmfemhaaGreatDoorRows
import Derived.Test.YtcgpgnajmfemhaaGreatDoorJSha
import Derived.WalkLawsBesides
namespace Go.Proofs.YtcgpgnajmfemhaaGreatDoor
open Go.RowKit

set_option maxRecDepth 100000 in
set_option maxHeartbeats 400000 in
theorem blocks_any (n : Nat) (w : World) (hn : n ≤ 4611686018427387904) : Calls Tryz.prog 197 #[.int .i64 (n : Int)] w fun e w' => e = .returned (.int .i64 (blocks n : Nat)) ∧ w' = w := by
  have hm : max (n : Int) 0 = (n : Int) := by omega
  have HB : Hid (blocks n = (n + 72) / 64) := rfl
  by_cases h : n % 64 ≤ 55
  · have h2 : (n : Int) % 64 ≤ 55 := by omega
    go_enter Tryz.func197, Tryz.ntmps197
    go_wp2
    go_ret
    exact ⟨ret_int (by rw [HB.out]; omega), rfl⟩
  · have h2 : ¬ (n : Int) % 64 ≤ 55 := by omega
    go_enter Tryz.func197, Tryz.ntmps197
    go_wp2
    go_ret
    exact ⟨ret_int (by rw [HB.out]; omega), rfl⟩

set_option maxRecDepth 100000 in
set_option maxHeartbeats 400000 in
theorem blocks_neg (n : Int) (w : World) (hn : n < 0) : Calls Tryz.prog 197 #[.int .i64 n] w fun e w' => e = .returned (.int .i64 1) ∧ w' = w := by
  have hm : max n 0 = 0 := by omega
  go_enter Tryz.func197, Tryz.ntmps197
  go_wp2
  go_ret
  exact ⟨rfl, rfl⟩

end Go.Proofs.YtcgpgnajmfemhaaGreatDoor
