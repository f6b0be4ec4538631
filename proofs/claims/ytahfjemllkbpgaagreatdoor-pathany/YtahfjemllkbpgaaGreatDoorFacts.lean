/- What this text holds: closed facts on this program's types of bytes. -/
import Derived.Test.YtahfjemllkbpgaaGreatDoorRows
import Derived.Test.YtahfjemllkbpgaaGreatDoorLaws
import Derived.WalkLawsBesides
namespace Go.Proofs.YtahfjemllkbpgaaGreatDoor
open Go.RowKit

theorem i_u8 : (Tryz.prog.info? 5).map (fun i => (i.zero, i.size, i.bytes)) = some (some (.int .u8 0), 1, 1) := by kernel_rfl
theorem i_bytes : (Tryz.prog.info? 22).map (fun i => (i.zero, i.size, i.bytes)) = some (some (.slice none 0 0), 1, 24) := by kernel_rfl
theorem s_u8 : (Tryz.prog.info? 5).map (·.size) = some 1 := by kernel_rfl
theorem s_bytes : (Tryz.prog.info? 22).map (·.size) = some 1 := by kernel_rfl

end Go.Proofs.YtahfjemllkbpgaaGreatDoor
