/- What this text holds: closed facts on this program's types of bytes. -/
import Derived.Test.YtldmbfemoepfkaaRows
import Derived.Test.YtldmbfemoepfkaaLaws
import Derived.WalkLawsBesides
namespace Go.Proofs.Ytldmbfemoepfkaa
open Go.RowKit

theorem i_u8 : (Try.prog.info? 5).map (fun i => (i.zero, i.size, i.bytes)) = some (some (.int .u8 0), 1, 1) := by kernel_rfl
theorem i_bytes : (Try.prog.info? 22).map (fun i => (i.zero, i.size, i.bytes)) = some (some (.slice none 0 0), 1, 24) := by kernel_rfl
theorem s_u8 : (Try.prog.info? 5).map (·.size) = some 1 := by kernel_rfl
theorem s_bytes : (Try.prog.info? 22).map (·.size) = some 1 := by kernel_rfl

end Go.Proofs.Ytldmbfemoepfkaa
