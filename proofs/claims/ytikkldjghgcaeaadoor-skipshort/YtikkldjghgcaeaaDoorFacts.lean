/- What this text holds: closed facts on this program's types of bytes. -/
import Derived.Test.YtikkldjghgcaeaaDoorRows
import Derived.Test.YtikkldjghgcaeaaDoorLaws
import Derived.WalkLawsBesides
namespace Go.Proofs.YtikkldjghgcaeaaDoor
open Go.RowKit

end Go.Proofs.YtikkldjghgcaeaaDoor
