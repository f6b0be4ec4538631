/- What this text holds: closed facts on this program's types of bytes. -/
import Derived.Test.YtkpmenlhaeoedaaRows
import Derived.Test.YtkpmenlhaeoedaaLaws
import Derived.WalkLawsBesides
namespace Go.Proofs.Ytkpmenlhaeoedaa
open Go.RowKit

end Go.Proofs.Ytkpmenlhaeoedaa
