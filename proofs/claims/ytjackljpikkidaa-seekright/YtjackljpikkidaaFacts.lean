/- What this text holds: closed facts on this program's types of bytes. -/
import Derived.Test.YtjackljpikkidaaRows
import Derived.Test.YtjackljpikkidaaLaws
import Derived.WalkLawsBesides
namespace Go.Proofs.Ytjackljpikkidaa
open Go.RowKit

end Go.Proofs.Ytjackljpikkidaa
