/- What this text holds: closed facts on this program's types of bytes. -/
import Derived.Test.YtnnfbaboiilmiaaRows
import Derived.Test.YtnnfbaboiilmiaaLaws
import Derived.WalkLawsBesides
namespace Go.Proofs.Ytnnfbaboiilmiaa
open Go.RowKit

end Go.Proofs.Ytnnfbaboiilmiaa
