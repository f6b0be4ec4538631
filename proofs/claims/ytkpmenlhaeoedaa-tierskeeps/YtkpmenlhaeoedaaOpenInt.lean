/- What this text holds: facts on this program that the proofs of claims with numbers alone want. -/
import Derived.Test.YtkpmenlhaeoedaaRows
import Derived.SizedLaws
import Derived.ProofKit
import Derived.OpenShut
import Derived.ChangeOld
import Derived.JoinedCond
namespace Go.Proofs.Ytkpmenlhaeoedaa
open Go.ChangeShapes Go.WideShapes Go.ChangeAt Go.RowKit

theorem own : ownKnob Try.prog.godebug = none := by kernel_rfl
theorem laidOut : laidOutB Try.prog = true := by kernel_rfl
theorem lit_lo {z : Int} (h : (Lit.int .i64 z).wf = true) : -9223372036854775808 ≤ z := (bounds_i64 h).1
theorem lit_hi {z : Int} (h : (Lit.int .i64 z).wf = true) : z < 9223372036854775808 := by have := (bounds_i64 h).2; omega

end Go.Proofs.Ytkpmenlhaeoedaa
