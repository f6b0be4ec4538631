/- What this text proves: a law for a walk: an operation under a guard that is met goes as one without (any program). -/
import Derived.Test.YtnmjggljicanmaaDoorFacts
namespace Go.Proofs.YtnmjggljicanmaaDoor
open Go.RowKit

theorem wpList_unguard {P : Program} {ops : Array Oper} {Q : Exit → Act → World → Prop} {rest : List Oper} {o : Oper} {a : Act} {w : World} (hw : Region.wanted o (yielded ops a.tmps) = true) (h : wpList P ops Q ({ o with guard := none } :: rest) a w) : wpList P ops Q (o :: rest) a w := by
  unfold wpList at h ⊢
  rw [if_pos hw]
  rw [if_pos (by simp [Region.wanted])] at h
  exact h

end Go.Proofs.YtnmjggljicanmaaDoor
