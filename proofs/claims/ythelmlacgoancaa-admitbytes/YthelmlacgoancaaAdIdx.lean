/- What this text proves: an index into an array of eight, by value. (By program: mkadrw.py.) -/
import Derived.Test.YthelmlacgoancaaAdMayB
namespace Go.Proofs.Ythelmlacgoancaa
open Go.RowKit

theorem idx8 (C : Array Value) (k : Nat) (hk : k < 8) (v : Value) (hv : C[k]? = some v) (w : World) : (Instr.index 51 (.agg C) (.int .i64 (k : Int))).run Try.prog w = .ok v w := by
  simp [Instr.index, run_underlying Try.underlying51, asIntOf, go_sem]
  rw [if_pos hk, hv]
  rfl

theorem idxp8 (C : Array Value) (k : Nat) (hk : k < 8) (v : Value) (hv : C[k]? = some v) (w : World) : (Instr.index 43 (.agg C) (.int .i64 (k : Int))).run Try.prog w = .ok v w := by
  simp [Instr.index, run_underlying Try.underlying43, asIntOf, go_sem]
  rw [if_pos hk, hv]
  rfl

end Go.Proofs.Ythelmlacgoancaa
