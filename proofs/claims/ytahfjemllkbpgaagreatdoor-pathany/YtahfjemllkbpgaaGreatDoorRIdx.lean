/- What this text proves: an index into an array of eight words. -/
import Derived.Test.YtahfjemllkbpgaaGreatDoorRRound
namespace Go.Proofs.YtahfjemllkbpgaaGreatDoor
open Go.RowKit

theorem run_index8 (S : St) (k : Nat) (hk : k < 8) (w : World) : (Instr.index 90 (.agg (wcs (stL S)).toArray) (.int .i64 (k : Int))).run Tryz.prog w = .ok (.int .u32 (((stL S).getD k 0).toNat : Int)) w := by
  have hu : Tryz.prog.underlying 90 = some (.array 8 89) := Tryz.underlying90
  have hs : (Tryz.prog.info? 89).map (·.size) = some 1 := by kernel_rfl
  obtain ⟨i, hi, hs⟩ := Option.map_eq_some_iff.1 hs
  match k, hk with
  | 0, _ => simp [Instr.index, run_underlying hu, asIntOf, Go.sizeOf, typeInfo, hi, Result.andThen, go_sem, wcs, stL, wc]
  | 1, _ => simp [Instr.index, run_underlying hu, asIntOf, Go.sizeOf, typeInfo, hi, hs, Result.andThen, go_sem, wcs, stL, wc]
  | 2, _ => simp [Instr.index, run_underlying hu, asIntOf, Go.sizeOf, typeInfo, hi, hs, Result.andThen, go_sem, wcs, stL, wc]
  | 3, _ => simp [Instr.index, run_underlying hu, asIntOf, Go.sizeOf, typeInfo, hi, hs, Result.andThen, go_sem, wcs, stL, wc]
  | 4, _ => simp [Instr.index, run_underlying hu, asIntOf, Go.sizeOf, typeInfo, hi, hs, Result.andThen, go_sem, wcs, stL, wc]
  | 5, _ => simp [Instr.index, run_underlying hu, asIntOf, Go.sizeOf, typeInfo, hi, hs, Result.andThen, go_sem, wcs, stL, wc]
  | 6, _ => simp [Instr.index, run_underlying hu, asIntOf, Go.sizeOf, typeInfo, hi, hs, Result.andThen, go_sem, wcs, stL, wc]
  | 7, _ => simp [Instr.index, run_underlying hu, asIntOf, Go.sizeOf, typeInfo, hi, hs, Result.andThen, go_sem, wcs, stL, wc]

end Go.Proofs.YtahfjemllkbpgaaGreatDoor
