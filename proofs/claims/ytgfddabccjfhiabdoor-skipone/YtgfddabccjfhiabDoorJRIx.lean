/- What this text proves: an index into an array of eight words. What this text holds: a plain fact on a number in eight bytes. -/
import Derived.Test.YtgfddabccjfhiabDoorJRRound
import Derived.Test.YtgfddabccjfhiabDoorJSha
namespace Go.Proofs.YtgfddabccjfhiabDoor
open Go.RowKit

theorem run_index8 (S : St) (k : Nat) (hk : k < 8) (w : World) : (Instr.index 66 (.agg (wcs (stL S)).toArray) (.int .i64 (k : Int))).run Tryd.prog w = .ok (.int .u32 (((stL S).getD k 0).toNat : Int)) w := by
  have hu : Tryd.prog.underlying 66 = some (.array 8 53) := Tryd.underlying66
  have hs : (Tryd.prog.info? 53).map (·.size) = some 1 := by kernel_rfl
  obtain ⟨i, hi, hs⟩ := Option.map_eq_some_iff.1 hs
  match k, hk with
  | 0, _ => simp [Instr.index, run_underlying hu, asIntOf, Go.sizeOf, typeInfo, hi, Result.andThen, go_sem, wcs, stL, wc]
  | 1, _ => simp [Instr.index, run_underlying hu, asIntOf, Go.sizeOf, typeInfo, hi, hs, Result.andThen, go_sem, wcs, stL, wc]
  | 2, _ => simp [Instr.index, run_underlying hu, asIntOf, Go.sizeOf, typeInfo, hi, hs, Result.andThen, go_sem, wcs, stL, wc]
  | 3, _ => simp [Instr.index, run_underlying hu, asIntOf, Go.sizeOf, typeInfo, hi, hs, Result.andThen, go_sem, wcs, stL, wc]
  | 4, _ => simp [Instr.index, run_underlying hu, asIntOf, Go.sizeOf, typeInfo, hi, hs, Result.andThen, go_sem, wcs, stL, wc]
  | 5, _ => simp [Instr.index, run_underlying hu, asIntOf, Go.sizeOf, typeInfo, hi, hs, Result.andThen, go_sem, wcs, stL, wc]
  | 6, _ => simp [Instr.index, run_underlying hu, asIntOf, Go.sizeOf, typeInfo, hi, hs, Result.andThen, go_sem, wcs, stL, wc]
  | 7, _ => simp [Instr.index, run_underlying hu, asIntOf, Go.sizeOf, typeInfo, hi, hs, Result.andThen, go_sem, wcs, stL, wc]

end Go.Proofs.YtgfddabccjfhiabDoor

namespace Go.Proofs.YtgfddabccjfhiabDoor
theorem be64_get (n k : Nat) (hk : k < 8) : (be64 n)[k]? = some (UInt8.ofNat (n / 2 ^ (8 * (7 - k)))) := by simp [be64, hk]
end Go.Proofs.YtgfddabccjfhiabDoor
