/- What this text proves: the walk of the statement BitsSide over this program: it answers true for any arguments, and writes nothing that was there. -/
import Derived.Test.YthbkkddfklbhlaaRSide
import Derived.Test.YthbkkddfklbhlaaBitsAwake
namespace Go.Proofs.Ythbkkddfklbhlaa
open Go.RowKit

set_option maxHeartbeats 2000000 in
theorem sideWalk (x y : Value) (a b : List UInt8) (n : Int) (w : World) (ha : HB w x a) (hb : HB w y b) (hsz : a.length ≤ 140737488351232) :
    Calls Try.prog 5 #[x, .int .i64 n, y] w fun e w' => e = .returned (.bool true) ∧ Below w.heap.size w w' := by
  obtain ⟨p, c, rfl⟩ := ha.shape
  obtain ⟨q, d, rfl⟩ := hb.shape
  by_cases hn : 1048576 < n
  · go_enter Try.func5, Try.ntmps5
    go_wp2_with fail
    refine (side_any _ _ a b 1048576 _ ha hb (by omega)).mono ?_
    rintro e w1 ⟨rfl, hb1⟩
    go_wp2_with fail
    refine (rside_any _ _ a b 1048576 _ (ha.later hb1) (hb.later hb1) (by omega)).mono ?_
    rintro e w2 ⟨rfl, rfl⟩
    go_wp2_with fail
    refine (bitsAwake_any _).mono ?_
    rintro e w3 ⟨rfl, hb3⟩
    have hb03 := hb1.trans (hb3.mono hb1.size)
    go_wp2
    go_ret
    exact ⟨rfl, hb03⟩
  · go_enter Try.func5, Try.ntmps5
    go_wp2_with fail
    refine (side_any _ _ a b n _ ha hb (by omega)).mono ?_
    rintro e w1 ⟨rfl, hb1⟩
    go_wp2_with fail
    refine (rside_any _ _ a b n _ (ha.later hb1) (hb.later hb1) (by omega)).mono ?_
    rintro e w2 ⟨rfl, rfl⟩
    go_wp2_with fail
    refine (bitsAwake_any _).mono ?_
    rintro e w3 ⟨rfl, hb3⟩
    have hb03 := hb1.trans (hb3.mono hb1.size)
    go_wp2
    go_ret
    exact ⟨rfl, hb03⟩

end Go.Proofs.Ythbkkddfklbhlaa
