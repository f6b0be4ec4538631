/- What this text proves: the walks of annalslaw15's small and awake over this program. (By program: mkadlaw.py.) -/
import Derived.Test.YthelmlacgoancaaAdNum
namespace Go.Proofs.Ythelmlacgoancaa
open Go.RowKit

set_option maxRecDepth 100000 in
set_option maxHeartbeats 400000 in
theorem adSmall_any (w : World) : Calls Try.prog 30 #[] w fun x w' => x = .returned (.agg #[.int .i64 4, .int .i64 2, .int .i64 2, .int .i64 4, .int .i64 10, .int .i64 781, .int .i64 1, .int .i64 3]) ∧ Below w.heap.size w w' := by
  have b0 := (Below.refl w.heap.size w).alloc (Nat.le_refl _) (.cells #[.int .i64 4, .int .i64 2, .int .i64 2, .int .i64 4, .int .i64 10, .int .i64 781, .int .i64 1, .int .i64 3] 23)
  go_enter Try.func30, Try.ntmps30
  go_wp2
  refine bodyPost_ret (v := .agg #[.int .i64 4, .int .i64 2, .int .i64 2, .int .i64 4, .int .i64 10, .int .i64 781, .int .i64 1, .int .i64 3]) ?_ rfl ?_
  · simp only [results, Try.results30]
    go_simp
  · exact ⟨rfl, b0⟩

theorem chk_small : chkV 4 2 2 4 10 781 1 3 = 0 := by decide
theorem need_small : needV 4 2 2 4 10 1 3 = 781 := by decide

set_option maxRecDepth 100000 in
set_option maxHeartbeats 400000 in
theorem adAwake_any (w : World) : Calls Try.prog 19 #[] w fun x w' => x = .returned (.bool true) ∧ Below w.heap.size w w' := by
  have hC := fun W => chk_any 4 2 2 4 10 781 1 3 W
  have hN := fun W => need_any 4 2 2 4 10 781 1 3 W
  rw [chk_small] at hC
  rw [need_small] at hN
  go_enter Try.func19, Try.ntmps19
  go_wp2_with (first
    | (go_at_call 7; refine (hC _).mono ?_; rintro e w2 ⟨rfl, hb2⟩)
    | (go_at_call 13; refine (hN _).mono ?_; rintro e w4 ⟨rfl, hb4⟩)
    | (go_at_call 30; have hq := hb2; refine (adSmall_any _).mono ?_; rintro e w3 ⟨rfl, hb3⟩)
    | (go_at_call 30; refine (adSmall_any _).mono ?_; rintro e w1 ⟨rfl, hb1⟩))
  go_ret
  have c2 := hb1.trans (hb2.mono hb1.size)
  have c3 := c2.trans (hb3.mono c2.size)
  exact ⟨by simp, c3.trans (hb4.mono c3.size)⟩

end Go.Proofs.Ythelmlacgoancaa
