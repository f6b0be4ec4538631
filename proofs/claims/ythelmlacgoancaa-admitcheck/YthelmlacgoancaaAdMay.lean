/- What this text proves: the walks of admit's holds and mayBe, and of the document's within and may, over this program: which parameters may be, but for their arena. -/
import Derived.Test.YthelmlacgoancaaFacts
namespace Go.Proofs.Ythelmlacgoancaa
open Go.RowKit

/-- Whether parameters may be, but for their arena. -/
abbrev mayP (s h mi mk ch ca pg : Int) : Prop := (1 ≤ s ∧ s ≤ 32) ∧ (0 ≤ h ∧ h ≤ 8) ∧ (0 ≤ mi ∧ mi ≤ 24) ∧ (0 ≤ mk ∧ mk ≤ 48) ∧ (0 ≤ ch ∧ ch ≤ 4096) ∧ (0 ≤ ca ∧ ca ≤ 8) ∧ (1 ≤ pg ∧ pg ≤ 32)

set_option maxRecDepth 100000 in
set_option maxHeartbeats 400000 in
theorem holds_any (n lo hi : Int) (w : World) : Calls Try.prog 27 #[.agg #[.int .i64 n, .int .i64 lo, .int .i64 hi]] w fun x w' => x = .returned (.bool (decide (lo ≤ n ∧ n ≤ hi))) ∧ Below w.heap.size w w' := by
  have b0 := (Below.refl w.heap.size w).alloc (Nat.le_refl _) (.cells #[.int .i64 n, .int .i64 lo, .int .i64 hi] 37)
  by_cases h1 : lo ≤ n
  · by_cases h2 : n ≤ hi
    · go_enter Try.func27, Try.ntmps27
      go_wp2
      go_ret
      exact ⟨by simp; omega, b0⟩
    · go_enter Try.func27, Try.ntmps27
      go_wp2
      go_ret
      exact ⟨by simp; omega, b0⟩
  · go_enter Try.func27, Try.ntmps27
    go_wp2
    go_ret
    exact ⟨by simp; omega, b0⟩

set_option maxRecDepth 100000 in
set_option maxHeartbeats 400000 in
theorem rwithin_any (n lo hi : Int) (w : World) : Calls Try.prog 29 #[.int .i64 n, .int .i64 lo, .int .i64 hi] w fun x w' => x = .returned (.bool (decide (lo ≤ n ∧ n ≤ hi))) ∧ w' = w := by
  by_cases h1 : lo ≤ n
  · by_cases h2 : n ≤ hi
    · go_enter Try.func29, Try.ntmps29
      go_wp2
      go_ret
      exact ⟨by simp; omega, rfl⟩
    · go_enter Try.func29, Try.ntmps29
      go_wp2
      go_ret
      exact ⟨by simp; omega, rfl⟩
  · go_enter Try.func29, Try.ntmps29
    go_wp2
    go_ret
    exact ⟨by simp; omega, rfl⟩

end Go.Proofs.Ythelmlacgoancaa
