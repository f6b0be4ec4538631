/- What this text proves: the walk of the document's may over this program. -/
import Derived.Test.YthelmlacgoancaaAdMay
namespace Go.Proofs.Ythelmlacgoancaa
open Go.RowKit

theorem rwithin_two (n lo hi : Int) (w : World) : Calls Try.prog 29 #[.int .i64 n, .int .i64 lo, .int .i64 hi] w fun x w' => ∃ b : Bool, x = .returned (.bool b) ∧ ((b = true ∧ Hid (lo ≤ n ∧ n ≤ hi)) ∨ (b = false ∧ Hid (¬ (lo ≤ n ∧ n ≤ hi)))) ∧ w' = w := by
  refine (rwithin_any n lo hi w).mono ?_
  rintro e w' ⟨rfl, rfl⟩
  by_cases h : lo ≤ n ∧ n ≤ hi
  · exact ⟨true, by rw [decide_eq_true h], .inl ⟨rfl, h⟩, rfl⟩
  · exact ⟨false, by rw [decide_eq_false h], .inr ⟨rfl, h⟩, rfl⟩

set_option maxRecDepth 100000 in
set_option maxHeartbeats 4000000 in
theorem rmay_any (s h mi mk ch ar ca pg : Int) (w : World) : Calls Try.prog 28 #[.agg #[.int .i64 s, .int .i64 h, .int .i64 mi, .int .i64 mk, .int .i64 ch, .int .i64 ar, .int .i64 ca, .int .i64 pg]] w fun x w' => x = .returned (.bool (decide (mayP s h mi mk ch ca pg))) ∧ Below w.heap.size w w' := by
  obtain ⟨R, HR⟩ : ∃ R : Bool, Hid (decide (mayP s h mi mk ch ca pg) = R) := ⟨_, rfl⟩
  rw [HR.out]
  have b0 := (Below.refl w.heap.size w).alloc (Nat.le_refl _) (.cells #[.int .i64 s, .int .i64 h, .int .i64 mi, .int .i64 mk, .int .i64 ch, .int .i64 ar, .int .i64 ca, .int .i64 pg] 23)
  go_enter Try.func28, Try.ntmps28
  go_wp2_with (go_at_call 29; refine (rwithin_two _ _ _ _).mono ?_; rintro e w' ⟨b, rfl, (⟨rfl, hb⟩ | ⟨rfl, hb⟩), rfl⟩)
  all_goals (go_ret; refine ⟨?_, b0⟩; unfold Hid at *; first | (rw [← HR, decide_eq_true (by unfold mayP; omega)]; rfl) | (rw [← HR, decide_eq_false (by unfold mayP; omega)]; rfl))

end Go.Proofs.Ythelmlacgoancaa
