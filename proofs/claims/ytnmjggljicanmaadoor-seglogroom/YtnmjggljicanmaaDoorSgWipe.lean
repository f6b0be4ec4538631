/- What this text proves: the walk of seglog's wipe over this program, where all that it looks at is noughts. -/
import Derived.Test.YtnmjggljicanmaaDoorSgNought
namespace Go.Proofs.YtnmjggljicanmaaDoor
open Go.RowKit

set_option maxRecDepth 100000 in
set_option maxHeartbeats 1600000 in
theorem wipe_zero {g bd gi N k : Nat} {n : Int} {rs : Value} {st : Bool} {w : World} (h : LB w g bd n (k : Int) rs st) (hk : k ≤ N) (hN : N ≤ 16384) (himg : ∀ j, k ≤ j → j < N → ∃ b, w.cell? ⟨gi, j, none⟩ = some (.slice (some ⟨b, 0, none⟩) 64 64) ∧ HB w (.slice (some ⟨b, 0, none⟩) 64 64) nulls) :
    Calls Tryd.prog 18 #[.pointer (some ⟨g, 0, none⟩), .slice (some ⟨gi, 0, none⟩) N N] w fun e w' => e = .returned (.int .i64 0) ∧ Below w.heap.size w w' := by
  obtain ⟨c0, c1, c2, c3, c4⟩ := h.cells
  obtain ⟨i0, hi, hz0, hz1, hz2⟩ := info_parts i_u8
  clear h c0 c1 c3 c4
  go_enter Tryd.func18, Tryd.ntmps18
  go_wp2_with (at_make; refine wpList_make_full _ rfl _ _ 31 rfl w.heap.size 5 i0 (.int .u8 0) 1 Tryd.underlying31 hi hz0 hz1 .i64 .i64 _ _ 64 rfl rfl ?qa ?qb ?qc ?qd ?qe ?_)
  all_goals (try (first | omega | (unfold maxLen; omega) | (rw [hz2]; omega)))
  intro w1 hown1 hgrow1
  have hb1 : Below w.heap.size w w1 := (Below.refl _ w).grown hgrow1 (Nat.le_refl _) (by intro k hk; cases hk)
  have hNo : HB w1 (.slice (some ⟨w.heap.size, 0, none⟩) 64 64) nulls := by
    refine HB.of_owns (base := w.heap.size) (e := 5) (n := 64) ?_
    have e : nulls = List.replicate 64 0 := rfl
    rw [e, ← made_bcs]
    simpa using hown1
  have d2 := cell_later hb1 c2
  have himg1 : ∀ j, k ≤ j → j < N → ∃ b, w1.cell? ⟨gi, j, none⟩ = some (.slice (some ⟨b, 0, none⟩) 64 64) ∧ Calls Tryd.prog 29 #[.slice (some ⟨b, 0, none⟩) 64 64, .slice (some ⟨w.heap.size, 0, none⟩) 64 64] w1 fun e w' => e = .returned (.bool true) ∧ w' = w1 := fun j h1 h2 => by
    obtain ⟨b, e1, e2⟩ := himg j h1 h2
    exact ⟨b, cell_later hb1 e1, equal_t _ _ nulls nulls w1 (e2.later hb1) hNo rfl⟩
  clear himg hown1 hgrow1 hNo c2
  go_wp2
  go_loopw [6, 7] (fun f i wr => ∃ j : Nat, k ≤ j ∧ j ≤ N ∧ f = .bool false ∧ i = .int .i64 (j : Int) ∧ wr = w1) (fun _ i _ => N - (RowKit.intOf i).toNat)
  case atStart => exact ⟨k, Nat.le_refl _, hk, rfl, rfl, rfl⟩
  case round =>
    obtain ⟨j, hkj, hj, rfl, rfl, rfl⟩ := hrel
    by_cases hlt : j < N
    · obtain ⟨b, e1, e2⟩ := himg1 j hkj hlt
      have hlt2 : (j : Int) < (N : Int) := by omega
      clear himg1
      go_wp2_with (go_at_call 29; refine e2.mono ?_; rintro e w3 ⟨rfl, rfl⟩)
      go_roundw
      case rel => exact ⟨j + 1, by omega, by omega, rfl, by go_num, trivial⟩
      case measure => simp [RowKit.intOf]; omega
    · obtain rfl : j = N := by omega
      clear himg1
      go_wp2
      go_ret
      exact ⟨rfl, hb1⟩

end Go.Proofs.YtnmjggljicanmaaDoor
