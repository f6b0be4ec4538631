/- What this text proves: the walk of the document's New (layer 22) over this program. -/
import Derived.Test.YtjnnjggcanodhaaGreatDoorJQ3
import Derived.Test.YtjnnjggcanodhaaGreatDoorJR1
namespace Go.Proofs.YtjnnjggcanodhaaGreatDoor
open Go.RowKit

set_option maxRecDepth 100000 in
set_option maxHeartbeats 400000 in
theorem ranew_n (s r : Int) (w : World) (h1 : 1 ≤ s) (h2 : s ≤ 32) (h3 : 1 ≤ r) (h4 : r ≤ 4194304) : Calls Tryz.prog 20 #[.int .i64 s, .int .i64 r] w fun e w' => (∃ a, e = .returned (.tuple #[.pointer (some a), .int .i64 0])) ∧ Below w.heap.size w w' := by
  have a1 : ¬ s < 1 := by omega
  have a2 : ¬ 32 < s := by omega
  have a3 : ¬ r < 1 := by omega
  have a4 : ¬ 4194304 < r := by omega
  go_enter Tryz.func20, Tryz.ntmps20
  go_wp2
  go_ret2
  exact ⟨⟨_, rfl⟩, (Below.refl _ w).alloc (Nat.le_refl _) _⟩

theorem rsnew_bad (s h mi mk ch ar ca pg : Int) (w : World) (hne : chkV s h mi mk ch ar ca pg ≠ 0) : Calls Tryz.prog 6 #[.agg #[.int .i64 s, .int .i64 h, .int .i64 mi, .int .i64 mk, .int .i64 ch, .int .i64 ar, .int .i64 ca, .int .i64 pg]] w fun x w' => x = .returned (.tuple #[.pointer none, .int .i64 (chkV s h mi mk ch ar ca pg)]) ∧ Below w.heap.size w w' := by
  have b0 := (Below.refl w.heap.size w).alloc (Nat.le_refl _) (.cells #[.int .i64 s, .int .i64 h, .int .i64 mi, .int .i64 mk, .int .i64 ch, .int .i64 ar, .int .i64 ca, .int .i64 pg] 23)
  have hc := fun W => rchk_any s h mi mk ch ar ca pg W
  have hne2 : (chkV s h mi mk ch ar ca pg != 0) = true := by simpa using hne
  generalize chkV s h mi mk ch ar ca pg = z at *
  go_enter Tryz.func6, Tryz.ntmps6
  go_wp2_with fail
  refine (hc _).mono ?_
  rintro x w1 ⟨rfl, b1⟩
  have bA := b0.trans (b1.mono b0.size)
  clear hc
  go_wp2
  go_ret2
  exact ⟨rfl, bA⟩

set_option maxRecDepth 100000 in
set_option maxHeartbeats 1000000 in
theorem rsnew_ok (s h mi mk ch ar ca pg : Int) (w : World) (h0 : chkV s h mi mk ch ar ca pg = 0) : Calls Tryz.prog 6 #[.agg #[.int .i64 s, .int .i64 h, .int .i64 mi, .int .i64 mk, .int .i64 ch, .int .i64 ar, .int .i64 ca, .int .i64 pg]] w fun x w' => (∃ a, x = .returned (.tuple #[.pointer (some a), .int .i64 0])) ∧ Below w.heap.size w w' := by
  have b0 := (Below.refl w.heap.size w).alloc (Nat.le_refl _) (.cells #[.int .i64 s, .int .i64 h, .int .i64 mi, .int .i64 mk, .int .i64 ch, .int .i64 ar, .int .i64 ca, .int .i64 pg] 23)
  have g0 := heap_alloc_new w (.cells #[.int .i64 s, .int .i64 h, .int .i64 mi, .int .i64 mk, .int .i64 ch, .int .i64 ar, .int .i64 ca, .int .i64 pg] 23)
  have hc := fun W => rchk_any s h mi mk ch ar ca pg W
  have hP : (1 ≤ s ∧ s ≤ 32) ∧ 1 ≤ ar ∧ ar ≤ 4194304 := by
    unfold chkV at h0
    split at h0
    · rename_i q
      have := q.1
      unfold mayP at this
      exact ⟨⟨by omega, by omega⟩, q.2⟩
    · cases h0
  rw [h0] at hc
  clear h0
  obtain ⟨⟨p1, p2⟩, p3, p4⟩ := hP
  have hA := fun W => ranew_n s ar W p1 p2 p3 p4
  have l0 : w.heap.size < (w.alloc (.cells #[.int .i64 s, .int .i64 h, .int .i64 mi, .int .i64 mk, .int .i64 ch, .int .i64 ar, .int .i64 ca, .int .i64 pg] 23)).heap.size := by simp
  clear p1 p2 p3 p4
  go_enter Tryz.func6, Tryz.ntmps6
  go_wp2_with fail
  refine (hc _).mono ?_
  rintro x w1 ⟨rfl, b1⟩
  have bA := b0.trans (b1.mono b0.size)
  have g1 := (b1.block _ l0).trans g0
  have l1 : w.heap.size < w1.heap.size := (Array.getElem?_eq_some_iff.1 g1).1
  clear hc g0 b0 b1 l0
  obtain ⟨c0, c1, c2, c3, c4, c5, c6, c7⟩ := par_cells g1
  go_wp2_with fail
  refine (hA _).mono ?_
  rintro x w2 ⟨⟨a, rfl⟩, b2⟩
  have bB := bA.trans (b2.mono bA.size)
  have g2 := (b2.block _ l1).trans g1
  clear hA g1 c0 c1 c2 c3 c4 c5 c6 c7 l1
  obtain ⟨c0, c1, c2, c3, c4, c5, c6, c7⟩ := par_cells g2
  have z0 := bB.size
  go_wp2
  go_ret2
  first
  | exact ⟨⟨_, rfl⟩, ((bB.alloc (by simp; omega) _).alloc (by simp; omega) _).alloc (by simp; omega) _⟩
  | (refine ⟨⟨_, rfl⟩, ?_⟩; refine Below.alloc ?_ (by simp; omega) _; refine Below.alloc ?_ (by simp; omega) _; exact bB.alloc (by omega) _)

end Go.Proofs.YtjnnjggcanodhaaGreatDoor
