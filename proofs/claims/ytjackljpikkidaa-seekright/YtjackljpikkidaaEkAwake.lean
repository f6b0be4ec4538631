/- What this text proves: the walk of annalslaw20.awake over this program: it answers true. -/
import Derived.Test.YtjackljpikkidaaEkAmong
import Derived.Test.YtjackljpikkidaaIntsEq
namespace Go.Proofs.Ytjackljpikkidaa
open Go.RowKit

theorem look54 : (lookF [0, 5, 5, 9, 9] 4).1 = [0, 2, 1] := by decide +kernel
theorem found55 : foundZ [0, 5, 5, 9, 9] 5 = 2 := by decide +kernel

set_option maxHeartbeats 1000000 in
theorem ekAwake_any (w : World) :
    Calls Try.prog 10 #[] w fun x w' => x = .returned (.bool true) ∧ Below w.heap.size w w' := by
  have bA := (Below.refl w.heap.size w).alloc (Nat.le_refl _) (.cells #[.int .i64 0, .int .i64 5, .int .i64 5, .int .i64 9, .int .i64 9] 3)
  obtain ⟨Z, hZ⟩ : ∃ Z : List Int, Z = [0, 5, 5, 9, 9] := ⟨_, rfl⟩
  have hlit : ∀ w : World, IZ (w.alloc (.cells #[.int .i64 0, .int .i64 5, .int .i64 5, .int .i64 9, .int .i64 9] 3)) (.slice (some ⟨w.heap.size, 0, none⟩) 5 5) Z := fun w => IZ.litF w 3 Z _ 5 (0, 0) (by rw [hZ]; rfl) (by rw [hZ]; rfl) (by decide)
  have hZl : Z.length ≤ 1000000000 := by rw [hZ]; decide
  have hP := probes_any _ Z 4 _ (hlit w) hZl
  have hF := fun w => find_any _ Z 5 _ (hlit w) hZl
  rw [hZ, look54] at hP
  rw [hZ, found55] at hF
  obtain ⟨L, hL⟩ : ∃ L : List Nat, L = [0, 2, 1] := ⟨_, rfl⟩
  rw [← hL] at hP
  have HL : Hid (L = [0, 2, 1]) := hL
  clear hL hlit hZl hZ
  go_enter Try.func10, Try.ntmps10
  go_wp2_with fail
  refine hP.mono ?_
  rintro x w1 ⟨v1, rfl, hI1, hb1⟩
  clear hP
  obtain ⟨p1, c1, rfl⟩ := hI1.shape
  have hA := (Below.refl w1.heap.size w1).alloc (Nat.le_refl _) (.cells #[.int .i64 0, .int .i64 2, .int .i64 1] 3)
  have hI := hI1.later hA
  have hJ : IA (w1.alloc (.cells #[.int .i64 0, .int .i64 2, .int .i64 1] 3)) (.slice (some ⟨w1.heap.size, 0, none⟩) 3 3) L := IA.litF w1 3 L _ 3 (0, 0) (by rw [HL.out]; rfl) (by rw [HL.out]; rfl) (by decide)
  have hE := slequal_same _ _ L _ hI hJ
  have hbA : Below w.heap.size w (w1.alloc (.cells #[.int .i64 0, .int .i64 2, .int .i64 1] 3)) := (bA.trans (hb1.mono bA.size)).trans (hA.mono (Nat.le_trans bA.size hb1.size))
  clear hI hJ hA hb1 bA hI1
  go_wp2_with fail
  refine hE.mono ?_
  rintro x w2 ⟨rfl, hb2⟩
  have hbB := hbA.trans (hb2.mono hbA.size)
  have bC := (Below.refl w2.heap.size w2).alloc (Nat.le_refl _) (.cells #[.int .i64 0, .int .i64 5, .int .i64 5, .int .i64 9, .int .i64 9] 3)
  have hF2 := hF w2
  clear hE hbA hb2 hF
  go_wp2_with fail
  refine hF2.mono ?_
  rintro x w3 ⟨rfl, hb3⟩
  have hbC := (hbB.trans (bC.mono hbB.size)).trans (hb3.mono (Nat.le_trans hbB.size bC.size))
  clear hF2
  go_wp2
  go_ret
  exact ⟨rfl, hbC⟩

end Go.Proofs.Ytjackljpikkidaa
