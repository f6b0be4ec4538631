/- What this text proves: the statements' own look finds that digits are told. -/
import Derived.Test.YtpnginemjcphcaaDoorDigits
namespace Go.Proofs.YtpnginemjcphcaaDoor
open Go.RowKit

theorem digF_255 : digF [255] = [3, 3, 3, 3, 0, 0, 0, 0, 0] := by decide +kernel

set_option maxHeartbeats 1000000 in
theorem wotsAwake_any (w : World) : Calls Tryd.prog 14 #[] w fun e w' => e = .returned (.bool true) ∧ Below w.heap.size w w' := by
  go_enter Tryd.func14, Tryd.ntmps14
  go_wp2_with fail
  have h1 : HB (w.alloc (.cells #[.int .u8 255] 5 (0, 0))) (.slice (some ⟨w.heap.size, 0, none⟩) 1 1) [255] := HB.litF w 5 [255] _ _ _ rfl rfl (by decide)
  refine (digits_any _ [255] _ h1).mono ?_
  rintro e w1 ⟨v1, rfl, o1, hb1⟩
  rw [digF_255] at o1
  have i1 := IA.of_owns o1
  have hb01 : Below w.heap.size w w1 := ((Below.refl _ w).alloc (Nat.le_refl _) _).trans (hb1.mono (by simp))
  obtain ⟨p1, c1, rfl⟩ := i1.shape
  clear o1 hb1 h1
  go_wp2_with fail
  refine (slequal_same _ _ [3, 3, 3, 3, 0, 0, 0, 0, 0] _ (i1.later ((Below.refl _ w1).alloc (Nat.le_refl _) _)) (IA.litF w1 3 _ _ _ _ rfl rfl (by decide))).mono ?_
  rintro e w2 ⟨rfl, hb2⟩
  have hb02 : Below w.heap.size w w2 := (hb01.alloc hb01.size _).trans (hb2.mono (by have := hb01.size; simp; omega))
  go_wp2
  go_ret
  exact ⟨rfl, hb02⟩

end Go.Proofs.YtpnginemjcphcaaDoor
