/- What this text proves: the walk of the document's adds (annalsref01) over this program: the rounds' numbers. -/
import Derived.Test.YtahfjemllkbpgaaGreatDoorMix
import Derived.Great.BuildSlice
namespace Go.Proofs.YtahfjemllkbpgaaGreatDoor
open Go.RowKit

set_option maxRecDepth 100000 in
set_option maxHeartbeats 1000000 in
theorem radds_any (w : World) : Calls Tryz.prog 83 #[] w fun e w' => e = .returned (.agg (wcs kTab).toArray) ∧ Below w.heap.size w w' := by
  have hk : kTab.length = 64 := kTab_length
  obtain ⟨K, hK⟩ : ∃ K, K = kTab := ⟨_, rfl⟩
  rw [← hK] at hk ⊢
  have HK : Hid (K = kTab) := hK
  have HL : Hid (K.length = 64) := hk
  clear hK hk
  go_enter Tryz.func83, Tryz.ntmps83
  go_wp2_with (first | (refine wpList_buildTo rfl 121 _ rfl (some 1) rfl (wcs K).toArray (by rw [HK.out]; kernel_rfl) ?_) | (refine wpList_store_ar rfl 121 (.tmp 0) (.tmp 1) rfl w.heap.size K rfl rfl 121 _ (heap_alloc_new w _) ?si ?sh ?_))
  case si => rw [HL.out]; exact i64w
  case sh => rw [HL.out]; rfl
  intro w1 g1 hg1
  have hb1 : Below w.heap.size w w1 := ((Below.refl _ w).alloc (Nat.le_refl _) _).grown hg1 (by simp) (by intro k hk; cases hk; exact Nat.le_refl _)
  clear hg1
  go_wp2
  refine bodyPost_ret ?_ rfl ⟨rfl, hb1⟩
  exact results_cell_row Tryz.results83 _ _ w.heap.size 121 _ _ _ rfl g1 Tryz.underlying121 rfl (by rw [i64w]; simp [wcs, HL.out])

end Go.Proofs.YtahfjemllkbpgaaGreatDoor
