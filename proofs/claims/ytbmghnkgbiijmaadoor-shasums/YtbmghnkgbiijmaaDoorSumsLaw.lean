/- What this text proves: the walk of the statement ShaSums over this program: it answers true for any bytes, where the two tables lie in their variables. -/
import Derived.Test.YtbmghnkgbiijmaaDoorRSum
import Derived.Test.YtbmghnkgbiijmaaDoorClone
import Derived.Test.YtbmghnkgbiijmaaDoorShaAwake
namespace Go.Proofs.YtbmghnkgbiijmaaDoor
open Go.RowKit

set_option maxHeartbeats 1000000 in
theorem sumsWalk (v : Value) (l : List UInt8) (w : World) (h : HB w v l) (hl : l.length ≤ 140737488351232) (hT : Tabs w) : Calls Tryd.prog 3 #[v] w fun e w' => e = .returned (.bool true) ∧ Below w.heap.size w w' := by
  obtain ⟨p, c, rfl⟩ := h.shape
  obtain ⟨D, hD⟩ : ∃ D, D = sha l := ⟨_, rfl⟩
  have hsum := fun v w h hT => sum_any v l w h (by omega) hT
  have hrsum := fun v w h => rsum_any v l w h hl
  rw [← hD] at hsum hrsum
  have HSUM : Hid _ := hsum
  have HRSUM : Hid _ := hrsum
  clear hsum hrsum hD
  go_enter Tryd.func3, Tryd.ntmps3
  go_wp2_with fail
  refine (clone_any _ l _ h (by omega)).mono ?_
  rintro e w1 ⟨p1, c1, rfl, g1, hb1⟩
  have h1 := h.later hb1
  have hT1 := hT.later hb1
  clear h hT
  go_wp2_with fail
  refine (HSUM.out _ _ g1 hT1).mono ?_
  rintro e w2 ⟨v2, rfl, hown2, hb2⟩
  have h2 := h1.later hb2
  have g2 := g1.later hb2
  have hT2 := hT1.later hb2
  have s2 := HB.of_owns hown2
  have hb02 := hb1.trans (hb2.mono hb1.size)
  clear h1 g1 hT1 hown2 hb1 hb2 HSUM
  go_wp2_with fail
  refine (HRSUM.out _ _ h2).mono ?_
  rintro e w3 ⟨v3, rfl, hown3, hb3⟩
  have h3 := h2.later hb3
  have g3 := g2.later hb3
  have hT3 := hT2.later hb3
  have s3 := s2.later hb3
  have r3 := HB.of_owns hown3
  have hb03 := hb02.trans (hb3.mono hb02.size)
  clear h2 g2 hT2 s2 hb02 hb3 HRSUM hown3
  go_wp2_with fail
  refine (equal_t _ _ _ _ _ s3 r3 rfl).mono ?_
  rintro e w4 ⟨rfl, hw⟩
  have hw2 := hw.symm
  subst hw2
  clear hw
  go_wp2_with fail
  refine (equal_t _ _ _ _ _ g3 h3 rfl).mono ?_
  rintro e w4 ⟨rfl, hw⟩
  have hw2 := hw.symm
  subst hw2
  clear hw
  go_wp2_with fail
  refine (shaAwake_any _ hT3).mono ?_
  rintro e w6 ⟨rfl, hb6⟩
  go_wp2
  go_ret
  exact ⟨rfl, hb03.trans (hb6.mono hb03.size)⟩

end Go.Proofs.YtbmghnkgbiijmaaDoor
