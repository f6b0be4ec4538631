/- What this text proves: the walk of the statement ShaBorders over this program: it answers true for any number, where the two tables lie in their variables. -/
import Derived.Test.YtbmghnkgbiijmaaDoorRSum
import Derived.Test.YtbmghnkgbiijmaaDoorBlocksLaw
namespace Go.Proofs.YtbmghnkgbiijmaaDoor
open Go.RowKit

set_option maxHeartbeats 1000000 in
theorem bordersWalk (n : Int) (w : World) (hT : Tabs w) : Calls Tryd.prog 6 #[.int .i64 n] w fun e w' => e = .returned (.bool true) ∧ Below w.heap.size w w' := by
  obtain ⟨k, hk, ek⟩ := modk n 90 (by decide) (by decide)
  have EK : Hid (wrap64 ((IntKind.u64.wrap n).tmod 90) = (k : Int)) := ek
  clear ek
  obtain ⟨i0, hi, hz0, hz1, hz2⟩ := info_parts i_u8
  obtain ⟨N, hN⟩ : ∃ N, N = 50 + k := ⟨_, rfl⟩
  have hN3 : (50 : Int) + (k : Int) = (N : Int) := by omega
  have hN2 : N ≤ 140 := by omega
  have E2 : Hid (wrap64 (50 + wrap64 ((IntKind.u64.wrap n).tmod 90)) = (N : Int)) := by
    show _ = _
    rw [EK.out, IntWalk.wrap64_in _ ⟨by omega, by omega⟩]
    omega
  obtain ⟨Z, hZ⟩ : ∃ Z : List UInt8, Z = List.replicate N 0 := ⟨_, rfl⟩
  have HZ : Hid (Z = List.replicate N 0) := hZ
  have hZl : Z.length = N := by rw [hZ]; simp
  have HZL : Hid (Z.length = N) := hZl
  clear hZ hZl
  obtain ⟨D, hD⟩ : ∃ D, D = sha Z := ⟨_, rfl⟩
  have HD2 : Hid (D.length = 32) := by show _ = _; rw [hD]; exact sha_length _
  have hsum := fun v w h hT => sum_any v Z w h (by rw [HZL.out]; omega) hT
  have hrsum := fun v w h => rsum_any v Z w h (by rw [HZL.out]; omega)
  rw [← hD] at hsum hrsum
  have HSUM : Hid _ := hsum
  have HRSUM : Hid _ := hrsum
  clear hsum hrsum hD hN
  go_enter Tryd.func6, Tryd.ntmps6
  go_wp2_with (at_make; refine wpList_make_full _ rfl _ _ 22 rfl w.heap.size 5 i0 (.int .u8 0) 1 Tryd.underlying22 hi hz0 hz1 .i64 .i64 _ _ N rfl rfl ?qa ?qb ?qc ?qd ?qe ?_)
  all_goals (try (first | exact E2.out | omega | (unfold maxLen; omega) | (rw [hz2]; omega)))
  intro w1 hown1 hgrow1
  have hb1 : Below w.heap.size w w1 := (Below.refl _ w).grown hgrow1 (Nat.le_refl _) (by intro k hk; cases hk)
  have hown1' : w1.ownsRow w.heap.size 5 1 (.slice (some ⟨w.heap.size, 0, none⟩) N N) N (bcs Z) := by
    rw [HZ.out, ← made_bcs]
    simpa using hown1
  have h1 := HB.of_owns hown1'
  have hT1 := hT.later hb1
  clear hown1 hgrow1 hown1' hT EK E2
  go_wp2_with fail
  refine (HSUM.out _ _ h1 hT1).mono ?_
  rintro e w2 ⟨v2, rfl, hown2, hb2⟩
  have h2 := h1.later hb2
  have hT2 := hT1.later hb2
  have s2 := HB.of_owns hown2
  have hb02 := hb1.trans (hb2.mono hb1.size)
  clear h1 hT1 hown2 hb1 hb2
  go_wp2_with fail
  refine (HRSUM.out _ _ h2).mono ?_
  rintro e w3 ⟨v3, rfl, hown3, hb3⟩
  have h3 := h2.later hb3
  have hT3 := hT2.later hb3
  have s3 := s2.later hb3
  have r3 := HB.of_owns hown3
  have hb03 := hb02.trans (hb3.mono hb02.size)
  clear h2 hT2 s2 hb02 hb3 HRSUM hown3
  go_wp2_with fail
  refine (equal_t _ _ _ _ _ s3 r3 rfl).mono ?_
  rintro e w4 ⟨rfl, hw⟩
  have hw2 := hw.symm
  subst hw2
  clear hw
  go_wp2_with fail
  refine (HSUM.out _ _ h3 hT3).mono ?_
  rintro e w5 ⟨v5, rfl, hown5, hb5⟩
  obtain ⟨p5, c5, hv5⟩ := owns_shape hown5
  subst hv5
  go_wp2
  go_ret
  exact ⟨rfl, hb03.trans (hb5.mono hb03.size)⟩

end Go.Proofs.YtbmghnkgbiijmaaDoor
