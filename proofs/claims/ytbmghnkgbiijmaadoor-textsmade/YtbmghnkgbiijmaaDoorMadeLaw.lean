/- What this text proves: the walk of the statement TextsMade over this program: it answers true for any numbers and parts, where the two tables lie in their variables. -/
import Derived.Test.YtbmghnkgbiijmaaDoorHash
import Derived.Test.YtbmghnkgbiijmaaDoorNumber
import Derived.Test.YtbmghnkgbiijmaaDoorAwake
namespace Go.Proofs.YtbmghnkgbiijmaaDoor
open Go.RowKit

set_option maxHeartbeats 1000000 in
theorem madeWalk (size tag : Int) (v : Value) (n : Int) (ls0 : List (List UInt8)) (w : World) (h0 : PA w v ls0) (hT : Tabs w) : Calls Tryd.prog 7 #[.int .i64 size, .int .i64 tag, v, .int .i64 n] w fun e w' => e = .returned (.bool true) ∧ Below w.heap.size w w' := by
  obtain ⟨U, hU, _⟩ := u64_nat n
  have HU : Hid (IntKind.u64.wrap n = (U : Int)) := hU
  clear hU
  obtain ⟨p, c, rfl⟩ := h0.shape
  obtain ⟨er, L, hL, ht, hrt⟩ := texts_both tag (ls0.take 10) (by simp; omega)
  have HT : Hid (∀ v w, PA w v (ls0.take 10) → Calls Tryd.prog 19 #[.int .i64 tag, v] w fun e w' => ∃ p c, e = .returned (.tuple #[.slice p L.length c, .int .i64 er]) ∧ HB w' (.slice p L.length c) L ∧ Below w.heap.size w w') := ht
  have HRT : Hid (∀ v w, PA w v (ls0.take 10) → Calls Tryd.prog 20 #[.int .i64 tag, v] w fun e w' => ∃ p c, e = .returned (.tuple #[.slice p L.length c, .int .i64 er]) ∧ HB w' (.slice p L.length c) L ∧ Below w.heap.size w w') := hrt
  clear ht hrt
  obtain ⟨D, hD⟩ : ∃ D, D = sha L := ⟨_, rfl⟩
  have HD2 : Hid (D.length = 32) := by show _ = _; rw [hD]; exact sha_length _
  have hsum := fun v w h hT => sum_any v L w h (by omega) hT
  have hrsum := fun v w h => rsum_any v L w h (by omega)
  rw [← hD] at hsum hrsum
  have HSUM : Hid (∀ v w, HB w v L → Tabs w → Calls Tryd.prog 10 #[v] w fun e w' => ∃ v', e = .returned v' ∧ w'.ownsRow w.heap.size 5 1 v' 32 (bcs D) ∧ Below w.heap.size w w') := hsum
  have HRSUM : Hid (∀ v w, HB w v L → Calls Tryd.prog 11 #[v] w fun e w' => ∃ v', e = .returned v' ∧ w'.ownsRow w.heap.size 5 1 v' 32 (bcs D) ∧ Below w.heap.size w w') := hrsum
  clear hsum hrsum hD
  have hnum := fun w => number_any n U HU.out w
  have hrnum := fun w => rnumber_any n U HU.out w
  have HN : Hid (∀ w, Calls Tryd.prog 23 #[.int .i64 n] w fun e w' => ∃ p c, e = .returned (.slice p 8 c) ∧ HB w' (.slice p 8 c) (be64 U) ∧ Below w.heap.size w w') := hnum
  have HRN : Hid (∀ w, Calls Tryd.prog 24 #[.int .i64 n] w fun e w' => ∃ p c, e = .returned (.slice p 8 c) ∧ HB w' (.slice p 8 c) (be64 U) ∧ Below w.heap.size w w') := hrnum
  clear hnum hrnum HU
  go_enter Tryd.func7, Tryd.ntmps7
  go_wp2_with fail
  refine (few_any _ ls0 _ h0).mono ?_
  rintro e w' ⟨p1, n1, c1, rfl, h, hw⟩
  have hw2 := hw.symm
  subst hw2
  clear hw h0
  generalize ls0.take 10 = ls at *
  go_wp2_with fail
  refine (HT.out _ _ h).mono ?_
  rintro e w1 ⟨p2, c2, rfl, x1, hb1⟩
  have h1 := h.later hb1
  have hT1 := hT.later hb1
  clear h hT
  go_wp2_with fail
  refine (HRT.out _ _ h1).mono ?_
  rintro e w2 ⟨p3, c3, rfl, y2, hb2⟩
  have h2 := h1.later hb2
  have hT2 := hT1.later hb2
  have x2 := x1.later hb2
  have hb02 := hb1.trans (hb2.mono hb1.size)
  clear h1 hT1 x1 hb1 hb2
  go_wp2_with fail
  refine (equal_t _ _ _ _ _ x2 y2 rfl).mono ?_
  rintro e w3 ⟨rfl, hw⟩
  have hw2 := hw.symm
  subst hw2
  clear hw x2 y2
  go_wp2_with fail
  refine (hash_any size tag er _ L D _ ⟨_, _, _, rfl⟩ HD2.out (HT.out _ _ h2) (fun v w' hv hb => HSUM.out v w' hv (hT2.later hb))).mono ?_
  rintro e w4 ⟨p4, c4, rfl, x4, hb4⟩
  have h4 := h2.later hb4
  have hT4 := hT2.later hb4
  have hb04 := hb02.trans (hb4.mono hb02.size)
  clear h2 hT2 hb02 hb4 HT HSUM
  go_wp2_with fail
  refine (rhash_any size tag er _ L D _ ⟨_, _, _, rfl⟩ HD2.out (HRT.out _ _ h4) (fun v w' hv _ => HRSUM.out v w' hv)).mono ?_
  rintro e w5 ⟨p5, c5, rfl, y5, hb5⟩
  have hT5 := hT4.later hb5
  have x5 := x4.later hb5
  have hb05 := hb04.trans (hb5.mono hb04.size)
  clear h4 hT4 hb04 hb5 x4 HRT HRSUM
  go_wp2_with fail
  refine (equal_t _ _ _ _ _ x5 y5 rfl).mono ?_
  rintro e w6 ⟨rfl, hw⟩
  have hw2 := hw.symm
  subst hw2
  clear hw x5 y5
  go_wp2_with fail
  refine (HN.out _).mono ?_
  rintro e w7 ⟨p7, c7, rfl, x7, hb7⟩
  have hb07 := hb05.trans (hb7.mono hb05.size)
  clear hb05 hb7 HN
  go_wp2_with fail
  refine (HRN.out _).mono ?_
  rintro e w8 ⟨p8, c8, rfl, y8, hb8⟩
  have x8 := x7.later hb8
  have hb08 := hb07.trans (hb8.mono hb07.size)
  clear hb07 hb8 HRN x7
  go_wp2_with fail
  refine (equal_t _ _ _ _ _ x8 y8 rfl).mono ?_
  rintro e w9 ⟨rfl, hw⟩
  have hw2 := hw.symm
  subst hw2
  clear hw x8 y8
  go_wp2_with fail
  refine (awake_any _).mono ?_
  rintro e w10 ⟨rfl, hb10⟩
  go_wp2
  go_ret
  exact ⟨rfl, hb08.trans (hb10.mono hb08.size)⟩

end Go.Proofs.YtbmghnkgbiijmaaDoor
