/- What this text proves: the walks of sha.Cut, of the document's Cut and of the statement ShaCuts over this program. -/
import Derived.Test.YtbmghnkgbiijmaaDoorRSum
import Derived.Test.YtbmghnkgbiijmaaDoorBlocksLaw
namespace Go.Proofs.YtbmghnkgbiijmaaDoor
open Go.RowKit

/-- How long a cut of a given size is. -/
def cutLen (n : Int) : Nat := (max 0 (min n 32)).toNat
theorem cutLen_le (n : Int) : cutLen n ≤ 32 := by unfold cutLen; omega
theorem cutLen_int (n : Int) : max 0 (min n 32) = (cutLen n : Int) := by unfold cutLen; omega

set_option maxHeartbeats 1000000 in
theorem cut_any (n : Int) (v : Value) (D : List UInt8) (w : World) (hD : D.length = 32) (hsum : Calls Tryd.prog 10 #[v] w fun e w' => ∃ v', e = .returned v' ∧ w'.ownsRow w.heap.size 5 1 v' 32 (bcs D) ∧ Below w.heap.size w w') :
    Calls Tryd.prog 13 #[.int .i64 n, v] w fun e w' => ∃ p c, e = .returned (.slice p (cutLen n) c) ∧ HB w' (.slice p (cutLen n) c) (D.take (cutLen n)) ∧ Below w.heap.size w w' := by
  have HS : Hid (Calls Tryd.prog 10 #[v] w fun e w' => ∃ v', e = .returned v' ∧ w'.ownsRow w.heap.size 5 1 v' 32 (bcs D) ∧ Below w.heap.size w w') := hsum
  have HD : Hid (D.length = 32) := hD
  clear hsum hD
  by_cases h : n < 1
  · have hc : cutLen n = 0 := by unfold cutLen; omega
    rw [hc]
    clear HS hc
    go_enter Tryd.func13, Tryd.ntmps13
    go_wp2
    go_ret
    exact ⟨none, 0, rfl, HB.nil _, Below.refl _ _⟩
  · by_cases h32 : 32 < n
    · have hc : cutLen n = 32 := by unfold cutLen; omega
      rw [hc]
      clear hc
      go_enter Tryd.func13, Tryd.ntmps13
      go_wp2_with fail
      refine HS.out.mono ?_
      rintro e w1 ⟨v1, rfl, hown1, hb1⟩
      have s1 := HB.of_owns hown1
      obtain ⟨p1, c1, hv1⟩ := owns_shape hown1
      subst hv1
      have hl := s1.len.2.1
      have hmx := s1.len.2.2.1
      have s2 := s1.cut 0 32 32 (by omega) (by omega) (by omega) hl
      have e1 : cutP p1 32 0 = p1 := by unfold cutP; cases p1 <;> simp [Addr.add]
      rw [e1, Nat.sub_zero, List.drop_zero] at s2
      have HS2 : Hid (HB w1 (.slice p1 32 32) (D.take 32)) := s2
      clear hown1 HS s2 e1 s1
      go_wp2
      go_ret
      exact ⟨_, _, rfl, HS2.out, hb1⟩
    · obtain ⟨m, hm⟩ : ∃ m : Nat, (m : Int) = n := ⟨n.toNat, by omega⟩
      have hc : cutLen n = m := by unfold cutLen; omega
      rw [hc]
      subst hm
      have hle : m ≤ 32 := by omega
      have hle2 : (m : Int) ≤ 32 := by omega
      clear hc h32
      go_enter Tryd.func13, Tryd.ntmps13
      go_wp2_with fail
      refine HS.out.mono ?_
      rintro e w1 ⟨v1, rfl, hown1, hb1⟩
      have s1 := HB.of_owns hown1
      obtain ⟨p1, c1, hv1⟩ := owns_shape hown1
      subst hv1
      have hl := s1.len.2.1
      have hmx := s1.len.2.2.1
      have s2 := s1.cut 0 m m (by omega) (by omega) (by omega) (by omega)
      have e1 : cutP p1 m 0 = p1 := by unfold cutP; cases p1 <;> simp [Addr.add]
      rw [e1, Nat.sub_zero, List.drop_zero] at s2
      have HS2 : Hid (HB w1 (.slice p1 m m) (D.take m)) := s2
      have hmc : (m : Int) ≤ (c1 : Int) := by omega
      clear hown1 HS s2 e1 s1
      go_wp2_with fail
      go_ret
      exact ⟨_, _, rfl, HS2.out, hb1⟩

set_option maxHeartbeats 1000000 in
theorem rcut_any (n : Int) (v : Value) (D : List UInt8) (w : World) (hD : D.length = 32) (hsum : Calls Tryd.prog 11 #[v] w fun e w' => ∃ v', e = .returned v' ∧ w'.ownsRow w.heap.size 5 1 v' 32 (bcs D) ∧ Below w.heap.size w w') :
    Calls Tryd.prog 14 #[.int .i64 n, v] w fun e w' => ∃ p c, e = .returned (.slice p (cutLen n) c) ∧ HB w' (.slice p (cutLen n) c) (D.take (cutLen n)) ∧ Below w.heap.size w w' := by
  have HS : Hid (Calls Tryd.prog 11 #[v] w fun e w' => ∃ v', e = .returned v' ∧ w'.ownsRow w.heap.size 5 1 v' 32 (bcs D) ∧ Below w.heap.size w w') := hsum
  have HD : Hid (D.length = 32) := hD
  clear hsum hD
  by_cases h : n ≤ 0
  · have hc : cutLen n = 0 := by unfold cutLen; omega
    rw [hc]
    clear hc
    by_cases h32 : 32 < n
    · omega
    · skip
      go_enter Tryd.func14, Tryd.ntmps14
      go_wp2_with fail
      refine HS.out.mono ?_
      rintro e w1 ⟨v1, rfl, hown1, hb1⟩
      have s1 := HB.of_owns hown1
      obtain ⟨p1, c1, hv1⟩ := owns_shape hown1
      subst hv1
      have hl := s1.len.2.1
      have hmx := s1.len.2.2.1
      have s2 := s1.front 0 (by omega)
      have HS2 : Hid (HB w1 (.slice p1 0 c1) (D.take 0)) := s2
      clear hown1 HS s2 s1
      go_wp2_with fail
      go_ret
      exact ⟨_, _, rfl, HS2.out, hb1⟩
  · by_cases h32 : 32 < n
    · have hc : cutLen n = 32 := by unfold cutLen; omega
      rw [hc]
      clear hc
      go_enter Tryd.func14, Tryd.ntmps14
      go_wp2_with fail
      refine HS.out.mono ?_
      rintro e w1 ⟨v1, rfl, hown1, hb1⟩
      have s1 := HB.of_owns hown1
      obtain ⟨p1, c1, hv1⟩ := owns_shape hown1
      subst hv1
      have hl := s1.len.2.1
      have hmx := s1.len.2.2.1
      have s2 := s1.front 32 (by omega)
      have HS2 : Hid (HB w1 (.slice p1 32 c1) (D.take 32)) := s2
      clear hown1 HS s2 s1
      go_wp2_with fail
      go_ret
      exact ⟨_, _, rfl, HS2.out, hb1⟩
    · obtain ⟨m, hm⟩ : ∃ m : Nat, (m : Int) = n := ⟨n.toNat, by omega⟩
      have hc : cutLen n = m := by unfold cutLen; omega
      rw [hc]
      subst hm
      have hle : m ≤ 32 := by omega
      have hle2 : (m : Int) ≤ 32 := by omega
      clear hc
      go_enter Tryd.func14, Tryd.ntmps14
      go_wp2_with fail
      refine HS.out.mono ?_
      rintro e w1 ⟨v1, rfl, hown1, hb1⟩
      have s1 := HB.of_owns hown1
      obtain ⟨p1, c1, hv1⟩ := owns_shape hown1
      subst hv1
      have hl := s1.len.2.1
      have hmx := s1.len.2.2.1
      have s2 := s1.front m (by omega)
      have HS2 : Hid (HB w1 (.slice p1 m c1) (D.take m)) := s2
      clear hown1 HS s2 s1
      go_wp2_with fail
      go_ret
      exact ⟨_, _, rfl, HS2.out, hb1⟩

set_option maxHeartbeats 1000000 in
theorem cutsWalk (v : Value) (n k0 : Int) (l : List UInt8) (w : World) (h : HB w v l) (hl : l.length ≤ 140737488351232) (hT : Tabs w) : Calls Tryd.prog 4 #[v, .int .i64 n, .int .i64 k0] w fun e w' => e = .returned (.bool true) ∧ Below w.heap.size w w' := by
  obtain ⟨p, c, rfl⟩ := h.shape
  obtain ⟨k, hk, ek⟩ := modk k0 40 (by decide) (by decide)
  have EK : Hid (wrap64 ((IntKind.u64.wrap k0).tmod 40) = (k : Int)) := ek
  clear ek
  obtain ⟨D, hD⟩ : ∃ D, D = sha l := ⟨_, rfl⟩
  have HD2 : Hid (D.length = 32) := by show _ = _; rw [hD]; exact sha_length _
  have hsum := fun v w h hT => sum_any v l w h (by omega) hT
  have hrsum := fun v w h => rsum_any v l w h hl
  rw [← hD] at hsum hrsum
  have HSUM : Hid _ := hsum
  have HRSUM : Hid _ := hrsum
  clear hsum hrsum hD
  have hcl : ((cutLen (k : Int) : Nat) : Int) = min (k : Int) 32 := by unfold cutLen; omega
  have hcle := cutLen_le (k : Int)
  go_enter Tryd.func4, Tryd.ntmps4
  go_wp2_with fail
  rw [EK.out]
  refine (cut_any _ _ _ _ HD2.out (HSUM.out _ _ h hT)).mono ?_
  rintro e w1 ⟨p1, c1, rfl, x1, hb1⟩
  have h1 := h.later hb1
  have hT1 := hT.later hb1
  clear h hT EK
  generalize cutLen (k : Int) = m at *
  go_wp2_with fail
  refine (cut_any _ _ _ _ HD2.out (HSUM.out _ _ h1 hT1)).mono ?_
  rintro e w2 ⟨p2, c2, rfl, s2, hb2⟩
  have h2 := h1.later hb2
  have hT2 := hT1.later hb2
  have x2 := x1.later hb2
  have hb02 := hb1.trans (hb2.mono hb1.size)
  clear h1 hT1 x1 hb1 hb2
  go_wp2_with fail
  refine (rcut_any _ _ _ _ HD2.out (HRSUM.out _ _ h2)).mono ?_
  rintro e w3 ⟨p3, c3, rfl, r3, hb3⟩
  have h3 := h2.later hb3
  have hT3 := hT2.later hb3
  have x3 := x2.later hb3
  have s3 := s2.later hb3
  have hb03 := hb02.trans (hb3.mono hb02.size)
  clear h2 hT2 x2 s2 hb02 hb3
  go_wp2_with fail
  refine (equal_t _ _ _ _ _ s3 r3 rfl).mono ?_
  rintro e w4 ⟨rfl, hw⟩
  have hw2 := hw.symm
  subst hw2
  clear hw s3 r3
  go_wp2_with fail
  all_goals (
    refine (HSUM.out _ _ h3 hT3).mono ?_
    rintro e w5 ⟨v5, rfl, hown5, hb5⟩
    have s5 := HB.of_owns hown5
    have x5 := x3.later hb5
    have hT5 := hT3.later hb5
    have hb05 := hb03.trans (hb5.mono hb03.size)
    have HL : Hid ((D.take m).length = m) := by show _ = _; rw [List.length_take, HD2.out]; omega
    clear h3 hT3 x3 hb03 hb5 hown5
    go_wp2_with fail
    refine (prefix_t _ _ D (D.take m) _ s5 x5 (by rw [HL.out, HD2.out]; omega) (by rw [HL.out])).mono ?_
    rintro e w6 ⟨rfl, hw⟩
    have hw2 := hw.symm
    subst hw2
    clear hw
    go_wp2_with fail
    refine (shaAwake_any _ hT5).mono ?_
    rintro e w7 ⟨rfl, hb7⟩
    go_wp2
    go_ret
    exact ⟨rfl, hb05.trans (hb7.mono hb05.size)⟩)

end Go.Proofs.YtbmghnkgbiijmaaDoor
