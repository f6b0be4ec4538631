/- What this text proves: the walks of the statements TiersKeeps, TiersKept, TiersGone over this program: they answer true. -/
import Derived.Test.YtkpmenlhaeoedaaTrGap
namespace Go.Proofs.Ytkpmenlhaeoedaa
open Go.RowKit

theorem kept20 : keptI 20 = [0, 8, 12, 16, 17, 18, 19, 20] := by decide +kernel

set_option maxRecDepth 100000 in
set_option maxHeartbeats 1000000 in
theorem trAwake_any (w : World) :
    Calls Try.prog 10 #[] w fun x w' => x = .returned (.bool true) ∧ Below w.heap.size w w' := by
  have hK := kept_any 20 (by decide) w
  rw [kept20] at hK
  obtain ⟨L, hL⟩ : ∃ L : List Nat, L = [0, 8, 12, 16, 17, 18, 19, 20] := ⟨_, rfl⟩
  rw [← hL] at hK
  have HL : Hid (L = [0, 8, 12, 16, 17, 18, 19, 20]) := hL
  clear hL
  go_enter Try.func10, Try.ntmps10
  go_wp2_with fail
  refine hK.mono ?_
  rintro x w1 ⟨v1, rfl, hI1, hb1⟩
  clear hK
  obtain ⟨p1, c1, rfl⟩ := hI1.shape
  have hA := (Below.refl w1.heap.size w1).alloc (Nat.le_refl _) (.cells #[.int .i64 0, .int .i64 8, .int .i64 12, .int .i64 16, .int .i64 17, .int .i64 18, .int .i64 19, .int .i64 20] 3)
  have hI := hI1.later hA
  have hJ : IA (w1.alloc (.cells #[.int .i64 0, .int .i64 8, .int .i64 12, .int .i64 16, .int .i64 17, .int .i64 18, .int .i64 19, .int .i64 20] 3)) (.slice (some ⟨w1.heap.size, 0, none⟩) 8 8) L := IA.litF w1 3 L _ 8 (0, 0) (by rw [HL.out]; rfl) (by rw [HL.out]; rfl) (by decide)
  have hE := slequal_same _ _ L _ hI hJ
  have hbA : Below w.heap.size w (w1.alloc (.cells #[.int .i64 0, .int .i64 8, .int .i64 12, .int .i64 16, .int .i64 17, .int .i64 18, .int .i64 19, .int .i64 20] 3)) := hb1.trans (hA.mono hb1.size)
  clear hI hJ hA hb1 hI1
  go_wp2_with fail
  refine hE.mono ?_
  rintro x w2 ⟨rfl, hb2⟩
  have hbB := hbA.trans (hb2.mono hbA.size)
  clear hE hbA hb2
  go_wp2
  go_ret
  exact ⟨rfl, hbB⟩

set_option maxRecDepth 100000 in
set_option maxHeartbeats 1000000 in
theorem tiersKeepsWalk (l e : Int) (hl : l < 9223372036854775808) (w : World) :
    Calls Try.prog 3 #[.int .i64 l, .int .i64 e] w fun x w' => x = .returned (.bool true) ∧ Below w.heap.size w w' := by
  have h1 := fun w => keeps_any l e hl w
  have h2 := fun w => rkeeps_any l e hl w
  have h3 := fun w => nearest_any l e hl w
  have h4 := fun w => rnearest_any l e hl w
  generalize kpB l e = b at *
  generalize nrI l e = z at *
  go_enter Try.func3, Try.ntmps3
  go_wp2_with fail
  refine (h1 _).mono ?_
  rintro x w1 ⟨rfl, b1⟩
  clear h1
  go_wp2_with fail
  refine (h2 _).mono ?_
  rintro x w2 ⟨rfl, b2⟩
  have bA := b1.trans (b2.mono b1.size)
  clear h2
  go_wp2_with fail
  refine (h3 _).mono ?_
  rintro x w3 ⟨rfl, b3⟩
  have bB := bA.trans (b3.mono bA.size)
  clear h3
  go_wp2_with fail
  refine (h4 _).mono ?_
  rintro x w4 ⟨rfl, b4⟩
  have bC := bB.trans (b4.mono bB.size)
  clear h4
  go_wp2_with fail
  refine (trAwake_any _).mono ?_
  rintro x w5 ⟨rfl, b5⟩
  have bD := bC.trans (b5.mono bC.size)
  go_wp2
  go_ret
  exact ⟨rfl, bD⟩

theorem tiersKept_core (l : Int) (hl0 : -9223372036854775808 ≤ l) :
    (∃ L : List Nat, (∀ w, Calls Try.prog 12 #[.int .i64 l] w fun x w' => ∃ v, x = .returned v ∧ IA w' v L ∧ Below w.heap.size w w') ∧ (∀ w, Calls Try.prog 13 #[.int .i64 l] w fun x w' => ∃ v, x = .returned v ∧ IA w' v L ∧ Below w.heap.size w w')) ∧
    (∃ g : Int, (∀ w, Calls Try.prog 14 #[.int .i64 l] w fun x w' => x = .returned (.int .i64 g) ∧ Below w.heap.size w w') ∧ (∀ w, Calls Try.prog 15 #[.int .i64 l] w fun x w' => x = .returned (.int .i64 g) ∧ Below w.heap.size w w')) :=
  ⟨⟨keptI l, kept_any l hl0, rkept_any l hl0⟩, ⟨gapI l, gap_any l hl0, by rw [gap_same]; exact rgap_any l hl0⟩⟩

set_option maxRecDepth 100000 in
set_option maxHeartbeats 1000000 in
theorem tiersKept_rest (l l' : Int) (hl0 : -9223372036854775808 ≤ l') (hq : (3000 < l ∧ l ≤ 1048576 ∧ l' = 3000 + l % 3000) ∨ (¬ (3000 < l ∧ l ≤ 1048576) ∧ l' = l)) (w : World) :
    Calls Try.prog 4 #[.int .i64 l] w fun x w' => x = .returned (.bool true) ∧ Below w.heap.size w w' := by
  obtain ⟨⟨L, h1, h2⟩, ⟨g, h3, h4⟩⟩ := tiersKept_core l' hl0
  rcases hq with ⟨q1, q2, rfl⟩ | ⟨q1, rfl⟩
  · have m0 : 0 ≤ l % 3000 := by omega
    have m1 : l % 3000 < 3000 := by omega
    go_enter Try.func4, Try.ntmps4
    go_wp2_with fail
    refine (h1 _).mono ?_
    rintro x w1 ⟨v1, rfl, i1, b1⟩
    obtain ⟨p1, c1, rfl⟩ := i1.shape
    clear h1
    go_wp2_with fail
    refine (h2 _).mono ?_
    rintro x w2 ⟨v2, rfl, i2, b2⟩
    obtain ⟨p2, c2, rfl⟩ := i2.shape
    have hE := slequal_same _ _ L w2 (i1.later b2) i2
    have bA := b1.trans (b2.mono b1.size)
    clear h2 i1 i2
    go_wp2_with fail
    refine hE.mono ?_
    rintro x w3 ⟨rfl, b3⟩
    have bB := bA.trans (b3.mono bA.size)
    clear hE
    go_wp2_with fail
    refine (h3 _).mono ?_
    rintro x w4 ⟨rfl, b4⟩
    have bC := bB.trans (b4.mono bB.size)
    clear h3
    go_wp2_with fail
    refine (h4 _).mono ?_
    rintro x w5 ⟨rfl, b5⟩
    have bD := bC.trans (b5.mono bC.size)
    clear h4
    go_wp2_with fail
    refine (trAwake_any _).mono ?_
    rintro x w6 ⟨rfl, b6⟩
    have bE := bD.trans (b6.mono bD.size)
    go_wp2
    go_ret
    exact ⟨rfl, bE⟩
  · rcases (by omega : l' ≤ 3000 ∨ (3000 < l' ∧ 1048576 < l')) with q2 | ⟨q2, q3⟩
    · clear q1
      go_enter Try.func4, Try.ntmps4
      go_wp2_with fail
      refine (h1 _).mono ?_
      rintro x w1 ⟨v1, rfl, i1, b1⟩
      obtain ⟨p1, c1, rfl⟩ := i1.shape
      clear h1
      go_wp2_with fail
      refine (h2 _).mono ?_
      rintro x w2 ⟨v2, rfl, i2, b2⟩
      obtain ⟨p2, c2, rfl⟩ := i2.shape
      have hE := slequal_same _ _ L w2 (i1.later b2) i2
      have bA := b1.trans (b2.mono b1.size)
      clear h2 i1 i2
      go_wp2_with fail
      refine hE.mono ?_
      rintro x w3 ⟨rfl, b3⟩
      have bB := bA.trans (b3.mono bA.size)
      clear hE
      go_wp2_with fail
      refine (h3 _).mono ?_
      rintro x w4 ⟨rfl, b4⟩
      have bC := bB.trans (b4.mono bB.size)
      clear h3
      go_wp2_with fail
      refine (h4 _).mono ?_
      rintro x w5 ⟨rfl, b5⟩
      have bD := bC.trans (b5.mono bC.size)
      clear h4
      go_wp2_with fail
      refine (trAwake_any _).mono ?_
      rintro x w6 ⟨rfl, b6⟩
      have bE := bD.trans (b6.mono bD.size)
      go_wp2
      go_ret
      exact ⟨rfl, bE⟩
    · clear q1
      go_enter Try.func4, Try.ntmps4
      go_wp2_with fail
      refine (h1 _).mono ?_
      rintro x w1 ⟨v1, rfl, i1, b1⟩
      obtain ⟨p1, c1, rfl⟩ := i1.shape
      clear h1
      go_wp2_with fail
      refine (h2 _).mono ?_
      rintro x w2 ⟨v2, rfl, i2, b2⟩
      obtain ⟨p2, c2, rfl⟩ := i2.shape
      have hE := slequal_same _ _ L w2 (i1.later b2) i2
      have bA := b1.trans (b2.mono b1.size)
      clear h2 i1 i2
      go_wp2_with fail
      refine hE.mono ?_
      rintro x w3 ⟨rfl, b3⟩
      have bB := bA.trans (b3.mono bA.size)
      clear hE
      go_wp2_with fail
      refine (h3 _).mono ?_
      rintro x w4 ⟨rfl, b4⟩
      have bC := bB.trans (b4.mono bB.size)
      clear h3
      go_wp2_with fail
      refine (h4 _).mono ?_
      rintro x w5 ⟨rfl, b5⟩
      have bD := bC.trans (b5.mono bC.size)
      clear h4
      go_wp2_with fail
      refine (trAwake_any _).mono ?_
      rintro x w6 ⟨rfl, b6⟩
      have bE := bD.trans (b6.mono bD.size)
      go_wp2
      go_ret
      exact ⟨rfl, bE⟩

theorem tiersKeptWalk (l : Int) (hl0 : -9223372036854775808 ≤ l) (w : World) :
    Calls Try.prog 4 #[.int .i64 l] w fun x w' => x = .returned (.bool true) ∧ Below w.heap.size w w' := by
  by_cases h : 3000 < l ∧ l ≤ 1048576
  · exact tiersKept_rest l (3000 + l % 3000) (by omega) (.inl ⟨h.1, h.2, rfl⟩) w
  · exact tiersKept_rest l l hl0 (.inr ⟨h, rfl⟩) w

theorem nrN_ge (m : Nat) : ∀ n k, k ≤ n → kpN m k = true → k ≤ nrN m n := by
  intro n
  induction n with
  | zero => intro k h _; omega
  | succ n ih =>
    intro k h hk
    rw [nrN]
    split
    · exact h
    · rename_i hn
      rcases Nat.lt_or_ge k (n + 1) with h1 | h1
      · exact ih k (by omega) hk
      · obtain rfl : k = n + 1 := by omega
        exact absurd hk hn

theorem nrN_near (m n : Nat) (h : n ≤ m) : n < nrN m n + 64 := by
  have h1 : kpN m (n - n % 64) = true := kpN_yes (by omega) (.inl (by omega))
  have h2 := nrN_ge m n (n - n % 64) (by omega) h1
  have h3 := Nat.mod_lt n (show 0 < 64 by decide)
  omega

theorem kpN_later (m e n : Nat) (h : n ≤ m) (he : m ≤ e) (hk : kpN e n = true) : kpN m n = true := by
  have h1 := of_decide_eq_true hk
  exact decide_eq_true (by omega)

theorem u64_nat (n : Int) : ∃ U : Nat, IntKind.u64.wrap n = (U : Int) ∧ U < 18446744073709551616 := by
  have e : IntKind.u64.wrap n = n % 18446744073709551616 := by simp [IntKind.wrap, IntKind.bits, IntKind.signed]
  exact ⟨(n % 18446744073709551616).toNat, by rw [e]; omega, by omega⟩

set_option maxRecDepth 100000 in
set_option maxHeartbeats 1000000 in
theorem tiersGoneWalk (a b c : Int) (w : World) :
    Calls Try.prog 5 #[.int .i64 a, .int .i64 b, .int .i64 c] w fun x w' => x = .returned (.bool true) ∧ Below w.heap.size w w' := by
  obtain ⟨U, hU, hU2⟩ := u64_nat a
  obtain ⟨V, hV, hV2⟩ := u64_nat b
  obtain ⟨X, hX, hX2⟩ := u64_nat c
  obtain ⟨m, hm⟩ : ∃ m, U % 5000 = m := ⟨_, rfl⟩
  obtain ⟨d, hd⟩ : ∃ d, X % 5000 = d := ⟨_, rfl⟩
  obtain ⟨n, hn⟩ : ∃ n, V % (m + 1) = n := ⟨_, rfl⟩
  have hm2 : m < 5000 := by omega
  have hd2 : d < 5000 := by omega
  have hnm : n ≤ m := by have := Nat.mod_lt V (show 0 < m + 1 by omega); omega
  have e1 : (U : Int) % 5000 = (m : Int) := by omega
  have e2 : (X : Int) % 5000 = (d : Int) := by omega
  have e3 : (V : Int) % ((m : Int) + 1) = (n : Int) := by rw [← hn]; simp
  have e4 : IntKind.u64.wrap ((m : Int) + 1) = (m : Int) + 1 := by
    have : IntKind.u64.wrap ((m : Int) + 1) = ((m : Int) + 1) % 18446744073709551616 := by simp [IntKind.wrap, IntKind.bits, IntKind.signed]
    rw [this]; omega
  have e5 : Int.tmod (U : Int) 5000 = (m : Int) := by rw [Int.tmod_eq_emod_of_nonneg (by omega)]; exact e1
  have e6 : Int.tmod (X : Int) 5000 = (d : Int) := by rw [Int.tmod_eq_emod_of_nonneg (by omega)]; exact e2
  have e7 : Int.tmod (V : Int) ((m : Int) + 1) = (n : Int) := by rw [Int.tmod_eq_emod_of_nonneg (by omega)]; exact e3
  have e8 : (m : Int) + (d : Int) = ((m + d : Nat) : Int) := by omega
  have hmz : ¬ ((m : Int) + 1 = 0) := by omega
  have c1 : ∀ w, Calls Try.prog 8 #[.int .i64 ((m : Int) + (d : Int)), .int .i64 (n : Int)] w fun x w' => x = .returned (.int .i64 (nrN (m + d) n : Int)) ∧ Below w.heap.size w w' := by
    intro w
    rw [e8, ← nrI_nat (by omega)]
    exact nearest_any _ _ (by omega) w
  have c2 : ∀ w, Calls Try.prog 6 #[.int .i64 (m : Int), .int .i64 (n : Int)] w fun x w' => x = .returned (.bool (kpN m n)) ∧ Below w.heap.size w w' := by
    intro w
    rw [← kpB_nat]
    exact keeps_any _ _ (by omega) w
  have c3 : ∀ k w, Calls Try.prog 6 #[.int .i64 ((m : Int) + (d : Int)), .int .i64 ((k : Nat) : Int)] w fun x w' => x = .returned (.bool (kpN (m + d) k)) ∧ Below w.heap.size w w' := by
    intro k w
    rw [e8, ← kpB_nat]
    exact keeps_any _ _ (by omega) w
  have c4 := c3 (nrN (m + d) n)
  rw [nrN_kept] at c4
  have c5 := c3 n
  have HL : Hid (kpN (m + d) n = true → kpN m n = true) := kpN_later m (m + d) n hnm (by omega)
  have n1 := nrN_le (m + d) n
  have n2 := nrN_near (m + d) n (by omega)
  generalize nrN (m + d) n = q at *
  generalize kpN m n = x1 at *
  generalize kpN (m + d) n = x2 at *
  have n3 : (q : Int) ≤ (n : Int) := by omega
  have n4 : (n : Int) - (q : Int) < 64 := by omega
  clear c3 hm hd hn e8 hU2 hV2 hX2
  go_enter Try.func5, Try.ntmps5
  go_wp2_with fail
  refine (c1 _).mono ?_
  rintro x w1 ⟨rfl, b1⟩
  clear c1
  go_wp2_with fail
  refine (c2 _).mono ?_
  rintro x w2 ⟨rfl, b2⟩
  have bA := b1.trans (b2.mono b1.size)
  clear c2
  cases x1 with
  | true =>
    clear HL c5
    have bB := bA
    go_wp2_with fail
    refine (c4 _).mono ?_
    rintro x w4 ⟨rfl, b4⟩
    have bC := bB.trans (b4.mono bB.size)
    clear c4
    go_wp2_with fail
    refine (trAwake_any _).mono ?_
    rintro x w5 ⟨rfl, b5⟩
    have bD := bC.trans (b5.mono bC.size)
    go_wp2
    go_ret
    exact ⟨rfl, bD⟩
  | false =>
    obtain rfl : x2 = false := by
      cases x2 with
      | true => exact absurd (HL.out rfl) (by decide)
      | false => rfl
    clear HL
    go_wp2_with fail
    refine (c5 _).mono ?_
    rintro x w3 ⟨rfl, b3⟩
    have bB := bA.trans (b3.mono bA.size)
    clear c5
    go_wp2_with fail
    refine (c4 _).mono ?_
    rintro x w4 ⟨rfl, b4⟩
    have bC := bB.trans (b4.mono bB.size)
    clear c4
    go_wp2_with fail
    refine (trAwake_any _).mono ?_
    rintro x w5 ⟨rfl, b5⟩
    have bD := bC.trans (b5.mono bC.size)
    go_wp2
    go_ret
    exact ⟨rfl, bD⟩

end Go.Proofs.Ytkpmenlhaeoedaa
