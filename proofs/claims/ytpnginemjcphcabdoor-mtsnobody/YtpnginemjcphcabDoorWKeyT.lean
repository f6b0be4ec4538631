/- What this text proves: the walk of wots.Key over this program; the key lies in a block of bytes. -/
import Derived.Test.YtpnginemjcphcabDoorWKey1
import Derived.Test.YtpnginemjcphcabDoorHashT
namespace Go.Proofs.YtpnginemjcphcabDoor
open Go.RowKit

set_option maxRecDepth 100000 in
set_option maxHeartbeats 4000000 in
theorem closedK_ty (n : Nat) (index : Int) (q1 q2 q3 : Value) (E : Nat → List UInt8) (w : World) (hn : 1 ≤ n) (hn2 : n ≤ 32) (hE : ∀ i, (E i).length ≤ n) (hT : Tabs w)
    (hf : ∀ (i : Nat) w', i < 4 * n + 5 → Below w.heap.size w w' → Calls Tryd.prog 87 #[.int .i64 (i : Int), q1, q2, q3] w' fun e w'' => ∃ p c, e = .returned (.slice p (E i).length c) ∧ HB w'' (.slice p (E i).length c) (E i) ∧ Below w'.heap.size w' w'') :
    Calls Tryd.prog 65 #[.int .i64 (n : Int), .int .i64 index, .func (.func 87) #[] #[q1, q2, q3]] w fun e w' => ∃ p c, e = .returned (.slice p (hashF n 8 [numB index, endsF E (4 * n + 5)]).length c) ∧ HB w' (.slice p (hashF n 8 [numB index, endsF E (4 * n + 5)]).length c) (hashF n 8 [numB index, endsF E (4 * n + 5)]) ∧ Below w.heap.size w w' ∧ TB w' (.slice p (hashF n 8 [numB index, endsF E (4 * n + 5)]).length c) := by
  have hA := fun w' => number_to index w'
  obtain ⟨Y, hY⟩ : ∃ Y, Y = hashF n 8 [numB index, endsF E (4 * n + 5)] := ⟨_, rfl⟩
  have HY : Hid (Y = hashF n 8 [numB index, endsF E (4 * n + 5)]) := hY
  rw [← hY]
  clear hY
  have hCC := fun w' => chaincount_any n w' (by omega)
  obtain ⟨i0, hi, hz0, hz1, hz2⟩ := info_parts i_u8
  have hEL := fun k => endsF_len E n hE k
  have HEL : Hid (∀ k, (endsF E k).length ≤ k * n) := hEL
  have HEn : Hid (∀ i, (E i).length ≤ n) := hE
  have HE1 : Hid (∀ k, endsF E (k + 1) = endsF E k ++ E k) := fun _ => rfl
  have HE0 : Hid (endsF E 0 = []) := rfl
  have HF : Hid (∀ (i : Nat) w', i < 4 * n + 5 → Below w.heap.size w w' → Calls Tryd.prog 87 #[.int .i64 (i : Int), q1, q2, q3] w' fun e w'' => ∃ p c, e = .returned (.slice p (E i).length c) ∧ HB w'' (.slice p (E i).length c) (E i) ∧ Below w'.heap.size w' w'') := hf
  clear hE hEL hf
  generalize numB index = A at *
  generalize endsF E = EE at *
  go_enter Tryd.func65, Tryd.ntmps65
  go_wp2_with fail
  refine (hCC _).mono ?_
  rintro e w1 ⟨rfl, hw1⟩
  have hw2 := hw1.symm
  clear hw1
  subst hw2
  have hmul : (4 * (n : Int) + 5) * (n : Int) = (((4 * n + 5) * n : Nat) : Int) := by push_cast; rfl
  have hmulb : (4 * n + 5) * n ≤ 5000 := by
    have := Nat.mul_le_mul (show 4 * n + 5 ≤ 133 by omega) hn2
    omega
  generalize (4 * n + 5) * n = P at *
  go_wp2_with (first | (at_make; refine wpList_make_own _ rfl _ _ 22 rfl w.heap.size 5 i0 (.int .u8 0) 1 Tryd.underlying22 hi hz0 hz1 .i64 .i64 _ P rfl rfl ?qa ?qb ?qc ?qd ?_))
  all_goals (try (first | omega | (rw [hz2]; omega) | (unfold maxLen; omega)))
  intro w1 hown1 hgrow1
  have hb1 : Below w.heap.size w w1 := (Below.refl _ w).grown hgrow1 (Nat.le_refl _) (by intro k hk; cases hk)
  have hown2 : w1.ownsRow w.heap.size 5 1 (.slice (some ⟨w.heap.size, 0, none⟩) 0 P) (EE 0).length (bcs (EE 0)) := by
    rw [HE0.out]
    simpa [bcs] using hown1
  clear hown1 hgrow1
  go_wp2_with fail
  refine (hCC _).mono ?_
  rintro e w2 ⟨rfl, hw1⟩
  have hw2 := hw1.symm
  clear hw1
  subst hw2
  go_wp2
  go_loopw [7, 16] (fun v i wr => ∃ k : Nat, k ≤ 4 * n + 5 ∧ i = .int .i64 k ∧ wr.ownsRow w.heap.size 5 1 v (EE k).length (bcs (EE k)) ∧ Below w.heap.size w wr) (fun _ i _ => 4 * n + 5 - (intOf i).toNat)
  case atStart => exact ⟨0, Nat.zero_le _, rfl, hown2, hb1⟩
  case round =>
    obtain ⟨k, hk, rfl, hown, hbe⟩ := hrel
    clear hown2 hb1
    by_cases hlt : k < 4 * n + 5
    · have hlt2 : (k : Int) < 4 * (n : Int) + 5 := by omega
      have hEk := HEL.out k
      have hEn := HEn.out k
      have hkn : k * n ≤ 5000 := by
        have := Nat.mul_le_mul (show k ≤ 133 by omega) hn2
        omega
      have hcall := HF.out k wr hlt hbe
      have HS : Hid (EE (k + 1) = EE k ++ E k) := HE1.out k
      generalize E k = Z at *
      generalize hX : EE k = X at *
      have HX : Hid (EE k = X) := hX
      clear hX
      have hsz := hbe.size
      go_wp2_with fail
      refine hcall.mono ?_
      rintro e w3 ⟨p3, c3, rfl, h3, hb3⟩
      have hown3 := owns_later hown hb3
      have hb03 := hbe.trans (hb3.mono hsz)
      have hsz3 := hb03.size
      clear hcall hown hb3
      go_wp2_with (first | (at_builtin; refine wpList_append_hb rfl (.tmp 19) (.tmp 22) 22 rfl w.heap.size 5 Tryd.underlying22 i_u8 _ _ _ rfl hown3 _ _ _ Z rfl h3 ?sa ?sb ?_))
      case sa => omega
      case sb => omega
      intro v4 w4 hown4 hgrow4
      have hb4 : Below w.heap.size w w4 := hb03.grown hgrow4 hsz3 (fun k hk => (hown3.lt k hk).1)
      have hown5 : w4.ownsRow w.heap.size 5 1 v4 (EE (k + 1)).length (bcs (EE (k + 1))) := by
        rw [HS.out, List.length_append, bcs_append]
        exact hown4
      clear hown4 hown3 hgrow4 hb03 h3
      go_wp2
      go_roundw
      case rel => first | exact ⟨k + 1, by omega, by go_num, hown5, hb4⟩ | ((repeat apply Exists.intro); exact ⟨⟨k + 1, by omega, by go_num, hown5, hb4⟩, rfl⟩)
      case measure => simp [intOf]; omega
    · obtain rfl : k = 4 * n + 5 := by omega
      have hEk := HEL.out (4 * n + 5)
      have h2 := HB.of_owns hown
      obtain ⟨p2, c2, rfl⟩ := h2.shape
      generalize EE (4 * n + 5) = Z at *
      clear hown
      have hTr := hT.later hbe
      go_wp2_with fail
      refine (hA _).mono ?_
      rintro e w3 ⟨p3, c3, rfl, h3, hb3⟩
      have hb03 := hbe.trans (hb3.mono hbe.size)
      have g2 := h2.later hb3
      have hT3 := hTr.later hb3
      clear h2 hb3 hbe hTr
      go_wp2_with fail
      have hbA : Below w.heap.size w (w3.alloc (.cells #[.slice p3 8 c3, .slice p2 Z.length c2] 22)) := hb03.alloc hb03.size _
      refine (hash_toT n 8 _ [A, Z] _ (by simp) (by decide) (PA.lit w3 22 [_, _] _ 2 rfl rfl (by decide) (two_hb h3 g2)) (hT3.later ((Below.refl _ w3).alloc (Nat.le_refl _) _))).mono ?_
      rintro e w6 ⟨p6, c6, rfl, h6, hb6, t6⟩
      rw [← HY.out] at h6 t6 ⊢
      have hb06 : Below w.heap.size w w6 := hbA.trans (hb6.mono hbA.size)
      go_wp2
      go_ret
      exact ⟨_, _, rfl, h6, hb06, t6⟩

set_option maxRecDepth 100000 in
set_option maxHeartbeats 2000000 in
theorem key_ty (n : Nat) (index : Int) (v : Value) (seed : List UInt8) (w : World) (h : HB w v seed) (hs : seed.length ≤ 64) (hn : 1 ≤ n) (hn2 : n ≤ 32) (hi : 0 ≤ index) (hi2 : index < 256) (hT : Tabs w) :
    Calls Tryd.prog 77 #[.int .i64 (n : Int), v, .int .i64 index] w fun e w' => ∃ p c, e = .returned (.tuple #[.slice p (keyW n seed index).length c, .int .i64 0]) ∧ HB w' (.slice p (keyW n seed index).length c) (keyW n seed index) ∧ Below w.heap.size w w' ∧ TB w' (.slice p (keyW n seed index).length c) := by
  obtain ⟨p, c, rfl⟩ := h.shape
  have hc : canB n index = true := by simp [canB]; omega
  have hC := fun w' => can_any n index w'
  rw [hc] at hC
  clear hc
  have hs2 : (seed.length : Int) ≤ 64 := by omega
  have HK : Hid (keyW n seed index = hashF n 8 [numB index, endsF (endK n seed index) (4 * n + 5)]) := rfl
  generalize keyW n seed index = K at *
  go_enter Tryd.func77, Tryd.ntmps77
  go_wp2_with fail
  refine (hC _).mono ?_
  rintro e w1 ⟨rfl, hw1⟩
  subst hw1
  go_wp2_with fail
  have b1 : Below w.heap.size w (w.alloc (.cells #[.int .i64 (n : Int)] 3)) := (Below.refl _ w).alloc (Nat.le_refl _) _
  have b2 : Below w.heap.size w ((w.alloc (.cells #[.int .i64 (n : Int)] 3)).alloc (.cells #[.slice p seed.length c] 22)) := b1.alloc b1.size _
  have b3 := b2.alloc b2.size (.cells #[.int .i64 index] 3)
  have e1 : (((w.alloc (.cells #[.int .i64 (n : Int)] 3)).alloc (.cells #[.slice p seed.length c] 22)).alloc (.cells #[.int .i64 index] 3)).cell? ⟨w.heap.size, 0, none⟩ = some (.int .i64 (n : Int)) := by
    exact cell_later (((Below.refl _ _).alloc (Nat.le_refl _) _).alloc (by simp) _) (cell_box_at w _ _ _ rfl)
  have e2 : (((w.alloc (.cells #[.int .i64 (n : Int)] 3)).alloc (.cells #[.slice p seed.length c] 22)).alloc (.cells #[.int .i64 index] 3)).cell? ⟨w.heap.size + 1, 0, none⟩ = some (.slice p seed.length c) := by
    exact cell_later ((Below.refl _ _).alloc (Nat.le_refl _) _) (cell_box_at _ _ _ _ (by simp))
  have e3 : (((w.alloc (.cells #[.int .i64 (n : Int)] 3)).alloc (.cells #[.slice p seed.length c] 22)).alloc (.cells #[.int .i64 index] 3)).cell? ⟨w.heap.size + 1 + 1, 0, none⟩ = some (.int .i64 index) := by
    exact cell_box_at _ _ _ _ (by simp)
  generalize ((w.alloc (.cells #[.int .i64 (n : Int)] 3)).alloc (.cells #[.slice p seed.length c] 22)).alloc (.cells #[.int .i64 index] 3) = wa at *
  refine (closedK_ty n index _ _ _ (endK n seed index) wa hn hn2 (fun i => endK_le n hn2 seed index i) (hT.later b3) (fun i w' _ hb => keyf_any n index i p c _ _ _ seed w' ((h.later b3).later hb) ((hT.later b3).later hb) (cell_later hb e1) (cell_later hb e2) (cell_later hb e3))).mono ?_
  rintro e w4 ⟨p4, c4, rfl, h4, hb4, t4⟩
  rw [← HK.out] at h4 t4 ⊢
  have hb04 : Below w.heap.size w w4 := b3.trans (hb4.mono b3.size)
  go_wp2
  go_ret2
  exact ⟨_, _, rfl, h4, hb04, t4⟩

end Go.Proofs.YtpnginemjcphcabDoor
