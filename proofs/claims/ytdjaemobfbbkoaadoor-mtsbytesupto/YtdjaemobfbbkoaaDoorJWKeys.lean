/- What this text proves: the walks of wots.can, wots.Key and wots.closed over this program: the key of any number, or the error. -/
import Derived.Test.YtdjaemobfbbkoaaDoorJWChain
import Derived.Test.YtdjaemobfbbkoaaDoorJDig
namespace Go.Proofs.YtdjaemobfbbkoaaDoor
open Go.RowKit

/-- Whether there are digests of that size, and a key of that number. -/
def canB (size index : Int) : Bool := decide (1 ≤ size ∧ size ≤ 32 ∧ 0 ≤ index ∧ index < 256)

set_option maxRecDepth 100000 in
set_option maxHeartbeats 400000 in
theorem can_any (size index : Int) (w : World) :
    Calls Tryd.prog 44 #[.int .i64 size, .int .i64 index] w fun e w' => e = .returned (.bool (canB size index)) ∧ w' = w := by
  by_cases h1 : 1 ≤ size
  · by_cases h2 : size ≤ 32
    · by_cases h3 : 0 ≤ index
      · by_cases h4 : index < 256
        · have hc : canB size index = true := by simp [canB]; omega
          rw [hc]
          clear hc
          go_enter Tryd.func44, Tryd.ntmps44
          go_wp2
          go_ret
          exact ⟨rfl, rfl⟩
        · have hc : canB size index = false := by simp [canB]; omega
          rw [hc]
          clear hc
          go_enter Tryd.func44, Tryd.ntmps44
          go_wp2
          go_ret
          exact ⟨rfl, rfl⟩
      · have hc : canB size index = false := by simp [canB]; omega
        rw [hc]
        clear hc
        go_enter Tryd.func44, Tryd.ntmps44
        go_wp2
        go_ret
        exact ⟨rfl, rfl⟩
    · have hc : canB size index = false := by simp [canB]; omega
      rw [hc]
      clear hc
      go_enter Tryd.func44, Tryd.ntmps44
      go_wp2
      go_ret
      exact ⟨rfl, rfl⟩
  · have hc : canB size index = false := by simp [canB]; omega
    rw [hc]
    clear hc
    go_enter Tryd.func44, Tryd.ntmps44
    go_wp2
    go_ret
    exact ⟨rfl, rfl⟩

/-- All chains' ends, one behind the other. -/
def endsF (E : Nat → List UInt8) : Nat → List UInt8
  | 0 => []
  | k + 1 => endsF E k ++ E k

theorem endsF_len (E : Nat → List UInt8) (n : Nat) (hE : ∀ i, (E i).length ≤ n) : ∀ k, (endsF E k).length ≤ k * n
  | 0 => by simp [endsF]
  | k + 1 => by
    have h1 := endsF_len E n hE k
    have h2 := hE k
    rw [endsF, List.length_append, Nat.succ_mul]
    omega

set_option maxRecDepth 100000 in
set_option maxHeartbeats 4000000 in
theorem closedK_any (n : Nat) (index : Int) (q1 q2 q3 : Value) (E : Nat → List UInt8) (w : World) (hn : 1 ≤ n) (hn2 : n ≤ 32) (hE : ∀ i, (E i).length ≤ n) (hT : Tabs w)
    (hf : ∀ (i : Nat) w', i < 4 * n + 5 → Below w.heap.size w w' → Calls Tryd.prog 82 #[.int .i64 (i : Int), q1, q2, q3] w' fun e w'' => ∃ p c, e = .returned (.slice p (E i).length c) ∧ HB w'' (.slice p (E i).length c) (E i) ∧ Below w'.heap.size w' w'') :
    Calls Tryd.prog 57 #[.int .i64 (n : Int), .int .i64 index, .func (.func 82) #[] #[q1, q2, q3]] w fun e w' => ∃ p c, e = .returned (.slice p (hashF n 8 [numB index, endsF E (4 * n + 5)]).length c) ∧ HB w' (.slice p (hashF n 8 [numB index, endsF E (4 * n + 5)]).length c) (hashF n 8 [numB index, endsF E (4 * n + 5)]) ∧ Below w.heap.size w w' := by
  have hA := fun w' => number_to index w'
  obtain ⟨Y, hY⟩ : ∃ Y, Y = hashF n 8 [numB index, endsF E (4 * n + 5)] := ⟨_, rfl⟩
  have HY : Hid (Y = hashF n 8 [numB index, endsF E (4 * n + 5)]) := hY
  rw [← hY]
  clear hY
  have hCC := fun w' => chaincount_any n w' (by omega)
  obtain ⟨i0, hi, hz0, hz1, hz2⟩ := info_parts i_u8
  have hEL := fun k => endsF_len E n hE k
  have HEL : Hid (∀ k, (endsF E k).length ≤ k * n) := hEL
  have HEn : Hid (∀ i, (E i).length ≤ n) := hE
  have HE1 : Hid (∀ k, endsF E (k + 1) = endsF E k ++ E k) := fun _ => rfl
  have HE0 : Hid (endsF E 0 = []) := rfl
  have HF : Hid (∀ (i : Nat) w', i < 4 * n + 5 → Below w.heap.size w w' → Calls Tryd.prog 82 #[.int .i64 (i : Int), q1, q2, q3] w' fun e w'' => ∃ p c, e = .returned (.slice p (E i).length c) ∧ HB w'' (.slice p (E i).length c) (E i) ∧ Below w'.heap.size w' w'') := hf
  clear hE hEL hf
  generalize numB index = A at *
  generalize endsF E = EE at *
  go_enter Tryd.func57, Tryd.ntmps57
  go_wp2_with fail
  refine (hCC _).mono ?_
  rintro e w1 ⟨rfl, hw1⟩
  have hw2 := hw1.symm
  clear hw1
  subst hw2
  have hmul : (4 * (n : Int) + 5) * (n : Int) = (((4 * n + 5) * n : Nat) : Int) := by push_cast; rfl
  have hmulb : (4 * n + 5) * n ≤ 5000 := by
    have := Nat.mul_le_mul (show 4 * n + 5 ≤ 133 by omega) hn2
    omega
  generalize (4 * n + 5) * n = P at *
  go_wp2_with (first | (at_make; refine wpList_make_own _ rfl _ _ 22 rfl w.heap.size 5 i0 (.int .u8 0) 1 Tryd.underlying22 hi hz0 hz1 .i64 .i64 _ P rfl rfl ?qa ?qb ?qc ?qd ?_))
  all_goals (try (first | omega | (rw [hz2]; omega) | (unfold maxLen; omega)))
  intro w1 hown1 hgrow1
  have hb1 : Below w.heap.size w w1 := (Below.refl _ w).grown hgrow1 (Nat.le_refl _) (by intro k hk; cases hk)
  have hown2 : w1.ownsRow w.heap.size 5 1 (.slice (some ⟨w.heap.size, 0, none⟩) 0 P) (EE 0).length (bcs (EE 0)) := by
    rw [HE0.out]
    simpa [bcs] using hown1
  clear hown1 hgrow1
  go_wp2_with fail
  refine (hCC _).mono ?_
  rintro e w2 ⟨rfl, hw1⟩
  have hw2 := hw1.symm
  clear hw1
  subst hw2
  go_wp2
  go_loopw [7, 16] (fun v i wr => ∃ k : Nat, k ≤ 4 * n + 5 ∧ i = .int .i64 k ∧ wr.ownsRow w.heap.size 5 1 v (EE k).length (bcs (EE k)) ∧ Below w.heap.size w wr) (fun _ i _ => 4 * n + 5 - (intOf i).toNat)
  case atStart => exact ⟨0, Nat.zero_le _, rfl, hown2, hb1⟩
  case round =>
    obtain ⟨k, hk, rfl, hown, hbe⟩ := hrel
    clear hown2 hb1
    by_cases hlt : k < 4 * n + 5
    · have hlt2 : (k : Int) < 4 * (n : Int) + 5 := by omega
      have hEk := HEL.out k
      have hEn := HEn.out k
      have hkn : k * n ≤ 5000 := by
        have := Nat.mul_le_mul (show k ≤ 133 by omega) hn2
        omega
      have hcall := HF.out k wr hlt hbe
      have HS : Hid (EE (k + 1) = EE k ++ E k) := HE1.out k
      generalize E k = Z at *
      generalize hX : EE k = X at *
      have HX : Hid (EE k = X) := hX
      clear hX
      have hsz := hbe.size
      go_wp2_with fail
      refine hcall.mono ?_
      rintro e w3 ⟨p3, c3, rfl, h3, hb3⟩
      have hown3 := owns_later hown hb3
      have hb03 := hbe.trans (hb3.mono hsz)
      have hsz3 := hb03.size
      clear hcall hown hb3
      go_wp2_with (first | (at_builtin; refine wpList_append_hb rfl (.tmp 19) (.tmp 22) 22 rfl w.heap.size 5 Tryd.underlying22 i_u8 _ _ _ rfl hown3 _ _ _ Z rfl h3 ?sa ?sb ?_))
      case sa => omega
      case sb => omega
      intro v4 w4 hown4 hgrow4
      have hb4 : Below w.heap.size w w4 := hb03.grown hgrow4 hsz3 (fun k hk => (hown3.lt k hk).1)
      have hown5 : w4.ownsRow w.heap.size 5 1 v4 (EE (k + 1)).length (bcs (EE (k + 1))) := by
        rw [HS.out, List.length_append, bcs_append]
        exact hown4
      clear hown4 hown3 hgrow4 hb03 h3
      go_wp2
      go_roundw
      case rel => first | exact ⟨k + 1, by omega, by go_num, hown5, hb4⟩ | ((repeat apply Exists.intro); exact ⟨⟨k + 1, by omega, by go_num, hown5, hb4⟩, rfl⟩)
      case measure => simp [intOf]; omega
    · obtain rfl : k = 4 * n + 5 := by omega
      have hEk := HEL.out (4 * n + 5)
      have h2 := HB.of_owns hown
      obtain ⟨p2, c2, rfl⟩ := h2.shape
      generalize EE (4 * n + 5) = Z at *
      clear hown
      have hTr := hT.later hbe
      go_wp2_with fail
      refine (hA _).mono ?_
      rintro e w3 ⟨p3, c3, rfl, h3, hb3⟩
      have hb03 := hbe.trans (hb3.mono hbe.size)
      have g2 := h2.later hb3
      have hT3 := hTr.later hb3
      clear h2 hb3 hbe hTr
      go_wp2_with fail
      have hbA : Below w.heap.size w (w3.alloc (.cells #[.slice p3 8 c3, .slice p2 Z.length c2] 22)) := hb03.alloc hb03.size _
      refine (hash_to n 8 _ [A, Z] _ (by simp) (by decide) (PA.lit w3 22 [_, _] _ 2 rfl rfl (by decide) (two_hb h3 g2)) (hT3.later ((Below.refl _ w3).alloc (Nat.le_refl _) _))).mono ?_
      rintro e w6 ⟨p6, c6, rfl, h6, hb6⟩
      rw [← HY.out] at h6 ⊢
      have hb06 : Below w.heap.size w w6 := hbA.trans (hb6.mono hbA.size)
      go_wp2
      go_ret
      exact ⟨_, _, rfl, h6, hb06⟩

end Go.Proofs.YtdjaemobfbbkoaaDoor
