/- What this text proves: the walk of the statement MerkleFew over this program: it answers true for any arguments, and writes nothing that was there. -/
import Derived.Test.YtichffdkihifpaaDoorKAwake
namespace Go.Proofs.YtichffdkihifpaaDoor
open Go.RowKit

theorem ku64_nat (n : Int) : ∃ U : Nat, IntKind.u64.wrap n = (U : Int) ∧ U < 18446744073709551616 := by
  have e : IntKind.u64.wrap n = n % 18446744073709551616 := by simp [IntKind.wrap, IntKind.bits, IntKind.signed]
  exact ⟨(n % 18446744073709551616).toNat, by rw [e]; omega, by omega⟩

theorem cnt_all (n : Nat) : cntF (n : Int) 0 (n : Int) = 0 := by
  unfold cntF
  split
  · rw [wo_in ⟨by omega, by omega⟩]; rfl
  · rfl

theorem cnt_few (n lo hi f : Nat) (h1 : lo < hi) (h2 : hi ≤ n) (h3 : n ≤ 1048576) (hf : n ≤ 2 ^ f) : cntF (n : Int) (lo : Int) (hi : Int) ≤ 2 * f := by
  unfold cntF
  rw [if_pos (by omega)]
  simp only [Int.toNat_natCast]
  rw [wo_fuel 20 f 0 n (by omega) (by omega) (by simpa using hf) (by omega)]
  exact wo_few f 0 n (by omega) (by simpa using hf) (by omega) h1 (by omega) (by omega)

set_option maxRecDepth 100000 in
set_option maxHeartbeats 1000000 in
theorem kfewWalk (n lo hi : Int) (w : World) (hT : Tabs w) :
    Calls Tryd.prog 6 #[.int .i64 n, .int .i64 lo, .int .i64 hi] w fun e w' => e = .returned (.bool true) ∧ Below w.heap.size w w' := by
  obtain ⟨U, hU, hU2⟩ := ku64_nat n
  obtain ⟨V, hV, hV2⟩ := ku64_nat lo
  obtain ⟨X, hX, hX2⟩ := ku64_nat hi
  obtain ⟨N, hN⟩ : ∃ N : Nat, N = 1 + U % 1048576 := ⟨_, rfl⟩
  obtain ⟨A, hA⟩ : ∃ A : Nat, A = V % N := ⟨_, rfl⟩
  obtain ⟨D, hD⟩ : ∃ D : Nat, D = X % (N - A) := ⟨_, rfl⟩
  have hN1 : N ≤ 1048576 := by omega
  have hN0 : 0 < N := by omega
  have hA1 : A < N := by rw [hA]; exact Nat.mod_lt _ hN0
  have hD1 : D < N - A := by rw [hD]; exact Nat.mod_lt _ (by omega)
  have eN : 1 + (U : Int) % 1048576 = (N : Int) := by omega
  have eA : (V : Int) % (N : Int) = (A : Int) := by rw [hA]; exact (Int.natCast_emod V N).symm
  have eD : (X : Int) % ((N : Int) - (A : Int)) = (D : Int) := by rw [hD, show ((N : Int) - (A : Int)) = ((N - A : Nat) : Int) by omega]; exact (Int.natCast_emod X (N - A)).symm
  have hdz : ((N : Int) - (A : Int) == 0) = false := by simp; omega
  have hnz : ((N : Int) == 0) = false := by simp; omega
  clear hN hA hD
  go_enter Tryd.func6, Tryd.ntmps6
  go_wp2_with fail
  clear hU hV hX eN eA eD hdz hnz
  obtain ⟨B, hB⟩ : ∃ B : Nat, B = A + 1 + D := ⟨_, rfl⟩
  have eB : (A : Int) + 1 + (D : Int) = (B : Int) := by omega
  rw [eB]
  have hB1 : B ≤ N := by omega
  have hAB : A < B := by omega
  have hC := fun w => count_any (N : Int) (A : Int) (B : Int) w
  have hZ := fun w => count_any (N : Int) 0 (N : Int) w
  rw [cnt_all] at hZ
  have HF : Hid (∀ f, N ≤ 2 ^ f → cntF (N : Int) (A : Int) (B : Int) ≤ 2 * f) := fun f hf => cnt_few N A B f hAB hB1 hN1 hf
  clear eB hB hD1
  go_loop [7, 8] (fun b k => ∃ i q : Nat, Hid (q = N / 2 ^ i) ∧ i ≤ 21 ∧ b = .int .i64 (i : Int) ∧ k = .int .i64 (q : Int)) (fun _ k => (intOf k).toNat)
  case atStart => exact ⟨0, N, by show _ = _; simp, by omega, rfl, rfl⟩
  case round =>
    obtain ⟨i, q, hq, hi21, rfl, rfl⟩ := hrel
    by_cases h0 : 0 < q
    · have hi20 : i ≤ 20 := by
        rcases Nat.lt_or_ge 20 i with h | h
        · obtain rfl : i = 21 := by omega
          have := hq.out
          omega
        · exact h
      have hq2 : q ≤ 1048576 := by rw [hq.out]; exact Nat.le_trans (Nat.div_le_self _ _) hN1
      clear hC hZ HF
      go_wp2
      go_round
      case rel => exact ⟨i + 1, q / 2, by show _ = _; rw [hq.out, Nat.pow_succ, Nat.div_div_eq_div_mul], by omega, by go_num, by go_num⟩
      case measure => simp [intOf]; omega
    · obtain rfl : q = 0 := by omega
      have hle : N ≤ 2 ^ i := by
        have h1 := hq.out
        have h2 : N / 2 ^ i < 1 := by omega
        have h3 := (Nat.div_lt_iff_lt_mul (Nat.pow_pos (n := i) (show 0 < 2 by decide))).1 h2
        omega
      have hf := HF.out i hle
      generalize cntF (N : Int) (A : Int) (B : Int) = C at *
      clear hq HF hle
      have hci : (C : Int) ≤ 2 * (i : Int) := by omega
      go_wp2_with fail
      refine (hC _).mono ?_
      rintro x w1 ⟨rfl, hb1⟩
      go_wp2_with fail
      refine (hZ _).mono ?_
      rintro x w2 ⟨rfl, hb2⟩
      have hb02 := hb1.trans (hb2.mono hb1.size)
      go_wp2_with fail
      refine (mkAwake_any _ (hT.later hb02)).mono ?_
      rintro x w3 ⟨rfl, hb3⟩
      have hb03 := hb02.trans (hb3.mono hb02.size)
      go_wp2
      go_ret
      exact ⟨rfl, hb03⟩

end Go.Proofs.YtichffdkihifpaaDoor
