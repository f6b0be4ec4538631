/- What this text proves: the walk of the statement BitsShorter over this program: it answers true for any arguments, and writes nothing that was there. -/
import Derived.Test.YthbkkddfklbhlaaBegins
import Derived.Test.YthbkkddfklbhlaaBitsAwake
namespace Go.Proofs.Ythbkkddfklbhlaa
open Go.RowKit

theorem u64_nat (n : Int) : ∃ U : Nat, IntKind.u64.wrap n = (U : Int) ∧ U < 18446744073709551616 := by
  have e : IntKind.u64.wrap n = n % 18446744073709551616 := by simp [IntKind.wrap, IntKind.bits, IntKind.signed]
  exact ⟨(n % 18446744073709551616).toNat, by rw [e]; omega, by omega⟩

theorem first_nat (v : Value) (l : List UInt8) (n : Nat) (w : World) (h : HB w v l) (hn : n ≤ 2100) (hbig : l.length ≤ 140737488355328) :
    Calls Try.prog 18 #[v, .int .i64 (n : Int)] w fun e w' => ∃ p c, e = .returned (.slice p (firstN l n).length c) ∧ HB w' (.slice p (firstN l n).length c) (firstN l n) ∧ Below w.heap.size w w' := by
  have := first_any v l (n : Int) w h (by omega) (by omega) hbig
  have e : firstF l (n : Int) = firstN l n := by unfold firstF; simp
  rwa [e] at this

set_option maxHeartbeats 1000000 in
theorem shortWalk (x : Value) (l : List UInt8) (n m : Int) (w : World) (h : HB w x l) (hsz : l.length ≤ 140737488351232) :
    Calls Try.prog 7 #[x, .int .i64 n, .int .i64 m] w fun e w' => e = .returned (.bool true) ∧ Below w.heap.size w w' := by
  obtain ⟨p, c, rfl⟩ := h.shape
  obtain ⟨U, hU, hU2⟩ := u64_nat n
  obtain ⟨V, hV, hV2⟩ := u64_nat m
  obtain ⟨N, hN⟩ : ∃ N, N = U % 2100 := ⟨_, rfl⟩
  obtain ⟨M, hM⟩ : ∃ M, M = V % 2100 := ⟨_, rfl⟩
  have eN : (U : Int) % 2100 = (N : Int) := by omega
  have eM : (V : Int) % 2100 = (M : Int) := by omega
  have hN2 : N < 2100 := by omega
  have hM2 : M < 2100 := by omega
  obtain ⟨K, hK⟩ : ∃ K, K = min N M := ⟨_, rfl⟩
  have hmin : min (N : Int) (M : Int) = (K : Int) := by omega
  have HF : Hid (firstN (firstN l N) M = firstN l K) := by show _ = _; rw [firstN_first, hK]
  have hK2 : K ≤ 2100 := by omega
  have hbf := begins_first l N
  have hlF : (firstN l N).length ≤ l.length := by rw [firstN_length]; omega
  clear hN hM hK
  go_enter Try.func7, Try.ntmps7
  go_wp2_with fail
  refine (first_nat _ l N _ h (by omega) (by omega)).mono ?_
  rintro e w1 ⟨p1, c1, rfl, k1, hb1⟩
  have cB : ∀ W u v, HB W u l → HB W v (firstN l N) → N ≤ 8 * l.length → Calls Try.prog 22 #[u, v, .int .i64 (N : Int)] W fun e w' => e = .returned (.bool true) ∧ Below W.heap.size W w' := by
    intro W u v h1 h2 h3
    have := begins_any u v l _ (N : Int) W h1 h2 (by omega)
    rwa [show decide ((N : Int) ≤ (com l (firstN l N) : Int)) = true by have := hbf h3; simp; omega] at this
  clear hbf
  go_wp2_with fail
  refine (first_nat _ (firstN l N) M _ k1 (by omega) (by omega)).mono ?_
  rintro e w2 ⟨p2, c2, rfl, k2, hb2⟩
  have hb02 := hb1.trans (hb2.mono hb1.size)
  have k12 := k1.later hb2
  clear hb1 hb2 k1
  go_wp2_with fail
  refine (first_nat _ l K _ (h.later hb02) hK2 (by omega)).mono ?_
  rintro e w3 ⟨p3, c3, rfl, k3, hb3⟩
  have hb03 := hb02.trans (hb3.mono hb02.size)
  have k13 := k12.later hb3
  have k23 := k2.later hb3
  clear hb02 hb3 k12 k2
  go_wp2_with fail
  refine (equal_t _ _ _ _ _ k23 k3 HF.out).mono ?_
  rintro e w4 ⟨rfl, rfl⟩
  clear k23 k3 HF
  by_cases hlong : 8 * (l.length : Int) < (N : Int)
  · go_wp2_with fail
    refine (bitsAwake_any _).mono ?_
    rintro e w6 ⟨rfl, hb6⟩
    have hb06 := hb03.trans (hb6.mono hb03.size)
    go_wp2
    go_ret
    exact ⟨rfl, hb06⟩
  · have hd : decide (8 * (l.length : Int) < (N : Int)) = false := by simpa using hlong
    go_wp2_with fail
    refine (cB _ _ _ (h.later hb03) k13 (by omega)).mono ?_
    rintro e w5 ⟨rfl, hb5⟩
    have hb05 := hb03.trans (hb5.mono hb03.size)
    go_wp2_with fail
    refine (bitsAwake_any _).mono ?_
    rintro e w6 ⟨rfl, hb6⟩
    have hb06 := hb05.trans (hb6.mono hb05.size)
    go_wp2
    go_ret
    exact ⟨rfl, hb06⟩

end Go.Proofs.Ythbkkddfklbhlaa
