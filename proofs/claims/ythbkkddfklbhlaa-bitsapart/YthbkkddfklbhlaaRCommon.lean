/- What this text proves: the walk of the document's Common (annalsref03) over this program: how many first bits two rows of bytes have in common; the world stays. -/
import Derived.Test.YthbkkddfklbhlaaRBit
namespace Go.Proofs.Ythbkkddfklbhlaa
open Go.RowKit

theorem bitF_nat (l : List UInt8) (n : Nat) : bitF l (n : Int) = bitN l n := by
  unfold bitF
  rw [if_neg (by omega)]
  simp

theorem rbit_nat (v : Value) (l : List UInt8) (n : Nat) (w : World) (h : HB w v l) (hn : n ≤ 9223372036854775807) :
    Calls Try.prog 13 #[v, .int .i64 (n : Int)] w fun e w' => e = .returned (.int .i64 (bitN l n)) ∧ w' = w := by
  have := rbit_any v l (n : Int) w h (by omega) (by omega)
  rwa [bitF_nat] at this

set_option maxHeartbeats 1000000 in
theorem rcommon_any (u v : Value) (a b : List UInt8) (w : World) (ha : HB w u a) (hb : HB w v b) (hsz : a.length ≤ 140737488355328) :
    Calls Try.prog 21 #[u, v] w fun e w' => e = .returned (.int .i64 (com a b : Int)) ∧ w' = w := by
  obtain ⟨p, c, rfl⟩ := ha.shape
  obtain ⟨q, d, rfl⟩ := hb.shape
  have hcl := (com_le a b).1
  have htest := com_test a b
  obtain ⟨N, hN⟩ : ∃ N, N = com a b := ⟨_, rfl⟩
  rw [← hN] at hcl htest ⊢
  clear hN
  have kA : ∀ n : Nat, n ≤ N → Calls Try.prog 13 #[.slice p a.length c, .int .i64 (n : Int)] w fun e w' => e = .returned (.int .i64 (bitN a n)) ∧ w' = w := fun n hn => rbit_nat _ a n w ha (by omega)
  have kB : ∀ n : Nat, n ≤ N → Calls Try.prog 13 #[.slice q b.length d, .int .i64 (n : Int)] w fun e w' => e = .returned (.int .i64 (bitN b n)) ∧ w' = w := fun n hn => rbit_nat _ b n w hb (by omega)
  clear ha hb
  go_enter Try.func21, Try.ntmps21
  go_wp2
  go_loopw [5] (fun i wr => ∃ k : Nat, k ≤ N ∧ i = .int .i64 k ∧ w = wr) (fun i _ => N - (intOf i).toNat)
  case atStart => exact ⟨0, Nat.zero_le _, rfl, rfl⟩
  case round =>
    obtain ⟨k, hk, rfl, rfl⟩ := hrel
    have hA := kA k hk
    have hB := kB k hk
    have ht := htest k hk
    clear kA kB htest
    generalize bitN a k = A at *
    generalize bitN b k = B at *
    by_cases h0 : 0 ≤ A
    · by_cases hE : A = B
      · subst hE
        have hlt : k < N := ht.1 ⟨h0, rfl⟩
        clear ht
        go_wp2_with (first | (go_at_call_of 13 (Value.slice p a.length c); refine hA.mono ?_; rintro e w1 ⟨rfl, hw⟩; subst hw) | (go_at_call_of 13 (Value.slice q b.length d); refine hB.mono ?_; rintro e w1 ⟨rfl, hw⟩; subst hw))
        exact ⟨⟨k + 1, by omega, by go_num, trivial⟩, by simp [intOf]; omega⟩
      · have hkN : Hid (k = N) := by
          have := fun h => hE (ht.2 h).2
          show k = N
          omega
        clear ht hk
        go_wp2_with (first | (go_at_call_of 13 (Value.slice p a.length c); refine hA.mono ?_; rintro e w1 ⟨rfl, hw⟩; subst hw) | (go_at_call_of 13 (Value.slice q b.length d); refine hB.mono ?_; rintro e w1 ⟨rfl, hw⟩; subst hw))
        go_ret
        exact ⟨by rw [← hkN.out]; rfl, rfl⟩
    · have hkN : Hid (k = N) := by
        have := fun h => h0 (ht.2 h).1
        show k = N
        omega
      have hd : decide (0 ≤ A) = false := by simpa using h0
      clear ht hk
      go_wp2_with (first | (go_at_call_of 13 (Value.slice p a.length c); refine hA.mono ?_; rintro e w1 ⟨rfl, hw⟩; subst hw) | (go_at_call_of 13 (Value.slice q b.length d); refine hB.mono ?_; rintro e w1 ⟨rfl, hw⟩; subst hw))
      go_ret
      exact ⟨by rw [← hkN.out]; rfl, rfl⟩

end Go.Proofs.Ythbkkddfklbhlaa
