/- What this text proves: the walk of the document's Side (annalsref03) over this program. -/
import Derived.Test.YthbkkddfklbhlaaBegins
namespace Go.Proofs.Ythbkkddfklbhlaa
open Go.RowKit

set_option maxHeartbeats 2000000 in
theorem rside_any (u v : Value) (a b : List UInt8) (n : Int) (w : World) (ha : HB w u a) (hb : HB w v b) (hsz : a.length ≤ 140737488355328) :
    Calls Try.prog 25 #[u, .int .i64 n, v] w fun e w' => e = .returned (.int .i64 (sideF a n b)) ∧ w' = w := by
  obtain ⟨p, c, rfl⟩ := ha.shape
  obtain ⟨q, d, rfl⟩ := hb.shape
  have hle := com_le a b
  have hlow := com_low a b
  have hstop := com_stop a b
  have hS : sideF a n b = if n ≤ (com a b : Int) ∨ com a b = 8 * min a.length b.length then 0 else 2 * bitN a (com a b) - 1 := rfl
  obtain ⟨S, hS2⟩ : ∃ S, S = sideF a n b := ⟨_, rfl⟩
  rw [← hS2] at hS ⊢
  clear hS2
  obtain ⟨N, hN⟩ : ∃ N, N = com a b := ⟨_, rfl⟩
  rw [← hN] at hle hlow hstop hS
  clear hN
  have kA : ∀ n : Nat, n ≤ N → Calls Try.prog 13 #[.slice p a.length c, .int .i64 (n : Int)] w fun e w' => e = .returned (.int .i64 (bitN a n)) ∧ w' = w := fun n hn => rbit_nat _ a n w ha (by omega)
  have kB : ∀ n : Nat, n ≤ N → Calls Try.prog 13 #[.slice q b.length d, .int .i64 (n : Int)] w fun e w' => e = .returned (.int .i64 (bitN b n)) ∧ w' = w := fun n hn => rbit_nat _ b n w hb (by omega)
  clear ha hb
  go_enter Try.func25, Try.ntmps25
  go_wp2
  go_loopw [7] (fun i wr => ∃ k : Nat, k ≤ N ∧ i = .int .i64 k ∧ w = wr) (fun i _ => N - (intOf i).toNat)
  case atStart => exact ⟨0, Nat.zero_le _, rfl, rfl⟩
  case round =>
    obtain ⟨k, hk, rfl, rfl⟩ := hrel
    have hA := kA k hk
    have hB := kB k hk
    clear kA kB
    by_cases hkn : n ≤ (k : Int)
    · have HS0 : Hid (S = 0) := by show S = 0; rw [hS, if_pos (.inl (by omega))]
      have hd : decide ((k : Int) < n) = false := by simp; omega
      clear hS hlow hstop hk hle
      go_wp2
      go_ret
      exact ⟨by rw [HS0.out]; rfl, rfl⟩
    · have hd : decide ((k : Int) < n) = true := by simp; omega
      have hd' : (k : Int) < n := by omega
      have hra := bitN_range a k
      have hrb := bitN_range b k
      have hna := bitN_nonneg (l := a) (n := k)
      have hnb := bitN_nonneg (l := b) (n := k)
      by_cases hlt : k < N
      · have hl := hlow k hlt
        have e := hl.2.2
        have h0 : 0 ≤ bitN a k := hna.2 hl.1
        rw [← e] at hB
        clear hlow hstop hS hna hnb hl hrb e hra
        generalize bitN a k = A at *
        go_wp2_with (first | (go_at_call_of 13 (Value.slice p a.length c); refine hA.mono ?_; rintro e w1 ⟨rfl, hw⟩; subst hw) | (go_at_call_of 13 (Value.slice q b.length d); refine hB.mono ?_; rintro e w1 ⟨rfl, hw⟩; subst hw))
        exact ⟨⟨k + 1, by omega, by go_num, trivial⟩, by simp [intOf]; omega⟩
      · obtain rfl : k = N := by omega
        by_cases hza : k = 8 * a.length
        · have HS0 : Hid (S = 0) := by show S = 0; rw [hS, if_pos (.inr (by omega))]
          have hneg : ¬ 0 ≤ bitN a k := fun h => by have := hna.1 h; omega
          have hdA : decide (0 ≤ bitN a k) = false := by simpa using hneg
          clear hlow hstop hS hna hnb hrb hra hza hle hk hlt hneg
          generalize bitN a k = A at *
          go_wp2_with (first | (go_at_call_of 13 (Value.slice p a.length c); refine hA.mono ?_; rintro e w1 ⟨rfl, hw⟩; subst hw) | (go_at_call_of 13 (Value.slice q b.length d); refine hB.mono ?_; rintro e w1 ⟨rfl, hw⟩; subst hw))
          go_ret
          exact ⟨by rw [HS0.out]; rfl, rfl⟩
        · have h0 : 0 ≤ bitN a k := hna.2 (by omega)
          by_cases hzb : k = 8 * b.length
          · have HS0 : Hid (S = 0) := by show S = 0; rw [hS, if_pos (.inr (by omega))]
            have hneg : ¬ 0 ≤ bitN b k := fun h => by have := hnb.1 h; omega
            have hdB : decide (0 ≤ bitN b k) = false := by simpa using hneg
            clear hlow hstop hS hna hnb hrb hra hza hzb hle hk hlt hneg
            generalize bitN a k = A at *
            generalize bitN b k = B at *
            go_wp2_with (first | (go_at_call_of 13 (Value.slice p a.length c); refine hA.mono ?_; rintro e w1 ⟨rfl, hw⟩; subst hw) | (go_at_call_of 13 (Value.slice q b.length d); refine hB.mono ?_; rintro e w1 ⟨rfl, hw⟩; subst hw))
            go_ret
            exact ⟨by rw [HS0.out]; rfl, rfl⟩
          · have h0b : 0 ≤ bitN b k := hnb.2 (by omega)
            have hne : bitN a k ≠ bitN b k := by rcases hstop with h | h | h; exact absurd h hza; exact absurd h hzb; exact h
            have HSS : Hid (S = 2 * bitN a k - 1) := by show S = 2 * bitN a k - 1; rw [hS, if_neg (by omega)]
            clear hlow hstop hS hna hnb hza hzb hle hk hlt
            generalize bitN a k = A at *
            generalize bitN b k = B at *
            go_wp2_with (first | (go_at_call_of 13 (Value.slice p a.length c); refine hA.mono ?_; rintro e w1 ⟨rfl, hw⟩; subst hw) | (go_at_call_of 13 (Value.slice q b.length d); refine hB.mono ?_; rintro e w1 ⟨rfl, hw⟩; subst hw))
            go_ret
            refine ⟨congrArg (fun z => Ending.returned (Value.int .i64 z)) ?_, rfl⟩
            have := HSS.out
            omega

end Go.Proofs.Ythbkkddfklbhlaa
