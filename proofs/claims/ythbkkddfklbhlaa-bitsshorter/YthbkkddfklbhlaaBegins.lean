/- What this text proves: the walks of bits.Begins, bits.Side and of the document's Begins and Side over this program: whether a row of bits begins with another one's first n; where all that begin with a prefix stand of a row. -/
import Derived.Test.YthbkkddfklbhlaaCommon
import Derived.Test.YthbkkddfklbhlaaRCommon
import Derived.Test.YthbkkddfklbhlaaFirst
import Derived.Test.YthbkkddfklbhlaaRFirst
namespace Go.Proofs.Ythbkkddfklbhlaa
open Go.RowKit

set_option maxHeartbeats 400000 in
theorem begins_any (u v : Value) (a b : List UInt8) (n : Int) (w : World) (ha : HB w u a) (hb : HB w v b) (hsz : a.length ≤ 140737488355328) :
    Calls Try.prog 22 #[u, v, .int .i64 n] w fun e w' => e = .returned (.bool (decide (n ≤ (com a b : Int)))) ∧ Below w.heap.size w w' := by
  obtain ⟨p, c, rfl⟩ := ha.shape
  obtain ⟨q, d, rfl⟩ := hb.shape
  go_enter Try.func22, Try.ntmps22
  go_wp2_with fail
  refine (common_any _ _ a b _ ha hb hsz).mono ?_
  rintro e w1 ⟨rfl, hb1⟩
  go_wp2
  go_ret
  exact ⟨rfl, hb1⟩

set_option maxHeartbeats 1000000 in
theorem rbegins_any (u v : Value) (a b : List UInt8) (n : Int) (w : World) (ha : HB w u a) (hb : HB w v b) (h0 : -9223372036854775808 ≤ n) (h1 : n ≤ 9223372036854775807) (hsz : a.length ≤ 140737488351232) (hsb : b.length ≤ 140737488351232) :
    Calls Try.prog 23 #[u, v, .int .i64 n] w fun e w' => e = .returned (.bool (decide (n ≤ (com a b : Int)))) ∧ Below w.heap.size w w' := by
  obtain ⟨p, c, rfl⟩ := ha.shape
  obtain ⟨q, d, rfl⟩ := hb.shape
  have hle := com_le a b
  by_cases hneg : n < 1
  · have e : decide (n ≤ (com a b : Int)) = true := by simp; omega
    rw [e]
    clear e hle
    go_enter Try.func23, Try.ntmps23
    go_wp2
    go_ret
    exact ⟨rfl, Below.refl _ _⟩
  · obtain ⟨N, rfl⟩ : ∃ N : Nat, n = N := ⟨n.toNat, by omega⟩
    have ht : (N : Int).tdiv 8 = (N : Int) / 8 := Int.tdiv_eq_ediv_of_nonneg (by omega)
    have hd1 : decide ((N : Int) < 1) = false := by simp; omega
    by_cases hA : (N : Int) / 8 ≤ (a.length : Int)
    · by_cases hB : (N : Int) ≤ 8 * (a.length : Int)
      · by_cases hC : (N : Int) ≤ 8 * (b.length : Int)
        · have hiff := begins_iff a b N (by omega) (by omega)
          have hla : (firstF a (N : Int)).length ≤ 140737488351232 := by unfold firstF; rw [firstN_length]; omega
          have e : decide ((N : Int) ≤ (com a b : Int)) = decide ((N : Int) ≤ (com (firstF a (N : Int)) (firstF b (N : Int)) : Int)) := by
            unfold firstF
            simp only [Int.toNat_natCast]
            have h2 : ((N : Int) ≤ (com a b : Int)) ↔ ((N : Int) ≤ (com (firstN a N) (firstN b N) : Int)) := by omega
            simp only [h2]
          rw [e]
          clear e hiff hle
          obtain ⟨Z, hZ⟩ : ∃ Z, Z = com (firstF a (N : Int)) (firstF b (N : Int)) := ⟨_, rfl⟩
          rw [← hZ]
          have HZ : Hid (Z = com (firstF a (N : Int)) (firstF b (N : Int))) := hZ
          clear hZ
          go_enter Try.func23, Try.ntmps23
          go_wp2_with fail
          refine (rfirst_any _ a N _ ha h0 h1 hsz).mono ?_
          rintro e w1 ⟨p1, c1, rfl, k1, hb1⟩
          go_wp2_with fail
          refine (rfirst_any _ b N _ (hb.later hb1) h0 h1 hsb).mono ?_
          rintro e w2 ⟨p2, c2, rfl, k2, hb2⟩
          have hb02 := hb1.trans (hb2.mono hb1.size)
          go_wp2_with fail
          refine (rcommon_any _ _ _ _ _ (k1.later hb2) k2 (by omega)).mono ?_
          rintro e w3 ⟨rfl, rfl⟩
          rw [← HZ.out]
          go_wp2
          go_ret
          refine ⟨congrArg (fun z => Ending.returned (Value.bool z)) ?_, hb02⟩
          simp
        · have e : decide ((N : Int) ≤ (com a b : Int)) = false := by simp; omega
          rw [e]
          have hd2 : decide ((N : Int) ≤ 8 * (b.length : Int)) = false := by simp; omega
          clear e hle
          go_enter Try.func23, Try.ntmps23
          go_wp2
          go_ret
          exact ⟨rfl, Below.refl _ _⟩
      · have e : decide ((N : Int) ≤ (com a b : Int)) = false := by simp; omega
        rw [e]
        have hd2 : decide ((N : Int) ≤ 8 * (a.length : Int)) = false := by simp; omega
        clear e hle
        go_enter Try.func23, Try.ntmps23
        go_wp2
        go_ret
        exact ⟨rfl, Below.refl _ _⟩
    · have e : decide ((N : Int) ≤ (com a b : Int)) = false := by simp; omega
      rw [e]
      have hd2 : decide ((N : Int) / 8 ≤ (a.length : Int)) = false := by simp; omega
      clear e hle
      go_enter Try.func23, Try.ntmps23
      go_wp2
      go_ret
      exact ⟨rfl, Below.refl _ _⟩

/-- Where all that begin with a prefix's first n bits stand of a row. -/
def sideF (p : List UInt8) (n : Int) (b : List UInt8) : Int := if n ≤ (com p b : Int) ∨ com p b = 8 * min p.length b.length then 0 else 2 * bitN p (com p b) - 1

theorem bit_nat (v : Value) (l : List UInt8) (n : Nat) (w : World) (h : HB w v l) (hn : n ≤ 9223372036854775807) :
    Calls Try.prog 12 #[v, .int .i64 (n : Int)] w fun e w' => e = .returned (.int .i64 (bitN l n)) ∧ w' = w := by
  have := bit_any v l (n : Int) w h (by omega) (by omega)
  rwa [bitF_nat] at this

set_option maxHeartbeats 1000000 in
theorem side_any (u v : Value) (a b : List UInt8) (n : Int) (w : World) (ha : HB w u a) (hb : HB w v b) (hsz : a.length ≤ 140737488355328) :
    Calls Try.prog 24 #[u, .int .i64 n, v] w fun e w' => e = .returned (.int .i64 (sideF a n b)) ∧ Below w.heap.size w w' := by
  obtain ⟨p, c, rfl⟩ := ha.shape
  obtain ⟨q, d, rfl⟩ := hb.shape
  have hle := com_le a b
  obtain ⟨m, hm⟩ : ∃ m, m = min a.length b.length := ⟨_, rfl⟩
  have hmin : min (a.length : Int) (b.length : Int) = (m : Int) := by omega
  have hmm : (m : Int) ≤ 140737488355328 := by omega
  have hS : sideF a n b = if n ≤ (com a b : Int) ∨ com a b = 8 * m then 0 else 2 * bitN a (com a b) - 1 := by unfold sideF; rw [hm]
  have hnn : com a b < 8 * m → 0 ≤ bitN a (com a b) := fun h => bitN_nonneg.2 (by omega)
  have hlm : com a b ≤ 8 * m := by omega
  have hcm := common_any _ _ a b w ha hb hsz
  obtain ⟨Z, hZ⟩ : ∃ Z, Z = com a b := ⟨_, rfl⟩
  rw [← hZ] at hS hnn hlm hcm
  have hbt : ∀ W, Below w.heap.size w W → Calls Try.prog 12 #[.slice p a.length c, .int .i64 (Z : Int)] W fun e w' => e = .returned (.int .i64 (bitN a Z)) ∧ w' = W := fun W hW => bit_nat _ a Z W (ha.later hW) (by omega)
  have hrg := bitN_range a Z
  rw [hS]
  generalize bitN a Z = B at *
  clear hm hS hle hZ ha hb
  by_cases hn : n ≤ (Z : Int)
  · rw [if_pos (.inl hn)]
    have hd : decide (n ≤ (Z : Int)) = true := by simpa using hn
    go_enter Try.func24, Try.ntmps24
    go_wp2_with fail
    refine hcm.mono ?_
    rintro e w1 ⟨rfl, hb1⟩
    go_wp2
    go_ret
    exact ⟨rfl, hb1⟩
  · have hd : decide (n ≤ (Z : Int)) = false := by simpa using hn
    by_cases hz : Z = 8 * m
    · rw [if_pos (.inr hz)]
      have hz' : (Z : Int) = (m : Int) * 8 := by omega
      have HZ : Hid (Z = 8 * m) := hz
      go_enter Try.func24, Try.ntmps24
      go_wp2_with fail
      refine hcm.mono ?_
      rintro e w1 ⟨rfl, hb1⟩
      clear hcm hbt hz
      rw [hz'] at hd ⊢
      clear hz'
      go_wp2
      go_ret
      exact ⟨rfl, hb1⟩
    · rw [if_neg (by intro h; rcases h with h | h; exact hn h; exact hz h)]
      have hz' : ¬ (Z : Int) = (m : Int) * 8 := by omega
      have h0 := hnn (by omega)
      go_enter Try.func24, Try.ntmps24
      go_wp2_with fail
      refine hcm.mono ?_
      rintro e w1 ⟨rfl, hb1⟩
      have hbt1 := hbt w1 hb1
      clear hcm hnn hlm hz hbt
      rcases hrg with hB | hB | hB
      · omega
      · subst hB
        go_wp2_with (first | (go_at_call 12; refine hbt1.mono ?_; rintro e w2 ⟨rfl, hw⟩; subst hw))
        go_ret
        exact ⟨rfl, hb1⟩
      · subst hB
        go_wp2_with (first | (go_at_call 12; refine hbt1.mono ?_; rintro e w2 ⟨rfl, hw⟩; subst hw))
        go_ret
        exact ⟨rfl, hb1⟩

end Go.Proofs.Ythbkkddfklbhlaa
