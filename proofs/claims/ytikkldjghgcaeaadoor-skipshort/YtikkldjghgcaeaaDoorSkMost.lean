/- What this text proves: the walks of skip.Most and of the document's Most over this program. -/
import Derived.Test.YtikkldjghgcaeaaDoorSkWay
import Derived.Test.YtikkldjghgcaeaaDoorSkLen
namespace Go.Proofs.YtikkldjghgcaeaaDoor
open Go.RowKit

theorem log2_half (x : Nat) (h : 2 ≤ x) : Nat.log2 x = Nat.log2 (x / 2) + 1 := by
  conv => lhs; rw [Nat.log2_def, if_pos h]

theorem bitLen_log2 : ∀ (n x : Nat), x ≤ n → 0 < x → x < 2 ^ 64 → Lib.bitLen x = Nat.log2 x + 1 := by
  intro n
  induction n with
  | zero => intro x h1 h2; omega
  | succ n ih =>
    intro x h1 h2 h3
    rw [Lib.bitLen_half x (by omega) h3]
    rcases Nat.lt_or_ge x 2 with h | h
    · obtain rfl : x = 1 := by omega
      decide
    · rw [ih (x / 2) (by omega) (by omega) (by omega), log2_half x h]
      omega

/-- How many a way of such a distance has at most, of any number. -/
def mostI (d : Int) : Int := (mostN d.toNat : Int)

theorem log2_lt (x : Nat) (h0 : 0 < x) (h : x < 9223372036854775808) : Nat.log2 x < 63 := (Nat.log2_lt (by omega)).2 (by omega)

theorem most_no (d : Int) (w : World) (h : d < 1) :
    Calls Tryd.prog 12 #[.int .i64 d] w fun x w' => x = .returned (.int .i64 0) ∧ w' = w := by
  go_enter Tryd.func12, Tryd.ntmps12
  go_wp2
  go_ret
  exact ⟨rfl, rfl⟩

set_option maxHeartbeats 1000000 in
theorem most_yes (d : Nat) (w : World) (h : 0 < d) (hd : d < 9223372036854775808) :
    Calls Tryd.prog 12 #[.int .i64 (d : Int)] w fun x w' => x = .returned (.int .i64 ((2 * Nat.log2 d + 2 : Nat) : Int)) ∧ w' = w := by
  have hL := len_any d w (by omega)
  rw [bitLen_log2 d d (Nat.le_refl _) h (by omega)] at hL
  have hl := log2_lt d h hd
  have hu : IntKind.u64.wrap (d : Int) = (d : Int) := by rw [IntKind.wrap_u64]; omega
  generalize Nat.log2 d = K at *
  go_enter Tryd.func12, Tryd.ntmps12
  go_wp2_with fail
  refine hL.mono ?_
  rintro x w1 ⟨rfl, hw⟩
  subst hw
  clear hL hu
  go_wp2
  go_ret
  exact ⟨by go_num, rfl⟩

theorem most_any (d : Int) (w : World) (hd : d < 9223372036854775808) :
    Calls Tryd.prog 12 #[.int .i64 d] w fun x w' => x = .returned (.int .i64 (mostI d)) ∧ w' = w := by
  unfold mostI mostN
  by_cases h : d < 1
  · rw [if_pos (by omega)]
    exact most_no d w h
  · rw [if_neg (by omega)]
    obtain ⟨D, rfl⟩ : ∃ D : Nat, d = (D : Int) := ⟨d.toNat, by omega⟩
    simp only [Int.toNat_natCast]
    exact most_yes D w (by omega) (by omega)

theorem rmost_no (d : Int) (w : World) (h : d < 1) :
    Calls Tryd.prog 13 #[.int .i64 d] w fun x w' => x = .returned (.int .i64 0) ∧ w' = w := by
  go_enter Tryd.func13, Tryd.ntmps13
  go_wp2
  go_ret
  exact ⟨rfl, rfl⟩

set_option maxHeartbeats 1000000 in
theorem rmost_yes (d : Nat) (w : World) (h : 0 < d) (hd : d < 9223372036854775808) :
    Calls Tryd.prog 13 #[.int .i64 (d : Int)] w fun x w' => x = .returned (.int .i64 ((2 * Nat.log2 d + 2 : Nat) : Int)) ∧ w' = w := by
  have hl := log2_lt d h hd
  obtain ⟨K, hK⟩ : ∃ K, K = Nat.log2 d := ⟨_, rfl⟩
  rw [← hK] at hl ⊢
  have HK : Hid (K = Nat.log2 d) := hK
  clear hK
  go_enter Tryd.func13, Tryd.ntmps13
  go_wp2
  go_loopw [0, 3] (fun i v wr => ∃ (q j : Nat), 0 < q ∧ q ≤ d ∧ Hid (Nat.log2 q + j = K) ∧ i = .int .i64 (q : Int) ∧ v = .int .i64 ((2 * j + 2 : Nat) : Int) ∧ wr = w) (fun i _ _ => (intOf i).toNat)
  case atStart => exact ⟨d, 0, h, Nat.le_refl _, by show _ = _; rw [HK.out]; rfl, rfl, rfl, rfl⟩
  case round =>
    obtain ⟨q, j, hq0, hqd, hqK, rfl, rfl, hwr⟩ := hrel
    subst hwr
    by_cases h1 : 1 < q
    · have HN : Hid (Nat.log2 (q / 2) + (j + 1) = K) := by
        have e := hqK.out
        rw [log2_half q (by omega)] at e
        show _ = _
        omega
      have hj : j ≤ 63 := by
        have e := hqK.out
        omega
      clear hqK HK
      have h2 : (1 : Int) < (q : Int) := by omega
      go_wp2
      go_roundw
      case rel => first | exact ⟨q / 2, j + 1, by omega, by omega, HN, by go_num, by go_num, trivial⟩ | ((repeat apply Exists.intro); exact ⟨⟨q / 2, j + 1, by omega, by omega, HN, by go_num, by go_num, trivial⟩, rfl⟩)
      case measure => simp [intOf]; omega
    · obtain rfl : q = 1 := by omega
      have hj : Hid (j = K) := by
        have e := hqK.out
        have e1 : Nat.log2 1 = 0 := by decide
        rw [e1] at e
        show _ = _
        omega
      clear hqK HK
      go_wp2
      go_ret
      rw [hj.out]
      exact ⟨rfl, rfl⟩

theorem rmost_any (d : Int) (w : World) (hd : d < 9223372036854775808) :
    Calls Tryd.prog 13 #[.int .i64 d] w fun x w' => x = .returned (.int .i64 (mostI d)) ∧ w' = w := by
  unfold mostI mostN
  by_cases h : d < 1
  · rw [if_pos (by omega)]
    exact rmost_no d w h
  · rw [if_neg (by omega)]
    obtain ⟨D, rfl⟩ : ∃ D : Nat, d = (D : Int) := ⟨d.toNat, by omega⟩
    simp only [Int.toNat_natCast]
    exact rmost_yes D w (by omega) (by omega)

end Go.Proofs.YtikkldjghgcaeaaDoor
