/- What this text proves: the walk of annalsref13.Links over this program: how many links an epoch's record has; whether a record may be, told in one row. -/
import Derived.Test.YtpndpmkoegmbkaaDoorRcVocab
namespace Go.Proofs.YtpndpmkoegmbkaaDoor
open Go.RowKit

theorem canB_iff (size : Int) (r : Rc) : canB size r = true ↔ (1 ≤ size ∧ size ≤ 32 ∧ 0 ≤ r.e ∧ r.e ≤ 255 ∧ 0 ≤ r.t ∧ r.t ≤ 1125899906842624 ∧ 0 ≤ r.c ∧ r.c ≤ 32 ∧ r.lk.length = (linksL r.e.toNat).length ∧ (r.tr.length : Int) = size ∧ (r.li.length : Int) = size ∧ sizedB size r.lk = true) := by
  simp only [canB, Bool.and_eq_true, decide_eq_true_eq, sizedB, List.all_cons, List.all_nil, Bool.and_true]
  constructor
  · rintro ⟨h1, h2, ⟨h3, h4⟩, ⟨h5, h6⟩, ⟨h7, h8⟩, h9, ⟨h10, h11⟩, h12⟩
    exact ⟨h1, h2, h3, h4, h5, h6, h7, h8, h9, h10, h11, h12⟩
  · rintro ⟨h1, h2, h3, h4, h5, h6, h7, h8, h9, h10, h11, h12⟩
    exact ⟨h1, h2, ⟨h3, h4⟩, ⟨h5, h6⟩, ⟨h7, h8⟩, h9, ⟨h10, h11⟩, h12⟩

theorem canB_no {size : Int} {r : Rc} (h : ¬ (1 ≤ size ∧ size ≤ 32 ∧ 0 ≤ r.e ∧ r.e ≤ 255 ∧ 0 ≤ r.t ∧ r.t ≤ 1125899906842624 ∧ 0 ≤ r.c ∧ r.c ≤ 32 ∧ r.lk.length = (linksL r.e.toNat).length ∧ (r.tr.length : Int) = size ∧ (r.li.length : Int) = size ∧ sizedB size r.lk = true)) : canB size r = false := by
  cases hb : canB size r with
  | false => rfl
  | true => exact absurd ((canB_iff size r).1 hb) h

theorem rc_dbl (k : Nat) (h : k < 62) : wrap64 (2 * ((2 ^ k : Nat) : Int)) = ((2 ^ (k + 1) : Nat) : Int) := by
  have h1 : 2 ^ k ≤ 2 ^ 61 := Nat.pow_le_pow_right (by decide) (by omega)
  have h2 : (2 : Nat) ^ 61 = 2305843009213693952 := by decide
  rw [Nat.pow_succ]
  generalize 2 ^ k = q at *
  unfold wrap64
  omega

theorem rcount_zero (w : World) :
    Calls Tryd.prog 40 #[.int .i64 0] w fun x w' => x = .returned (.int .i64 0) ∧ w' = w := by
  go_enter Tryd.func40, Tryd.ntmps40
  go_wp2
  go_loopw [3, 4] (fun v i wr => v = .int .i64 0 ∧ i = .int .i64 1 ∧ wr = w) (fun _ _ _ => 0)
  case atStart => exact ⟨rfl, rfl, rfl⟩
  case round =>
    obtain ⟨rfl, rfl, hwr⟩ := hrel
    subst hwr
    go_wp2
    go_ret
    exact ⟨rfl, rfl⟩

set_option maxRecDepth 100000 in
set_option maxHeartbeats 2000000 in
theorem rcount_pos (e : Nat) (w : World) (h0 : 0 < e) (he : e ≤ 255) :
    Calls Tryd.prog 40 #[.int .i64 (e : Int)] w fun x w' => x = .returned (.int .i64 ((tz e + 1 : Nat) : Int)) ∧ w' = w := by
  have HP : Hid (∀ k, k ≤ tz e → 2 ^ k ∣ e) := fun k hk => tz_dvd e k h0 (by omega) hk
  have HN : Hid (¬ 2 ^ (tz e + 1) ∣ e) := tz_not e h0 (by omega)
  have ht : tz e < 8 := by
    apply Nat.lt_of_not_le
    intro hle
    have h1 := tz_pow_le e 8 h0 (by omega) hle
    omega
  generalize tz e = T at *
  go_enter Tryd.func40, Tryd.ntmps40
  go_wp2
  go_loopw [3, 4] (fun v i wr => ∃ k : Nat, k ≤ T + 1 ∧ i = .int .i64 ((2 ^ k : Nat) : Int) ∧ v = .int .i64 (k : Int) ∧ wr = w) (fun v _ _ => T + 1 - (intOf v).toNat)
  case atStart => exact ⟨0, Nat.zero_le _, rfl, rfl, rfl⟩
  case round =>
    obtain ⟨k, hk, rfl, rfl, hwr⟩ := hrel
    subst hwr
    by_cases hlt : k < T + 1
    · have hdv := HP.out k (by omega)
      have hpe : 2 ^ k ≤ e := Nat.le_of_dvd h0 hdv
      have hp0 := Nat.pow_pos (n := k) (show 0 < 2 by decide)
      have hD : Hid (wrap64 (2 * ((2 ^ k : Nat) : Int)) = ((2 ^ (k + 1) : Nat) : Int)) := rc_dbl k (by omega)
      have hm0 : ((e : Int) % ((2 ^ k : Nat) : Int)) = 0 := by
        rw [← Int.natCast_emod, Nat.mod_eq_zero_of_dvd hdv]
        rfl
      obtain ⟨Z, hZ⟩ : ∃ Z : Int, Z = ((2 ^ (k + 1) : Nat) : Int) := ⟨_, rfl⟩
      have HZ : Hid (Z = ((2 ^ (k + 1) : Nat) : Int)) := hZ
      rw [← hZ] at hD
      clear hZ
      generalize 2 ^ k = q at *
      have hqe : (q : Int) ≤ (e : Int) := by omega
      have hq0 : (0 : Int) < (q : Int) := by omega
      have hqn : ((q : Int) == 0) = false := by simp; omega
      have hDD : 2 * (q : Int) = Z := by
        have := hD.out
        unfold wrap64 at this
        omega
      clear hdv HP HN hD
      go_wp2
      go_roundw
      case rel => first | exact ⟨k + 1, by omega, by rw [← HZ.out], by go_num, trivial⟩ | ((repeat apply Exists.intro); exact ⟨⟨k + 1, by omega, by rw [← HZ.out], by go_num, trivial⟩, rfl⟩)
      case measure => simp [intOf]; omega
    · obtain rfl : k = T + 1 := by omega
      have hp0 := Nat.pow_pos (n := T + 1) (show 0 < 2 by decide)
      have hno := HN.out
      generalize 2 ^ (T + 1) = q at *
      have hq0 : (0 : Int) < (q : Int) := by omega
      by_cases hqe : (q : Int) ≤ (e : Int)
      · have hqn : ((q : Int) == 0) = false := by simp; omega
        have hm0 : ((e : Int) % (q : Int) == 0) = false := by
          rw [← Int.natCast_emod]
          simp
          omega
        clear hno HP HN
        go_wp2
        go_ret
        exact ⟨by go_num, rfl⟩
      · have hqf : decide ((q : Int) ≤ (e : Int)) = false := by simpa using hqe
        clear hno HP HN
        go_wp2
        go_ret
        exact ⟨by go_num, rfl⟩

theorem rcount13_any (e : Int) (w : World) (h0 : 0 ≤ e) (he : e ≤ 255) :
    Calls Tryd.prog 40 #[.int .i64 e] w fun x w' => x = .returned (.int .i64 ((linksL e.toNat).length : Int)) ∧ w' = w := by
  obtain ⟨n, rfl⟩ : ∃ n : Nat, e = (n : Int) := ⟨e.toNat, by omega⟩
  rw [Int.toNat_natCast]
  rcases Nat.eq_zero_or_pos n with h | h
  · subst h
    exact rcount_zero w
  · rw [linksL_pos n h, lk_length]
    exact rcount_pos n w h (by omega)

end Go.Proofs.YtpndpmkoegmbkaaDoor
