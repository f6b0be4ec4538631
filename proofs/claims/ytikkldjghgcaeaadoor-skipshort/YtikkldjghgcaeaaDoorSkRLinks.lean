/- What this text proves: the walk of the document's Links (annalsref14) over this program: the links of any epoch, in new memory. -/
import Derived.Test.YtikkldjghgcaeaaDoorSkLinks
namespace Go.Proofs.YtikkldjghgcaeaaDoor
open Go.RowKit

theorem dbl_pow (k : Nat) (h : k < 62) : wrap64 (2 * ((2 ^ k : Nat) : Int)) = ((2 ^ (k + 1) : Nat) : Int) := by
  have h1 : 2 ^ k ≤ 2 ^ 61 := Nat.pow_le_pow_right (by decide) (by omega)
  have h2 : (2 : Nat) ^ 61 = 2305843009213693952 := by decide
  rw [Nat.pow_succ]
  generalize 2 ^ k = q at *
  unfold wrap64
  omega

/-- A slice's length. -/
def lenV : Value → Nat
  | .slice _ n _ => n
  | _ => 0

theorem pow62 : (2 : Nat) ^ 62 = 4611686018427387904 := by decide

theorem rlinks_none (e : Int) (w : World) (h : e < 1) :
    Calls Tryd.prog 7 #[.int .i64 e] w fun x w' => x = .returned (.slice none 0 0) ∧ w' = w := by
  have h1 : decide ((1 : Int) ≤ e) = false := by simp; omega
  go_enter Tryd.func7, Tryd.ntmps7
  go_wp2
  go_loopw [3, 4] (fun v i wr => v = .slice none 0 0 ∧ i = .int .i64 1 ∧ wr = w) (fun _ _ _ => 0)
  case atStart => exact ⟨rfl, rfl, rfl⟩
  case round =>
    obtain ⟨rfl, rfl, hwr⟩ := hrel
    subst hwr
    go_wp2
    go_ret
    exact ⟨rfl, rfl⟩

set_option maxHeartbeats 2000000 in
theorem rlinks_pos (e : Nat) (w : World) (h0 : 0 < e) (he : e < 9223372036854775808) :
    Calls Tryd.prog 7 #[.int .i64 (e : Int)] w fun x w' => ∃ v', x = .returned v' ∧ w'.ownsRow w.heap.size 3 1 v' (tz e + 1) (ics (lk e (tz e + 1))) ∧ Below w.heap.size w w' := by
  have ht := (tz_spec e h0 he).choose_spec.2
  have HP : Hid (∀ k, k ≤ tz e → 2 ^ k ∣ e) := fun k hk => tz_dvd e k h0 he hk
  have HN : Hid (¬ 2 ^ (tz e + 1) ∣ e) := tz_not e h0 he
  generalize tz e = T at *
  obtain ⟨i0, hi, hz0, hz1, hz2⟩ := info_parts i_intS
  go_enter Tryd.func7, Tryd.ntmps7
  go_wp2
  go_loopw [3, 4] (fun v i wr => ∃ k : Nat, k ≤ T + 1 ∧ (i = .int .i64 (if k = 63 then -9223372036854775808 else ((2 ^ k : Nat) : Int))) ∧ wr.ownsRow w.heap.size 3 1 v k (ics (lk e k)) ∧ Below w.heap.size w wr) (fun v _ _ => T + 1 - lenV v)
  case atStart => exact ⟨0, Nat.zero_le _, rfl, World.ownsRow_nil _ _ _ _, Below.refl _ _⟩
  case round =>
    obtain ⟨k, hk, rfl, hown, hbe⟩ := hrel
    have hsz := hbe.size
    by_cases hlt : k < T + 1
    · rw [if_neg (by omega)]
      have hdv := HP.out k (by omega)
      have hpe : 2 ^ k ≤ e := Nat.le_of_dvd h0 hdv
      have hp0 := Nat.pow_pos (n := k) (show 0 < 2 by decide)
      have hD : Hid (wrap64 (2 * ((2 ^ k : Nat) : Int)) = if k + 1 = 63 then -9223372036854775808 else ((2 ^ (k + 1) : Nat) : Int)) := by
        show _ = _
        by_cases h63 : k + 1 = 63
        · obtain rfl : k = 62 := by omega
          rw [if_pos rfl, pow62]
          unfold wrap64
          omega
        · rw [if_neg h63]
          exact dbl_pow k (by omega)
      have hm0 : ((e : Int) % ((2 ^ k : Nat) : Int)) = 0 := by
        rw [← Int.natCast_emod, Nat.mod_eq_zero_of_dvd hdv]
        rfl
      have HQ : Hid (lk e (k + 1) = lk e k ++ [e - 2 ^ k]) := lk_succ e k
      obtain ⟨Z, hZ⟩ : ∃ Z : Int, Z = if k + 1 = 63 then -9223372036854775808 else ((2 ^ (k + 1) : Nat) : Int) := ⟨_, rfl⟩
      have HZ : Hid (Z = if k + 1 = 63 then -9223372036854775808 else ((2 ^ (k + 1) : Nat) : Int)) := hZ
      rw [← hZ] at hD
      clear hZ
      generalize 2 ^ k = q at *
      have hse : (e : Int) - (q : Int) = ((e - q : Nat) : Int) := by omega
      have hqe : (q : Int) ≤ (e : Int) := by omega
      have hq0 : (0 : Int) < (q : Int) := by omega
      have hqn : ((q : Int) == 0) = false := by simp; omega
      clear hdv HP HN
      go_wp2_with (first | (at_builtin; refine wpList_append_own _ rfl (.tmp 20) (.tmp 24) 23 rfl w.heap.size 3 i0 (.int .i64 0) 1 8 Tryd.underlying23 hi hz0 hz1 hz2 rfl (by decide) _ _ _ rfl (hown.alloc _) ⟨wr.heap.size, 0, none⟩ 1 1 [.int .i64 ((e - q : Nat) : Int)] rfl rfl ?ra ?rb ?rc ?rd ?re ?_))
      case ra => first | exact cell_one_new _ _ _ | (rw [← hse]; exact cell_one_new _ _ _)
      case rb => intro u hu; simp at hu; subst hu; rfl
      case rc => unfold maxLen; omega
      case rd => omega
      case re => simp; omega
      intro v3 w3 hown3 hgrow3 _
      have hb3 : Below w.heap.size w w3 := (hbe.alloc hsz _).grown hgrow3 (by simp; omega) (fun k hk => (hown.lt k hk).1)
      have hown4 : w3.ownsRow w.heap.size 3 1 v3 (k + 1) (ics (lk e (k + 1))) := by
        rw [HQ.out]
        have := hown3
        simp only [ics, List.map_append, List.map_cons, List.map_nil, ic] at this ⊢
        exact this
      clear hown3 hgrow3 hbe
      go_wp2
      go_roundw
      case rel => first | exact ⟨k + 1, by omega, by rw [← HZ.out, hD.out], hown4, hb3⟩ | ((repeat apply Exists.intro); exact ⟨⟨k + 1, by omega, by rw [← HZ.out, hD.out], hown4, hb3⟩, rfl⟩)
      case measure =>
        obtain ⟨p3, c3, e3⟩ := owns_shape hown4
        obtain ⟨p4, c4, e4⟩ := owns_shape hown
        subst e3
        subst e4
        simp [lenV]
        omega
    · obtain rfl : k = T + 1 := by omega
      by_cases h63 : T + 1 = 63
      · rw [if_pos h63]
        go_wp2
        go_ret
        exact ⟨_, rfl, hown, hbe⟩
      · rw [if_neg h63]
        have hp0 := Nat.pow_pos (n := T + 1) (show 0 < 2 by decide)
        have hno := HN.out
        generalize 2 ^ (T + 1) = q at *
        have hq0 : (0 : Int) < (q : Int) := by omega
        by_cases hqe : (q : Int) ≤ (e : Int)
        · have hqn : ((q : Int) == 0) = false := by simp; omega
          have hm0 : ((e : Int) % (q : Int) == 0) = false := by
            rw [← Int.natCast_emod]
            simp
            omega
          clear hno HP HN
          go_wp2
          go_ret
          exact ⟨_, rfl, hown, hbe⟩
        · have hqf : decide ((q : Int) ≤ (e : Int)) = false := by simpa using hqe
          clear hno HP HN
          go_wp2
          go_ret
          exact ⟨_, rfl, hown, hbe⟩

theorem rlinks_any (e : Int) (w : World) (he : e < 9223372036854775808) :
    Calls Tryd.prog 7 #[.int .i64 e] w fun x w' => ∃ v', x = .returned v' ∧ w'.ownsRow w.heap.size 3 1 v' (linksL e.toNat).length (ics (linksL e.toNat)) ∧ Below w.heap.size w w' := by
  by_cases h : e < 1
  · refine (rlinks_none e w h).mono ?_
    rintro x w' ⟨rfl, rfl⟩
    rw [show e.toNat = 0 by omega]
    exact ⟨_, rfl, World.ownsRow_nil _ _ _ _, Below.refl _ _⟩
  · obtain ⟨n, rfl⟩ : ∃ n : Nat, e = (n : Int) := ⟨e.toNat, by omega⟩
    rw [Int.toNat_natCast, linksL_pos n (by omega), lk_length]
    exact rlinks_pos n w (by omega) (by omega)

end Go.Proofs.YtikkldjghgcaeaaDoor
