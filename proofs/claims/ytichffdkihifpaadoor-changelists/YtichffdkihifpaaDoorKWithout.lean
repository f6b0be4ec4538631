/- What this text proves: the walks of merkle.split, lies, apart, without over this program: without has a function look at the greatest parts outside a range, from left to right. -/
import Derived.Test.YtichffdkihifpaaDoorLen64
import Derived.Test.YtichffdkihifpaaDoorKPlain
namespace Go.Proofs.YtichffdkihifpaaDoor
open Go.RowKit

set_option maxRecDepth 100000 in
set_option maxHeartbeats 1000000 in
theorem split_any (b e : Nat) (w : World) (h : 2 ≤ e - b) (he : e ≤ 2305843009213693952) :
    Calls Tryd.prog 49 #[.int .i64 (b : Int), .int .i64 (e : Int)] w fun x w' => x = .returned (.int .i64 ((b + half (e - b) : Nat) : Int)) ∧ w' = w := by
  obtain ⟨q1, q2, q3⟩ := bitLen_bounds 62 (e - b - 1) (by omega) (by omega) (by omega)
  have hle := Lib.bitLen_le (e - b - 1) 61 (by omega) (by omega)
  have hl := len_any (e - b - 1) w (by omega)
  have hh : half (e - b) = 2 ^ (Lib.bitLen (e - b - 1) - 1) := rfl
  rw [hh]
  clear hh
  generalize Lib.bitLen (e - b - 1) = L at *
  obtain ⟨M, rfl⟩ : ∃ M, L = M + 1 := ⟨L - 1, by omega⟩
  simp only [Nat.add_sub_cancel] at *
  have e1 : ((e - b - 1 : Nat) : Int) = (e : Int) - (b : Int) - 1 := by omega
  rw [e1] at hl
  have hM : M ≤ 60 := by omega
  have hp : (2 : Int) ^ M ≤ 2305843009213693952 := by
    have : ((2 ^ M : Nat) : Int) ≤ 2305843009213693952 := by omega
    simpa using this
  have hp0 : (0 : Int) < 2 ^ M := by
    have : (0 : Int) < ((2 ^ M : Nat) : Int) := by have := Nat.pow_pos (n := M) (show 0 < 2 by decide); omega
    simpa using this
  have ha : (1 : Int) ≤ (e : Int) - b - 1 := by omega
  have hbe : (e : Int) ≤ 2305843009213693952 := by omega
  have hb0 : (0 : Int) ≤ b := by omega
  have hsm : (b : Int) + 2 ^ M ≤ 4611686018427387904 := by omega
  clear q1 q2 q3 e1
  go_enter Tryd.func49, Tryd.ntmps49
  go_wp2_with fail
  refine hl.mono ?_
  rintro x w1 ⟨rfl, hw⟩
  subst hw
  have e3 : ((M + 1 : Nat) : Int) - 1 = (M : Int) := by omega
  have e4 : Hid (((b + 2 ^ M : Nat) : Int) = (b : Int) + 2 ^ M) := by show _ = _; push_cast; rfl
  go_wp2
  go_ret
  rw [e4.out]
  exact ⟨rfl, rfl⟩

set_option maxRecDepth 100000 in
set_option maxHeartbeats 1000000 in
theorem lies_any (n lo hi : Int) (w : World) :
    Calls Tryd.prog 36 #[.int .i64 n, .int .i64 lo, .int .i64 hi] w fun x w' => x = .returned (.bool (decide (0 ≤ lo ∧ lo ≤ hi ∧ hi ≤ n))) ∧ w' = w := by
  by_cases h1 : 0 ≤ lo
  · by_cases h2 : lo ≤ hi
    · go_enter Tryd.func36, Tryd.ntmps36
      go_wp2
      go_ret
      simp [h1, h2]
    · have d2 : decide (lo ≤ hi) = false := by simpa using h2
      go_enter Tryd.func36, Tryd.ntmps36
      go_wp2
      go_ret
      simp
  · have d1 : decide (0 ≤ lo) = false := by simpa using h1
    go_enter Tryd.func36, Tryd.ntmps36
    go_wp2
    go_ret
    simp

set_option maxRecDepth 100000 in
set_option maxHeartbeats 1000000 in
theorem apart_any (b e lo hi : Int) (w : World) :
    Calls Tryd.prog 44 #[.int .i64 b, .int .i64 e, .int .i64 lo, .int .i64 hi] w fun x w' => x = .returned (.bool (decide (lo = hi ∨ e ≤ lo ∨ hi ≤ b))) ∧ w' = w := by
  by_cases h1 : lo = hi
  · subst h1
    go_enter Tryd.func44, Tryd.ntmps44
    go_wp2
    go_ret
    simp
  · have d1 : (lo == hi) = false := by simpa using h1
    by_cases h2 : e ≤ lo
    · go_enter Tryd.func44, Tryd.ntmps44
      go_wp2
      go_ret
      simp [h2]
    · have d2 : decide (e ≤ lo) = false := by simpa using h2
      go_enter Tryd.func44, Tryd.ntmps44
      go_wp2
      go_ret
      simp

set_option maxRecDepth 100000 in
set_option maxHeartbeats 1000000 in
theorem without_in (fv : Value) (b e lo hi : Nat) (w : World) (h1 : lo ≤ b) (h2 : e ≤ hi) :
    Calls Tryd.prog 37 #[.int .i64 (b : Int), .int .i64 (e : Int), .int .i64 (lo : Int), .int .i64 (hi : Int), fv] w fun x w' => x = .returned (.tuple #[]) ∧ w' = w := by
  go_enter Tryd.func37, Tryd.ntmps37
  go_wp2
  first | go_end0 | (simp only [Exit.inBlock, Exit.then]; refine bodyPost_ret (results_none rfl _ _ _) rfl ?_) | refine bodyPost_ret (results_none rfl _ _ _) rfl ?_
  exact ⟨rfl, rfl⟩

set_option maxRecDepth 100000 in
set_option maxHeartbeats 1000000 in
theorem without_out (K : Nat) (caps : Array Value) (eg : ∀ args w, (callFunc K args).run Tryd.prog w = .ok (.enter K args) w) (b e lo hi : Nat) (w : World) (R : World → Prop) (h1 : ¬ (lo ≤ b ∧ e ≤ hi)) (h2 : lo = hi ∨ e ≤ lo ∨ hi ≤ b)
    (hK : Calls Tryd.prog K (#[.int .i64 (b : Int), .int .i64 (e : Int)] ++ caps) w fun x w' => x = .returned (.tuple #[]) ∧ R w') :
    Calls Tryd.prog 37 #[.int .i64 (b : Int), .int .i64 (e : Int), .int .i64 (lo : Int), .int .i64 (hi : Int), .func (.func K) #[] caps] w fun x w' => x = .returned (.tuple #[]) ∧ R w' := by
  have hD : decide ((lo : Int) = (hi : Int) ∨ (e : Int) ≤ (lo : Int) ∨ (hi : Int) ≤ (b : Int)) = true := by simp; omega
  have hA := fun w => apart_any (b : Int) (e : Int) (lo : Int) (hi : Int) w
  rw [hD] at hA
  clear hD h2
  by_cases h3 : lo ≤ b
  · have h4 : ¬ (e ≤ hi) := fun h => h1 ⟨h3, h⟩
    clear h1
    go_enter Tryd.func37, Tryd.ntmps37
    go_wp2_with fail
    refine (hA _).mono ?_
    rintro x w1 ⟨rfl, hw⟩
    subst hw
    clear hA
    go_wp2_with fail
    refine hK.mono ?_
    rintro x w2 ⟨rfl, hR⟩
    clear hK
    go_wp2
    first | go_end0 | (simp only [Exit.inBlock, Exit.then]; refine bodyPost_ret (results_none rfl _ _ _) rfl ?_) | refine bodyPost_ret (results_none rfl _ _ _) rfl ?_
    exact ⟨rfl, hR⟩
  · have h4 : decide ((lo : Int) ≤ (b : Int)) = false := by simpa using h3
    clear h1
    go_enter Tryd.func37, Tryd.ntmps37
    go_wp2_with fail
    refine (hA _).mono ?_
    rintro x w1 ⟨rfl, hw⟩
    subst hw
    clear hA
    go_wp2_with fail
    refine hK.mono ?_
    rintro x w2 ⟨rfl, hR⟩
    clear hK
    go_wp2
    first | go_end0 | (simp only [Exit.inBlock, Exit.then]; refine bodyPost_ret (results_none rfl _ _ _) rfl ?_) | refine bodyPost_ret (results_none rfl _ _ _) rfl ?_
    exact ⟨rfl, hR⟩

set_option maxRecDepth 100000 in
set_option maxHeartbeats 1000000 in
theorem without_fork (fv : Value) (b e lo hi m : Nat) (w : World) (Q R : World → Prop) (h1 : ¬ (lo ≤ b ∧ e ≤ hi)) (h2 : ¬ (lo = hi ∨ e ≤ lo ∨ hi ≤ b)) 
    (hm : Calls Tryd.prog 49 #[.int .i64 (b : Int), .int .i64 (e : Int)] w fun x w' => x = .returned (.int .i64 (m : Int)) ∧ w' = w)
    (hl : Calls Tryd.prog 37 #[.int .i64 (b : Int), .int .i64 (m : Int), .int .i64 (lo : Int), .int .i64 (hi : Int), fv] w fun x w' => x = .returned (.tuple #[]) ∧ Q w')
    (hr : ∀ w, Q w → Calls Tryd.prog 37 #[.int .i64 (m : Int), .int .i64 (e : Int), .int .i64 (lo : Int), .int .i64 (hi : Int), fv] w fun x w' => x = .returned (.tuple #[]) ∧ R w') :
    Calls Tryd.prog 37 #[.int .i64 (b : Int), .int .i64 (e : Int), .int .i64 (lo : Int), .int .i64 (hi : Int), fv] w fun x w' => x = .returned (.tuple #[]) ∧ R w' := by
  have hD : decide ((lo : Int) = (hi : Int) ∨ (e : Int) ≤ (lo : Int) ∨ (hi : Int) ≤ (b : Int)) = false := by simp; omega
  have hA := fun w => apart_any (b : Int) (e : Int) (lo : Int) (hi : Int) w
  rw [hD] at hA
  clear hD h2
  by_cases h3 : lo ≤ b
  · have h4 : ¬ (e ≤ hi) := fun h => h1 ⟨h3, h⟩
    clear h1
    go_enter Tryd.func37, Tryd.ntmps37
    go_wp2_with fail
    refine (hA _).mono ?_
    rintro x w1 ⟨rfl, hw⟩
    subst hw
    clear hA
    go_wp2_with fail
    refine hm.mono ?_
    rintro x w2 ⟨rfl, hw⟩
    subst hw
    clear hm
    go_wp2_with fail
    refine hl.mono ?_
    rintro x w3 ⟨rfl, hQ⟩
    clear hl
    go_wp2_with fail
    refine (hr _ hQ).mono ?_
    rintro x w4 ⟨rfl, hR⟩
    clear hr hQ
    go_wp2
    first | go_end0 | (simp only [Exit.inBlock, Exit.then]; refine bodyPost_ret (results_none rfl _ _ _) rfl ?_) | refine bodyPost_ret (results_none rfl _ _ _) rfl ?_
    exact ⟨rfl, hR⟩
  · have h4 : decide ((lo : Int) ≤ (b : Int)) = false := by simpa using h3
    clear h1
    go_enter Tryd.func37, Tryd.ntmps37
    go_wp2_with fail
    refine (hA _).mono ?_
    rintro x w1 ⟨rfl, hw⟩
    subst hw
    clear hA
    go_wp2_with fail
    refine hm.mono ?_
    rintro x w2 ⟨rfl, hw⟩
    subst hw
    clear hm
    go_wp2_with fail
    refine hl.mono ?_
    rintro x w3 ⟨rfl, hQ⟩
    clear hl
    go_wp2_with fail
    refine (hr _ hQ).mono ?_
    rintro x w4 ⟨rfl, hR⟩
    clear hr hQ
    go_wp2
    first | go_end0 | (simp only [Exit.inBlock, Exit.then]; refine bodyPost_ret (results_none rfl _ _ _) rfl ?_) | refine bodyPost_ret (results_none rfl _ _ _) rfl ?_
    exact ⟨rfl, hR⟩

theorem without_any (K : Nat) (caps : Array Value) (eg : ∀ args w, (callFunc K args).run Tryd.prog w = .ok (.enter K args) w) (lo hi N : Nat) (R : List (Nat × Nat) → World → Prop) (hN : N ≤ 2305843009213693952)
    (hK : ∀ acc b e w, R acc w → acc.length ≤ b → b < e → e ≤ N → Calls Tryd.prog K (#[.int .i64 (b : Int), .int .i64 (e : Int)] ++ caps) w fun x w' => x = .returned (.tuple #[]) ∧ R (acc ++ [(b, e)]) w') :
    ∀ (f b e : Nat) (acc : List (Nat × Nat)) (w : World), b < e → e - b ≤ 2 ^ f → e ≤ N → acc.length ≤ b → R acc w →
    Calls Tryd.prog 37 #[.int .i64 (b : Int), .int .i64 (e : Int), .int .i64 (lo : Int), .int .i64 (hi : Int), .func (.func K) #[] caps] w fun x w' => x = .returned (.tuple #[]) ∧ R (acc ++ wo lo hi f b e) w' := by
  intro f
  induction f with
  | zero =>
    intro b e acc w hbe hf he hab hR
    by_cases h1 : lo ≤ b ∧ e ≤ hi
    · rw [wo_in h1, List.append_nil]
      exact (without_in _ b e lo hi w h1.1 h1.2).mono fun x w' ⟨hx, hw⟩ => ⟨hx, by subst hw; exact hR⟩
    · simp at hf
      have h2 : lo = hi ∨ e ≤ lo ∨ hi ≤ b := by omega
      rw [wo_out h1 h2]
      exact without_out K caps eg b e lo hi w _ h1 h2 (hK acc b e w hR hab hbe he)
  | succ f ih =>
    intro b e acc w hbe hf he hab hR
    by_cases h1 : lo ≤ b ∧ e ≤ hi
    · rw [wo_in h1, List.append_nil]
      exact (without_in _ b e lo hi w h1.1 h1.2).mono fun x w' ⟨hx, hw⟩ => ⟨hx, by subst hw; exact hR⟩
    · by_cases h2 : lo = hi ∨ e ≤ lo ∨ hi ≤ b
      · rw [wo_out h1 h2]
        exact without_out K caps eg b e lo hi w _ h1 h2 (hK acc b e w hR hab hbe he)
      · have hn : 2 ≤ e - b := by omega
        obtain ⟨q1, q2, q3⟩ := half_bounds hn (by omega)
        obtain ⟨r1, r2⟩ := half_le hn (by omega) hf
        have hw := wo_room (lo := lo) (hi := hi) f b (b + half (e - b)) (by omega) (by omega) (by omega)
        rw [wo_fork h1 h2, ← List.append_assoc]
        exact without_fork _ b e lo hi (b + half (e - b)) w (R (acc ++ wo lo hi f b (b + half (e - b)))) _ h1 h2 (split_any b e w hn (by omega)) (ih b (b + half (e - b)) acc w (by omega) (by omega) (by omega) hab hR) (fun w hQ => ih (b + half (e - b)) e _ w (by omega) (by omega) he (by rw [List.length_append]; omega) hQ)

end Go.Proofs.YtichffdkihifpaaDoor
