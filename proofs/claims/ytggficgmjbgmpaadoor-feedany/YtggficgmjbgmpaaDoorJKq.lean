/- What this text proves: the walks of the document's split, Count and piece (annalsref11) over this program. What this text proves: the walk of the statements' few (annalslaw11) over this program: the first forty digests. -/
import Derived.Test.YtggficgmjbgmpaaDoorJKr
namespace Go.Proofs.YtggficgmjbgmpaaDoor
open Go.RowKit

set_option maxRecDepth 100000 in
set_option maxHeartbeats 1000000 in
theorem rsplit2_any (n : Nat) (w : World) (h : 2 ≤ n) (hn : n ≤ 1152921504606846976) :
    Calls Tryd.prog 38 #[.int .i64 (n : Int)] w fun x w' => x = .returned (.int .i64 (half n : Int)) ∧ w' = w := by
  go_enter Tryd.func38, Tryd.ntmps38
  go_wp2
  go_loop [3] (fun k => ∃ j q : Nat, Hid (q = 2 ^ j) ∧ 1 ≤ q ∧ q < n ∧ k = .int .i64 (q : Int)) (fun k => n - (intOf k).toNat)
  case atStart => exact ⟨0, 1, rfl, by omega, by omega, rfl⟩
  case round =>
    obtain ⟨j, q, hq, h1, h2, rfl⟩ := hrel
    by_cases hc : 2 * q < n
    · have hc2 : 2 * (q : Int) < (n : Int) := by omega
      go_wp2
      go_round
      case rel => exact ⟨j + 1, 2 * q, by show _ = _; rw [hq.out, Nat.pow_succ, Nat.mul_comm], by omega, hc, by go_num⟩
      case measure => simp [intOf]; omega
    · have hh : Hid (half n = q) := by
        show _ = _
        have e := hq.out
        rw [e]
        exact half_eq (by rw [← e]; exact h2) (by rw [← e]; omega) (by omega)
      have hc2 : ¬ 2 * (q : Int) < (n : Int) := by omega
      clear hq
      go_wp2
      go_ret
      rw [hh.out]
      exact ⟨rfl, rfl⟩

/-- A place in a part. -/
def cl (x b e : Nat) : Nat := min (x - b) (e - b)

/-- How many digests show a range, as the document counts them. -/
def rc : Nat → Nat → Nat → Nat → Nat
  | 0, _, lo, hi => if lo = hi then 1 else 0
  | f + 1, n, lo, hi => if lo = hi then 1 else if lo = 0 ∧ hi = n then 0 else rc f (half n) (cl lo 0 (half n)) (cl hi 0 (half n)) + rc f (n - half n) (cl lo (half n) n) (cl hi (half n) n)

theorem cl_one (x b e m : Nat) (h : b ≤ m) (h2 : m ≤ e) : cl (cl x b e) 0 (m - b) = cl x b m := by unfold cl; omega
theorem cl_two (x b e m : Nat) (h : b ≤ m) (h2 : m ≤ e) : cl (cl x b e) (m - b) (e - b) = cl x m e := by unfold cl; omega

theorem rc_wo (lo hi : Nat) (hl : lo ≤ hi) : ∀ (f b e : Nat), b < e → e - b ≤ 2 ^ f → e ≤ 4611686018427387904 → rc f (e - b) (cl lo b e) (cl hi b e) = (wo lo hi f b e).length := by
  intro f
  induction f with
  | zero =>
    intro b e h1 h2 h3
    simp at h2
    by_cases hc : cl lo b e = cl hi b e
    · simp only [rc, if_pos hc]
      rw [wo_out (by unfold cl at hc; omega) (by unfold cl at hc; omega)]
      rfl
    · simp only [rc, if_neg hc]
      rw [wo_in (by unfold cl at hc; omega)]
      rfl
  | succ f ih =>
    intro b e h1 h2 h3
    by_cases hc : cl lo b e = cl hi b e
    · simp only [rc, if_pos hc]
      rw [wo_out (by unfold cl at hc; omega) (by unfold cl at hc; omega)]
      rfl
    · by_cases hi2 : cl lo b e = 0 ∧ cl hi b e = e - b
      · simp only [rc, if_neg hc, if_pos hi2]
        rw [wo_in (by unfold cl at hi2; omega)]
        rfl
      · simp only [rc, if_neg hc, if_neg hi2]
        have hn : 2 ≤ e - b := by unfold cl at hc hi2; omega
        obtain ⟨q1, q2, q3⟩ := half_bounds hn (by omega)
        obtain ⟨r1, r2⟩ := half_le hn (by omega) h2
        have i1 := ih b (b + half (e - b)) (by omega) (by omega) (by omega)
        have i2 := ih (b + half (e - b)) e (by omega) (by omega) h3
        rw [wo_fork (by unfold cl at hi2; omega) (by unfold cl at hc; omega), List.length_append, ← i1, ← i2]
        have c1 := cl_one lo b e (b + half (e - b)) (by omega) (by omega)
        have c2 := cl_one hi b e (b + half (e - b)) (by omega) (by omega)
        have c3 := cl_two lo b e (b + half (e - b)) (by omega) (by omega)
        have c4 := cl_two hi b e (b + half (e - b)) (by omega) (by omega)
        rw [show b + half (e - b) - b = half (e - b) by omega] at c1 c2 c3 c4 ⊢
        rw [c1, c2, c3, c4, show e - (b + half (e - b)) = e - b - half (e - b) by omega]

theorem rc_le : ∀ (f n lo hi : Nat), lo ≤ hi → hi ≤ n → n ≤ 2 ^ f → n ≤ 4611686018427387904 → 1 ≤ n → rc f n lo hi ≤ n := by
  intro f n lo hi h1 h2 h3 h4 h5
  have e1 := rc_wo lo hi h1 f 0 n (by omega) (by omega) h4
  have c1 : cl lo 0 n = lo := by unfold cl; omega
  have c2 : cl hi 0 n = hi := by unfold cl; omega
  rw [c1, c2] at e1
  rw [Nat.sub_zero] at e1
  rw [e1]
  have := wo_room (lo := lo) (hi := hi) f 0 n (by omega) (by omega) h4
  omega

set_option maxRecDepth 100000 in
set_option maxHeartbeats 1000000 in
theorem piece_of (n lo hi : Nat) (x y : Int) (c : Nat) (w : World) (hn : n ≤ 1048576) (hx : max 0 (min x (n : Int)) = (lo : Int)) (hy : max 0 (min y (n : Int)) = (hi : Int)) (hl : lo ≤ hi) (hx0 : -4611686018427387904 ≤ x) (hx1 : x ≤ 4611686018427387904) (hy0 : -4611686018427387904 ≤ y) (hy1 : y ≤ 4611686018427387904)
    (hC : Calls Tryd.prog 53 #[.int .i64 (n : Int), .int .i64 (lo : Int), .int .i64 (hi : Int)] w fun r w' => r = .returned (.int .i64 (c : Int)) ∧ w' = w) :
    Calls Tryd.prog 61 #[.int .i64 (n : Int), .int .i64 x, .int .i64 y] w fun r w' => r = .returned (.int .i64 (c : Int)) ∧ w' = w := by
  obtain ⟨X, hX⟩ : ∃ X : Int, (if (n : Int) < x then (n : Int) else x) = X := ⟨_, rfl⟩
  obtain ⟨Y, hY⟩ : ∃ Y : Int, (if (n : Int) < y then (n : Int) else y) = Y := ⟨_, rfl⟩
  have hX2 : (if 0 < X then X else 0) = (lo : Int) := by rw [← hx, ← hX]; split <;> split <;> omega
  have hY2 : (if 0 < Y then Y else 0) = (hi : Int) := by rw [← hy, ← hY]; split <;> split <;> omega
  have hm1 : (if (lo : Int) < (hi : Int) then (hi : Int) else (lo : Int)) = (hi : Int) := by split <;> omega
  have hm2 : (if lo < hi then (hi : Int) else (lo : Int)) = (hi : Int) := by split <;> omega
  clear hx hy hx0 hx1 hy0 hy1
  go_enter Tryd.func61, Tryd.ntmps61
  go_wp2_with fail
  refine hC.mono ?_
  rintro r w1 ⟨rfl, hw⟩
  subst hw
  clear hC
  go_wp2
  go_ret
  exact ⟨rfl, rfl⟩

set_option maxRecDepth 100000 in
set_option maxHeartbeats 2000000 in
theorem rcount_same (n lo : Nat) (w : World) (h2 : lo ≤ n) (h3 : n ≤ 1048576) (h0 : 1 ≤ n) :
    Calls Tryd.prog 53 #[.int .i64 (n : Int), .int .i64 (lo : Int), .int .i64 (lo : Int)] w fun r w' => r = .returned (.int .i64 1) ∧ w' = w := by
  have a1 : decide ((lo : Int) < 0) = false := by simp
  have a3 : decide (n < lo) = false := by simp; omega
  have a4 : decide ((n : Int) < 1) = false := by simp; omega
  have a5 : decide ((1048576 : Int) < (n : Int)) = false := by simp; omega
  have a6 : decide (lo < lo) = false := by simp
  go_enter Tryd.func53, Tryd.ntmps53
  go_wp2
  go_ret
  exact ⟨rfl, rfl⟩

set_option maxRecDepth 100000 in
set_option maxHeartbeats 2000000 in
theorem rcount_all (n : Nat) (w : World) (h3 : n ≤ 1048576) (h0 : 1 ≤ n) :
    Calls Tryd.prog 53 #[.int .i64 (n : Int), .int .i64 0, .int .i64 (n : Int)] w fun r w' => r = .returned (.int .i64 0) ∧ w' = w := by
  have a2 : decide ((n : Int) < 0) = false := by simp
  have a3 : decide (n < n) = false := by simp
  have a4 : decide ((n : Int) < 1) = false := by simp; omega
  have a5 : decide ((1048576 : Int) < (n : Int)) = false := by simp; omega
  have a6 : ((0 : Int) == (n : Int)) = false := by simp; omega
  go_enter Tryd.func53, Tryd.ntmps53
  go_wp2
  go_ret
  exact ⟨rfl, rfl⟩

set_option maxRecDepth 100000 in
set_option maxHeartbeats 2000000 in
theorem rcount_fork (n lo hi k x y : Nat) (w : World) (h1 : lo < hi) (h2 : hi ≤ n) (h3 : n ≤ 1048576) (h0 : 1 ≤ n) (hin : ¬ (lo = 0 ∧ hi = n)) (hk : k < n) (hx : x ≤ 1048576) (hy : y ≤ 1048576)
    (hS : Calls Tryd.prog 38 #[.int .i64 (n : Int)] w fun x w' => x = .returned (.int .i64 (k : Int)) ∧ w' = w)
    (hP : Calls Tryd.prog 61 #[.int .i64 (k : Int), .int .i64 (lo : Int), .int .i64 (hi : Int)] w fun r w' => r = .returned (.int .i64 (x : Int)) ∧ w' = w)
    (hQ : Calls Tryd.prog 61 #[.int .i64 ((n : Int) - (k : Int)), .int .i64 ((lo : Int) - (k : Int)), .int .i64 ((hi : Int) - (k : Int))] w fun r w' => r = .returned (.int .i64 (y : Int)) ∧ w' = w) :
    Calls Tryd.prog 53 #[.int .i64 (n : Int), .int .i64 (lo : Int), .int .i64 (hi : Int)] w fun r w' => r = .returned (.int .i64 ((x : Int) + (y : Int))) ∧ w' = w := by
  have a1 : decide ((lo : Int) < 0) = false := by simp
  have a2 : decide (hi < lo) = false := by simp; omega
  have a3 : decide (n < hi) = false := by simp; omega
  have a4 : decide ((n : Int) < 1) = false := by simp; omega
  have a5 : decide ((1048576 : Int) < (n : Int)) = false := by simp; omega
  have a6 : ((lo : Int) == (hi : Int)) = false := by simp; omega
  by_cases hz : lo = 0
  · have a8 : ((lo : Int) == 0) = true := by simp; omega
    have a7 : ((hi : Int) == (n : Int)) = false := by simp; omega
    clear hin hz
    go_enter Tryd.func53, Tryd.ntmps53
    go_wp2_with fail
    refine hS.mono ?_
    rintro r w1 ⟨rfl, hw⟩
    subst hw
    clear hS
    go_wp2_with fail
    refine hP.mono ?_
    rintro r w2 ⟨rfl, hw⟩
    subst hw
    clear hP
    go_wp2_with fail
    refine hQ.mono ?_
    rintro r w3 ⟨rfl, hw⟩
    subst hw
    clear hQ
    go_wp2
    go_ret
    exact ⟨rfl, rfl⟩
  · have a7 : ((lo : Int) == 0) = false := by simp; omega
    clear hin
    go_enter Tryd.func53, Tryd.ntmps53
    go_wp2_with fail
    refine hS.mono ?_
    rintro r w1 ⟨rfl, hw⟩
    subst hw
    clear hS
    go_wp2_with fail
    refine hP.mono ?_
    rintro r w2 ⟨rfl, hw⟩
    subst hw
    clear hP
    go_wp2_with fail
    refine hQ.mono ?_
    rintro r w3 ⟨rfl, hw⟩
    subst hw
    clear hQ
    go_wp2
    go_ret
    exact ⟨rfl, rfl⟩

theorem cl_le (x b e : Nat) : cl x b e ≤ e - b := by unfold cl; omega

theorem rcount_ok : ∀ (f n lo hi : Nat) (w : World), lo ≤ hi → hi ≤ n → n ≤ 1048576 → 1 ≤ n → n ≤ 2 ^ f →
    Calls Tryd.prog 53 #[.int .i64 (n : Int), .int .i64 (lo : Int), .int .i64 (hi : Int)] w fun r w' => r = .returned (.int .i64 (rc f n lo hi : Int)) ∧ w' = w := by
  intro f
  induction f with
  | zero =>
    intro n lo hi w h1 h2 h3 h0 hf
    simp at hf
    obtain rfl : n = 1 := by omega
    by_cases hc : lo = hi
    · subst hc
      simp only [rc, if_pos]
      exact rcount_same 1 lo w h2 h3 h0
    · simp only [rc, if_neg hc]
      obtain rfl : lo = 0 := by omega
      obtain rfl : hi = 1 := by omega
      exact rcount_all 1 w h3 h0
  | succ f ih =>
    intro n lo hi w h1 h2 h3 h0 hf
    by_cases hc : lo = hi
    · subst hc
      simp only [rc, if_pos]
      exact rcount_same n lo w h2 h3 h0
    · by_cases hin : lo = 0 ∧ hi = n
      · simp only [rc, if_neg hc, if_pos hin]
        obtain ⟨rfl, rfl⟩ := hin
        exact rcount_all hi w h3 h0
      · simp only [rc, if_neg hc, if_neg hin]
        have hn : 2 ≤ n := by omega
        obtain ⟨q1, q2, q3⟩ := half_bounds hn (by omega)
        obtain ⟨r1, r2⟩ := half_le hn (by omega) hf
        have l1 : cl lo 0 (half n) ≤ cl hi 0 (half n) := by unfold cl; omega
        have l2 : cl lo (half n) n ≤ cl hi (half n) n := by unfold cl; omega
        have m1 := cl_le hi 0 (half n)
        have m2 := cl_le hi (half n) n
        rw [Nat.sub_zero] at m1
        have i1 := fun w => ih (half n) (cl lo 0 (half n)) (cl hi 0 (half n)) w l1 m1 (by omega) (by omega) (by omega)
        have i2 := fun w => ih (n - half n) (cl lo (half n) n) (cl hi (half n) n) w l2 m2 (by omega) (by omega) (by omega)
        have b1 := rc_le f (half n) _ _ l1 m1 (by omega) (by omega) (by omega)
        have b2 := rc_le f (n - half n) _ _ l2 m2 (by omega) (by omega) (by omega)
        rw [Int.natCast_add]
        refine rcount_fork n lo hi (half n) _ _ w (by omega) h2 h3 h0 hin q2 (by omega) (by omega) (rsplit2_any n w hn (by omega)) ?_ ?_
        · exact piece_of (half n) _ _ (lo : Int) (hi : Int) _ w (by omega) (by unfold cl; omega) (by unfold cl; omega) l1 (by omega) (by omega) (by omega) (by omega) (i1 w)
        · have := piece_of (n - half n) _ _ ((lo : Int) - (half n : Int)) ((hi : Int) - (half n : Int)) _ w (by omega) (by unfold cl; omega) (by unfold cl; omega) l2 (by omega) (by omega) (by omega) (by omega) (i2 w)
          rwa [show ((n - half n : Nat) : Int) = (n : Int) - (half n : Int) by omega] at this

set_option maxRecDepth 100000 in
set_option maxHeartbeats 2000000 in
theorem rcount_no (n lo hi : Int) (w : World) (h : ¬ (n ≤ 1048576 ∧ 0 ≤ lo ∧ lo ≤ hi ∧ hi ≤ n ∧ 0 < n)) :
    Calls Tryd.prog 53 #[.int .i64 n, .int .i64 lo, .int .i64 hi] w fun r w' => r = .returned (.int .i64 0) ∧ w' = w := by
  by_cases h1 : lo < 0
  · clear h
    go_enter Tryd.func53, Tryd.ntmps53
    go_wp2
    go_ret
    exact ⟨rfl, rfl⟩
  · have a1 : decide (lo < 0) = false := by simpa using h1
    by_cases h2 : hi < lo
    · clear h
      go_enter Tryd.func53, Tryd.ntmps53
      go_wp2
      go_ret
      exact ⟨rfl, rfl⟩
    · have a2 : decide (hi < lo) = false := by simpa using h2
      by_cases h3 : n < hi
      · clear h
        go_enter Tryd.func53, Tryd.ntmps53
        go_wp2
        go_ret
        exact ⟨rfl, rfl⟩
      · have a3 : decide (n < hi) = false := by simpa using h3
        by_cases h4 : n < 1
        · clear h
          go_enter Tryd.func53, Tryd.ntmps53
          go_wp2
          go_ret
          exact ⟨rfl, rfl⟩
        · have a4 : decide (n < 1) = false := by simpa using h4
          have h5 : 1048576 < n := by omega
          clear h
          go_enter Tryd.func53, Tryd.ntmps53
          go_wp2
          go_ret
          exact ⟨rfl, rfl⟩

theorem rcount_any (n lo hi : Int) (w : World) :
    Calls Tryd.prog 53 #[.int .i64 n, .int .i64 lo, .int .i64 hi] w fun r w' => r = .returned (.int .i64 (cntF n lo hi : Int)) ∧ w' = w := by
  by_cases h : n ≤ 1048576 ∧ 0 ≤ lo ∧ lo ≤ hi ∧ hi ≤ n ∧ 0 < n
  · obtain ⟨N, rfl⟩ : ∃ N : Nat, n = (N : Int) := ⟨n.toNat, by omega⟩
    obtain ⟨A, rfl⟩ : ∃ A : Nat, lo = (A : Int) := ⟨lo.toNat, by omega⟩
    obtain ⟨B, rfl⟩ : ∃ B : Nat, hi = (B : Int) := ⟨hi.toNat, by omega⟩
    have := rcount_ok 20 N A B w (by omega) (by omega) (by omega) (by omega) (by omega)
    have e := rc_wo A B (by omega) 20 0 N (by omega) (by omega) (by omega)
    have c1 : cl A 0 N = A := by unfold cl; omega
    have c2 : cl B 0 N = B := by unfold cl; omega
    rw [c1, c2, Nat.sub_zero] at e
    unfold cntF
    rw [if_pos h]
    simp only [Int.toNat_natCast]
    rw [← e]
    exact this
  · unfold cntF
    rw [if_neg h]
    exact rcount_no n lo hi w h

end Go.Proofs.YtggficgmjbgmpaaDoor

namespace Go.Proofs.YtggficgmjbgmpaaDoor
open Go.RowKit

theorem PA.kfront {w : World} {p : Option Addr} {n c : Nat} {ls : List (List UInt8)} (h : PA w (.slice p n c) ls) (k : Nat) (hk : k ≤ n) : PA w (.slice p k c) (ls.take k) := by
  have hs := h.seg 0 k (Nat.zero_le _) hk
  have e1 : cutP p c 0 = p := by unfold cutP; cases p <;> simp [Addr.add]
  have e2 : Go.Proofs.YtggficgmjbgmpaaDoor.seg ls 0 k = ls.take k := by simp [Go.Proofs.YtggficgmjbgmpaaDoor.seg]
  rw [e1, e2, Nat.sub_zero, Nat.sub_zero] at hs
  exact hs

theorem run_kupto {P : Program} {t e : TypeId} (ht : P.underlying t = some (.slice e)) (hsz : (P.info? e).map (·.size) = some 1) (p : Option Addr) (n c h : Nat) (y : Int) (hy : y = (h : Int)) (hh : h ≤ c) (w : World) :
    (Instr.slice t (.slice p n c) none (some (.int .i64 y)) none).run P w = .ok (.slice p h c) w := by
  subst hy
  obtain ⟨i, hi, hs⟩ := Option.map_eq_some_iff.1 hsz
  have he : P.elem t = e := by simp [Program.elem, ht]
  rw [run_slice_h w t p n c (by rw [he]; exact ht) .i64 (h : Int) (by omega) (by omega), he]
  cases p <;> simp [Go.sizeOf, typeInfo, hi, hs, sliced, Result.andThen, Addr.add]

end Go.Proofs.YtggficgmjbgmpaaDoor
