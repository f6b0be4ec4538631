/- What this text proves: the walks of the document's split, Count and piece (annalsref11) over this program. What this text proves: the walk of the document's Text (annalsref02) over this program: the text of a tag and parts in new memory, or the error. What this text proves: the walk of the document's Hash over this program. What this text proves: the walk of the document's Root (annalsref11) over this program: the root over any digests. -/
import Derived.Test.YtichffdkihifpaaDoorKCount
import Derived.Test.YtichffdkihifpaaDoorText
import Derived.Test.YtichffdkihifpaaDoorRSum
import Derived.Test.YtichffdkihifpaaDoorHashC
import Derived.Test.YtichffdkihifpaaDoorCutR
import Derived.Test.YtichffdkihifpaaDoorJKB
import Derived.Test.YtichffdkihifpaaDoorJKA
namespace Go.Proofs.YtichffdkihifpaaDoor
open Go.RowKit

set_option maxRecDepth 100000 in
set_option maxHeartbeats 1000000 in
theorem rsplit2_any (n : Nat) (w : World) (h : 2 ≤ n) (hn : n ≤ 1152921504606846976) :
    Calls Tryd.prog 34 #[.int .i64 (n : Int)] w fun x w' => x = .returned (.int .i64 (half n : Int)) ∧ w' = w := by
  go_enter Tryd.func34, Tryd.ntmps34
  go_wp2
  go_loop [3] (fun k => ∃ j q : Nat, Hid (q = 2 ^ j) ∧ 1 ≤ q ∧ q < n ∧ k = .int .i64 (q : Int)) (fun k => n - (intOf k).toNat)
  case atStart => exact ⟨0, 1, rfl, by omega, by omega, rfl⟩
  case round =>
    obtain ⟨j, q, hq, h1, h2, rfl⟩ := hrel
    by_cases hc : 2 * q < n
    · have hc2 : 2 * (q : Int) < (n : Int) := by omega
      go_wp2
      go_round
      case rel => exact ⟨j + 1, 2 * q, by show _ = _; rw [hq.out, Nat.pow_succ, Nat.mul_comm], by omega, hc, by go_num⟩
      case measure => simp [intOf]; omega
    · have hh : Hid (half n = q) := by
        show _ = _
        have e := hq.out
        rw [e]
        exact half_eq (by rw [← e]; exact h2) (by rw [← e]; omega) (by omega)
      have hc2 : ¬ 2 * (q : Int) < (n : Int) := by omega
      clear hq
      go_wp2
      go_ret
      rw [hh.out]
      exact ⟨rfl, rfl⟩

/-- A place in a part. -/
def cl (x b e : Nat) : Nat := min (x - b) (e - b)

/-- How many digests show a range, as the document counts them. -/
def rc : Nat → Nat → Nat → Nat → Nat
  | 0, _, lo, hi => if lo = hi then 1 else 0
  | f + 1, n, lo, hi => if lo = hi then 1 else if lo = 0 ∧ hi = n then 0 else rc f (half n) (cl lo 0 (half n)) (cl hi 0 (half n)) + rc f (n - half n) (cl lo (half n) n) (cl hi (half n) n)

theorem cl_one (x b e m : Nat) (h : b ≤ m) (h2 : m ≤ e) : cl (cl x b e) 0 (m - b) = cl x b m := by unfold cl; omega
theorem cl_two (x b e m : Nat) (h : b ≤ m) (h2 : m ≤ e) : cl (cl x b e) (m - b) (e - b) = cl x m e := by unfold cl; omega

theorem rc_wo (lo hi : Nat) (hl : lo ≤ hi) : ∀ (f b e : Nat), b < e → e - b ≤ 2 ^ f → e ≤ 4611686018427387904 → rc f (e - b) (cl lo b e) (cl hi b e) = (wo lo hi f b e).length := by
  intro f
  induction f with
  | zero =>
    intro b e h1 h2 h3
    simp at h2
    by_cases hc : cl lo b e = cl hi b e
    · simp only [rc, if_pos hc]
      rw [wo_out (by unfold cl at hc; omega) (by unfold cl at hc; omega)]
      rfl
    · simp only [rc, if_neg hc]
      rw [wo_in (by unfold cl at hc; omega)]
      rfl
  | succ f ih =>
    intro b e h1 h2 h3
    by_cases hc : cl lo b e = cl hi b e
    · simp only [rc, if_pos hc]
      rw [wo_out (by unfold cl at hc; omega) (by unfold cl at hc; omega)]
      rfl
    · by_cases hi2 : cl lo b e = 0 ∧ cl hi b e = e - b
      · simp only [rc, if_neg hc, if_pos hi2]
        rw [wo_in (by unfold cl at hi2; omega)]
        rfl
      · simp only [rc, if_neg hc, if_neg hi2]
        have hn : 2 ≤ e - b := by unfold cl at hc hi2; omega
        obtain ⟨q1, q2, q3⟩ := half_bounds hn (by omega)
        obtain ⟨r1, r2⟩ := half_le hn (by omega) h2
        have i1 := ih b (b + half (e - b)) (by omega) (by omega) (by omega)
        have i2 := ih (b + half (e - b)) e (by omega) (by omega) h3
        rw [wo_fork (by unfold cl at hi2; omega) (by unfold cl at hc; omega), List.length_append, ← i1, ← i2]
        have c1 := cl_one lo b e (b + half (e - b)) (by omega) (by omega)
        have c2 := cl_one hi b e (b + half (e - b)) (by omega) (by omega)
        have c3 := cl_two lo b e (b + half (e - b)) (by omega) (by omega)
        have c4 := cl_two hi b e (b + half (e - b)) (by omega) (by omega)
        rw [show b + half (e - b) - b = half (e - b) by omega] at c1 c2 c3 c4 ⊢
        rw [c1, c2, c3, c4, show e - (b + half (e - b)) = e - b - half (e - b) by omega]

theorem rc_le : ∀ (f n lo hi : Nat), lo ≤ hi → hi ≤ n → n ≤ 2 ^ f → n ≤ 4611686018427387904 → 1 ≤ n → rc f n lo hi ≤ n := by
  intro f n lo hi h1 h2 h3 h4 h5
  have e1 := rc_wo lo hi h1 f 0 n (by omega) (by omega) h4
  have c1 : cl lo 0 n = lo := by unfold cl; omega
  have c2 : cl hi 0 n = hi := by unfold cl; omega
  rw [c1, c2] at e1
  rw [Nat.sub_zero] at e1
  rw [e1]
  have := wo_room (lo := lo) (hi := hi) f 0 n (by omega) (by omega) h4
  omega

set_option maxRecDepth 100000 in
set_option maxHeartbeats 1000000 in
theorem piece_of (n lo hi : Nat) (x y : Int) (c : Nat) (w : World) (hn : n ≤ 1048576) (hx : max 0 (min x (n : Int)) = (lo : Int)) (hy : max 0 (min y (n : Int)) = (hi : Int)) (hl : lo ≤ hi) (hx0 : -4611686018427387904 ≤ x) (hx1 : x ≤ 4611686018427387904) (hy0 : -4611686018427387904 ≤ y) (hy1 : y ≤ 4611686018427387904)
    (hC : Calls Tryd.prog 16 #[.int .i64 (n : Int), .int .i64 (lo : Int), .int .i64 (hi : Int)] w fun r w' => r = .returned (.int .i64 (c : Int)) ∧ w' = w) :
    Calls Tryd.prog 41 #[.int .i64 (n : Int), .int .i64 x, .int .i64 y] w fun r w' => r = .returned (.int .i64 (c : Int)) ∧ w' = w := by
  obtain ⟨X, hX⟩ : ∃ X : Int, (if (n : Int) < x then (n : Int) else x) = X := ⟨_, rfl⟩
  obtain ⟨Y, hY⟩ : ∃ Y : Int, (if (n : Int) < y then (n : Int) else y) = Y := ⟨_, rfl⟩
  have hX2 : (if 0 < X then X else 0) = (lo : Int) := by rw [← hx, ← hX]; split <;> split <;> omega
  have hY2 : (if 0 < Y then Y else 0) = (hi : Int) := by rw [← hy, ← hY]; split <;> split <;> omega
  have hm1 : (if (lo : Int) < (hi : Int) then (hi : Int) else (lo : Int)) = (hi : Int) := by split <;> omega
  have hm2 : (if lo < hi then (hi : Int) else (lo : Int)) = (hi : Int) := by split <;> omega
  clear hx hy hx0 hx1 hy0 hy1
  go_enter Tryd.func41, Tryd.ntmps41
  go_wp2_with fail
  refine hC.mono ?_
  rintro r w1 ⟨rfl, hw⟩
  subst hw
  clear hC
  go_wp2
  go_ret
  exact ⟨rfl, rfl⟩

set_option maxRecDepth 100000 in
set_option maxHeartbeats 2000000 in
theorem rcount_same (n lo : Nat) (w : World) (h2 : lo ≤ n) (h3 : n ≤ 1048576) (h0 : 1 ≤ n) :
    Calls Tryd.prog 16 #[.int .i64 (n : Int), .int .i64 (lo : Int), .int .i64 (lo : Int)] w fun r w' => r = .returned (.int .i64 1) ∧ w' = w := by
  have a1 : decide ((lo : Int) < 0) = false := by simp
  have a3 : decide (n < lo) = false := by simp; omega
  have a4 : decide ((n : Int) < 1) = false := by simp; omega
  have a5 : decide ((1048576 : Int) < (n : Int)) = false := by simp; omega
  have a6 : decide (lo < lo) = false := by simp
  go_enter Tryd.func16, Tryd.ntmps16
  go_wp2
  go_ret
  exact ⟨rfl, rfl⟩

set_option maxRecDepth 100000 in
set_option maxHeartbeats 2000000 in
theorem rcount_all (n : Nat) (w : World) (h3 : n ≤ 1048576) (h0 : 1 ≤ n) :
    Calls Tryd.prog 16 #[.int .i64 (n : Int), .int .i64 0, .int .i64 (n : Int)] w fun r w' => r = .returned (.int .i64 0) ∧ w' = w := by
  have a2 : decide ((n : Int) < 0) = false := by simp
  have a3 : decide (n < n) = false := by simp
  have a4 : decide ((n : Int) < 1) = false := by simp; omega
  have a5 : decide ((1048576 : Int) < (n : Int)) = false := by simp; omega
  have a6 : ((0 : Int) == (n : Int)) = false := by simp; omega
  go_enter Tryd.func16, Tryd.ntmps16
  go_wp2
  go_ret
  exact ⟨rfl, rfl⟩

set_option maxRecDepth 100000 in
set_option maxHeartbeats 2000000 in
theorem rcount_fork (n lo hi k x y : Nat) (w : World) (h1 : lo < hi) (h2 : hi ≤ n) (h3 : n ≤ 1048576) (h0 : 1 ≤ n) (hin : ¬ (lo = 0 ∧ hi = n)) (hk : k < n) (hx : x ≤ 1048576) (hy : y ≤ 1048576)
    (hS : Calls Tryd.prog 34 #[.int .i64 (n : Int)] w fun x w' => x = .returned (.int .i64 (k : Int)) ∧ w' = w)
    (hP : Calls Tryd.prog 41 #[.int .i64 (k : Int), .int .i64 (lo : Int), .int .i64 (hi : Int)] w fun r w' => r = .returned (.int .i64 (x : Int)) ∧ w' = w)
    (hQ : Calls Tryd.prog 41 #[.int .i64 ((n : Int) - (k : Int)), .int .i64 ((lo : Int) - (k : Int)), .int .i64 ((hi : Int) - (k : Int))] w fun r w' => r = .returned (.int .i64 (y : Int)) ∧ w' = w) :
    Calls Tryd.prog 16 #[.int .i64 (n : Int), .int .i64 (lo : Int), .int .i64 (hi : Int)] w fun r w' => r = .returned (.int .i64 ((x : Int) + (y : Int))) ∧ w' = w := by
  have a1 : decide ((lo : Int) < 0) = false := by simp
  have a2 : decide (hi < lo) = false := by simp; omega
  have a3 : decide (n < hi) = false := by simp; omega
  have a4 : decide ((n : Int) < 1) = false := by simp; omega
  have a5 : decide ((1048576 : Int) < (n : Int)) = false := by simp; omega
  have a6 : ((lo : Int) == (hi : Int)) = false := by simp; omega
  by_cases hz : lo = 0
  · have a8 : ((lo : Int) == 0) = true := by simp; omega
    have a7 : ((hi : Int) == (n : Int)) = false := by simp; omega
    clear hin hz
    go_enter Tryd.func16, Tryd.ntmps16
    go_wp2_with fail
    refine hS.mono ?_
    rintro r w1 ⟨rfl, hw⟩
    subst hw
    clear hS
    go_wp2_with fail
    refine hP.mono ?_
    rintro r w2 ⟨rfl, hw⟩
    subst hw
    clear hP
    go_wp2_with fail
    refine hQ.mono ?_
    rintro r w3 ⟨rfl, hw⟩
    subst hw
    clear hQ
    go_wp2
    go_ret
    exact ⟨rfl, rfl⟩
  · have a7 : ((lo : Int) == 0) = false := by simp; omega
    clear hin
    go_enter Tryd.func16, Tryd.ntmps16
    go_wp2_with fail
    refine hS.mono ?_
    rintro r w1 ⟨rfl, hw⟩
    subst hw
    clear hS
    go_wp2_with fail
    refine hP.mono ?_
    rintro r w2 ⟨rfl, hw⟩
    subst hw
    clear hP
    go_wp2_with fail
    refine hQ.mono ?_
    rintro r w3 ⟨rfl, hw⟩
    subst hw
    clear hQ
    go_wp2
    go_ret
    exact ⟨rfl, rfl⟩

theorem cl_le (x b e : Nat) : cl x b e ≤ e - b := by unfold cl; omega

theorem rcount_ok : ∀ (f n lo hi : Nat) (w : World), lo ≤ hi → hi ≤ n → n ≤ 1048576 → 1 ≤ n → n ≤ 2 ^ f →
    Calls Tryd.prog 16 #[.int .i64 (n : Int), .int .i64 (lo : Int), .int .i64 (hi : Int)] w fun r w' => r = .returned (.int .i64 (rc f n lo hi : Int)) ∧ w' = w := by
  intro f
  induction f with
  | zero =>
    intro n lo hi w h1 h2 h3 h0 hf
    simp at hf
    obtain rfl : n = 1 := by omega
    by_cases hc : lo = hi
    · subst hc
      simp only [rc, if_pos]
      exact rcount_same 1 lo w h2 h3 h0
    · simp only [rc, if_neg hc]
      obtain rfl : lo = 0 := by omega
      obtain rfl : hi = 1 := by omega
      exact rcount_all 1 w h3 h0
  | succ f ih =>
    intro n lo hi w h1 h2 h3 h0 hf
    by_cases hc : lo = hi
    · subst hc
      simp only [rc, if_pos]
      exact rcount_same n lo w h2 h3 h0
    · by_cases hin : lo = 0 ∧ hi = n
      · simp only [rc, if_neg hc, if_pos hin]
        obtain ⟨rfl, rfl⟩ := hin
        exact rcount_all hi w h3 h0
      · simp only [rc, if_neg hc, if_neg hin]
        have hn : 2 ≤ n := by omega
        obtain ⟨q1, q2, q3⟩ := half_bounds hn (by omega)
        obtain ⟨r1, r2⟩ := half_le hn (by omega) hf
        have l1 : cl lo 0 (half n) ≤ cl hi 0 (half n) := by unfold cl; omega
        have l2 : cl lo (half n) n ≤ cl hi (half n) n := by unfold cl; omega
        have m1 := cl_le hi 0 (half n)
        have m2 := cl_le hi (half n) n
        rw [Nat.sub_zero] at m1
        have i1 := fun w => ih (half n) (cl lo 0 (half n)) (cl hi 0 (half n)) w l1 m1 (by omega) (by omega) (by omega)
        have i2 := fun w => ih (n - half n) (cl lo (half n) n) (cl hi (half n) n) w l2 m2 (by omega) (by omega) (by omega)
        have b1 := rc_le f (half n) _ _ l1 m1 (by omega) (by omega) (by omega)
        have b2 := rc_le f (n - half n) _ _ l2 m2 (by omega) (by omega) (by omega)
        rw [Int.natCast_add]
        refine rcount_fork n lo hi (half n) _ _ w (by omega) h2 h3 h0 hin q2 (by omega) (by omega) (rsplit2_any n w hn (by omega)) ?_ ?_
        · exact piece_of (half n) _ _ (lo : Int) (hi : Int) _ w (by omega) (by unfold cl; omega) (by unfold cl; omega) l1 (by omega) (by omega) (by omega) (by omega) (i1 w)
        · have := piece_of (n - half n) _ _ ((lo : Int) - (half n : Int)) ((hi : Int) - (half n : Int)) _ w (by omega) (by unfold cl; omega) (by unfold cl; omega) l2 (by omega) (by omega) (by omega) (by omega) (i2 w)
          rwa [show ((n - half n : Nat) : Int) = (n : Int) - (half n : Int) by omega] at this

set_option maxRecDepth 100000 in
set_option maxHeartbeats 2000000 in
theorem rcount_no (n lo hi : Int) (w : World) (h : ¬ (n ≤ 1048576 ∧ 0 ≤ lo ∧ lo ≤ hi ∧ hi ≤ n ∧ 0 < n)) :
    Calls Tryd.prog 16 #[.int .i64 n, .int .i64 lo, .int .i64 hi] w fun r w' => r = .returned (.int .i64 0) ∧ w' = w := by
  by_cases h1 : lo < 0
  · clear h
    go_enter Tryd.func16, Tryd.ntmps16
    go_wp2
    go_ret
    exact ⟨rfl, rfl⟩
  · have a1 : decide (lo < 0) = false := by simpa using h1
    by_cases h2 : hi < lo
    · clear h
      go_enter Tryd.func16, Tryd.ntmps16
      go_wp2
      go_ret
      exact ⟨rfl, rfl⟩
    · have a2 : decide (hi < lo) = false := by simpa using h2
      by_cases h3 : n < hi
      · clear h
        go_enter Tryd.func16, Tryd.ntmps16
        go_wp2
        go_ret
        exact ⟨rfl, rfl⟩
      · have a3 : decide (n < hi) = false := by simpa using h3
        by_cases h4 : n < 1
        · clear h
          go_enter Tryd.func16, Tryd.ntmps16
          go_wp2
          go_ret
          exact ⟨rfl, rfl⟩
        · have a4 : decide (n < 1) = false := by simpa using h4
          have h5 : 1048576 < n := by omega
          clear h
          go_enter Tryd.func16, Tryd.ntmps16
          go_wp2
          go_ret
          exact ⟨rfl, rfl⟩

theorem rcount_any (n lo hi : Int) (w : World) :
    Calls Tryd.prog 16 #[.int .i64 n, .int .i64 lo, .int .i64 hi] w fun r w' => r = .returned (.int .i64 (cntF n lo hi : Int)) ∧ w' = w := by
  by_cases h : n ≤ 1048576 ∧ 0 ≤ lo ∧ lo ≤ hi ∧ hi ≤ n ∧ 0 < n
  · obtain ⟨N, rfl⟩ : ∃ N : Nat, n = (N : Int) := ⟨n.toNat, by omega⟩
    obtain ⟨A, rfl⟩ : ∃ A : Nat, lo = (A : Int) := ⟨lo.toNat, by omega⟩
    obtain ⟨B, rfl⟩ : ∃ B : Nat, hi = (B : Int) := ⟨hi.toNat, by omega⟩
    have := rcount_ok 20 N A B w (by omega) (by omega) (by omega) (by omega) (by omega)
    have e := rc_wo A B (by omega) 20 0 N (by omega) (by omega) (by omega)
    have c1 : cl A 0 N = A := by unfold cl; omega
    have c2 : cl B 0 N = B := by unfold cl; omega
    rw [c1, c2, Nat.sub_zero] at e
    unfold cntF
    rw [if_pos h]
    simp only [Int.toNat_natCast]
    rw [← e]
    exact this
  · unfold cntF
    rw [if_neg h]
    exact rcount_no n lo hi w h

end Go.Proofs.YtichffdkihifpaaDoor

namespace Go.Proofs.YtichffdkihifpaaDoor
open Go.RowKit

set_option maxRecDepth 100000 in
set_option maxHeartbeats 400000 in
theorem rtext_arg (tag : Int) (v : Value) (w : World) (p : Option Addr) (n c : Nat) (hv : v = .slice p n c) (h : tag < 0 ∨ 255 < tag) :
    Calls Tryd.prog 50 #[.int .i64 tag, v] w fun e w' => e = .returned (.tuple #[.slice none 0 0, .int .i64 1]) ∧ w' = w := by
  subst hv
  rcases h with h | h
  · have hd : decide (tag < 0) = true := by simpa using h
    go_enter Tryd.func50, Tryd.ntmps50
    go_wp2
    go_ret2
    exact ⟨rfl, rfl⟩
  · have hd : decide (tag < 0) = false := by simp; omega
    go_enter Tryd.func50, Tryd.ntmps50
    go_wp2
    go_ret2
    exact ⟨rfl, rfl⟩

set_option maxRecDepth 100000 in
set_option maxHeartbeats 4000000 in
theorem rtext_in (tag : Int) (v : Value) (ls : List (List UInt8)) (w : World) (h0 : 0 ≤ tag) (h1 : tag ≤ 255) (h : PA w v ls) (hn : ls.length ≤ 1048576) :
    Calls Tryd.prog 50 #[.int .i64 tag, v] w fun e w' => (fits ls → ∃ v', e = .returned (.tuple #[v', .int .i64 0]) ∧ w'.ownsRow w.heap.size 5 1 v' ((body ls).length + 1) (bcs (UInt8.ofNat tag.toNat :: body ls))) ∧ (¬ fits ls → e = .returned (.tuple #[.slice none 0 0, .int .i64 4])) ∧ Below w.heap.size w w' := by
  obtain ⟨p, c, rfl⟩ := h.shape
  have hlen := h.len.2
  unfold maxLen at hlen
  have hd : decide (tag < 0) = false := by simp; omega
  obtain ⟨i0, hi, hz0, hz1, hz2⟩ := info_parts i_u8
  go_enter Tryd.func50, Tryd.ntmps50
  have htg : bcs [UInt8.ofNat tag.toNat] = [.int .u8 tag] := by simp [bcs, bc]; omega
  have hown0 : (w.alloc (.cells #[.int .u8 tag] 5)).ownsRow w.heap.size 5 1 (.slice (some ⟨w.heap.size, 0, none⟩) 1 1) (1 + (body (ls.take 0)).length) (bcs (UInt8.ofNat tag.toNat :: body (ls.take 0))) := by
    have e : bcs (UInt8.ofNat tag.toNat :: body (ls.take 0)) = [.int .u8 tag] := by rw [← htg]; simp [body]
    rw [e]
    exact ⟨rfl, .inr ⟨w.heap.size, 1, #[.int .u8 tag], rfl, Nat.le_refl _, heap_alloc_new w _, Nat.le_refl _, by unfold maxLen; omega, rfl, rfl⟩⟩
  have hbe0 : Below w.heap.size w (w.alloc (.cells #[.int .u8 tag] 5)) := (Below.refl _ w).alloc (Nat.le_refl _) _
  have H0 : Hid ((w.alloc (.cells #[.int .u8 tag] 5)).ownsRow w.heap.size 5 1 (.slice (some ⟨w.heap.size, 0, none⟩) 1 1) (1 + (body (ls.take 0)).length) (bcs (UInt8.ofNat tag.toNat :: body (ls.take 0)))) := hown0
  clear hown0 htg
  go_wp2
  go_loopw [6, 20] (fun v i wr => ∃ k : Nat, k ≤ ls.length ∧ i = .int .i64 k ∧ fits (ls.take k) ∧ wr.ownsRow w.heap.size 5 1 v (1 + (body (ls.take k)).length) (bcs (UInt8.ofNat tag.toNat :: body (ls.take k))) ∧ Below w.heap.size w wr)
    (fun _ i _ => ls.length - (intOf i).toNat)
  case atStart => exact ⟨0, Nat.zero_le _, rfl, (fun p hp => by simp at hp), H0.out, hbe0⟩
  case round =>
    clear H0 hbe0
    obtain ⟨k, hk, rfl, hfk, hown, hbe⟩ := hrel
    have hbk := body_take_le ls k hk hfk
    have hszr := hbe.size
    by_cases hlt : k < ls.length
    · obtain ⟨b, o, rfl⟩ := h.addr (by omega)
      obtain ⟨q1, k1, l1, g1, hc1, hb1⟩ := h.get k hlt
      have hl1 := hb1.len.2
      unfold maxLen at hl1
      have hcr := cell_later hbe hc1
      by_cases hbig : l1.length ≤ 65535
      · have HS := text_step ls k l1 (UInt8.ofNat tag.toNat) g1.out hbig
        have hfs := fits_snoc hfk g1.out hbig
        have HFS : Hid (fits (ls.take (k + 1))) := hfs
        have HL : Hid ((body (ls.take (k + 1))).length = (body (ls.take k)).length + (l1.length + 2)) := by
          show (body (ls.take (k + 1))).length = (body (ls.take k)).length + (l1.length + 2)
          rw [body_snoc ls k l1 g1.out, List.length_append, part_length]
        generalize bcs (UInt8.ofNat tag.toNat :: body (ls.take k)) = X at *
        generalize (body (ls.take k)).length = L at *
        have HS2 : Hid (X ++ [.int .u8 ((l1.length : Int) / 256), .int .u8 ((l1.length : Int) % 256)] ++ bcs l1 = bcs (UInt8.ofNat tag.toNat :: body (ls.take (k + 1)))) := HS
        clear HS hc1 hfk hfs
        go_wp2_with (first | (at_builtin; refine wpList_append_own _ rfl (.tmp 27) (.tmp 35) 25 rfl w.heap.size 5 i0 (.int .u8 0) 1 1 Tryd.underlying25 hi hz0 hz1 hz2 rfl (by decide) _ _ _ rfl (hown.alloc _) ⟨wr.heap.size, 0, none⟩ 2 2 [.int .u8 ((l1.length : Int) / 256), .int .u8 ((l1.length : Int) % 256)] rfl rfl ?ra ?rb ?rc ?rd ?re ?_))
        case ra => exact cell_two_new _ _ _ _
        case rb => intro u hu; simp at hu; rcases hu with rfl | rfl <;> rfl
        case rc => unfold maxLen; omega
        case rd => omega
        case re => simp; omega
        intro v3 w3 hown3 hgrow3 _
        have hb3 : Below w.heap.size w w3 := (hbe.alloc hszr _).grown hgrow3 (by simp; omega) (fun k hk => (hown.lt k hk).1)
        have hsz3 := hb3.size
        have hbr3 := hb1.later hb3
        clear hown hgrow3 hcr
        go_wp2_with (first | (at_builtin; refine wpList_append_hb rfl (.tmp 36) (.tmp 37) 25 rfl w.heap.size 5 Tryd.underlying25 i_u8 _ _ _ rfl hown3 _ _ _ l1 rfl hbr3 ?sa ?sb ?_))
        case sa => omega
        case sb => omega
        intro v4 w4 hown4 hgrow4
        have hb4 : Below w.heap.size w w4 := hb3.grown hgrow4 hsz3 (fun k hk => (hown3.lt k hk).1)
        have hown5 : w4.ownsRow w.heap.size 5 1 v4 (1 + (body (ls.take (k + 1))).length) (bcs (UInt8.ofNat tag.toNat :: body (ls.take (k + 1)))) := by
          rw [HL.out, ← HS2.out]
          have e : 1 + (L + (l1.length + 2)) = 1 + L + 2 + l1.length := by omega
          rw [e]
          simpa using hown4
        clear hown4 hown3 hgrow4 hb3 hbr3
        go_wp2
        go_roundw
        case rel => first | exact ⟨k + 1, by omega, by go_num, HFS.out, hown5, hb4⟩ | ((repeat apply Exists.intro); exact ⟨⟨k + 1, by omega, by go_num, HFS.out, hown5, hb4⟩, rfl⟩)
        case measure => simp [intOf]; omega
      · have HNF : Hid (¬ fits ls) := fun hf => hbig (hf l1 (List.mem_of_getElem? g1.out))
        clear hown hfk hbk
        go_wp2
        go_ret2
        exact ⟨fun hf => absurd hf HNF.out, fun _ => rfl, hbe⟩
    · have hkl : k = ls.length := by omega
      subst hkl
      rw [List.take_of_length_le (Nat.le_refl _)] at hown hfk hbk
      have HF : Hid (fits ls) := hfk
      clear hfk hbk
      go_wp2
      go_ret2
      refine ⟨fun _ => ⟨_, rfl, ?_⟩, fun hf => absurd HF.out hf, hbe⟩
      rw [Nat.add_comm _ 1]
      exact hown

end Go.Proofs.YtichffdkihifpaaDoor

namespace Go.Proofs.YtichffdkihifpaaDoor
open Go.RowKit

set_option maxRecDepth 100000 in
set_option maxHeartbeats 1000000 in
theorem rhash_ty (size tag er : Int) (v : Value) (L D : List UInt8) (w : World) (hv : ∃ p n c, v = .slice p n c) (hD : D.length = 32)
    (ht : Calls Tryd.prog 50 #[.int .i64 tag, v] w fun e w' => ∃ p c, e = .returned (.tuple #[.slice p L.length c, .int .i64 er]) ∧ HB w' (.slice p L.length c) L ∧ Below w.heap.size w w')
    (hs : ∀ v w', HB w' v L → Below w.heap.size w w' → Calls Tryd.prog 55 #[v] w' fun e w'' => ∃ v', e = .returned v' ∧ w''.ownsRow w'.heap.size 5 1 v' 32 (bcs D) ∧ Below w'.heap.size w' w'') :
    Calls Tryd.prog 33 #[.int .i64 size, .int .i64 tag, v] w fun e w' => ∃ p c, e = .returned (.slice p (hashL size er D).length c) ∧ HB w' (.slice p (hashL size er D).length c) (hashL size er D) ∧ Below w.heap.size w w' ∧ TB w' (.slice p (hashL size er D).length c) := by
  obtain ⟨p, n, c, rfl⟩ := hv
  have HT : Hid (Calls Tryd.prog 50 #[.int .i64 tag, .slice p n c] w fun e w' => ∃ p c, e = .returned (.tuple #[.slice p L.length c, .int .i64 er]) ∧ HB w' (.slice p L.length c) L ∧ Below w.heap.size w w') := ht
  have HS : Hid _ := hs
  have HD : Hid (D.length = 32) := hD
  clear ht hs hD
  by_cases h0 : er = 0
  · subst h0
    have hl : hashL size 0 D = D.take (cutLen size) := by simp [hashL]
    rw [hl]
    clear hl
    have HL : Hid ((D.take (cutLen size)).length = cutLen size) := by
      have := cutLen_le size
      show _ = _
      rw [List.length_take, HD.out]
      omega
    go_enter Tryd.func33, Tryd.ntmps33
    go_wp2_with fail
    refine HT.out.mono ?_
    rintro e w1 ⟨p1, c1, rfl, h1, hb1⟩
    go_wp2_with fail
    refine (rcut_ty _ _ _ _ HD.out (HS.out _ _ h1 hb1)).mono ?_
    rintro e w2 ⟨p2, c2, rfl, h2, hb2, t2⟩
    have HH : Hid (HB w2 (.slice p2 (cutLen size) c2) (D.take (cutLen size))) := h2
    clear h1 h2 HT HS
    go_wp2
    go_ret
    refine ⟨p2, c2, ?_, ?_, hb1.trans (hb2.mono hb1.size), t2.front _ _⟩
    · rw [HL.out]; rfl
    · rw [HL.out]; exact HH.out
  · have hl : hashL size er D = [] := by simp [hashL, h0]
    rw [hl]
    clear hl HS HD
    go_enter Tryd.func33, Tryd.ntmps33
    go_wp2_with fail
    refine HT.out.mono ?_
    rintro e w1 ⟨p1, c1, rfl, h1, hb1⟩
    clear HT h1
    go_wp2
    go_ret
    exact ⟨none, 0, rfl, HB.nil _, hb1, TB.nil _ _ _⟩

theorem rhash_toT (size : Int) (tag : Nat) (v : Value) (ls : List (List UInt8)) (w : World) (hn : ls.length ≤ 10) (ht : tag ≤ 255) (h : PA w v ls) :
    Calls Tryd.prog 33 #[.int .i64 size, .int .i64 (tag : Int), v] w fun e w' => ∃ p c, e = .returned (.slice p (hashF size tag ls).length c) ∧ HB w' (.slice p (hashF size tag ls).length c) (hashF size tag ls) ∧ Below w.heap.size w w' ∧ TB w' (.slice p (hashF size tag ls).length c) := by
  obtain ⟨p, c, hv⟩ := h.shape
  by_cases hf : fits ls
  · have hle := body_le ls hf
    have e1 : hashF size tag ls = hashL size 0 (sha (UInt8.ofNat tag :: body ls)) := by
      unfold hashF hashL
      rw [if_pos (show ∀ p ∈ ls, p.length ≤ 65535 from hf), if_pos rfl]
    rw [e1]
    have hl : (UInt8.ofNat tag :: body ls).length ≤ 140737488351232 := by simp; omega
    refine rhash_ty size tag 0 v (UInt8.ofNat tag :: body ls) _ w ⟨p, _, c, hv⟩ (sha_length _) ?_ ?_
    · refine (rtext_in tag v ls w (by omega) (by omega) h (by omega)).mono fun e w' ⟨h1, _, hb⟩ => ?_
      obtain ⟨v', he, ho⟩ := h1 hf
      have hh := HB.of_owns ho
      obtain ⟨p, c, hv⟩ := hh.shape
      subst hv
      exact ⟨p, c, he, hh, hb⟩
    · intro v w' hv _
      exact rsum_any v _ w' hv hl
  · have e1 : hashF size tag ls = hashL size 4 (sha []) := by
      unfold hashF hashL
      rw [if_neg (show ¬ ∀ p ∈ ls, p.length ≤ 65535 from hf), if_neg (by decide)]
    rw [e1]
    refine rhash_ty size tag 4 v [] _ w ⟨p, _, c, hv⟩ (sha_length _) ?_ ?_
    · exact (rtext_in tag v ls w (by omega) (by omega) h (by omega)).mono fun e w' ⟨_, h2, hb⟩ => ⟨none, 0, h2 hf, HB.nil _, hb⟩
    · intro v w' hv _
      exact rsum_any v _ w' hv (by simp)

theorem rhash_any (size tag er : Int) (v : Value) (L D : List UInt8) (w : World) (hv : ∃ p n c, v = .slice p n c) (hD : D.length = 32)
    (ht : Calls Tryd.prog 50 #[.int .i64 tag, v] w fun e w' => ∃ p c, e = .returned (.tuple #[.slice p L.length c, .int .i64 er]) ∧ HB w' (.slice p L.length c) L ∧ Below w.heap.size w w')
    (hs : ∀ v w', HB w' v L → Below w.heap.size w w' → Calls Tryd.prog 55 #[v] w' fun e w'' => ∃ v', e = .returned v' ∧ w''.ownsRow w'.heap.size 5 1 v' 32 (bcs D) ∧ Below w'.heap.size w' w'') :
    Calls Tryd.prog 33 #[.int .i64 size, .int .i64 tag, v] w fun e w' => ∃ p c, e = .returned (.slice p (hashL size er D).length c) ∧ HB w' (.slice p (hashL size er D).length c) (hashL size er D) ∧ Below w.heap.size w w' :=
  (rhash_ty size tag er v L D w hv hD ht hs).mono fun _ _ ⟨p, c, h1, h2, h3, _⟩ => ⟨p, c, h1, h2, h3⟩

theorem rhash_to (size : Int) (tag : Nat) (v : Value) (ls : List (List UInt8)) (w : World) (hn : ls.length ≤ 10) (ht : tag ≤ 255) (h : PA w v ls) :
    Calls Tryd.prog 33 #[.int .i64 size, .int .i64 (tag : Int), v] w fun e w' => ∃ p c, e = .returned (.slice p (hashF size tag ls).length c) ∧ HB w' (.slice p (hashF size tag ls).length c) (hashF size tag ls) ∧ Below w.heap.size w w' :=
  (rhash_toT size tag v ls w hn ht h).mono fun _ _ ⟨p, c, h1, h2, h3, _⟩ => ⟨p, c, h1, h2, h3⟩

end Go.Proofs.YtichffdkihifpaaDoor

namespace Go.Proofs.YtichffdkihifpaaDoor
open Go.RowKit

set_option maxRecDepth 100000 in
set_option maxHeartbeats 1000000 in
theorem rroot_none (size : Int) (v : Value) (w : World) (hp : PA w v []) :
    Calls Tryd.prog 11 #[.int .i64 size, v] w fun x w' => ∃ p c, x = .returned (.slice p (rootF size []).length c) ∧ HB w' (.slice p (rootF size []).length c) (rootF size []) ∧ Below w.heap.size w w' ∧ TB w' (.slice p (rootF size []).length c) := by
  obtain ⟨p, c, rfl⟩ := hp.shape
  have hH := rhash_toT size 0 (.slice none 0 0) [] w (by simp) (by decide) (PA.nil _)
  have hR : rootF size [] = hashF size 0 [] := by simp [rootF]
  rw [hR]
  generalize hashF size 0 [] = F at *
  clear hp hR
  simp only [List.length_nil, Int.natCast_zero] at *
  go_enter Tryd.func11, Tryd.ntmps11
  go_wp2_with fail
  refine hH.mono ?_
  rintro x w1 ⟨p1, c1, rfl, k1, hb1, t1⟩
  clear hH
  go_wp2
  go_ret
  exact ⟨p1, c1, rfl, k1, hb1, t1⟩

set_option maxRecDepth 100000 in
set_option maxHeartbeats 1000000 in
theorem rroot_one (size : Int) (v : Value) (l : List UInt8) (w : World) (hp : PA w v [l]) (hl : l.length ≤ 140737488355328) :
    Calls Tryd.prog 11 #[.int .i64 size, v] w fun x w' => ∃ p c, x = .returned (.slice p l.length c) ∧ HB w' (.slice p l.length c) l ∧ Below w.heap.size w w' ∧ TB w' (.slice p l.length c) := by
  obtain ⟨p, c, rfl⟩ := hp.shape
  obtain ⟨bl, o, rfl⟩ := hp.addr (by simp)
  obtain ⟨q, k, l', hl', hc1, hh⟩ := hp.get 0 (by simp)
  obtain rfl : l = l' := by have := hl'.out; simpa using this
  have bA := (Below.refl w.heap.size w).alloc (Nat.le_refl _) (.cells #[] 5)
  have hA := hh.later bA
  have d1 := cell_later bA hc1
  rw [Nat.add_zero] at d1
  clear hp hc1 hh hl'
  simp only [List.length_cons, List.length_nil, Nat.zero_add] at *
  go_enter Tryd.func11, Tryd.ntmps11
  go_wp2_with (at_builtin; refine wpList_append_hb rfl (.tmp 14) (.tmp 17) 25 rfl w.heap.size 5 Tryd.underlying25 i_u8 _ 0 [] rfl (World.ownsRow_made w #[] 0 (Nat.le_refl _) (Nat.zero_le _) rfl) _ _ _ l rfl hA ?qa ?qb ?_)
  case qa => omega
  case qb => simp
  intro v1 w1 hown1 hgrow1
  have hb1 : Below w.heap.size w w1 := ((Below.refl _ w).alloc (Nat.le_refl _) _).grown hgrow1 (by simp) (by intro k hk; cases hk; exact Nat.le_refl _)
  have ho : w1.ownsRow w.heap.size 5 1 v1 l.length (bcs l) := by simpa using hown1
  have hh := HB.of_owns ho
  have tt := TB.of_owns ho
  obtain ⟨p1, c1, hv⟩ := hh.shape
  rw [hv] at hh tt ⊢
  clear hv hown1 hgrow1 ho hA d1
  go_wp2
  go_ret
  exact ⟨_, _, rfl, hh, hb1, tt⟩

theorem cf_rroot (xs : Array Value) (w : World) : (callFunc 11 xs).run Tryd.prog w = .ok (.enter 11 xs) w := by go_simp
theorem cf_rhash (xs : Array Value) (w : World) : (callFunc 33 xs).run Tryd.prog w = .ok (.enter 33 xs) w := by go_simp

set_option maxRecDepth 100000 in
set_option maxHeartbeats 2000000 in
theorem rroot_more (size : Int) (p : Option Addr) (c n k : Nat) (LA LB LC : List UInt8) (w : World) (hn : 2 ≤ n) (hk : k < n) (hc : n ≤ c) (hb : n ≤ 1048576)
    (hS : Calls Tryd.prog 34 #[.int .i64 (n : Int)] w fun x w' => x = .returned (.int .i64 (k : Int)) ∧ w' = w)
    (h1 : ∀ W, Below w.heap.size w W → Calls Tryd.prog 11 #[.int .i64 size, .slice p k c] W fun x w' => ∃ p c, x = .returned (.slice p LA.length c) ∧ HB w' (.slice p LA.length c) LA ∧ Below W.heap.size W w')
    (h2 : ∀ W, Below w.heap.size w W → Calls Tryd.prog 11 #[.int .i64 size, .slice (cutP p c k) (n - k) (c - k)] W fun x w' => ∃ p c, x = .returned (.slice p LB.length c) ∧ HB w' (.slice p LB.length c) LB ∧ Below W.heap.size W w')
    (h3 : ∀ W v, PA W v [LA, LB] → Calls Tryd.prog 33 #[.int .i64 size, .int .i64 4, v] W fun x w' => ∃ p c, x = .returned (.slice p LC.length c) ∧ HB w' (.slice p LC.length c) LC ∧ Below W.heap.size W w' ∧ TB w' (.slice p LC.length c)) :
    Calls Tryd.prog 11 #[.int .i64 size, .slice p n c] w fun x w' => ∃ p c, x = .returned (.slice p LC.length c) ∧ HB w' (.slice p LC.length c) LC ∧ Below w.heap.size w w' ∧ TB w' (.slice p LC.length c) := by
  have s1 := fun w => run_kupto (P := Tryd.prog) Tryd.underlying22 s_bytes p n c k (k : Int) rfl (by omega) w
  have s2 := fun w => run_cut (P := Tryd.prog) Tryd.underlying22 s_bytes p n c k (k : Int) rfl (by omega) w
  have n0 : ((n : Int) == 0) = false := by simp; omega
  have n1 : ((n : Int) == 1) = false := by simp; omega
  generalize LA.length = na at *
  generalize LB.length = nb at *
  go_enter Tryd.func11, Tryd.ntmps11
  go_wp2_with fail
  refine hS.mono ?_
  rintro x w1 ⟨rfl, hw⟩
  subst hw
  clear hS
  go_wp2
  have hHeld : True := trivial
  refine wp_region_heldN (by kernel_rfl) (fun _ => True) 14 rfl ?_
  refine wpAnyH_take (i := 0) (oi := { dst := some 22, op := Op.move (Operand.tmp 0), type := 3, pos := "ref.go:27", after := #[], guard := none }) (v := ?v0) rfl (by kernel_rfl) (by kernel_rfl) (by kernel_rfl) (fun _ _ _ h => h) (Or.inl ⟨by rfl, ?y0⟩) hHeld ?r0
  case y0 => (intro w hSw; (try dsimp only at hSw); go_simp) <;> with_reducible rfl
  try simp only [Act.put, List.setIfInBounds_toArray, List.set_cons_zero, List.set_cons_succ]
  refine wpAnyH_take (i := 1) (oi := { dst := some 23, op := Op.move (Operand.tmp 0), type := 3, pos := "ref.go:27", after := #[], guard := none }) (v := ?v1) rfl (by kernel_rfl) (by kernel_rfl) (by kernel_rfl) (fun _ _ _ h => h) (Or.inl ⟨by rfl, ?y1⟩) hHeld ?r1
  case y1 => (intro w hSw; (try dsimp only at hSw); go_simp) <;> with_reducible rfl
  try simp only [Act.put, List.setIfInBounds_toArray, List.set_cons_zero, List.set_cons_succ]
  refine wpAnyH_take (i := 2) (oi := { dst := some 24, op := Op.move (Operand.tmp 1), type := 22, pos := "ref.go:27", after := #[], guard := none }) (v := ?v2) rfl (by kernel_rfl) (by kernel_rfl) (by kernel_rfl) (fun _ _ _ h => h) (Or.inl ⟨by rfl, ?y2⟩) hHeld ?r2
  case y2 => (intro w hSw; (try dsimp only at hSw); go_simp) <;> with_reducible rfl
  try simp only [Act.put, List.setIfInBounds_toArray, List.set_cons_zero, List.set_cons_succ]
  refine wpAnyH_take (i := 3) (oi := { dst := some 25, op := Op.move (Operand.tmp 5), type := 3, pos := "ref.go:27", after := #[], guard := none }) (v := ?v3) rfl (by kernel_rfl) (by kernel_rfl) (by kernel_rfl) (fun _ _ _ h => h) (Or.inl ⟨by rfl, ?y3⟩) hHeld ?r3
  case y3 => (intro w hSw; (try dsimp only at hSw); go_simp) <;> with_reducible rfl
  try simp only [Act.put, List.setIfInBounds_toArray, List.set_cons_zero, List.set_cons_succ]
  refine wpAnyH_take (i := 4) (oi := { dst := some 26, op := Op.slice 22 (Operand.tmp 24) none (some (Operand.tmp 25)) none, type := 22, pos := "ref.go:27", after := #[{ on := 2, ground := Ground.data }, { on := 3, ground := Ground.data }], guard := none }) (v := ?v4) rfl (by kernel_rfl) (by kernel_rfl) (by kernel_rfl) (fun _ _ _ h => h) (Or.inl ⟨by rfl, ?y4⟩) hHeld ?r4
  case y4 => (intro w hSw; (try dsimp only at hSw); go_simp) <;> with_reducible rfl
  try simp only [Act.put, List.setIfInBounds_toArray, List.set_cons_zero, List.set_cons_succ]
  refine wpAnyH_take (i := 6) (oi := { dst := some 28, op := Op.move (Operand.tmp 0), type := 3, pos := "ref.go:27", after := #[], guard := none }) (v := ?v6) rfl (by kernel_rfl) (by kernel_rfl) (by kernel_rfl) (fun _ _ _ h => h) (Or.inl ⟨by rfl, ?y6⟩) hHeld ?r6
  case y6 => (intro w hSw; (try dsimp only at hSw); go_simp) <;> with_reducible rfl
  try simp only [Act.put, List.setIfInBounds_toArray, List.set_cons_zero, List.set_cons_succ]
  refine wpAnyH_take (i := 7) (oi := { dst := some 29, op := Op.move (Operand.tmp 1), type := 22, pos := "ref.go:27", after := #[], guard := none }) (v := ?v7) rfl (by kernel_rfl) (by kernel_rfl) (by kernel_rfl) (fun _ _ _ h => h) (Or.inl ⟨by rfl, ?y7⟩) hHeld ?r7
  case y7 => (intro w hSw; (try dsimp only at hSw); go_simp) <;> with_reducible rfl
  try simp only [Act.put, List.setIfInBounds_toArray, List.set_cons_zero, List.set_cons_succ]
  refine wpAnyH_take (i := 8) (oi := { dst := some 30, op := Op.move (Operand.tmp 5), type := 3, pos := "ref.go:27", after := #[], guard := none }) (v := ?v8) rfl (by kernel_rfl) (by kernel_rfl) (by kernel_rfl) (fun _ _ _ h => h) (Or.inl ⟨by rfl, ?y8⟩) hHeld ?r8
  case y8 => (intro w hSw; (try dsimp only at hSw); go_simp) <;> with_reducible rfl
  try simp only [Act.put, List.setIfInBounds_toArray, List.set_cons_zero, List.set_cons_succ]
  refine wpAnyH_take (i := 9) (oi := { dst := some 31, op := Op.slice 22 (Operand.tmp 29) (some (Operand.tmp 30)) none none, type := 22, pos := "ref.go:27", after := #[{ on := 7, ground := Ground.data }, { on := 8, ground := Ground.data }], guard := none }) (v := ?v9) rfl (by kernel_rfl) (by kernel_rfl) (by kernel_rfl) (fun _ _ _ h => h) (Or.inl ⟨by rfl, ?y9⟩) hHeld ?r9
  case y9 => (intro w hSw; (try dsimp only at hSw); go_simp) <;> with_reducible rfl
  try simp only [Act.put, List.setIfInBounds_toArray, List.set_cons_zero, List.set_cons_succ]
  refine wpAnyH_ready (rs := [5]) (by kernel_rfl) (by simp) ?_
  refine AllReadyH.cons (o := { dst := some 27, op := Op.call { callee := Callee.value (Operand.func 11), args := #[Operand.tmp 23, Operand.tmp 26], argTypes := #[3, 22] }, type := 25, pos := "ref.go:27", after := #[{ on := 1, ground := Ground.data }, { on := 4, ground := Ground.data }], guard := none }) rfl (fun K hK => ?_) AllReadyH.nil
  go_simp
  refine (h1 _ ((Below.refl _ _).drew)).mono ?_
  rintro e w2 ⟨p2, c2, rfl, k2, hb2'⟩
  have hb2 : Below w1.heap.size w1 w2 := ((Below.refl _ w1).drew).trans (hb2'.mono (by simp))
  refine hK.out _ _ ?_ (fun _ => ?_)
  · exact hHeld
  clear hK K
  try simp only [Act.put, List.setIfInBounds_toArray, List.set_cons_zero, List.set_cons_succ]
  refine wpAnyH_ready (rs := [10]) (by kernel_rfl) (by simp) ?_
  refine AllReadyH.cons (o := { dst := some 32, op := Op.call { callee := Callee.value (Operand.func 11), args := #[Operand.tmp 28, Operand.tmp 31], argTypes := #[3, 22] }, type := 25, pos := "ref.go:27", after := #[{ on := 6, ground := Ground.data }, { on := 9, ground := Ground.data }, { on := 5, ground := Ground.chain }], guard := none }) rfl (fun K hK => ?_) AllReadyH.nil
  go_simp
  refine (h2 _ hb2).mono ?_
  rintro e w3 ⟨p3, c3, rfl, k3, hb3'⟩
  have hb3 := hb2.trans (hb3'.mono hb2.size)
  have hpa := PA.two w3 _ _ _ _ (k2.later hb3') k3
  refine hK.out _ _ ?_ (fun _ => ?_)
  · exact hHeld
  clear hK K
  try simp only [Act.put, List.setIfInBounds_toArray, List.set_cons_zero, List.set_cons_succ]
  refine wpAnyH_ready (rs := [11]) (by kernel_rfl) (by simp) ?_
  refine AllReadyH.cons (o := { dst := some 33, op := Op.buildSlice 22 2 #[(0, Operand.tmp 27), (1, Operand.tmp 32)], type := 22, pos := "ref.go:27", after := #[{ on := 5, ground := Ground.data }, { on := 10, ground := Ground.data }], guard := none }) rfl (fun K hK => ?_) AllReadyH.nil
  go_simp
  refine hK.out _ _ ?_ (fun _ => ?_)
  · exact hHeld
  clear hK K
  try simp only [Act.put, List.setIfInBounds_toArray, List.set_cons_zero, List.set_cons_succ]
  refine wpAnyH_ready (rs := [12]) (by kernel_rfl) (by simp) ?_
  refine AllReadyH.cons (o := { dst := some 34, op := Op.call { callee := Callee.value (Operand.func 33), args := #[Operand.tmp 22, Operand.const (Value.int IntKind.i64 4), Operand.tmp 33], argTypes := #[3, 3, 22] }, type := 25, pos := "ref.go:27", after := #[{ on := 0, ground := Ground.data }, { on := 11, ground := Ground.data }, { on := 10, ground := Ground.chain }], guard := none }) rfl (fun K hK => ?_) AllReadyH.nil
  go_simp
  refine (h3 _ _ hpa).mono ?_
  rintro e w4 ⟨p4, c4, rfl, k4, hb4', t4⟩
  have hb3a := hb3.alloc hb3.size (.cells #[.slice p2 na c2, .slice p3 nb c3] 25)
  have hb4 := hb3a.trans (hb4'.mono hb3a.size)
  refine hK.out _ _ ?_ (fun _ => ?_)
  · exact hHeld
  clear hK K
  try simp only [Act.put, List.setIfInBounds_toArray, List.set_cons_zero, List.set_cons_succ]
  refine wpAnyH_take (i := 13) (oi := { dst := some 4, op := Op.assign (Operand.tmp 34), type := 25, pos := "ref.go:27", after := #[{ on := 12, ground := Ground.data }, { on := 12, ground := Ground.chain }, { on := 0, ground := Ground.phase }, { on := 1, ground := Ground.phase }, { on := 2, ground := Ground.phase }, { on := 3, ground := Ground.phase }, { on := 4, ground := Ground.phase }, { on := 5, ground := Ground.phase }, { on := 6, ground := Ground.phase }, { on := 7, ground := Ground.phase }, { on := 8, ground := Ground.phase }, { on := 9, ground := Ground.phase }, { on := 10, ground := Ground.phase }, { on := 11, ground := Ground.phase }, { on := 12, ground := Ground.phase }], guard := none }) (v := ?v13) rfl (by kernel_rfl) (by kernel_rfl) (by kernel_rfl) (fun _ _ _ h => h) (Or.inl ⟨by rfl, ?y13⟩) hHeld ?r13
  case y13 => (intro w hSw; (try dsimp only at hSw); go_simp) <;> with_reducible rfl
  try simp only [Act.put, List.setIfInBounds_toArray, List.set_cons_zero, List.set_cons_succ]
  refine wpAnyH_done (by kernel_rfl) ?_ _
  clear hpa k2 k3 hb2 hb2' hb3 hb3' hb3a hb4' h1 h2 h3 s1 s2
  go_wp2
  go_ret
  exact ⟨p4, c4, rfl, k4, hb4, t4⟩

theorem rootF_fork (size : Int) (ls : List (List UInt8)) (h : 2 ≤ ls.length) (hb : ls.length ≤ 1048576) : rootF size ls = hashF size 4 [rootF size (ls.take (half ls.length)), rootF size (ls.drop (half ls.length))] := by
  obtain ⟨q1, q2, q3⟩ := half_bounds h (by omega)
  have n1 : ls.take (half ls.length) ≠ [] := fun e => by have := congrArg List.length e; rw [List.length_take, List.length_nil] at this; omega
  have n2 : ls.drop (half ls.length) ≠ [] := fun e => by have := congrArg List.length e; rw [List.length_drop, List.length_nil] at this; omega
  rw [rootF_rt size 21 ls (List.length_pos_iff.1 (by omega)) (by omega) (by omega), rtF_more size 20 h, rootF_rt size 20 _ n1 (by simp; omega) (by simp; omega), rootF_rt size 20 _ n2 (by simp; omega) (by simp; omega)]
  rfl

theorem rroot_any (size : Int) : ∀ (f : Nat) (v : Value) (ls : List (List UInt8)) (w : World), PA w v ls → ls.length ≤ 2 ^ f → ls.length ≤ 1048576 → (∀ l ∈ ls, l.length ≤ 140737488355328) →
    Calls Tryd.prog 11 #[.int .i64 size, v] w fun x w' => ∃ p c, x = .returned (.slice p (rootF size ls).length c) ∧ HB w' (.slice p (rootF size ls).length c) (rootF size ls) ∧ Below w.heap.size w w' ∧ TB w' (.slice p (rootF size ls).length c) := by
  have few : ∀ (v : Value) (ls : List (List UInt8)) (w : World), PA w v ls → ls.length ≤ 1 → (∀ l ∈ ls, l.length ≤ 140737488355328) →
      Calls Tryd.prog 11 #[.int .i64 size, v] w fun x w' => ∃ p c, x = .returned (.slice p (rootF size ls).length c) ∧ HB w' (.slice p (rootF size ls).length c) (rootF size ls) ∧ Below w.heap.size w w' ∧ TB w' (.slice p (rootF size ls).length c) := by
    intro v ls w hp h1 hl
    match ls, hp, h1, hl with
    | [], hp, _, _ => exact rroot_none size v w hp
    | [l], hp, _, hl =>
      have e : rootF size [l] = l := by
        unfold rootF
        rw [if_neg (by simp), ovF_some (l := l) (by simp [knR])]
      rw [e]
      exact rroot_one size v l w hp (hl l (by simp))
    | a :: b :: r, _, h1, _ => simp at h1
  intro f
  induction f with
  | zero => intro v ls w hp h1 h2 hl; exact few v ls w hp (by simpa using h1) hl
  | succ f ih =>
    intro v ls w hp h1 h2 hl
    by_cases hc : ls.length ≤ 1
    · exact few v ls w hp hc hl
    · have hn : 2 ≤ ls.length := by omega
      obtain ⟨q1, q2, q3⟩ := half_bounds hn (by omega)
      obtain ⟨r1, r2⟩ := half_le hn (by omega) h1
      obtain ⟨p, c, rfl⟩ := hp.shape
      have hlen := hp.len
      rw [rootF_fork size ls hn h2]
      have pA := hp.kfront (half ls.length) (by omega)
      have pB := hp.seg (half ls.length) ls.length (by omega) (Nat.le_refl _)
      have eB : Go.Proofs.YtichffdkihifpaaDoor.seg ls (half ls.length) ls.length = ls.drop (half ls.length) := by
        unfold Go.Proofs.YtichffdkihifpaaDoor.seg
        exact List.take_of_length_le (by simp)
      rw [eB] at pB
      refine rroot_more size p c ls.length (half ls.length) (rootF size (ls.take (half ls.length))) (rootF size (ls.drop (half ls.length))) _ w hn q2 hlen.2.1 h2 (rsplit2_any _ w hn (by omega)) ?_ ?_ ?_
      · intro W hW
        refine (ih (.slice p (half ls.length) c) _ W (pA.later hW) (by simp; omega) (by simp; omega) (fun l h => hl l (List.mem_of_mem_take h))).mono ?_
        rintro x w' ⟨p', c', a, b, d, _⟩
        exact ⟨p', c', a, b, d⟩
      · intro W hW
        refine (ih _ _ W (pB.later hW) (by simp; omega) (by simp; omega) (fun l h => hl l (List.mem_of_mem_drop h))).mono ?_
        rintro x w' ⟨p', c', a, b, d, _⟩
        exact ⟨p', c', a, b, d⟩
      · intro W v hv
        exact rhash_toT size 4 v _ W (by simp) (by decide) hv

end Go.Proofs.YtichffdkihifpaaDoor
