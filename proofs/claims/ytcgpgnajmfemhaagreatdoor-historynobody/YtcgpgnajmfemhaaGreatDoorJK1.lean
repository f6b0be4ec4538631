/- What this text holds: plain facts about the tree over n digests (no program): where its right part begins, and which parts of it lie outside a range. What this text proves: the walks of merkle.split, lies, apart, without over this program: without has a function look at the greatest parts outside a range, from left to right. What this text proves: the walk of merkle.Count over this program: how many parts lie outside a range. What this text proves: the walks of the document's split, Count and piece (annalsref11) over this program. -/
import Derived.Lib.BitFns
import Derived.Test.YtcgpgnajmfemhaaGreatDoorJE2
import Derived.Deep.RegionHeld3
namespace Go.Proofs.YtcgpgnajmfemhaaGreatDoor

theorem bitLen_bounds : ∀ (f x : Nat), x < 2 ^ f → f ≤ 64 → 0 < x → 2 ^ (Lib.bitLen x - 1) ≤ x ∧ x < 2 ^ Lib.bitLen x ∧ 1 ≤ Lib.bitLen x
  | 0, x, h, _, h0 => by simp at h; omega
  | f + 1, x, h, hf, h0 => by
    have h64 : x < 2 ^ 64 := Nat.lt_of_lt_of_le h (Nat.pow_le_pow_right (by decide) hf)
    have e := Lib.bitLen_half x (by omega) h64
    rcases Nat.eq_zero_or_pos (x / 2) with hz | hp
    · have h1 : x = 1 := by omega
      subst h1
      have hb : Lib.bitLen 0 = 0 := by decide +kernel
      rw [e, hz, hb]
      decide
    · have hx : x / 2 < 2 ^ f := by rw [Nat.pow_succ] at h; omega
      obtain ⟨q1, q2, q3⟩ := bitLen_bounds f (x / 2) hx (by omega) hp
      generalize Lib.bitLen (x / 2) = L at *
      rw [e]
      obtain ⟨M, rfl⟩ : ∃ M, L = M + 1 := ⟨L - 1, by omega⟩
      simp only [Nat.add_sub_cancel] at q1
      rw [show 1 + (M + 1) - 1 = M + 1 by omega, show 1 + (M + 1) = (M + 1) + 1 by omega]
      simp only [Nat.pow_succ] at *
      omega

/-- How many digests the left part of n has: the greatest power of 2 below n. -/
def half (n : Nat) : Nat := 2 ^ (Lib.bitLen (n - 1) - 1)

theorem half_bounds {n : Nat} (h : 2 ≤ n) (hn : n ≤ 4611686018427387904) : 1 ≤ half n ∧ half n < n ∧ n ≤ 2 * half n := by
  obtain ⟨q1, q2, q3⟩ := bitLen_bounds 64 (n - 1) (by omega) (by omega) (by omega)
  unfold half
  generalize Lib.bitLen (n - 1) = L at *
  obtain ⟨M, rfl⟩ : ∃ M, L = M + 1 := ⟨L - 1, by omega⟩
  simp only [Nat.add_sub_cancel] at *
  rw [Nat.pow_succ] at q2
  have := Nat.pow_pos (n := M) (show 0 < 2 by decide)
  omega

theorem pow_lt_inv {a b : Nat} (h : 2 ^ a < 2 ^ b) : a < b := by
  rcases Nat.lt_or_ge a b with h1 | h1
  · exact h1
  · exact absurd h (Nat.not_lt.2 (Nat.pow_le_pow_right (by decide) h1))

theorem half_le {n f : Nat} (h : 2 ≤ n) (hn : n ≤ 4611686018427387904) (hf : n ≤ 2 ^ (f + 1)) : half n ≤ 2 ^ f ∧ n - half n ≤ 2 ^ f := by
  obtain ⟨q1, q2, q3⟩ := half_bounds h hn
  have h1 : half n < 2 ^ (f + 1) := Nat.lt_of_lt_of_le q2 hf
  have h2 : half n ≤ 2 ^ f := by
    unfold half at *
    have := pow_lt_inv h1
    exact Nat.pow_le_pow_right (by decide) (by omega)
  exact ⟨h2, by omega⟩

/-- Which power it is, by its bounds. -/
theorem half_eq {n j : Nat} (h1 : 2 ^ j < n) (h2 : n ≤ 2 * 2 ^ j) (hn : n ≤ 4611686018427387904) : half n = 2 ^ j := by
  have hp := Nat.pow_pos (n := j) (show 0 < 2 by decide)
  obtain ⟨q1, q2, q3⟩ := half_bounds (n := n) (by omega) hn
  unfold half at *
  generalize Lib.bitLen (n - 1) - 1 = M at *
  have a1 : 2 ^ M < 2 ^ (j + 1) := by rw [Nat.pow_succ]; omega
  have a2 : 2 ^ j < 2 ^ (M + 1) := by rw [Nat.pow_succ]; omega
  have b1 := pow_lt_inv a1
  have b2 := pow_lt_inv a2
  rw [show M = j by omega]

/-- The greatest parts, of the one from b on up to e, that have none of those from lo on up to hi. -/
def wo (lo hi : Nat) : Nat → Nat → Nat → List (Nat × Nat)
  | 0, b, e => if lo ≤ b ∧ e ≤ hi then [] else [(b, e)]
  | f + 1, b, e => if lo ≤ b ∧ e ≤ hi then [] else if lo = hi ∨ e ≤ lo ∨ hi ≤ b then [(b, e)] else wo lo hi f b (b + half (e - b)) ++ wo lo hi f (b + half (e - b)) e

theorem wo_in {lo hi f b e : Nat} (h : lo ≤ b ∧ e ≤ hi) : wo lo hi f b e = [] := by cases f <;> simp [wo, h]
theorem wo_out {lo hi f b e : Nat} (h : ¬ (lo ≤ b ∧ e ≤ hi)) (h2 : lo = hi ∨ e ≤ lo ∨ hi ≤ b) : wo lo hi f b e = [(b, e)] := by
  cases f with
  | zero => simp only [wo, if_neg h]
  | succ f => simp only [wo, if_neg h, if_pos h2]
theorem wo_fork {lo hi f b e : Nat} (h : ¬ (lo ≤ b ∧ e ≤ hi)) (h2 : ¬ (lo = hi ∨ e ≤ lo ∨ hi ≤ b)) : wo lo hi (f + 1) b e = wo lo hi f b (b + half (e - b)) ++ wo lo hi f (b + half (e - b)) e := by
  simp only [wo, if_neg h, if_neg h2]

theorem wo_pre {lo hi : Nat} : ∀ (f b e : Nat), b < e → e - b ≤ 2 ^ f → e ≤ 4611686018427387904 → lo ≤ b → b < hi → (wo lo hi f b e).length ≤ f
  | 0, b, e, h1, h2, h3, h4, h5 => by
    simp at h2
    rw [wo_in ⟨h4, by omega⟩]
    simp
  | f + 1, b, e, h1, h2, h3, h4, h5 => by
    by_cases hc : e ≤ hi
    · rw [wo_in ⟨h4, hc⟩]; simp
    · have hn : 2 ≤ e - b := by omega
      obtain ⟨q1, q2, q3⟩ := half_bounds hn (by omega)
      obtain ⟨r1, r2⟩ := half_le hn (by omega) h2
      rw [wo_fork (by omega) (by omega), List.length_append]
      by_cases hm : hi ≤ b + half (e - b)
      · have i1 := wo_pre (lo := lo) (hi := hi) f b (b + half (e - b)) (by omega) (by omega) (by omega) h4 h5
        rw [wo_out (b := b + half (e - b)) (by omega) (by omega)]
        simp
        omega
      · rw [wo_in (b := b) ⟨h4, by omega⟩]
        have i1 := wo_pre (lo := lo) (hi := hi) f (b + half (e - b)) e (by omega) (by omega) (by omega) (by omega) (by omega)
        simp
        omega

theorem wo_suf {lo hi : Nat} : ∀ (f b e : Nat), b < e → e - b ≤ 2 ^ f → e ≤ 4611686018427387904 → e ≤ hi → lo < e → (wo lo hi f b e).length ≤ f
  | 0, b, e, h1, h2, h3, h4, h5 => by
    simp at h2
    rw [wo_in ⟨by omega, h4⟩]
    simp
  | f + 1, b, e, h1, h2, h3, h4, h5 => by
    by_cases hc : lo ≤ b
    · rw [wo_in ⟨hc, h4⟩]; simp
    · have hn : 2 ≤ e - b := by omega
      obtain ⟨q1, q2, q3⟩ := half_bounds hn (by omega)
      obtain ⟨r1, r2⟩ := half_le hn (by omega) h2
      rw [wo_fork (by omega) (by omega), List.length_append]
      by_cases hm : b + half (e - b) ≤ lo
      · have i1 := wo_suf (lo := lo) (hi := hi) f (b + half (e - b)) e (by omega) (by omega) (by omega) h4 h5
        rw [wo_out (b := b) (e := b + half (e - b)) (by omega) (by omega)]
        simp
        omega
      · rw [wo_in (b := b + half (e - b)) ⟨by omega, by omega⟩]
        have i1 := wo_suf (lo := lo) (hi := hi) f b (b + half (e - b)) (by omega) (by omega) (by omega) (by omega) (by omega)
        simp
        omega

theorem wo_few {lo hi : Nat} : ∀ (f b e : Nat), b < e → e - b ≤ 2 ^ f → e ≤ 4611686018427387904 → lo < hi → lo < e → b < hi → (wo lo hi f b e).length ≤ 2 * f
  | 0, b, e, h1, h2, h3, h4, h5, h6 => by
    simp at h2
    rw [wo_in ⟨by omega, by omega⟩]
    simp
  | f + 1, b, e, h1, h2, h3, h4, h5, h6 => by
    by_cases hc : lo ≤ b ∧ e ≤ hi
    · rw [wo_in hc]; simp
    · have hn : 2 ≤ e - b := by omega
      obtain ⟨q1, q2, q3⟩ := half_bounds hn (by omega)
      obtain ⟨r1, r2⟩ := half_le hn (by omega) h2
      rw [wo_fork hc (by omega), List.length_append]
      by_cases hm : hi ≤ b + half (e - b)
      · have i1 := wo_few (lo := lo) (hi := hi) f b (b + half (e - b)) (by omega) (by omega) (by omega) h4 (by omega) h6
        rw [wo_out (b := b + half (e - b)) (by omega) (by omega)]
        simp
        omega
      · by_cases hm2 : b + half (e - b) ≤ lo
        · have i1 := wo_few (lo := lo) (hi := hi) f (b + half (e - b)) e (by omega) (by omega) (by omega) h4 h5 (by omega)
          rw [wo_out (b := b) (e := b + half (e - b)) (by omega) (by omega)]
          simp
          omega
        · have i1 := wo_suf (lo := lo) (hi := hi) f b (b + half (e - b)) (by omega) (by omega) (by omega) (by omega) (by omega)
          have i2 := wo_pre (lo := lo) (hi := hi) f (b + half (e - b)) e (by omega) (by omega) (by omega) (by omega) (by omega)
          omega

theorem wo_room {lo hi : Nat} : ∀ (f b e : Nat), b < e → e - b ≤ 2 ^ f → e ≤ 4611686018427387904 → (wo lo hi f b e).length ≤ e - b := by
  intro f
  induction f with
  | zero =>
    intro b e h1 h2 h3
    simp only [wo]
    split <;> simp <;> omega
  | succ f ih =>
    intro b e h1 h2 h3
    by_cases hc : lo ≤ b ∧ e ≤ hi
    · rw [wo_in hc]; simp
    · by_cases ho : lo = hi ∨ e ≤ lo ∨ hi ≤ b
      · rw [wo_out hc ho]; simp; omega
      · have hn : 2 ≤ e - b := by omega
        obtain ⟨q1, q2, q3⟩ := half_bounds hn (by omega)
        obtain ⟨r1, r2⟩ := half_le hn (by omega) h2
        have i1 := ih b (b + half (e - b)) (by omega) (by omega) (by omega)
        have i2 := ih (b + half (e - b)) e (by omega) (by omega) h3
        rw [wo_fork hc ho, List.length_append]
        omega

theorem wo_fuel {lo hi : Nat} : ∀ (f g b e : Nat), b < e → e - b ≤ 2 ^ f → e - b ≤ 2 ^ g → e ≤ 4611686018427387904 → wo lo hi f b e = wo lo hi g b e := by
  intro f
  induction f with
  | zero =>
    intro g b e h1 h2 h3 h4
    simp at h2
    by_cases hc : lo ≤ b ∧ e ≤ hi
    · rw [wo_in hc, wo_in hc]
    · have ho : lo = hi ∨ e ≤ lo ∨ hi ≤ b := by omega
      rw [wo_out hc ho, wo_out hc ho]
  | succ f ih =>
    intro g b e h1 h2 h3 h4
    by_cases hc : lo ≤ b ∧ e ≤ hi
    · rw [wo_in hc, wo_in hc]
    · by_cases ho : lo = hi ∨ e ≤ lo ∨ hi ≤ b
      · rw [wo_out hc ho, wo_out hc ho]
      · have hn : 2 ≤ e - b := by omega
        cases g with
        | zero => simp at h3; omega
        | succ g =>
          obtain ⟨q1, q2, q3⟩ := half_bounds hn (by omega)
          obtain ⟨r1, r2⟩ := half_le hn (by omega) h2
          obtain ⟨t1, t2⟩ := half_le hn (by omega) h3
          rw [wo_fork hc ho, wo_fork hc ho, ih g b (b + half (e - b)) (by omega) (by omega) (by omega) (by omega), ih g (b + half (e - b)) e (by omega) (by omega) (by omega) (by omega)]

end Go.Proofs.YtcgpgnajmfemhaaGreatDoor

namespace Go.Proofs.YtcgpgnajmfemhaaGreatDoor
open Go.RowKit

set_option maxRecDepth 100000 in
set_option maxHeartbeats 1000000 in
theorem split_any (b e : Nat) (w : World) (h : 2 ≤ e - b) (he : e ≤ 2305843009213693952) :
    Calls Tryz.prog 161 #[.int .i64 (b : Int), .int .i64 (e : Int)] w fun x w' => x = .returned (.int .i64 ((b + half (e - b) : Nat) : Int)) ∧ w' = w := by
  obtain ⟨q1, q2, q3⟩ := bitLen_bounds 62 (e - b - 1) (by omega) (by omega) (by omega)
  have hle := Lib.bitLen_le (e - b - 1) 61 (by omega) (by omega)
  have hl := len_any (e - b - 1) w (by omega)
  have hh : half (e - b) = 2 ^ (Lib.bitLen (e - b - 1) - 1) := rfl
  rw [hh]
  clear hh
  generalize Lib.bitLen (e - b - 1) = L at *
  obtain ⟨M, rfl⟩ : ∃ M, L = M + 1 := ⟨L - 1, by omega⟩
  simp only [Nat.add_sub_cancel] at *
  have e1 : ((e - b - 1 : Nat) : Int) = (e : Int) - (b : Int) - 1 := by omega
  rw [e1] at hl
  have hM : M ≤ 60 := by omega
  have hp : (2 : Int) ^ M ≤ 2305843009213693952 := by
    have : ((2 ^ M : Nat) : Int) ≤ 2305843009213693952 := by omega
    simpa using this
  have hp0 : (0 : Int) < 2 ^ M := by
    have : (0 : Int) < ((2 ^ M : Nat) : Int) := by have := Nat.pow_pos (n := M) (show 0 < 2 by decide); omega
    simpa using this
  have ha : (1 : Int) ≤ (e : Int) - b - 1 := by omega
  have hbe : (e : Int) ≤ 2305843009213693952 := by omega
  have hb0 : (0 : Int) ≤ b := by omega
  have hsm : (b : Int) + 2 ^ M ≤ 4611686018427387904 := by omega
  clear q1 q2 q3 e1
  go_enter Tryz.func161, Tryz.ntmps161
  go_wp2_with fail
  refine hl.mono ?_
  rintro x w1 ⟨rfl, hw⟩
  subst hw
  have e3 : ((M + 1 : Nat) : Int) - 1 = (M : Int) := by omega
  have e4 : Hid (((b + 2 ^ M : Nat) : Int) = (b : Int) + 2 ^ M) := by show _ = _; push_cast; rfl
  go_wp2
  go_ret
  rw [e4.out]
  exact ⟨rfl, rfl⟩

end Go.Proofs.YtcgpgnajmfemhaaGreatDoor

namespace Go.Proofs.YtcgpgnajmfemhaaGreatDoor
open Go.RowKit

/-- The counter in its cell. -/
def CC (w0 : World) (g : Nat) (acc : List (Nat × Nat)) (w : World) : Prop := w.heap[g]? = some (.cells #[.int .i64 (wrap64 (acc.length : Int))] 3 (0, 0)) ∧ Below g w0 w

theorem wrap_succ (n : Nat) : wrap64 (wrap64 (n : Int) + 1) = wrap64 ((n + 1 : Nat) : Int) := by unfold wrap64; omega
theorem wrap_small (n : Nat) (h : n ≤ 4611686018427387904) : wrap64 (n : Int) = (n : Int) := by unfold wrap64; omega

/-- How many parts of n lie outside. -/
def cntF (n lo hi : Int) : Nat := if n ≤ 1048576 ∧ 0 ≤ lo ∧ lo ≤ hi ∧ hi ≤ n ∧ 0 < n then (wo lo.toNat hi.toNat 20 0 n.toNat).length else 0

theorem wo_len {lo hi n : Nat} (h1 : lo ≤ hi) (h2 : hi ≤ n) (h3 : n ≤ 1048576) (h0 : 0 < n) : (wo lo hi 20 0 n).length ≤ 40 := by
  by_cases h : lo = hi
  · by_cases hc : lo ≤ 0 ∧ n ≤ hi
    · rw [wo_in hc]; simp
    · rw [wo_out hc (.inl h)]; simp
  · exact wo_few 20 0 n h0 (by omega) (by omega) (by omega) (by omega) (by omega)

end Go.Proofs.YtcgpgnajmfemhaaGreatDoor

namespace Go.Proofs.YtcgpgnajmfemhaaGreatDoor
open Go.RowKit

/-- A place in a part. -/
def cl (x b e : Nat) : Nat := min (x - b) (e - b)

/-- How many digests show a range, as the document counts them. -/
def rc : Nat → Nat → Nat → Nat → Nat
  | 0, _, lo, hi => if lo = hi then 1 else 0
  | f + 1, n, lo, hi => if lo = hi then 1 else if lo = 0 ∧ hi = n then 0 else rc f (half n) (cl lo 0 (half n)) (cl hi 0 (half n)) + rc f (n - half n) (cl lo (half n) n) (cl hi (half n) n)

theorem cl_one (x b e m : Nat) (h : b ≤ m) (h2 : m ≤ e) : cl (cl x b e) 0 (m - b) = cl x b m := by unfold cl; omega
theorem cl_two (x b e m : Nat) (h : b ≤ m) (h2 : m ≤ e) : cl (cl x b e) (m - b) (e - b) = cl x m e := by unfold cl; omega

theorem rc_wo (lo hi : Nat) (hl : lo ≤ hi) : ∀ (f b e : Nat), b < e → e - b ≤ 2 ^ f → e ≤ 4611686018427387904 → rc f (e - b) (cl lo b e) (cl hi b e) = (wo lo hi f b e).length := by
  intro f
  induction f with
  | zero =>
    intro b e h1 h2 h3
    simp at h2
    by_cases hc : cl lo b e = cl hi b e
    · simp only [rc, if_pos hc]
      rw [wo_out (by unfold cl at hc; omega) (by unfold cl at hc; omega)]
      rfl
    · simp only [rc, if_neg hc]
      rw [wo_in (by unfold cl at hc; omega)]
      rfl
  | succ f ih =>
    intro b e h1 h2 h3
    by_cases hc : cl lo b e = cl hi b e
    · simp only [rc, if_pos hc]
      rw [wo_out (by unfold cl at hc; omega) (by unfold cl at hc; omega)]
      rfl
    · by_cases hi2 : cl lo b e = 0 ∧ cl hi b e = e - b
      · simp only [rc, if_neg hc, if_pos hi2]
        rw [wo_in (by unfold cl at hi2; omega)]
        rfl
      · simp only [rc, if_neg hc, if_neg hi2]
        have hn : 2 ≤ e - b := by unfold cl at hc hi2; omega
        obtain ⟨q1, q2, q3⟩ := half_bounds hn (by omega)
        obtain ⟨r1, r2⟩ := half_le hn (by omega) h2
        have i1 := ih b (b + half (e - b)) (by omega) (by omega) (by omega)
        have i2 := ih (b + half (e - b)) e (by omega) (by omega) h3
        rw [wo_fork (by unfold cl at hi2; omega) (by unfold cl at hc; omega), List.length_append, ← i1, ← i2]
        have c1 := cl_one lo b e (b + half (e - b)) (by omega) (by omega)
        have c2 := cl_one hi b e (b + half (e - b)) (by omega) (by omega)
        have c3 := cl_two lo b e (b + half (e - b)) (by omega) (by omega)
        have c4 := cl_two hi b e (b + half (e - b)) (by omega) (by omega)
        rw [show b + half (e - b) - b = half (e - b) by omega] at c1 c2 c3 c4 ⊢
        rw [c1, c2, c3, c4, show e - (b + half (e - b)) = e - b - half (e - b) by omega]

theorem rc_le : ∀ (f n lo hi : Nat), lo ≤ hi → hi ≤ n → n ≤ 2 ^ f → n ≤ 4611686018427387904 → 1 ≤ n → rc f n lo hi ≤ n := by
  intro f n lo hi h1 h2 h3 h4 h5
  have e1 := rc_wo lo hi h1 f 0 n (by omega) (by omega) h4
  have c1 : cl lo 0 n = lo := by unfold cl; omega
  have c2 : cl hi 0 n = hi := by unfold cl; omega
  rw [c1, c2] at e1
  rw [Nat.sub_zero] at e1
  rw [e1]
  have := wo_room (lo := lo) (hi := hi) f 0 n (by omega) (by omega) h4
  omega

theorem cl_le (x b e : Nat) : cl x b e ≤ e - b := by unfold cl; omega

end Go.Proofs.YtcgpgnajmfemhaaGreatDoor
