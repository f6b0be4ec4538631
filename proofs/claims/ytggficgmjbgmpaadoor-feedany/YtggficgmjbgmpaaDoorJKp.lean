/- What this text holds: plain facts about numbers as bytes (no program): the bytes of a number, the highest first, without a nought ahead; how many they are; the number of bytes. What this text proves: the walks of math/bits' Len64 and Len over this program: how many bits a number takes. What this text holds: plain facts about the tree over n digests (no program): where its right part begins, and which parts of it lie outside a range. What this text proves: the walks of merkle.split, lies, apart, without over this program: without has a function look at the greatest parts outside a range, from left to right. -/
import Derived.Lib.BitFns
import Derived.Test.YtggficgmjbgmpaaDoorEqual
namespace Go.Proofs.YtggficgmjbgmpaaDoor

/-- The last c bytes of a number, the highest first. -/
def beN : Nat → Nat → List UInt8
  | _, 0 => []
  | n, c + 1 => beN (n / 256) c ++ [UInt8.ofNat n]

theorem beN_length : ∀ (c n : Nat), (beN n c).length = c
  | 0, n => rfl
  | c + 1, n => by simp [beN, beN_length c]

/-- How many bytes a number takes. -/
def cnt (n : Nat) : Nat := (Lib.bitLen n + 7) / 8

theorem bitLen_zero : Lib.bitLen 0 = 0 := by decide +kernel
theorem bitLen_small : ∀ n : Fin 256, n.val ≠ 0 → 1 ≤ Lib.bitLen n.val ∧ Lib.bitLen n.val ≤ 8 := by decide +kernel

theorem cnt_zero : cnt 0 = 0 := by unfold cnt; rw [bitLen_zero]
theorem cnt_step (n : Nat) (h0 : n ≠ 0) (h : n < 2 ^ 64) : cnt n = cnt (n / 256) + 1 := by
  unfold cnt
  by_cases hs : n < 256
  · have := bitLen_small ⟨n, hs⟩ h0
    simp only at this
    rw [show n / 256 = 0 by omega, bitLen_zero]
    omega
  · have := Lib.bitLen_shift 8 n (by omega) h
    rw [show (2 : Nat) ^ 8 = 256 from rfl] at this
    rw [this]
    omega

/-- The bytes of a number. -/
def ndigs (n : Nat) : List UInt8 := beN n (cnt n)

theorem ndigs_zero : ndigs 0 = [] := by unfold ndigs; rw [cnt_zero]; rfl
theorem ndigs_step (n : Nat) (h0 : n ≠ 0) (h : n < 2 ^ 64) : ndigs n = ndigs (n / 256) ++ [UInt8.ofNat n] := by
  unfold ndigs
  rw [cnt_step n h0 h]
  rfl
theorem ndigs_length (n : Nat) : (ndigs n).length = cnt n := beN_length _ _

theorem cnt_le : ∀ (f n : Nat), n < 256 ^ f → f ≤ 8 → cnt n ≤ f
  | 0, n, h, _ => by
    have : n = 0 := by simpa using h
    subst this
    rw [cnt_zero]
    exact Nat.le_refl _
  | f + 1, n, h, hf => by
    by_cases h0 : n = 0
    · subst h0; rw [cnt_zero]; omega
    · have hp : (256 : Nat) ^ (f + 1) ≤ 256 ^ 8 := Nat.pow_le_pow_right (by omega) hf
      rw [cnt_step n h0 (by rw [show (2 : Nat) ^ 64 = 256 ^ 8 from rfl]; omega)]
      have := cnt_le f (n / 256) (by rw [Nat.pow_succ] at h; omega) (by omega)
      omega

theorem cnt_le8 (n : Nat) (h : n < 2 ^ 64) : cnt n ≤ 8 := cnt_le 8 n (by rw [show (256 : Nat) ^ 8 = 2 ^ 64 from rfl]; exact h) (Nat.le_refl _)

/-- A number, put: how many bytes, and the bytes. -/
def numL (n : Nat) : List UInt8 := UInt8.ofNat (cnt n) :: ndigs n
def bytesL (s : List UInt8) : List UInt8 := numL s.length ++ s
def flagL (b : Bool) : List UInt8 := [if b then 1 else 0]
/-- What counts of a number that is put. -/
def clampN (n : Int) : Nat := (max 0 (min n 4611686018427387904)).toNat

theorem clampN_le (n : Int) : clampN n ≤ 4611686018427387904 := by unfold clampN; omega
theorem numL_length (n : Nat) : (numL n).length = 1 + cnt n := by unfold numL; rw [List.length_cons, ndigs_length]; omega

/-- The first bytes that the loop has put, at index i. -/
theorem beN_next (n c k : Nat) (hk : k < c) : beN (n / 256 ^ (c - (k + 1))) (k + 1) = beN (n / 256 ^ (c - k)) k ++ [UInt8.ofNat (n / 256 ^ (c - (k + 1)))] := by
  rw [beN, Nat.div_div_eq_div_mul, ← Nat.pow_succ, show (c - (k + 1)).succ = c - k by omega]

/-- The number of bytes. -/
def valL (l : List UInt8) : Nat := l.foldl (fun n d => n * 256 + d.toNat) 0

theorem valL_snoc (l : List UInt8) (d : UInt8) : valL (l ++ [d]) = valL l * 256 + d.toNat := by simp [valL]
theorem valL_nil : valL [] = 0 := rfl

theorem foldl_val : ∀ (l : List UInt8) (acc : Nat), l.foldl (fun n d => n * 256 + d.toNat) acc = acc * 256 ^ l.length + valL l
  | [], acc => by simp [valL]
  | d :: l, acc => by
    have h1 := foldl_val l (acc * 256 + d.toNat)
    have h2 := foldl_val l d.toNat
    unfold valL
    simp only [List.foldl_cons, List.length_cons, Nat.zero_mul, Nat.zero_add]
    rw [h1, h2, Nat.pow_succ, Nat.add_mul, Nat.mul_assoc, Nat.mul_comm 256 (256 ^ l.length), Nat.add_assoc]

theorem valL_cons (d : UInt8) (l : List UInt8) : valL (d :: l) = d.toNat * 256 ^ l.length + valL l := by
  have := foldl_val l d.toNat
  unfold valL
  simp only [List.foldl_cons, Nat.zero_mul, Nat.zero_add]
  exact this

theorem valL_lt : ∀ l : List UInt8, valL l < 256 ^ l.length
  | [] => by simp [valL]
  | d :: l => by
    have h1 := valL_lt l
    have h2 := d.toNat_lt
    rw [valL_cons, List.length_cons, Nat.pow_succ]
    have h3 : d.toNat * 256 ^ l.length ≤ 255 * 256 ^ l.length := Nat.mul_le_mul_right _ (by omega)
    omega

theorem valL_digs : ∀ (f n : Nat), n < 256 ^ f → f ≤ 8 → valL (ndigs n) = n
  | 0, n, h, _ => by
    have : n = 0 := by simpa using h
    subst this
    rw [ndigs_zero]
    rfl
  | f + 1, n, h, hf => by
    by_cases h0 : n = 0
    · subst h0; rw [ndigs_zero]; rfl
    · have hp : (256 : Nat) ^ (f + 1) ≤ 256 ^ 8 := Nat.pow_le_pow_right (by omega) hf
      rw [ndigs_step n h0 (by rw [show (2 : Nat) ^ 64 = 256 ^ 8 from rfl]; omega), valL_snoc, valL_digs f (n / 256) (by rw [Nat.pow_succ] at h; omega) (by omega)]
      simp
      omega

theorem beN_val : ∀ (m : Nat) (l : List UInt8), l.length = m → beN (valL l) m = l := by
  intro m
  induction m with
  | zero => intro l h; rw [List.eq_nil_of_length_eq_zero h]; rfl
  | succ m ih =>
    intro l h
    obtain ⟨l', d, rfl⟩ : ∃ l' d, l = l' ++ [d] := by
      have hne : l ≠ [] := fun e => by subst e; simp at h
      exact ⟨l.dropLast, l.getLast hne, (List.dropLast_concat_getLast hne).symm⟩
    have hd := d.toNat_lt
    rw [valL_snoc, beN, show (valL l' * 256 + d.toNat) / 256 = valL l' by omega, ih l' (by simpa using h)]
    congr 2
    apply UInt8.toNat_inj.1
    simp

/-- Bytes without a nought ahead are the bytes of their number. -/
theorem cnt_val (l : List UInt8) (h8 : l.length ≤ 8) (h : ∀ d r, l = d :: r → d ≠ 0) : cnt (valL l) = l.length := by
  have hlt := valL_lt l
  have h1 := cnt_le l.length (valL l) hlt h8
  rcases Nat.lt_or_ge (cnt (valL l)) l.length with h2 | h2
  · cases l with
    | nil => simp at h2
    | cons d r =>
      have hd : 1 ≤ d.toNat := by
        have := h d r rfl
        rcases Nat.eq_zero_or_pos d.toNat with h0 | h0
        · exact absurd (UInt8.toNat_inj.1 (by simpa using h0)) this
        · exact h0
      simp only [List.length_cons] at h2 h8
      have hle : cnt (valL (d :: r)) ≤ r.length := by omega
      have hbig : 256 ^ r.length ≤ valL (d :: r) := by
        rw [valL_cons]
        have := Nat.mul_le_mul_right (256 ^ r.length) hd
        omega
      have hp : (256 : Nat) ^ (r.length + 1) ≤ 256 ^ 8 := Nat.pow_le_pow_right (by omega) h8
      have hv := valL_digs 8 (valL (d :: r)) (by simp only [List.length_cons] at hlt; omega) (Nat.le_refl _)
      have hl := valL_lt (ndigs (valL (d :: r)))
      rw [hv, ndigs_length] at hl
      have := Nat.pow_le_pow_right (n := 256) (by omega) hle
      omega
  · omega

theorem ndigs_val (l : List UInt8) (h8 : l.length ≤ 8) (h : ∀ d r, l = d :: r → d ≠ 0) : ndigs (valL l) = l := by
  unfold ndigs
  rw [cnt_val l h8 h, beN_val _ l rfl]

/-- No nought stands ahead. -/
theorem ndigs_head (n : Nat) (hn : n < 2 ^ 64) : ∀ d r, ndigs n = d :: r → d ≠ 0 := by
  intro d r e h0
  subst h0
  have hv := valL_digs 8 n (by rw [show (256 : Nat) ^ 8 = 2 ^ 64 from rfl]; exact hn) (Nat.le_refl _)
  rw [e, valL_cons] at hv
  have hlt := valL_lt r
  have hl : (ndigs n).length = r.length + 1 := by rw [e]; rfl
  rw [ndigs_length] at hl
  have h8 := cnt_le8 n hn
  have := cnt_le r.length n (by simp at hv; omega) (by omega)
  omega

end Go.Proofs.YtggficgmjbgmpaaDoor

namespace Go.Proofs.YtggficgmjbgmpaaDoor
open Go.RowKit

theorem tab_get (y : Int) (h0 : 0 ≤ y) (h1 : y ≤ 255) (h : y.toNat < Lib.len8tab.size) : ((Lib.len8tab[y.toNat]'h).toNat : Int) = (Lib.bitLen y.toNat : Int) ∧ Lib.bitLen y.toNat ≤ 8 := by
  have e := Lib.len8_eq ⟨y.toNat, by omega⟩
  have hle : Lib.bitLen y.toNat ≤ 8 := Lib.bitLen_le8 ⟨y.toNat, by omega⟩
  unfold Lib.len8 at e
  simp only [Int.toNat_natCast] at e
  rw [getElem?_pos Lib.len8tab y.toNat h] at e
  simp only [Option.getD_some] at e
  exact ⟨e, hle⟩

theorem wrap_two (k a b : Nat) (hk : k ≤ 56) (ha : a ≤ 8) (hb : b = k + a) : wrap64 ((k : Int) + wrap64 (a : Int)) = (b : Int) := by
  unfold wrap64
  omega

theorem nat64 (x : Int) (h : x ≤ 4611686018427387904) : x.toNat < 2 ^ 64 := by omega

theorem len_close (x y : Int) (k : Nat) (h0 : 0 ≤ y) (h1 : y ≤ 255) (hk : k ≤ 56) (hx : x ≤ 4611686018427387904) (hge : 2 ^ k ≤ x.toNat) (hy : y.toNat = x.toNat / 2 ^ k) (h : y.toNat < Lib.len8tab.size) :
    wrap64 ((k : Int) + wrap64 ((Lib.len8tab[y.toNat]'h).toNat : Int)) = (Lib.bitLen x.toNat : Int) := by
  obtain ⟨e, hle⟩ := tab_get y h0 h1 h
  have hs := Lib.bitLen_shift k x.toNat hge (nat64 x hx)
  rw [← hy] at hs
  rw [e]
  exact wrap_two k _ _ hk hle hs

theorem len_close0 (x : Int) (h0 : 0 ≤ x) (h1 : x ≤ 255) (h : x.toNat < Lib.len8tab.size) : wrap64 (wrap64 ((Lib.len8tab[x.toNat]'h).toNat : Int)) = (Lib.bitLen x.toNat : Int) := by
  obtain ⟨e, hle⟩ := tab_get x h0 h1 h
  rw [e]
  have := wrap_two 0 _ _ (by omega) hle (Nat.zero_add _).symm
  simpa using this

set_option maxRecDepth 100000 in
set_option maxHeartbeats 4000000 in
theorem len64_walk (x L : Int) (w : World) (h0 : 0 ≤ x) (hx : x ≤ 4611686018427387904) (hL : Hid (L = (Lib.bitLen x.toNat : Int))) :
    Calls Tryd.prog 65 #[.int .u64 x] w fun e w' => e = .returned (.int .i64 L) ∧ w' = w := by
  have hs : ((Lib.len8tab.size : Nat) : Int) = 256 := by rw [Lib.len8tab_size]; rfl
  by_cases h32 : (4294967296 : Int) ≤ x
  · by_cases h16 : (65536 : Int) ≤ x / 4294967296
    · by_cases h8 : (256 : Int) ≤ x / 4294967296 / 65536
      · go_enter Tryd.func65, Tryd.ntmps65
        go_wp2
        go_ret
        refine ⟨congrArg (fun z => Ending.returned (Value.int .i64 z)) ?_, rfl⟩
        rw [hL.out]
        exact len_close x _ 56 (by omega) (by omega) (by decide) hx (by omega) (by omega) _
      · have d8 : decide ((256 : Int) ≤ x / 4294967296 / 65536) = false := by simpa using h8
        go_enter Tryd.func65, Tryd.ntmps65
        go_wp2
        go_ret
        refine ⟨congrArg (fun z => Ending.returned (Value.int .i64 z)) ?_, rfl⟩
        rw [hL.out]
        exact len_close x _ 48 (by omega) (by omega) (by decide) hx (by omega) (by omega) _
    · have d16 : decide ((65536 : Int) ≤ x / 4294967296) = false := by simpa using h16
      by_cases h8 : (256 : Int) ≤ x / 4294967296
      · go_enter Tryd.func65, Tryd.ntmps65
        go_wp2
        go_ret
        refine ⟨congrArg (fun z => Ending.returned (Value.int .i64 z)) ?_, rfl⟩
        rw [hL.out]
        exact len_close x _ 40 (by omega) (by omega) (by decide) hx (by omega) (by omega) _
      · have d8 : decide ((256 : Int) ≤ x / 4294967296) = false := by simpa using h8
        go_enter Tryd.func65, Tryd.ntmps65
        go_wp2
        go_ret
        refine ⟨congrArg (fun z => Ending.returned (Value.int .i64 z)) ?_, rfl⟩
        rw [hL.out]
        exact len_close x _ 32 (by omega) (by omega) (by decide) hx (by omega) (by omega) _
  · have d32 : decide ((4294967296 : Int) ≤ x) = false := by simpa using h32
    by_cases h16 : (65536 : Int) ≤ x
    · by_cases h8 : (256 : Int) ≤ x / 65536
      · go_enter Tryd.func65, Tryd.ntmps65
        go_wp2
        go_ret
        refine ⟨congrArg (fun z => Ending.returned (Value.int .i64 z)) ?_, rfl⟩
        rw [hL.out]
        exact len_close x _ 24 (by omega) (by omega) (by decide) hx (by omega) (by omega) _
      · have d8 : decide ((256 : Int) ≤ x / 65536) = false := by simpa using h8
        go_enter Tryd.func65, Tryd.ntmps65
        go_wp2
        go_ret
        refine ⟨congrArg (fun z => Ending.returned (Value.int .i64 z)) ?_, rfl⟩
        rw [hL.out]
        exact len_close x _ 16 (by omega) (by omega) (by decide) hx (by omega) (by omega) _
    · have d16 : decide ((65536 : Int) ≤ x) = false := by simpa using h16
      by_cases h8 : (256 : Int) ≤ x
      · go_enter Tryd.func65, Tryd.ntmps65
        go_wp2
        go_ret
        refine ⟨congrArg (fun z => Ending.returned (Value.int .i64 z)) ?_, rfl⟩
        rw [hL.out]
        exact len_close x _ 8 (by omega) (by omega) (by decide) hx (by omega) (by omega) _
      · have d8 : decide ((256 : Int) ≤ x) = false := by simpa using h8
        go_enter Tryd.func65, Tryd.ntmps65
        go_wp2
        go_ret
        refine ⟨congrArg (fun z => Ending.returned (Value.int .i64 z)) ?_, rfl⟩
        rw [hL.out]
        exact len_close0 x (by omega) (by omega) _

set_option maxRecDepth 100000 in
set_option maxHeartbeats 400000 in
theorem len_any (n : Nat) (w : World) (hn : n ≤ 4611686018427387904) :
    Calls Tryd.prog 59 #[.int .u64 (n : Int)] w fun e w' => e = .returned (.int .i64 (Lib.bitLen n : Int)) ∧ w' = w := by
  have hc := len64_walk (n : Int) (Lib.bitLen n : Int) w (by omega) (by omega) (by show _ = _; simp)
  obtain ⟨L, hL⟩ : ∃ L : Int, L = (Lib.bitLen n : Int) := ⟨_, rfl⟩
  rw [← hL] at hc ⊢
  clear hL
  go_enter Tryd.func59, Tryd.ntmps59
  go_wp2_with (first | (go_at_call 65; refine hc.mono ?_; rintro e w1 ⟨rfl, rfl⟩))
  go_ret
  exact ⟨rfl, rfl⟩

end Go.Proofs.YtggficgmjbgmpaaDoor

namespace Go.Proofs.YtggficgmjbgmpaaDoor

theorem bitLen_bounds : ∀ (f x : Nat), x < 2 ^ f → f ≤ 64 → 0 < x → 2 ^ (Lib.bitLen x - 1) ≤ x ∧ x < 2 ^ Lib.bitLen x ∧ 1 ≤ Lib.bitLen x
  | 0, x, h, _, h0 => by simp at h; omega
  | f + 1, x, h, hf, h0 => by
    have h64 : x < 2 ^ 64 := Nat.lt_of_lt_of_le h (Nat.pow_le_pow_right (by decide) hf)
    have e := Lib.bitLen_half x (by omega) h64
    rcases Nat.eq_zero_or_pos (x / 2) with hz | hp
    · have h1 : x = 1 := by omega
      subst h1
      have hb : Lib.bitLen 0 = 0 := by decide +kernel
      rw [e, hz, hb]
      decide
    · have hx : x / 2 < 2 ^ f := by rw [Nat.pow_succ] at h; omega
      obtain ⟨q1, q2, q3⟩ := bitLen_bounds f (x / 2) hx (by omega) hp
      generalize Lib.bitLen (x / 2) = L at *
      rw [e]
      obtain ⟨M, rfl⟩ : ∃ M, L = M + 1 := ⟨L - 1, by omega⟩
      simp only [Nat.add_sub_cancel] at q1
      rw [show 1 + (M + 1) - 1 = M + 1 by omega, show 1 + (M + 1) = (M + 1) + 1 by omega]
      simp only [Nat.pow_succ] at *
      omega

/-- How many digests the left part of n has: the greatest power of 2 below n. -/
def half (n : Nat) : Nat := 2 ^ (Lib.bitLen (n - 1) - 1)

theorem half_bounds {n : Nat} (h : 2 ≤ n) (hn : n ≤ 4611686018427387904) : 1 ≤ half n ∧ half n < n ∧ n ≤ 2 * half n := by
  obtain ⟨q1, q2, q3⟩ := bitLen_bounds 64 (n - 1) (by omega) (by omega) (by omega)
  unfold half
  generalize Lib.bitLen (n - 1) = L at *
  obtain ⟨M, rfl⟩ : ∃ M, L = M + 1 := ⟨L - 1, by omega⟩
  simp only [Nat.add_sub_cancel] at *
  rw [Nat.pow_succ] at q2
  have := Nat.pow_pos (n := M) (show 0 < 2 by decide)
  omega

theorem pow_lt_inv {a b : Nat} (h : 2 ^ a < 2 ^ b) : a < b := by
  rcases Nat.lt_or_ge a b with h1 | h1
  · exact h1
  · exact absurd h (Nat.not_lt.2 (Nat.pow_le_pow_right (by decide) h1))

theorem half_le {n f : Nat} (h : 2 ≤ n) (hn : n ≤ 4611686018427387904) (hf : n ≤ 2 ^ (f + 1)) : half n ≤ 2 ^ f ∧ n - half n ≤ 2 ^ f := by
  obtain ⟨q1, q2, q3⟩ := half_bounds h hn
  have h1 : half n < 2 ^ (f + 1) := Nat.lt_of_lt_of_le q2 hf
  have h2 : half n ≤ 2 ^ f := by
    unfold half at *
    have := pow_lt_inv h1
    exact Nat.pow_le_pow_right (by decide) (by omega)
  exact ⟨h2, by omega⟩

/-- Which power it is, by its bounds. -/
theorem half_eq {n j : Nat} (h1 : 2 ^ j < n) (h2 : n ≤ 2 * 2 ^ j) (hn : n ≤ 4611686018427387904) : half n = 2 ^ j := by
  have hp := Nat.pow_pos (n := j) (show 0 < 2 by decide)
  obtain ⟨q1, q2, q3⟩ := half_bounds (n := n) (by omega) hn
  unfold half at *
  generalize Lib.bitLen (n - 1) - 1 = M at *
  have a1 : 2 ^ M < 2 ^ (j + 1) := by rw [Nat.pow_succ]; omega
  have a2 : 2 ^ j < 2 ^ (M + 1) := by rw [Nat.pow_succ]; omega
  have b1 := pow_lt_inv a1
  have b2 := pow_lt_inv a2
  rw [show M = j by omega]

/-- The greatest parts, of the one from b on up to e, that have none of those from lo on up to hi. -/
def wo (lo hi : Nat) : Nat → Nat → Nat → List (Nat × Nat)
  | 0, b, e => if lo ≤ b ∧ e ≤ hi then [] else [(b, e)]
  | f + 1, b, e => if lo ≤ b ∧ e ≤ hi then [] else if lo = hi ∨ e ≤ lo ∨ hi ≤ b then [(b, e)] else wo lo hi f b (b + half (e - b)) ++ wo lo hi f (b + half (e - b)) e

theorem wo_in {lo hi f b e : Nat} (h : lo ≤ b ∧ e ≤ hi) : wo lo hi f b e = [] := by cases f <;> simp [wo, h]
theorem wo_out {lo hi f b e : Nat} (h : ¬ (lo ≤ b ∧ e ≤ hi)) (h2 : lo = hi ∨ e ≤ lo ∨ hi ≤ b) : wo lo hi f b e = [(b, e)] := by
  cases f with
  | zero => simp only [wo, if_neg h]
  | succ f => simp only [wo, if_neg h, if_pos h2]
theorem wo_fork {lo hi f b e : Nat} (h : ¬ (lo ≤ b ∧ e ≤ hi)) (h2 : ¬ (lo = hi ∨ e ≤ lo ∨ hi ≤ b)) : wo lo hi (f + 1) b e = wo lo hi f b (b + half (e - b)) ++ wo lo hi f (b + half (e - b)) e := by
  simp only [wo, if_neg h, if_neg h2]

theorem wo_pre {lo hi : Nat} : ∀ (f b e : Nat), b < e → e - b ≤ 2 ^ f → e ≤ 4611686018427387904 → lo ≤ b → b < hi → (wo lo hi f b e).length ≤ f
  | 0, b, e, h1, h2, h3, h4, h5 => by
    simp at h2
    rw [wo_in ⟨h4, by omega⟩]
    simp
  | f + 1, b, e, h1, h2, h3, h4, h5 => by
    by_cases hc : e ≤ hi
    · rw [wo_in ⟨h4, hc⟩]; simp
    · have hn : 2 ≤ e - b := by omega
      obtain ⟨q1, q2, q3⟩ := half_bounds hn (by omega)
      obtain ⟨r1, r2⟩ := half_le hn (by omega) h2
      rw [wo_fork (by omega) (by omega), List.length_append]
      by_cases hm : hi ≤ b + half (e - b)
      · have i1 := wo_pre (lo := lo) (hi := hi) f b (b + half (e - b)) (by omega) (by omega) (by omega) h4 h5
        rw [wo_out (b := b + half (e - b)) (by omega) (by omega)]
        simp
        omega
      · rw [wo_in (b := b) ⟨h4, by omega⟩]
        have i1 := wo_pre (lo := lo) (hi := hi) f (b + half (e - b)) e (by omega) (by omega) (by omega) (by omega) (by omega)
        simp
        omega

theorem wo_suf {lo hi : Nat} : ∀ (f b e : Nat), b < e → e - b ≤ 2 ^ f → e ≤ 4611686018427387904 → e ≤ hi → lo < e → (wo lo hi f b e).length ≤ f
  | 0, b, e, h1, h2, h3, h4, h5 => by
    simp at h2
    rw [wo_in ⟨by omega, h4⟩]
    simp
  | f + 1, b, e, h1, h2, h3, h4, h5 => by
    by_cases hc : lo ≤ b
    · rw [wo_in ⟨hc, h4⟩]; simp
    · have hn : 2 ≤ e - b := by omega
      obtain ⟨q1, q2, q3⟩ := half_bounds hn (by omega)
      obtain ⟨r1, r2⟩ := half_le hn (by omega) h2
      rw [wo_fork (by omega) (by omega), List.length_append]
      by_cases hm : b + half (e - b) ≤ lo
      · have i1 := wo_suf (lo := lo) (hi := hi) f (b + half (e - b)) e (by omega) (by omega) (by omega) h4 h5
        rw [wo_out (b := b) (e := b + half (e - b)) (by omega) (by omega)]
        simp
        omega
      · rw [wo_in (b := b + half (e - b)) ⟨by omega, by omega⟩]
        have i1 := wo_suf (lo := lo) (hi := hi) f b (b + half (e - b)) (by omega) (by omega) (by omega) (by omega) (by omega)
        simp
        omega

theorem wo_few {lo hi : Nat} : ∀ (f b e : Nat), b < e → e - b ≤ 2 ^ f → e ≤ 4611686018427387904 → lo < hi → lo < e → b < hi → (wo lo hi f b e).length ≤ 2 * f
  | 0, b, e, h1, h2, h3, h4, h5, h6 => by
    simp at h2
    rw [wo_in ⟨by omega, by omega⟩]
    simp
  | f + 1, b, e, h1, h2, h3, h4, h5, h6 => by
    by_cases hc : lo ≤ b ∧ e ≤ hi
    · rw [wo_in hc]; simp
    · have hn : 2 ≤ e - b := by omega
      obtain ⟨q1, q2, q3⟩ := half_bounds hn (by omega)
      obtain ⟨r1, r2⟩ := half_le hn (by omega) h2
      rw [wo_fork hc (by omega), List.length_append]
      by_cases hm : hi ≤ b + half (e - b)
      · have i1 := wo_few (lo := lo) (hi := hi) f b (b + half (e - b)) (by omega) (by omega) (by omega) h4 (by omega) h6
        rw [wo_out (b := b + half (e - b)) (by omega) (by omega)]
        simp
        omega
      · by_cases hm2 : b + half (e - b) ≤ lo
        · have i1 := wo_few (lo := lo) (hi := hi) f (b + half (e - b)) e (by omega) (by omega) (by omega) h4 h5 (by omega)
          rw [wo_out (b := b) (e := b + half (e - b)) (by omega) (by omega)]
          simp
          omega
        · have i1 := wo_suf (lo := lo) (hi := hi) f b (b + half (e - b)) (by omega) (by omega) (by omega) (by omega) (by omega)
          have i2 := wo_pre (lo := lo) (hi := hi) f (b + half (e - b)) e (by omega) (by omega) (by omega) (by omega) (by omega)
          omega

theorem wo_room {lo hi : Nat} : ∀ (f b e : Nat), b < e → e - b ≤ 2 ^ f → e ≤ 4611686018427387904 → (wo lo hi f b e).length ≤ e - b := by
  intro f
  induction f with
  | zero =>
    intro b e h1 h2 h3
    simp only [wo]
    split <;> simp <;> omega
  | succ f ih =>
    intro b e h1 h2 h3
    by_cases hc : lo ≤ b ∧ e ≤ hi
    · rw [wo_in hc]; simp
    · by_cases ho : lo = hi ∨ e ≤ lo ∨ hi ≤ b
      · rw [wo_out hc ho]; simp; omega
      · have hn : 2 ≤ e - b := by omega
        obtain ⟨q1, q2, q3⟩ := half_bounds hn (by omega)
        obtain ⟨r1, r2⟩ := half_le hn (by omega) h2
        have i1 := ih b (b + half (e - b)) (by omega) (by omega) (by omega)
        have i2 := ih (b + half (e - b)) e (by omega) (by omega) h3
        rw [wo_fork hc ho, List.length_append]
        omega

theorem wo_fuel {lo hi : Nat} : ∀ (f g b e : Nat), b < e → e - b ≤ 2 ^ f → e - b ≤ 2 ^ g → e ≤ 4611686018427387904 → wo lo hi f b e = wo lo hi g b e := by
  intro f
  induction f with
  | zero =>
    intro g b e h1 h2 h3 h4
    simp at h2
    by_cases hc : lo ≤ b ∧ e ≤ hi
    · rw [wo_in hc, wo_in hc]
    · have ho : lo = hi ∨ e ≤ lo ∨ hi ≤ b := by omega
      rw [wo_out hc ho, wo_out hc ho]
  | succ f ih =>
    intro g b e h1 h2 h3 h4
    by_cases hc : lo ≤ b ∧ e ≤ hi
    · rw [wo_in hc, wo_in hc]
    · by_cases ho : lo = hi ∨ e ≤ lo ∨ hi ≤ b
      · rw [wo_out hc ho, wo_out hc ho]
      · have hn : 2 ≤ e - b := by omega
        cases g with
        | zero => simp at h3; omega
        | succ g =>
          obtain ⟨q1, q2, q3⟩ := half_bounds hn (by omega)
          obtain ⟨r1, r2⟩ := half_le hn (by omega) h2
          obtain ⟨t1, t2⟩ := half_le hn (by omega) h3
          rw [wo_fork hc ho, wo_fork hc ho, ih g b (b + half (e - b)) (by omega) (by omega) (by omega) (by omega), ih g (b + half (e - b)) e (by omega) (by omega) (by omega) (by omega)]

end Go.Proofs.YtggficgmjbgmpaaDoor

namespace Go.Proofs.YtggficgmjbgmpaaDoor
open Go.RowKit

set_option maxRecDepth 100000 in
set_option maxHeartbeats 1000000 in
theorem split_any (b e : Nat) (w : World) (h : 2 ≤ e - b) (he : e ≤ 2305843009213693952) :
    Calls Tryd.prog 46 #[.int .i64 (b : Int), .int .i64 (e : Int)] w fun x w' => x = .returned (.int .i64 ((b + half (e - b) : Nat) : Int)) ∧ w' = w := by
  obtain ⟨q1, q2, q3⟩ := bitLen_bounds 62 (e - b - 1) (by omega) (by omega) (by omega)
  have hle := Lib.bitLen_le (e - b - 1) 61 (by omega) (by omega)
  have hl := len_any (e - b - 1) w (by omega)
  have hh : half (e - b) = 2 ^ (Lib.bitLen (e - b - 1) - 1) := rfl
  rw [hh]
  clear hh
  generalize Lib.bitLen (e - b - 1) = L at *
  obtain ⟨M, rfl⟩ : ∃ M, L = M + 1 := ⟨L - 1, by omega⟩
  simp only [Nat.add_sub_cancel] at *
  have e1 : ((e - b - 1 : Nat) : Int) = (e : Int) - (b : Int) - 1 := by omega
  rw [e1] at hl
  have hM : M ≤ 60 := by omega
  have hp : (2 : Int) ^ M ≤ 2305843009213693952 := by
    have : ((2 ^ M : Nat) : Int) ≤ 2305843009213693952 := by omega
    simpa using this
  have hp0 : (0 : Int) < 2 ^ M := by
    have : (0 : Int) < ((2 ^ M : Nat) : Int) := by have := Nat.pow_pos (n := M) (show 0 < 2 by decide); omega
    simpa using this
  have ha : (1 : Int) ≤ (e : Int) - b - 1 := by omega
  have hbe : (e : Int) ≤ 2305843009213693952 := by omega
  have hb0 : (0 : Int) ≤ b := by omega
  have hsm : (b : Int) + 2 ^ M ≤ 4611686018427387904 := by omega
  clear q1 q2 q3 e1
  go_enter Tryd.func46, Tryd.ntmps46
  go_wp2_with fail
  refine hl.mono ?_
  rintro x w1 ⟨rfl, hw⟩
  subst hw
  have e3 : ((M + 1 : Nat) : Int) - 1 = (M : Int) := by omega
  have e4 : Hid (((b + 2 ^ M : Nat) : Int) = (b : Int) + 2 ^ M) := by show _ = _; push_cast; rfl
  go_wp2
  go_ret
  rw [e4.out]
  exact ⟨rfl, rfl⟩

set_option maxRecDepth 100000 in
set_option maxHeartbeats 1000000 in
theorem lies_any (n lo hi : Int) (w : World) :
    Calls Tryd.prog 34 #[.int .i64 n, .int .i64 lo, .int .i64 hi] w fun x w' => x = .returned (.bool (decide (0 ≤ lo ∧ lo ≤ hi ∧ hi ≤ n))) ∧ w' = w := by
  by_cases h1 : 0 ≤ lo
  · by_cases h2 : lo ≤ hi
    · go_enter Tryd.func34, Tryd.ntmps34
      go_wp2
      go_ret
      simp [h1, h2]
    · have d2 : decide (lo ≤ hi) = false := by simpa using h2
      go_enter Tryd.func34, Tryd.ntmps34
      go_wp2
      go_ret
      simp
  · have d1 : decide (0 ≤ lo) = false := by simpa using h1
    go_enter Tryd.func34, Tryd.ntmps34
    go_wp2
    go_ret
    simp

set_option maxRecDepth 100000 in
set_option maxHeartbeats 1000000 in
theorem apart_any (b e lo hi : Int) (w : World) :
    Calls Tryd.prog 45 #[.int .i64 b, .int .i64 e, .int .i64 lo, .int .i64 hi] w fun x w' => x = .returned (.bool (decide (lo = hi ∨ e ≤ lo ∨ hi ≤ b))) ∧ w' = w := by
  by_cases h1 : lo = hi
  · subst h1
    go_enter Tryd.func45, Tryd.ntmps45
    go_wp2
    go_ret
    simp
  · have d1 : (lo == hi) = false := by simpa using h1
    by_cases h2 : e ≤ lo
    · go_enter Tryd.func45, Tryd.ntmps45
      go_wp2
      go_ret
      simp [h2]
    · have d2 : decide (e ≤ lo) = false := by simpa using h2
      go_enter Tryd.func45, Tryd.ntmps45
      go_wp2
      go_ret
      simp

set_option maxRecDepth 100000 in
set_option maxHeartbeats 1000000 in
theorem without_in (fv : Value) (b e lo hi : Nat) (w : World) (h1 : lo ≤ b) (h2 : e ≤ hi) :
    Calls Tryd.prog 35 #[.int .i64 (b : Int), .int .i64 (e : Int), .int .i64 (lo : Int), .int .i64 (hi : Int), fv] w fun x w' => x = .returned (.tuple #[]) ∧ w' = w := by
  go_enter Tryd.func35, Tryd.ntmps35
  go_wp2
  first | go_end0 | (simp only [Exit.inBlock, Exit.then]; refine bodyPost_ret (results_none rfl _ _ _) rfl ?_) | refine bodyPost_ret (results_none rfl _ _ _) rfl ?_
  exact ⟨rfl, rfl⟩

set_option maxRecDepth 100000 in
set_option maxHeartbeats 1000000 in
theorem without_out (K : Nat) (caps : Array Value) (eg : ∀ args w, (callFunc K args).run Tryd.prog w = .ok (.enter K args) w) (b e lo hi : Nat) (w : World) (R : World → Prop) (h1 : ¬ (lo ≤ b ∧ e ≤ hi)) (h2 : lo = hi ∨ e ≤ lo ∨ hi ≤ b)
    (hK : Calls Tryd.prog K (#[.int .i64 (b : Int), .int .i64 (e : Int)] ++ caps) w fun x w' => x = .returned (.tuple #[]) ∧ R w') :
    Calls Tryd.prog 35 #[.int .i64 (b : Int), .int .i64 (e : Int), .int .i64 (lo : Int), .int .i64 (hi : Int), .func (.func K) #[] caps] w fun x w' => x = .returned (.tuple #[]) ∧ R w' := by
  have hD : decide ((lo : Int) = (hi : Int) ∨ (e : Int) ≤ (lo : Int) ∨ (hi : Int) ≤ (b : Int)) = true := by simp; omega
  have hA := fun w => apart_any (b : Int) (e : Int) (lo : Int) (hi : Int) w
  rw [hD] at hA
  clear hD h2
  by_cases h3 : lo ≤ b
  · have h4 : ¬ (e ≤ hi) := fun h => h1 ⟨h3, h⟩
    clear h1
    go_enter Tryd.func35, Tryd.ntmps35
    go_wp2_with fail
    refine (hA _).mono ?_
    rintro x w1 ⟨rfl, hw⟩
    subst hw
    clear hA
    go_wp2_with fail
    refine hK.mono ?_
    rintro x w2 ⟨rfl, hR⟩
    clear hK
    go_wp2
    first | go_end0 | (simp only [Exit.inBlock, Exit.then]; refine bodyPost_ret (results_none rfl _ _ _) rfl ?_) | refine bodyPost_ret (results_none rfl _ _ _) rfl ?_
    exact ⟨rfl, hR⟩
  · have h4 : decide ((lo : Int) ≤ (b : Int)) = false := by simpa using h3
    clear h1
    go_enter Tryd.func35, Tryd.ntmps35
    go_wp2_with fail
    refine (hA _).mono ?_
    rintro x w1 ⟨rfl, hw⟩
    subst hw
    clear hA
    go_wp2_with fail
    refine hK.mono ?_
    rintro x w2 ⟨rfl, hR⟩
    clear hK
    go_wp2
    first | go_end0 | (simp only [Exit.inBlock, Exit.then]; refine bodyPost_ret (results_none rfl _ _ _) rfl ?_) | refine bodyPost_ret (results_none rfl _ _ _) rfl ?_
    exact ⟨rfl, hR⟩

set_option maxRecDepth 100000 in
set_option maxHeartbeats 1000000 in
theorem without_fork (fv : Value) (b e lo hi m : Nat) (w : World) (Q R : World → Prop) (h1 : ¬ (lo ≤ b ∧ e ≤ hi)) (h2 : ¬ (lo = hi ∨ e ≤ lo ∨ hi ≤ b)) 
    (hm : Calls Tryd.prog 46 #[.int .i64 (b : Int), .int .i64 (e : Int)] w fun x w' => x = .returned (.int .i64 (m : Int)) ∧ w' = w)
    (hl : Calls Tryd.prog 35 #[.int .i64 (b : Int), .int .i64 (m : Int), .int .i64 (lo : Int), .int .i64 (hi : Int), fv] w fun x w' => x = .returned (.tuple #[]) ∧ Q w')
    (hr : ∀ w, Q w → Calls Tryd.prog 35 #[.int .i64 (m : Int), .int .i64 (e : Int), .int .i64 (lo : Int), .int .i64 (hi : Int), fv] w fun x w' => x = .returned (.tuple #[]) ∧ R w') :
    Calls Tryd.prog 35 #[.int .i64 (b : Int), .int .i64 (e : Int), .int .i64 (lo : Int), .int .i64 (hi : Int), fv] w fun x w' => x = .returned (.tuple #[]) ∧ R w' := by
  have hD : decide ((lo : Int) = (hi : Int) ∨ (e : Int) ≤ (lo : Int) ∨ (hi : Int) ≤ (b : Int)) = false := by simp; omega
  have hA := fun w => apart_any (b : Int) (e : Int) (lo : Int) (hi : Int) w
  rw [hD] at hA
  clear hD h2
  by_cases h3 : lo ≤ b
  · have h4 : ¬ (e ≤ hi) := fun h => h1 ⟨h3, h⟩
    clear h1
    go_enter Tryd.func35, Tryd.ntmps35
    go_wp2_with fail
    refine (hA _).mono ?_
    rintro x w1 ⟨rfl, hw⟩
    subst hw
    clear hA
    go_wp2_with fail
    refine hm.mono ?_
    rintro x w2 ⟨rfl, hw⟩
    subst hw
    clear hm
    go_wp2_with fail
    refine hl.mono ?_
    rintro x w3 ⟨rfl, hQ⟩
    clear hl
    go_wp2_with fail
    refine (hr _ hQ).mono ?_
    rintro x w4 ⟨rfl, hR⟩
    clear hr hQ
    go_wp2
    first | go_end0 | (simp only [Exit.inBlock, Exit.then]; refine bodyPost_ret (results_none rfl _ _ _) rfl ?_) | refine bodyPost_ret (results_none rfl _ _ _) rfl ?_
    exact ⟨rfl, hR⟩
  · have h4 : decide ((lo : Int) ≤ (b : Int)) = false := by simpa using h3
    clear h1
    go_enter Tryd.func35, Tryd.ntmps35
    go_wp2_with fail
    refine (hA _).mono ?_
    rintro x w1 ⟨rfl, hw⟩
    subst hw
    clear hA
    go_wp2_with fail
    refine hm.mono ?_
    rintro x w2 ⟨rfl, hw⟩
    subst hw
    clear hm
    go_wp2_with fail
    refine hl.mono ?_
    rintro x w3 ⟨rfl, hQ⟩
    clear hl
    go_wp2_with fail
    refine (hr _ hQ).mono ?_
    rintro x w4 ⟨rfl, hR⟩
    clear hr hQ
    go_wp2
    first | go_end0 | (simp only [Exit.inBlock, Exit.then]; refine bodyPost_ret (results_none rfl _ _ _) rfl ?_) | refine bodyPost_ret (results_none rfl _ _ _) rfl ?_
    exact ⟨rfl, hR⟩

theorem without_any (K : Nat) (caps : Array Value) (eg : ∀ args w, (callFunc K args).run Tryd.prog w = .ok (.enter K args) w) (lo hi N : Nat) (R : List (Nat × Nat) → World → Prop) (hN : N ≤ 2305843009213693952)
    (hK : ∀ acc b e w, R acc w → acc.length ≤ b → b < e → e ≤ N → Calls Tryd.prog K (#[.int .i64 (b : Int), .int .i64 (e : Int)] ++ caps) w fun x w' => x = .returned (.tuple #[]) ∧ R (acc ++ [(b, e)]) w') :
    ∀ (f b e : Nat) (acc : List (Nat × Nat)) (w : World), b < e → e - b ≤ 2 ^ f → e ≤ N → acc.length ≤ b → R acc w →
    Calls Tryd.prog 35 #[.int .i64 (b : Int), .int .i64 (e : Int), .int .i64 (lo : Int), .int .i64 (hi : Int), .func (.func K) #[] caps] w fun x w' => x = .returned (.tuple #[]) ∧ R (acc ++ wo lo hi f b e) w' := by
  intro f
  induction f with
  | zero =>
    intro b e acc w hbe hf he hab hR
    by_cases h1 : lo ≤ b ∧ e ≤ hi
    · rw [wo_in h1, List.append_nil]
      exact (without_in _ b e lo hi w h1.1 h1.2).mono fun x w' ⟨hx, hw⟩ => ⟨hx, by subst hw; exact hR⟩
    · simp at hf
      have h2 : lo = hi ∨ e ≤ lo ∨ hi ≤ b := by omega
      rw [wo_out h1 h2]
      exact without_out K caps eg b e lo hi w _ h1 h2 (hK acc b e w hR hab hbe he)
  | succ f ih =>
    intro b e acc w hbe hf he hab hR
    by_cases h1 : lo ≤ b ∧ e ≤ hi
    · rw [wo_in h1, List.append_nil]
      exact (without_in _ b e lo hi w h1.1 h1.2).mono fun x w' ⟨hx, hw⟩ => ⟨hx, by subst hw; exact hR⟩
    · by_cases h2 : lo = hi ∨ e ≤ lo ∨ hi ≤ b
      · rw [wo_out h1 h2]
        exact without_out K caps eg b e lo hi w _ h1 h2 (hK acc b e w hR hab hbe he)
      · have hn : 2 ≤ e - b := by omega
        obtain ⟨q1, q2, q3⟩ := half_bounds hn (by omega)
        obtain ⟨r1, r2⟩ := half_le hn (by omega) hf
        have hw := wo_room (lo := lo) (hi := hi) f b (b + half (e - b)) (by omega) (by omega) (by omega)
        rw [wo_fork h1 h2, ← List.append_assoc]
        exact without_fork _ b e lo hi (b + half (e - b)) w (R (acc ++ wo lo hi f b (b + half (e - b)))) _ h1 h2 (split_any b e w hn (by omega)) (ih b (b + half (e - b)) acc w (by omega) (by omega) (by omega) hab hR) (fun w hQ => ih (b + half (e - b)) e _ w (by omega) (by omega) he (by rw [List.length_append]; omega) hQ)

end Go.Proofs.YtggficgmjbgmpaaDoor
