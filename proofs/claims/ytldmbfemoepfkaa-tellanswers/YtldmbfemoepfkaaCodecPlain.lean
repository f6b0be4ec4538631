/- What this text holds: plain facts about numbers as bytes (no program): the bytes of a number, the highest first, without a nought ahead; how many they are; the number of bytes. -/
import Derived.Lib.BitFns
namespace Go.Proofs.Ytldmbfemoepfkaa

/-- The last c bytes of a number, the highest first. -/
def beN : Nat → Nat → List UInt8
  | _, 0 => []
  | n, c + 1 => beN (n / 256) c ++ [UInt8.ofNat n]

theorem beN_length : ∀ (c n : Nat), (beN n c).length = c
  | 0, n => rfl
  | c + 1, n => by simp [beN, beN_length c]

/-- How many bytes a number takes. -/
def cnt (n : Nat) : Nat := (Lib.bitLen n + 7) / 8

theorem bitLen_zero : Lib.bitLen 0 = 0 := by decide +kernel
theorem bitLen_small : ∀ n : Fin 256, n.val ≠ 0 → 1 ≤ Lib.bitLen n.val ∧ Lib.bitLen n.val ≤ 8 := by decide +kernel

theorem cnt_zero : cnt 0 = 0 := by unfold cnt; rw [bitLen_zero]
theorem cnt_step (n : Nat) (h0 : n ≠ 0) (h : n < 2 ^ 64) : cnt n = cnt (n / 256) + 1 := by
  unfold cnt
  by_cases hs : n < 256
  · have := bitLen_small ⟨n, hs⟩ h0
    simp only at this
    rw [show n / 256 = 0 by omega, bitLen_zero]
    omega
  · have := Lib.bitLen_shift 8 n (by omega) h
    rw [show (2 : Nat) ^ 8 = 256 from rfl] at this
    rw [this]
    omega

/-- The bytes of a number. -/
def ndigs (n : Nat) : List UInt8 := beN n (cnt n)

theorem ndigs_zero : ndigs 0 = [] := by unfold ndigs; rw [cnt_zero]; rfl
theorem ndigs_step (n : Nat) (h0 : n ≠ 0) (h : n < 2 ^ 64) : ndigs n = ndigs (n / 256) ++ [UInt8.ofNat n] := by
  unfold ndigs
  rw [cnt_step n h0 h]
  rfl
theorem ndigs_length (n : Nat) : (ndigs n).length = cnt n := beN_length _ _

theorem cnt_le : ∀ (f n : Nat), n < 256 ^ f → f ≤ 8 → cnt n ≤ f
  | 0, n, h, _ => by
    have : n = 0 := by simpa using h
    subst this
    rw [cnt_zero]
    exact Nat.le_refl _
  | f + 1, n, h, hf => by
    by_cases h0 : n = 0
    · subst h0; rw [cnt_zero]; omega
    · have hp : (256 : Nat) ^ (f + 1) ≤ 256 ^ 8 := Nat.pow_le_pow_right (by omega) hf
      rw [cnt_step n h0 (by rw [show (2 : Nat) ^ 64 = 256 ^ 8 from rfl]; omega)]
      have := cnt_le f (n / 256) (by rw [Nat.pow_succ] at h; omega) (by omega)
      omega

theorem cnt_le8 (n : Nat) (h : n < 2 ^ 64) : cnt n ≤ 8 := cnt_le 8 n (by rw [show (256 : Nat) ^ 8 = 2 ^ 64 from rfl]; exact h) (Nat.le_refl _)

/-- A number, put: how many bytes, and the bytes. -/
def numL (n : Nat) : List UInt8 := UInt8.ofNat (cnt n) :: ndigs n
def bytesL (s : List UInt8) : List UInt8 := numL s.length ++ s
def flagL (b : Bool) : List UInt8 := [if b then 1 else 0]
/-- What counts of a number that is put. -/
def clampN (n : Int) : Nat := (max 0 (min n 4611686018427387904)).toNat

theorem clampN_le (n : Int) : clampN n ≤ 4611686018427387904 := by unfold clampN; omega
theorem numL_length (n : Nat) : (numL n).length = 1 + cnt n := by unfold numL; rw [List.length_cons, ndigs_length]; omega

/-- The first bytes that the loop has put, at index i. -/
theorem beN_next (n c k : Nat) (hk : k < c) : beN (n / 256 ^ (c - (k + 1))) (k + 1) = beN (n / 256 ^ (c - k)) k ++ [UInt8.ofNat (n / 256 ^ (c - (k + 1)))] := by
  rw [beN, Nat.div_div_eq_div_mul, ← Nat.pow_succ, show (c - (k + 1)).succ = c - k by omega]

/-- The number of bytes. -/
def valL (l : List UInt8) : Nat := l.foldl (fun n d => n * 256 + d.toNat) 0

theorem valL_snoc (l : List UInt8) (d : UInt8) : valL (l ++ [d]) = valL l * 256 + d.toNat := by simp [valL]
theorem valL_nil : valL [] = 0 := rfl

theorem foldl_val : ∀ (l : List UInt8) (acc : Nat), l.foldl (fun n d => n * 256 + d.toNat) acc = acc * 256 ^ l.length + valL l
  | [], acc => by simp [valL]
  | d :: l, acc => by
    have h1 := foldl_val l (acc * 256 + d.toNat)
    have h2 := foldl_val l d.toNat
    unfold valL
    simp only [List.foldl_cons, List.length_cons, Nat.zero_mul, Nat.zero_add]
    rw [h1, h2, Nat.pow_succ, Nat.add_mul, Nat.mul_assoc, Nat.mul_comm 256 (256 ^ l.length), Nat.add_assoc]

theorem valL_cons (d : UInt8) (l : List UInt8) : valL (d :: l) = d.toNat * 256 ^ l.length + valL l := by
  have := foldl_val l d.toNat
  unfold valL
  simp only [List.foldl_cons, Nat.zero_mul, Nat.zero_add]
  exact this

theorem valL_lt : ∀ l : List UInt8, valL l < 256 ^ l.length
  | [] => by simp [valL]
  | d :: l => by
    have h1 := valL_lt l
    have h2 := d.toNat_lt
    rw [valL_cons, List.length_cons, Nat.pow_succ]
    have h3 : d.toNat * 256 ^ l.length ≤ 255 * 256 ^ l.length := Nat.mul_le_mul_right _ (by omega)
    omega

theorem valL_digs : ∀ (f n : Nat), n < 256 ^ f → f ≤ 8 → valL (ndigs n) = n
  | 0, n, h, _ => by
    have : n = 0 := by simpa using h
    subst this
    rw [ndigs_zero]
    rfl
  | f + 1, n, h, hf => by
    by_cases h0 : n = 0
    · subst h0; rw [ndigs_zero]; rfl
    · have hp : (256 : Nat) ^ (f + 1) ≤ 256 ^ 8 := Nat.pow_le_pow_right (by omega) hf
      rw [ndigs_step n h0 (by rw [show (2 : Nat) ^ 64 = 256 ^ 8 from rfl]; omega), valL_snoc, valL_digs f (n / 256) (by rw [Nat.pow_succ] at h; omega) (by omega)]
      simp
      omega

theorem beN_val : ∀ (m : Nat) (l : List UInt8), l.length = m → beN (valL l) m = l := by
  intro m
  induction m with
  | zero => intro l h; rw [List.eq_nil_of_length_eq_zero h]; rfl
  | succ m ih =>
    intro l h
    obtain ⟨l', d, rfl⟩ : ∃ l' d, l = l' ++ [d] := by
      have hne : l ≠ [] := fun e => by subst e; simp at h
      exact ⟨l.dropLast, l.getLast hne, (List.dropLast_concat_getLast hne).symm⟩
    have hd := d.toNat_lt
    rw [valL_snoc, beN, show (valL l' * 256 + d.toNat) / 256 = valL l' by omega, ih l' (by simpa using h)]
    congr 2
    apply UInt8.toNat_inj.1
    simp

/-- Bytes without a nought ahead are the bytes of their number. -/
theorem cnt_val (l : List UInt8) (h8 : l.length ≤ 8) (h : ∀ d r, l = d :: r → d ≠ 0) : cnt (valL l) = l.length := by
  have hlt := valL_lt l
  have h1 := cnt_le l.length (valL l) hlt h8
  rcases Nat.lt_or_ge (cnt (valL l)) l.length with h2 | h2
  · cases l with
    | nil => simp at h2
    | cons d r =>
      have hd : 1 ≤ d.toNat := by
        have := h d r rfl
        rcases Nat.eq_zero_or_pos d.toNat with h0 | h0
        · exact absurd (UInt8.toNat_inj.1 (by simpa using h0)) this
        · exact h0
      simp only [List.length_cons] at h2 h8
      have hle : cnt (valL (d :: r)) ≤ r.length := by omega
      have hbig : 256 ^ r.length ≤ valL (d :: r) := by
        rw [valL_cons]
        have := Nat.mul_le_mul_right (256 ^ r.length) hd
        omega
      have hp : (256 : Nat) ^ (r.length + 1) ≤ 256 ^ 8 := Nat.pow_le_pow_right (by omega) h8
      have hv := valL_digs 8 (valL (d :: r)) (by simp only [List.length_cons] at hlt; omega) (Nat.le_refl _)
      have hl := valL_lt (ndigs (valL (d :: r)))
      rw [hv, ndigs_length] at hl
      have := Nat.pow_le_pow_right (n := 256) (by omega) hle
      omega
  · omega

theorem ndigs_val (l : List UInt8) (h8 : l.length ≤ 8) (h : ∀ d r, l = d :: r → d ≠ 0) : ndigs (valL l) = l := by
  unfold ndigs
  rw [cnt_val l h8 h, beN_val _ l rfl]

/-- No nought stands ahead. -/
theorem ndigs_head (n : Nat) (hn : n < 2 ^ 64) : ∀ d r, ndigs n = d :: r → d ≠ 0 := by
  intro d r e h0
  subst h0
  have hv := valL_digs 8 n (by rw [show (256 : Nat) ^ 8 = 2 ^ 64 from rfl]; exact hn) (Nat.le_refl _)
  rw [e, valL_cons] at hv
  have hlt := valL_lt r
  have hl : (ndigs n).length = r.length + 1 := by rw [e]; rfl
  rw [ndigs_length] at hl
  have h8 := cnt_le8 n hn
  have := cnt_le r.length n (by simp at hv; omega) (by omega)
  omega

end Go.Proofs.Ytldmbfemoepfkaa
