/- What this text proves: plain facts (no program): what was put is read, with anything behind; what was read, put, is the bytes that were read. -/
import Derived.Test.YthkgbgkijdeaoaaRdText
namespace Go.Proofs.Ythkgbgkijdeaoaa

theorem cnt_byte (n : Nat) (h : n < 2 ^ 64) : (UInt8.ofNat (cnt n)).toNat = cnt n := by
  have := cnt_le8 n h
  simp
  omega

theorem uintF_put (n : Nat) (more : List UInt8) (most : Int) (h : n ≤ 4611686018427387904) (hm : (n : Int) ≤ most) : uintF (numL n ++ more) most = (0, n, more) := by
  have h64 : n < 2 ^ 64 := by omega
  have hc := cnt_byte n h64
  have h8 := cnt_le8 n h64
  have hl := ndigs_length n
  unfold numL
  simp only [List.cons_append, uintF]
  rw [hc]
  have ht : (ndigs n ++ more).take (cnt n) = ndigs n := by rw [← hl, List.take_left]
  have hd : (ndigs n ++ more).drop (cnt n) = more := by rw [← hl, List.drop_left]
  have hv := valL_digs 8 n (by rw [show (256 : Nat) ^ 8 = 2 ^ 64 from rfl]; exact h64) (Nat.le_refl _)
  rw [ht, hd, hv, if_neg (by omega), if_neg (by rw [List.length_append]; omega), if_neg, if_neg (by omega), if_neg (by omega)]
  intro e
  cases hdg : ndigs n with
  | nil => rw [hdg] at e; cases e
  | cons d r =>
    rw [hdg] at e
    have := ndigs_head n h64 d r hdg
    simp at e
    exact this e

theorem bytesF_put (s more : List UInt8) (most : Int) (h : s.length ≤ 4611686018427387904) (hm : (s.length : Int) ≤ most) : bytesF (bytesL s ++ more) most = (0, s, more) := by
  unfold bytesF bytesL
  rw [List.append_assoc, uintF_put s.length (s ++ more) most h hm]
  simp only [ne_eq, not_true, if_false]
  rw [if_neg (by rw [List.length_append]; omega), List.take_left, List.drop_left]

theorem flagF_put (b : Bool) (more : List UInt8) : flagF (flagL b ++ more) = (0, b, more) := by
  cases b <;> simp [flagL, flagF]

theorem uintF_back (l : List UInt8) (most : Int) (h : (uintF l most).1 = 0) : l = numL (uintF l most).2.1 ++ (uintF l most).2.2 ∧ (uintF l most).2.1 ≤ 4611686018427387904 ∧ ((uintF l most).2.1 : Int) ≤ most := by
  cases l with
  | nil => simp [uintF] at h
  | cons c r =>
    by_cases h1 : 8 < c.toNat
    · simp only [uintF] at h; rw [if_pos h1] at h; simp at h
    by_cases h2 : r.length < c.toNat
    · simp only [uintF] at h; rw [if_neg h1, if_pos h2] at h; simp at h
    by_cases h3 : (r.take c.toNat).head? = some 0
    · simp only [uintF] at h; rw [if_neg h1, if_neg h2, if_pos h3] at h; simp at h
    by_cases h4 : 4611686018427387904 < valL (r.take c.toNat)
    · simp only [uintF] at h; rw [if_neg h1, if_neg h2, if_neg h3, if_pos h4] at h; simp at h
    by_cases h5 : most < (valL (r.take c.toNat) : Int)
    · simp only [uintF] at h; rw [if_neg h1, if_neg h2, if_neg h3, if_neg h4, if_pos h5] at h; simp at h
    have e : uintF (c :: r) most = (0, valL (r.take c.toNat), r.drop c.toNat) := by simp only [uintF]; rw [if_neg h1, if_neg h2, if_neg h3, if_neg h4, if_neg h5]
    rw [e]
    refine ⟨?_, by simp only; omega, by simp only; omega⟩
    simp only
    have hl : (r.take c.toNat).length = c.toNat := by rw [List.length_take]; omega
    have hh : ∀ d r', r.take c.toNat = d :: r' → d ≠ 0 := fun d r' e0 h0 => h3 (by rw [e0, h0]; rfl)
    have hc := cnt_val _ (by omega) hh
    have hd := ndigs_val _ (by omega) hh
    unfold numL
    rw [hd, hc, hl]
    rw [List.cons_append, List.take_append_drop]
    congr 1
    apply UInt8.toNat_inj.1
    simp

theorem bytesF_back (l : List UInt8) (most : Int) (h : (bytesF l most).1 = 0) : l = bytesL (bytesF l most).2.1 ++ (bytesF l most).2.2 ∧ ((bytesF l most).2.1.length : Int) ≤ most := by
  have hb := uintF_back l most
  unfold bytesF at h ⊢
  generalize hu : uintF l most = u at *
  obtain ⟨e, n, r⟩ := u
  simp only at h hb ⊢
  by_cases h1 : e ≠ 0
  · rw [if_pos h1] at h
    exact absurd h h1
  · rw [if_neg h1] at h ⊢
    by_cases h2 : r.length < n
    · rw [if_pos h2] at h
      simp at h
    · rw [if_neg h2]
      have := hb (by omega)
      have hl : (r.take n).length = n := by rw [List.length_take]; omega
      refine ⟨?_, by simp only; omega⟩
      simp only
      unfold bytesL
      rw [hl, List.append_assoc, List.take_append_drop]
      exact this.1

theorem flagF_back (l : List UInt8) (h : (flagF l).1 = 0) : l = flagL (flagF l).2.1 ++ (flagF l).2.2 := by
  cases l with
  | nil => simp [flagF] at h
  | cons x r =>
    by_cases h1 : 1 < x.toNat
    · simp only [flagF] at h; rw [if_pos h1] at h; simp at h
    · have e : flagF (x :: r) = (0, x == 1, r) := by simp only [flagF]; rw [if_neg h1]
      rw [e]
      simp only [flagL]
      rcases Nat.eq_zero_or_pos x.toNat with h0 | h0
      · obtain rfl : x = 0 := UInt8.toNat_inj.1 (by simpa using h0)
        rfl
      · obtain rfl : x = 1 := UInt8.toNat_inj.1 (by simp; omega)
        rfl

end Go.Proofs.Ythkgbgkijdeaoaa
