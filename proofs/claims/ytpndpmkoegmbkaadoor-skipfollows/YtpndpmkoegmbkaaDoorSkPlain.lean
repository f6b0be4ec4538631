/- What this text holds: plain facts (no program) on the links of an epoch, the next epoch on a way, the way, and how long it may be. -/
import Derived.Lib.TrailingZeros
namespace Go.Proofs.YtpndpmkoegmbkaaDoor

/-- How many times 2 divides e. -/
def tz (e : Nat) : Nat := Lib.ctz 64 e

theorem tz_spec (e : Nat) (h0 : 0 < e) (h : e < 9223372036854775808) : ∃ m, e = 2 ^ tz e * (2 * m + 1) ∧ tz e < 63 := by
  obtain ⟨m, hm, hk⟩ := Lib.ctzFrom_spec 64 e h0 (by omega)
  have e1 : tz e = Lib.ctzFrom 64 e := by unfold tz Lib.ctz; rw [if_neg (by omega)]
  rw [← e1] at hm hk
  refine ⟨m, hm, ?_⟩
  apply Nat.lt_of_not_le
  intro hle
  have h1 : 2 ^ 63 ≤ 2 ^ tz e := Nat.pow_le_pow_right (by decide) hle
  have h2 : 2 ^ tz e ≤ 2 ^ tz e * (2 * m + 1) := Nat.le_mul_of_pos_right _ (by omega)
  have h3 : (2 : Nat) ^ 63 = 9223372036854775808 := by decide
  omega

theorem tz_dvd (e k : Nat) (h0 : 0 < e) (h : e < 9223372036854775808) (hk : k ≤ tz e) : 2 ^ k ∣ e := by
  obtain ⟨m, hm, _⟩ := tz_spec e h0 h
  have h1 : 2 ^ k ∣ 2 ^ tz e := Nat.pow_dvd_pow 2 hk
  have h2 : 2 ^ k ∣ 2 ^ tz e * (2 * m + 1) := Nat.dvd_trans h1 (Nat.dvd_mul_right _ _)
  rwa [← hm] at h2

theorem tz_not (e : Nat) (h0 : 0 < e) (h : e < 9223372036854775808) : ¬ 2 ^ (tz e + 1) ∣ e := by
  obtain ⟨m, hm, _⟩ := tz_spec e h0 h
  rintro ⟨c, hc⟩
  rw [Nat.pow_succ, Nat.mul_assoc] at hc
  rw [hc] at hm
  have h2 : 2 * c = 2 * m + 1 := by
    have hp : 0 < 2 ^ tz (2 ^ tz e * (2 * c)) := Nat.pow_pos (by decide)
    rw [← hc] at hm hp
    rw [hc] at hm
    have : 2 ^ tz e * (2 * c) = 2 ^ tz e * (2 * m + 1) := by
      have e2 : tz (2 ^ tz e * (2 * c)) = tz e := by rw [← hc]
      rw [e2] at hm
      exact hm
    exact Nat.eq_of_mul_eq_mul_left (Nat.pow_pos (by decide)) this
  omega

theorem tz_ge (e k : Nat) (h0 : 0 < e) (h : e < 9223372036854775808) (hk : 2 ^ k ∣ e) : k ≤ tz e := by
  apply Nat.le_of_not_lt
  intro hlt
  exact tz_not e h0 h (Nat.dvd_trans (Nat.pow_dvd_pow 2 hlt) hk)

theorem tz_pow_le (e k : Nat) (h0 : 0 < e) (h : e < 9223372036854775808) (hk : k ≤ tz e) : 2 ^ k ≤ e := Nat.le_of_dvd h0 (tz_dvd e k h0 h hk)

/-- The first n links of e. -/
def lk (e n : Nat) : List Nat := (List.range n).map fun k => e - 2 ^ k
theorem lk_length (e n : Nat) : (lk e n).length = n := by simp [lk]
theorem lk_succ (e n : Nat) : lk e (n + 1) = lk e n ++ [e - 2 ^ n] := by simp [lk, List.range_succ]
theorem lk_zero (e : Nat) : lk e 0 = [] := rfl

/-- The links of an epoch. -/
def linksL (e : Nat) : List Nat := if e = 0 then [] else lk e (tz e + 1)
theorem linksL_zero : linksL 0 = [] := rfl
theorem linksL_pos (e : Nat) (h : 0 < e) : linksL e = lk e (tz e + 1) := by unfold linksL; rw [if_neg (by omega)]
theorem linksL_len (e : Nat) (h : e < 9223372036854775808) : (linksL e).length ≤ 63 := by
  unfold linksL
  split
  · simp
  · rw [lk_length]
    have := (tz_spec e (by omega) h).choose_spec.2
    omega

theorem mem_lk {e n x : Nat} (h : x ∈ lk e n) : ∃ k, k < n ∧ x = e - 2 ^ k := by
  unfold lk at h
  obtain ⟨k, hk, rfl⟩ := List.mem_map.1 h
  exact ⟨k, List.mem_range.1 hk, rfl⟩

theorem mem_linksL {e x : Nat} (he : e < 9223372036854775808) (h : x ∈ linksL e) : x < e := by
  unfold linksL at h
  split at h
  · cases h
  · obtain ⟨k, hk, rfl⟩ := mem_lk h
    have := Nat.pow_pos (n := k) (show 0 < 2 by decide)
    omega

/-- The last one of those that is not below b, else a. -/
def nxF (b : Nat) (a : Nat) (ls : List Nat) : Nat := ls.foldl (fun n l => if b ≤ l then l else n) a
theorem nxF_snoc (b a : Nat) (ls : List Nat) (x : Nat) : nxF b a (ls ++ [x]) = if b ≤ x then x else nxF b a ls := by simp [nxF]
theorem nxF_nil (b a : Nat) : nxF b a [] = a := rfl

theorem nxF_none (b a : Nat) (ls : List Nat) (h : ∀ x ∈ ls, x < b) : nxF b a ls = a := by
  induction ls generalizing a with
  | nil => rfl
  | cons x t ih =>
    have hx := h x (by simp)
    have : nxF b a (x :: t) = nxF b a t := by simp only [nxF, List.foldl_cons, if_neg (show ¬ b ≤ x by omega)]
    rw [this]
    exact ih a (fun y hy => h y (by simp [hy]))

/-- The next epoch on the way. -/
def nextN (a b : Nat) : Nat := nxF b a (linksL a)
theorem nextN_far (a b : Nat) (ha : a < 9223372036854775808) (h : a ≤ b) : nextN a b = a := nxF_none b a _ fun x hx => by have := mem_linksL ha hx; omega

theorem nxF_mem (b a : Nat) (ls : List Nat) : nxF b a ls = a ∨ (nxF b a ls ∈ ls ∧ b ≤ nxF b a ls) := by
  induction ls generalizing a with
  | nil => exact .inl rfl
  | cons x t ih =>
    have e : nxF b a (x :: t) = nxF b (if b ≤ x then x else a) t := rfl
    rw [e]
    rcases ih (if b ≤ x then x else a) with h | ⟨h1, h2⟩
    · rw [h]
      split
      · exact .inr ⟨by simp, by assumption⟩
      · exact .inl rfl
    · exact .inr ⟨by simp [h1], h2⟩

theorem nxF_first (b a x : Nat) (t : List Nat) (hx : b ≤ x) : nxF b a (x :: t) ∈ x :: t ∧ b ≤ nxF b a (x :: t) := by
  have e : nxF b a (x :: t) = nxF b x t := by simp [nxF, hx]
  rw [e]
  rcases nxF_mem b x t with h | ⟨h1, h2⟩
  · rw [h]; exact ⟨by simp, hx⟩
  · exact ⟨by simp [h1], h2⟩

theorem linksL_cons (a : Nat) (h : 0 < a) : ∃ t, linksL a = (a - 1) :: t := by
  rw [linksL_pos a h]
  refine ⟨(List.range (tz a)).map fun k => a - 2 ^ (k + 1), ?_⟩
  unfold lk
  rw [List.range_succ_eq_map]
  simp [Function.comp_def]

theorem nextN_mem (a b : Nat) (h : b < a) : nextN a b ∈ linksL a ∧ b ≤ nextN a b := by
  obtain ⟨t, e⟩ := linksL_cons a (by omega)
  unfold nextN
  rw [e]
  exact nxF_first b a (a - 1) t (by omega)

theorem nextN_lt (a b : Nat) (ha : a < 9223372036854775808) (h : b < a) : nextN a b < a := mem_linksL ha (nextN_mem a b h).1
theorem nextN_ge (a b : Nat) (h : b < a) : b ≤ nextN a b := (nextN_mem a b h).2
theorem nextN_le (a b : Nat) (ha : a < 9223372036854775808) : nextN a b ≤ a := by
  rcases Nat.lt_or_ge b a with h | h
  · exact Nat.le_of_lt (nextN_lt a b ha h)
  · rw [nextN_far a b ha h]; exact Nat.le_refl _

/-- The way, by fuel. -/
def wayF : Nat → Nat → Nat → List Nat
  | 0, _, _ => []
  | f + 1, a, b => if a ≤ b then [] else nextN a b :: wayF f (nextN a b) b

theorem wayF_at (f a b : Nat) (h : a ≤ b) : wayF f a b = [] := by cases f <;> simp [wayF, h]

theorem wayF_fuel : ∀ (f g a b : Nat), a < 9223372036854775808 → a - b ≤ f → a - b ≤ g → wayF f a b = wayF g a b := by
  intro f
  induction f with
  | zero => intro g a b _ h1 h2; rw [wayF_at 0 a b (by omega), wayF_at g a b (by omega)]
  | succ f ih =>
    intro g a b ha h1 h2
    rcases Nat.lt_or_ge b a with h | h
    · cases g with
      | zero => omega
      | succ g =>
        have hl := nextN_lt a b ha h
        have hg := nextN_ge a b h
        simp only [wayF, if_neg (show ¬ a ≤ b by omega)]
        rw [ih g (nextN a b) b (by omega) (by omega) (by omega)]
    · rw [wayF_at _ a b h, wayF_at _ a b h]

def wayN (a b : Nat) : List Nat := wayF (a - b) a b
theorem wayN_at (a b : Nat) (h : a ≤ b) : wayN a b = [] := wayF_at _ a b h
theorem wayN_step (a b : Nat) (ha : a < 9223372036854775808) (h : b < a) : wayN a b = nextN a b :: wayN (nextN a b) b := by
  have hl := nextN_lt a b ha h
  have hg := nextN_ge a b h
  unfold wayN
  obtain ⟨f, hf⟩ : ∃ f, a - b = f + 1 := ⟨a - b - 1, by omega⟩
  rw [hf]
  simp only [wayF, if_neg (show ¬ a ≤ b by omega)]
  rw [wayF_fuel f (nextN a b - b) (nextN a b) b (by omega) (by omega) (by omega)]

theorem wayN_len : ∀ (n a b : Nat), a - b ≤ n → a < 9223372036854775808 → (wayN a b).length ≤ a - b := by
  intro n
  induction n with
  | zero => intro a b h _; rw [wayN_at a b (by omega)]; simp
  | succ n ih =>
    intro a b h ha
    rcases Nat.lt_or_ge b a with hb | hb
    · have hl := nextN_lt a b ha hb
      have hg := nextN_ge a b hb
      rw [wayN_step a b ha hb, List.length_cons]
      have := ih (nextN a b) b (by omega) (by omega)
      omega
    · rw [wayN_at a b hb]; simp

/-- The next one lies 2^k ahead, for the greatest k that may be. -/
theorem nxF_lk (a b : Nat) : ∀ n, (∃ k, k < n ∧ b ≤ a - 2 ^ k) → ∃ k, k < n ∧ nxF b a (lk a n) = a - 2 ^ k ∧ b ≤ a - 2 ^ k ∧ ∀ j, j < n → k < j → ¬ b ≤ a - 2 ^ j := by
  intro n
  induction n with
  | zero => rintro ⟨k, hk, _⟩; omega
  | succ n ih =>
    intro h
    rw [lk_succ, nxF_snoc]
    by_cases hn : b ≤ a - 2 ^ n
    · rw [if_pos hn]
      exact ⟨n, by omega, rfl, hn, fun j h1 h2 => by omega⟩
    · rw [if_neg hn]
      obtain ⟨k, hk, hb⟩ := h
      have hkn : k < n := by
        rcases Nat.lt_or_ge k n with h | h
        · exact h
        · obtain rfl : k = n := by omega
          exact absurd hb hn
      obtain ⟨j, h1, h2, h3, h4⟩ := ih ⟨k, hkn, hb⟩
      refine ⟨j, by omega, h2, h3, fun i hi hj => ?_⟩
      by_cases he : i = n
      · subst he; exact hn
      · exact h4 i (by omega) hj

theorem nextN_pow (a b : Nat) (ha : a < 9223372036854775808) (h : b < a) : ∃ k, k ≤ tz a ∧ nextN a b = a - 2 ^ k ∧ 2 ^ k ≤ a - b ∧ ∀ j, 2 ^ j ∣ a → k < j → a - b < 2 ^ j := by
  have h0 : 0 < a := by omega
  unfold nextN
  rw [linksL_pos a h0]
  obtain ⟨k, h1, h2, h3, h4⟩ := nxF_lk a b (tz a + 1) ⟨0, by omega, by simp; omega⟩
  have hle : 2 ^ k ≤ a := tz_pow_le a k h0 ha (by omega)
  refine ⟨k, by omega, h2, by omega, fun j hj hkj => ?_⟩
  have hjt := tz_ge a j h0 ha hj
  have := h4 j (by omega) hkj
  have hp := tz_pow_le a j h0 ha hjt
  omega

theorem dvd_sub_pow {a k m : Nat} (h : 2 ^ m ∣ a) (hk : k ≤ m) : 2 ^ k ∣ a - 2 ^ k := Nat.dvd_sub (Nat.dvd_trans (Nat.pow_dvd_pow 2 hk) h) (Nat.dvd_refl _)

/-- Where 2^m divides a and the distance is below it, the way falls in its powers. -/
theorem way_fall : ∀ (m a b : Nat), a < 9223372036854775808 → b ≤ a → 2 ^ m ∣ a → a - b < 2 ^ m → (wayN a b).length ≤ m := by
  intro m
  induction m using Nat.strongRecOn with
  | _ m ih =>
    intro a b ha hb hd hlt
    rcases Nat.lt_or_ge b a with h | h
    · obtain ⟨k, h1, h2, h3, h4⟩ := nextN_pow a b ha h
      have hkm : k < m := by
        apply Nat.lt_of_not_le
        intro hle
        have : 2 ^ m ≤ 2 ^ k := Nat.pow_le_pow_right (by decide) hle
        omega
      have hle : 2 ^ k ≤ a := by omega
      have hnext : a - b < 2 ^ (k + 1) := h4 (k + 1) (Nat.dvd_trans (Nat.pow_dvd_pow 2 hkm) hd) (by omega)
      rw [Nat.pow_succ] at hnext
      rw [wayN_step a b ha h, List.length_cons, h2]
      have := ih k hkm (a - 2 ^ k) b (by omega) (by omega) (dvd_sub_pow hd (by omega)) (by omega)
      omega
    · rw [wayN_at a b h]; simp

/-- Where 2^t divides a and the distance is below 2^L. -/
theorem way_rise : ∀ (n t a b L : Nat), L - t ≤ n → a < 9223372036854775808 → b ≤ a → 2 ^ t ∣ a → a - b < 2 ^ L → t ≤ L → (wayN a b).length ≤ (L - t) + L := by
  intro n
  induction n with
  | zero =>
    intro t a b L hn ha hb hd hlt htl
    obtain rfl : t = L := by omega
    have := way_fall t a b ha hb hd hlt
    omega
  | succ n ih =>
    intro t a b L hn ha hb hd hlt htl
    rcases Nat.lt_or_ge b a with h | h
    · by_cases htL : t = L
      · subst htL
        have := way_fall t a b ha hb hd hlt
        omega
      · by_cases hd2 : 2 ^ (t + 1) ∣ a
        · have := ih (t + 1) a b L (by omega) ha hb hd2 hlt (by omega)
          omega
        · by_cases hsm : a - b < 2 ^ t
          · have := way_fall t a b ha hb hd hsm
            omega
          · obtain ⟨k, h1, h2, h3, h4⟩ := nextN_pow a b ha h
            have hkt : k = t := by
              have h5 : ¬ k < t := fun hlt2 => hsm (h4 t hd hlt2)
              have h6 : ¬ t < k := fun hlt2 => hd2 (Nat.dvd_trans (Nat.pow_dvd_pow 2 hlt2) (tz_dvd a k (by omega) ha h1))
              omega
            subst hkt
            have hle : 2 ^ k ≤ a := by omega
            have hd3 : 2 ^ (k + 1) ∣ a - 2 ^ k := by
              obtain ⟨c, hc⟩ := hd
              have hodd : c % 2 = 1 := by
                rcases Nat.mod_two_eq_zero_or_one c with h | h
                · exact absurd ⟨c / 2, by rw [Nat.pow_succ, Nat.mul_assoc]; rw [show 2 * (c / 2) = c by omega]; exact hc⟩ hd2
                · exact h
              refine ⟨c / 2, ?_⟩
              have hc2 : c = 2 * (c / 2) + 1 := by omega
              rw [Nat.pow_succ, Nat.mul_assoc, hc]
              conv => lhs; rw [hc2, Nat.mul_add, Nat.mul_one]
              omega
            rw [wayN_step a b ha h, List.length_cons, h2]
            have hp := Nat.pow_pos (n := k) (show 0 < 2 by decide)
            have := ih (k + 1) (a - 2 ^ k) b L (by omega) (by omega) (by omega) hd3 (by omega) (by omega)
            omega
    · rw [wayN_at a b h]; simp

/-- How many a way has at most. -/
def mostN (d : Nat) : Nat := if d = 0 then 0 else 2 * Nat.log2 d + 2

theorem way_short (a b : Nat) (ha : a < 9223372036854775808) (hb : b ≤ a) : (wayN a b).length ≤ mostN (a - b) := by
  rcases Nat.eq_zero_or_pos (a - b) with h | h
  · rw [wayN_at a b (by omega)]; simp
  · unfold mostN
    rw [if_neg (by omega)]
    have := way_rise (Nat.log2 (a - b) + 1) 0 a b (Nat.log2 (a - b) + 1) (by omega) ha hb (by simp) Nat.lt_log2_self (by omega)
    omega

/-- The way as a walk sees it: what is behind, and the rest. -/
theorem way_all (a b : Nat) (ha : a < 9223372036854775808) (hb : b ≤ a) : ∀ x ∈ wayN a b, b ≤ x ∧ x < a := by
  suffices ∀ n a, a - b ≤ n → a < 9223372036854775808 → b ≤ a → ∀ x ∈ wayN a b, b ≤ x ∧ x < a from this (a - b) a (Nat.le_refl _) ha hb
  intro n
  induction n with
  | zero => intro a h _ _ x hx; rw [wayN_at a b (by omega)] at hx; cases hx
  | succ n ih =>
    intro a h ha hb x hx
    rcases Nat.lt_or_ge b a with hb2 | hb2
    · have hl := nextN_lt a b ha hb2
      have hg := nextN_ge a b hb2
      rw [wayN_step a b ha hb2] at hx
      rcases List.mem_cons.1 hx with rfl | hx
      · exact ⟨hg, hl⟩
      · have := ih (nextN a b) (by omega) (by omega) hg x hx
        omega
    · rw [wayN_at a b hb2] at hx; cases hx

end Go.Proofs.YtpndpmkoegmbkaaDoor
