/- What this text holds: plain facts about rows of bits (no program): bit n of a list of bytes, how many first bits two lists have in common, the first n bits, the bits of an identity. -/
import Derived.Lib.BitFns
import Derived.Lib.Bytealg
namespace Go.Proofs.YtcgpgnajmfemhaaGreatDoor.Vf

/-- Bit n of the bytes l, the highest of a byte first; -1, if there is none. -/
def bitN (l : List UInt8) (n : Nat) : Int :=
  match l[n / 8]? with
  | none => -1
  | some b => ((b.toNat.testBit (7 - n % 8)).toNat : Int)

def bitF (l : List UInt8) (i : Int) : Int := if i < 0 then -1 else bitN l i.toNat

theorem bitN_none {l : List UInt8} {n : Nat} (h : l.length ≤ n / 8) : bitN l n = -1 := by
  unfold bitN
  rw [List.getElem?_eq_none h]

theorem bitN_some {l : List UInt8} {n : Nat} {b : UInt8} (h : l[n / 8]? = some b) : bitN l n = ((b.toNat.testBit (7 - n % 8)).toNat : Int) := by
  unfold bitN
  rw [h]

theorem bitN_range (l : List UInt8) (n : Nat) : bitN l n = -1 ∨ bitN l n = 0 ∨ bitN l n = 1 := by
  unfold bitN
  split
  · exact .inl rfl
  · rename_i b _
    cases b.toNat.testBit (7 - n % 8) <;> simp

theorem bitN_nonneg {l : List UInt8} {n : Nat} : 0 ≤ bitN l n ↔ n < 8 * l.length := by
  constructor
  · intro h
    by_cases hn : l.length ≤ n / 8
    · rw [bitN_none hn] at h; omega
    · omega
  · intro h
    have hk : n / 8 < l.length := by omega
    rw [bitN_some (List.getElem?_eq_getElem hk)]
    omega

theorem bitN_cons_add (a : UInt8) (l : List UInt8) (n : Nat) : bitN (a :: l) (8 + n) = bitN l n := by
  unfold bitN
  rw [show (8 + n) / 8 = n / 8 + 1 by omega, show (8 + n) % 8 = n % 8 by omega, List.getElem?_cons_succ]

theorem bitN_cons_lt (a : UInt8) (l : List UInt8) (n : Nat) (h : n < 8) : bitN (a :: l) n = ((a.toNat.testBit (7 - n)).toNat : Int) := by
  unfold bitN
  rw [show n / 8 = 0 by omega, show n % 8 = n by omega]
  rfl

/-- How many noughts a byte begins with. -/
def lz (x : UInt8) : Nat := 8 - Lib.bitLen x.toNat

theorem lz_all : ∀ n : Fin 256, (∀ k : Fin 8, k.val < 8 - Lib.bitLen n.val → n.val.testBit (7 - k.val) = false) ∧ (n.val ≠ 0 → 8 - Lib.bitLen n.val < 8 ∧ n.val.testBit (7 - (8 - Lib.bitLen n.val)) = true) := by decide +kernel

theorem lz_low (x : UInt8) (k : Nat) (h : k < lz x) : x.toNat.testBit (7 - k) = false := by
  have := (lz_all ⟨x.toNat, x.toNat_lt⟩).1 ⟨k, by unfold lz at h; omega⟩ h
  simpa using this
theorem lz_lt (x : UInt8) (h : x ≠ 0) : lz x < 8 := by
  have := ((lz_all ⟨x.toNat, x.toNat_lt⟩).2 (by intro e; exact h (UInt8.toNat_inj.1 (by simpa using e)))).1
  simpa [lz] using this
theorem lz_at (x : UInt8) (h : x ≠ 0) : x.toNat.testBit (7 - lz x) = true := by
  have := ((lz_all ⟨x.toNat, x.toNat_lt⟩).2 (by intro e; exact h (UInt8.toNat_inj.1 (by simpa using e)))).2
  simpa [lz] using this
theorem lz_le (x : UInt8) : lz x ≤ 8 := by unfold lz; omega

theorem xor_bit (a b : UInt8) (k : Nat) : (a ^^^ b).toNat.testBit k = (a.toNat.testBit k ^^ b.toNat.testBit k) := by
  rw [UInt8.toNat_xor, Nat.testBit_xor]

theorem xor_ne {a b : UInt8} (h : a ≠ b) : a ^^^ b ≠ 0 := by
  intro e
  exact h (UInt8.xor_eq_zero_iff.1 e)

/-- How many first bits two have in common. -/
def com : List UInt8 → List UInt8 → Nat
  | a :: as, b :: bs => if a = b then 8 + com as bs else lz (a ^^^ b)
  | _, _ => 0

theorem com_cons (x y : UInt8) (a b : List UInt8) : com (x :: a) (y :: b) = if x = y then 8 + com a b else lz (x ^^^ y) := rfl

theorem com_low : ∀ (a b : List UInt8) (n : Nat), n < com a b → n < 8 * a.length ∧ n < 8 * b.length ∧ bitN a n = bitN b n
  | [], _, n, h => by simp [com] at h
  | _ :: _, [], n, h => by simp [com] at h
  | x :: a, y :: b, n, h => by
    simp only [com] at h
    split at h
    · rename_i e
      subst e
      by_cases hn : n < 8
      · refine ⟨by simp; omega, by simp; omega, ?_⟩
        rw [bitN_cons_lt _ _ _ hn, bitN_cons_lt _ _ _ hn]
      · obtain ⟨m, rfl⟩ : ∃ m, n = 8 + m := ⟨n - 8, by omega⟩
        have := com_low a b m (by omega)
        refine ⟨by simp; omega, by simp; omega, ?_⟩
        rw [bitN_cons_add, bitN_cons_add]
        exact this.2.2
    · rename_i e
      have hn : n < 8 := by have := lz_lt _ (xor_ne e); omega
      refine ⟨by simp; omega, by simp; omega, ?_⟩
      rw [bitN_cons_lt _ _ _ hn, bitN_cons_lt _ _ _ hn]
      have := lz_low _ _ h
      rw [xor_bit] at this
      have : x.toNat.testBit (7 - n) = y.toNat.testBit (7 - n) := by
        cases h1 : x.toNat.testBit (7 - n) <;> cases h2 : y.toNat.testBit (7 - n) <;> simp [h1, h2] at this ⊢
      rw [this]

theorem com_stop : ∀ (a b : List UInt8), com a b = 8 * a.length ∨ com a b = 8 * b.length ∨ bitN a (com a b) ≠ bitN b (com a b)
  | [], _ => by simp [com]
  | _ :: _, [] => by simp [com]
  | x :: a, y :: b => by
    simp only [com]
    split
    · rename_i e
      subst e
      rw [bitN_cons_add, bitN_cons_add]
      rcases com_stop a b with h | h | h
      · left; simp; omega
      · right; left; simp; omega
      · right; right; exact h
    · rename_i e
      right; right
      have hn := lz_lt _ (xor_ne e)
      rw [bitN_cons_lt _ _ _ hn, bitN_cons_lt _ _ _ hn]
      have := lz_at _ (xor_ne e)
      rw [xor_bit] at this
      cases h1 : x.toNat.testBit (7 - lz (x ^^^ y)) <;> cases h2 : y.toNat.testBit (7 - lz (x ^^^ y)) <;> simp [h1, h2] at this ⊢

theorem com_le (a b : List UInt8) : com a b ≤ 8 * a.length ∧ com a b ≤ 8 * b.length := by
  rcases Nat.eq_zero_or_pos (com a b) with h | h
  · omega
  · have := com_low a b (com a b - 1) (by omega)
    omega

/-- The loop's test at a place no further than what is in common. -/
theorem com_test (a b : List UInt8) (n : Nat) (h : n ≤ com a b) : (0 ≤ bitN a n ∧ bitN a n = bitN b n) ↔ n < com a b := by
  constructor
  · intro ⟨h1, h2⟩
    rcases Nat.lt_or_ge n (com a b) with h3 | h3
    · exact h3
    · obtain rfl : n = com a b := by omega
      rcases com_stop a b with h4 | h4 | h4
      · have := bitN_nonneg.1 h1; omega
      · rw [h2] at h1
        have := bitN_nonneg.1 h1; omega
      · exact absurd h2 h4
  · intro h1
    have := com_low a b n h1
    exact ⟨bitN_nonneg.2 this.1, this.2.2⟩

theorem le_com (a b : List UInt8) (n : Nat) (h1 : n ≤ 8 * a.length) (h2 : n ≤ 8 * b.length) (h : ∀ k < n, bitN a k = bitN b k) : n ≤ com a b := by
  rcases Nat.lt_or_ge (com a b) n with h3 | h3
  · rcases com_stop a b with h4 | h4 | h4
    · omega
    · omega
    · exact absurd (h _ h3) h4
  · exact h3

theorem com_self (a : List UInt8) : com a a = 8 * a.length := by
  have := com_le a a
  have := le_com a a (8 * a.length) (Nat.le_refl _) (Nat.le_refl _) (fun _ _ => rfl)
  omega

theorem com_comm (a b : List UInt8) : com a b = com b a := by
  have h1 := le_com b a (com a b) (com_le a b).2 (com_le a b).1 (fun k hk => (com_low a b k hk).2.2.symm)
  have h2 := le_com a b (com b a) (com_le b a).2 (com_le b a).1 (fun k hk => (com_low b a k hk).2.2.symm)
  omega

/-- The first k bits of a byte, noughts behind them. -/
def cutB (b : UInt8) (k : Nat) : UInt8 := UInt8.ofNat (b.toNat / 2 ^ (8 - k) * 2 ^ (8 - k))

theorem cutB_bits : ∀ n : Fin 256, ∀ k j : Fin 8, (n.val / 2 ^ (8 - k.val) * 2 ^ (8 - k.val)).testBit (7 - j.val) = (n.val.testBit (7 - j.val) && decide (j.val < k.val)) := by decide +kernel

theorem cutB_toNat (b : UInt8) (k : Nat) : (cutB b k).toNat = b.toNat / 2 ^ (8 - k) * 2 ^ (8 - k) := by
  unfold cutB
  have h1 := b.toNat_lt
  have h2 := Nat.div_mul_le_self b.toNat (2 ^ (8 - k))
  simp
  omega

theorem cutB_bit (b : UInt8) (k j : Nat) (hk : k < 8) (hj : j < 8) : (cutB b k).toNat.testBit (7 - j) = (b.toNat.testBit (7 - j) && decide (j < k)) := by
  rw [cutB_toNat]
  exact cutB_bits ⟨b.toNat, b.toNat_lt⟩ ⟨k, hk⟩ ⟨j, hj⟩

/-- The first n bits. -/
def firstN : List UInt8 → Nat → List UInt8
  | [], _ => []
  | a :: l, n => if n = 0 then [] else if n < 8 then [cutB a n] else a :: firstN l (n - 8)

def firstF (l : List UInt8) (i : Int) : List UInt8 := firstN l i.toNat

theorem firstN_cons (a : UInt8) (l : List UInt8) (n : Nat) : firstN (a :: l) n = if n = 0 then [] else if n < 8 then [cutB a n] else a :: firstN l (n - 8) := rfl

theorem firstN_zero (l : List UInt8) : firstN l 0 = [] := by cases l <;> simp [firstN]

theorem firstN_length : ∀ (l : List UInt8) (n : Nat), (firstN l n).length = min l.length ((n + 7) / 8)
  | [], n => by simp [firstN]
  | a :: l, n => by
    unfold firstN
    split
    · subst n; simp
    · split
      · simp; omega
      · have := firstN_length l (n - 8)
        simp only [List.length_cons, this]
        omega

theorem firstN_bit : ∀ (l : List UInt8) (n k : Nat), k < n → bitN (firstN l n) k = bitN l k
  | [], n, k, h => by simp [firstN]
  | a :: l, n, k, h => by
    unfold firstN
    rw [if_neg (by omega)]
    split
    · rw [bitN_cons_lt _ _ _ (by omega), bitN_cons_lt _ _ _ (by omega), cutB_bit _ _ _ (by omega) (by omega)]
      simp [h]
    · by_cases hk : k < 8
      · rw [bitN_cons_lt _ _ _ hk, bitN_cons_lt _ _ _ hk]
      · obtain ⟨m, rfl⟩ : ∃ m, k = 8 + m := ⟨k - 8, by omega⟩
        rw [bitN_cons_add, bitN_cons_add]
        exact firstN_bit l (n - 8) m (by omega)

theorem firstN_all : ∀ (l : List UInt8) (n : Nat), l.length ≤ n / 8 → firstN l n = l
  | [], n, h => by simp [firstN]
  | a :: l, n, h => by
    simp only [List.length_cons] at h
    unfold firstN
    rw [if_neg (by omega), if_neg (by omega), firstN_all l (n - 8) (by omega)]

theorem firstN_whole : ∀ (l : List UInt8) (n : Nat), n % 8 = 0 → firstN l n = l.take (n / 8)
  | [], n, h => by simp [firstN]
  | a :: l, n, h => by
    unfold firstN
    split
    · subst n; simp
    · rw [if_neg (by omega), firstN_whole l (n - 8) (by omega), show n / 8 = (n - 8) / 8 + 1 by omega, List.take_succ_cons]

theorem firstN_part : ∀ (l : List UInt8) (n : Nat) (b : UInt8), n % 8 ≠ 0 → l[n / 8]? = some b → firstN l n = l.take (n / 8) ++ [cutB b (n % 8)]
  | [], n, b, h, hb => by simp at hb
  | a :: l, n, b, h, hb => by
    unfold firstN
    rw [if_neg (by omega)]
    split
    · rw [show n / 8 = 0 by omega] at hb ⊢
      simp at hb
      subst hb
      rw [show n % 8 = n by omega]
      simp
    · rw [show n / 8 = (n - 8) / 8 + 1 by omega] at hb ⊢
      rw [List.getElem?_cons_succ] at hb
      rw [firstN_part l (n - 8) b (by omega) hb, show (n - 8) % 8 = n % 8 by omega, List.take_succ_cons]
      rfl

theorem cutB_cut : ∀ n : Fin 256, ∀ k j : Fin 8, n.val / 2 ^ (8 - k.val) * 2 ^ (8 - k.val) / 2 ^ (8 - j.val) * 2 ^ (8 - j.val) = n.val / 2 ^ (8 - min k.val j.val) * 2 ^ (8 - min k.val j.val) := by decide +kernel

theorem firstN_first : ∀ (l : List UInt8) (n m : Nat), firstN (firstN l n) m = firstN l (min n m)
  | [], n, m => by simp [firstN]
  | a :: l, n, m => by
    by_cases hn : n = 0
    · subst hn; simp [firstN]
    by_cases hm : m = 0
    · subst hm; simp [firstN_zero]
    have hmn : ¬ min n m = 0 := by omega
    rw [firstN_cons a l n, firstN_cons a l (min n m), if_neg hn, if_neg hmn]
    by_cases h8 : n < 8
    · rw [if_pos h8, if_pos (by omega), firstN_cons, if_neg hm]
      by_cases hm8 : m < 8
      · rw [if_pos hm8]
        congr 1
        apply UInt8.toNat_inj.1
        rw [cutB_toNat, cutB_toNat, cutB_toNat]
        exact cutB_cut ⟨a.toNat, a.toNat_lt⟩ ⟨n, h8⟩ ⟨m, hm8⟩
      · rw [if_neg hm8, show min n m = n by omega]
        simp [firstN]
    · rw [if_neg h8, firstN_cons, if_neg hm]
      by_cases hm8 : m < 8
      · rw [if_pos hm8, if_pos (by omega), show min n m = m by omega]
      · rw [if_neg hm8, if_neg (by omega), firstN_first l (n - 8) (m - 8), show min (n - 8) (m - 8) = min n m - 8 by omega]

/-- An identity's bits. -/
def keyF (l : List UInt8) : List UInt8 := UInt8.ofNat (min l.length 255) :: l.take 255

theorem keyF_length (l : List UInt8) : (keyF l).length = 1 + min l.length 255 := by simp [keyF]; omega

/-- Whether one begins with the other's first n. -/
theorem begins_iff (b p : List UInt8) (n : Nat) (hb : n ≤ 8 * b.length) (hp : n ≤ 8 * p.length) : n ≤ com (firstN b n) (firstN p n) ↔ n ≤ com b p := by
  constructor
  · intro h
    refine le_com b p n hb hp fun k hk => ?_
    rw [← firstN_bit b n k hk, ← firstN_bit p n k hk]
    exact (com_low _ _ k (by omega)).2.2
  · intro h
    refine le_com _ _ n (by rw [firstN_length]; omega) (by rw [firstN_length]; omega) fun k hk => ?_
    rw [firstN_bit b n k hk, firstN_bit p n k hk]
    exact (com_low _ _ k (by omega)).2.2

theorem begins_first (b : List UInt8) (n : Nat) (hb : n ≤ 8 * b.length) : n ≤ com b (firstN b n) := by
  refine le_com _ _ n hb (by rw [firstN_length]; omega) fun k hk => ?_
  rw [firstN_bit b n k hk]

theorem lt_of_bits {x y : Nat} (i : Nat) (hx : x.testBit i = false) (hy : y.testBit i = true) (h : ∀ j, i < j → x.testBit j = y.testBit j) : x < y := by
  have e : x / 2 ^ (i + 1) = y / 2 ^ (i + 1) := by
    apply Nat.eq_of_testBit_eq
    intro j
    rw [Nat.testBit_div_two_pow, Nat.testBit_div_two_pow]
    exact h _ (by omega)
  rw [Nat.testBit_eq_decide_div_mod_eq] at hx hy
  have hx' : ¬ x / 2 ^ i % 2 = 1 := by simpa using hx
  have hy' : y / 2 ^ i % 2 = 1 := by simpa using hy
  rw [Nat.pow_succ, ← Nat.div_div_eq_div_mul, ← Nat.div_div_eq_div_mul] at e
  have hlt : x / 2 ^ i < y / 2 ^ i := by omega
  rcases Nat.lt_or_ge x y with h1 | h1
  · exact h1
  · have := Nat.div_le_div_right (c := 2 ^ i) h1
    omega

/-- The order of two lists of which neither goes on where the other ends, by their first unlike bit. -/
theorem compare_bit : ∀ (x y : List UInt8), com x y < 8 * x.length → com x y < 8 * y.length → Lib.compareBytes x y = bitN x (com x y) - bitN y (com x y)
  | [], _, h, _ => by simp at h
  | _ :: _, [], _, h => by simp at h
  | a :: x, b :: y, h1, h2 => by
    simp only [List.length_cons] at h1 h2
    unfold com at h1 h2 ⊢
    unfold Lib.compareBytes
    by_cases e : a = b
    · subst e
      rw [if_pos rfl] at h1 h2 ⊢
      have hlt : ¬ a < a := UInt8.lt_irrefl a
      rw [if_neg hlt, if_neg hlt, bitN_cons_add, bitN_cons_add]
      exact compare_bit x y (by omega) (by omega)
    · rw [if_neg e]
      have hn := lz_lt _ (xor_ne e)
      rw [bitN_cons_lt _ _ _ hn, bitN_cons_lt _ _ _ hn]
      have hat := lz_at _ (xor_ne e)
      rw [xor_bit] at hat
      have hlow : ∀ i, 7 - lz (a ^^^ b) < i → a.toNat.testBit i = b.toNat.testBit i := by
        intro i hi
        by_cases h8 : i < 8
        · have := lz_low (a ^^^ b) (7 - i) (by omega)
          rw [xor_bit, show 7 - (7 - i) = i by omega] at this
          cases h1 : a.toNat.testBit i <;> cases h2 : b.toNat.testBit i <;> simp [h1, h2] at this ⊢
        · have e1 : a.toNat.testBit i = false := Nat.testBit_lt_two_pow (Nat.lt_of_lt_of_le a.toNat_lt (by rw [show (2 : Nat) ^ 8 = 2 ^ 8 from rfl]; exact Nat.pow_le_pow_right (by omega) (by omega)))
          have e2 : b.toNat.testBit i = false := Nat.testBit_lt_two_pow (Nat.lt_of_lt_of_le b.toNat_lt (Nat.pow_le_pow_right (by omega) (by omega)))
          rw [e1, e2]
      cases ha : a.toNat.testBit (7 - lz (a ^^^ b)) <;> cases hb : b.toNat.testBit (7 - lz (a ^^^ b)) <;> simp [ha, hb] at hat
      · have hlt : a.toNat < b.toNat := lt_of_bits _ ha hb hlow
        have : a < b := UInt8.lt_iff_toNat_lt.2 hlt
        simp [this]
      · have hlt : b.toNat < a.toNat := lt_of_bits _ hb ha (fun i hi => (hlow i hi).symm)
        have h3 : b < a := UInt8.lt_iff_toNat_lt.2 hlt
        have h4 : ¬ a < b := fun h => by have := UInt8.lt_iff_toNat_lt.1 h; omega
        simp [h3, h4]

theorem com_keyF (a b : List UInt8) (ha : a.length ≤ 255) (hb : b.length ≤ 255) (h : a ≠ b) : com (keyF a) (keyF b) < 8 * (keyF a).length ∧ com (keyF a) (keyF b) < 8 * (keyF b).length := by
  have hlt : ∀ (a b : List UInt8), a.length = b.length → a ≠ b → com a b < 8 * a.length := by
    intro a
    induction a with
    | nil => intro b hl hn; exact absurd (List.eq_nil_of_length_eq_zero hl.symm).symm hn
    | cons x a ih =>
      intro b hl hn
      cases b with
      | nil => simp at hl
      | cons y b =>
        simp only [List.length_cons] at hl ⊢
        unfold com
        split
        · rename_i e
          subst e
          have := ih b (by omega) (fun e => hn (by rw [e]))
          omega
        · rename_i e
          have := lz_lt _ (xor_ne e)
          omega
  unfold keyF
  rw [List.take_of_length_le (by omega), List.take_of_length_le (by omega), show min a.length 255 = a.length by omega, show min b.length 255 = b.length by omega]
  by_cases e : a.length = b.length
  · have h1 := hlt a b e h
    have h2 : com (UInt8.ofNat a.length :: a) (UInt8.ofNat b.length :: b) = 8 + com a b := by rw [com_cons, if_pos (by rw [e])]
    rw [h2]
    simp only [List.length_cons]
    omega
  · have hne : UInt8.ofNat a.length ≠ UInt8.ofNat b.length := by
      intro he
      have := congrArg UInt8.toNat he
      simp at this
      omega
    have h2 : com (UInt8.ofNat a.length :: a) (UInt8.ofNat b.length :: b) = lz (UInt8.ofNat a.length ^^^ UInt8.ofNat b.length) := by rw [com_cons, if_neg hne]
    rw [h2]
    have := lz_lt _ (xor_ne hne)
    simp only [List.length_cons]
    omega

theorem compare_self : ∀ l : List UInt8, Lib.compareBytes l l = 0
  | [] => rfl
  | a :: l => by
    unfold Lib.compareBytes
    rw [if_neg (UInt8.lt_irrefl a), if_neg (UInt8.lt_irrefl a), compare_self l]

end Go.Proofs.YtcgpgnajmfemhaaGreatDoor.Vf
