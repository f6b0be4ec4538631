/- What this text holds: plain facts (no program) on the links of an epoch, the next epoch on a way, the way, and how long it may be. What this text holds: plain facts about lists of bytes in memory (no program): a slice that holds bytes, a slice of slices of bytes, rows that a call owns; nothing of the program is said here. What this text proves: laws for a walk, over any program: an append of a slice of bytes onto a row that the call owns; a copy of a slice of bytes over a whole row that the call owns. What this text holds: closed facts on this program's types of bytes. What this text proves: the walks of math/bits' TrailingZeros64 and TrailingZeros over this program, where the table lies in its variable. -/
import Derived.Lib.TrailingZeros
import Derived.WalkKit
import Derived.Below
import Derived.WalkSpells
import Derived.Laws.CopyOwn
import Derived.Laws.AppendOwnNone
import Derived.Test.YtgfddabccjfhiabDoorRows
import Derived.WalkLawsBesides
import Derived.Laws.Bits64b
namespace Go.Proofs.YtgfddabccjfhiabDoor

/-- How many times 2 divides e. -/
def tz (e : Nat) : Nat := Lib.ctz 64 e

theorem tz_spec (e : Nat) (h0 : 0 < e) (h : e < 9223372036854775808) : ∃ m, e = 2 ^ tz e * (2 * m + 1) ∧ tz e < 63 := by
  obtain ⟨m, hm, hk⟩ := Lib.ctzFrom_spec 64 e h0 (by omega)
  have e1 : tz e = Lib.ctzFrom 64 e := by unfold tz Lib.ctz; rw [if_neg (by omega)]
  rw [← e1] at hm hk
  refine ⟨m, hm, ?_⟩
  apply Nat.lt_of_not_le
  intro hle
  have h1 : 2 ^ 63 ≤ 2 ^ tz e := Nat.pow_le_pow_right (by decide) hle
  have h2 : 2 ^ tz e ≤ 2 ^ tz e * (2 * m + 1) := Nat.le_mul_of_pos_right _ (by omega)
  have h3 : (2 : Nat) ^ 63 = 9223372036854775808 := by decide
  omega

theorem tz_dvd (e k : Nat) (h0 : 0 < e) (h : e < 9223372036854775808) (hk : k ≤ tz e) : 2 ^ k ∣ e := by
  obtain ⟨m, hm, _⟩ := tz_spec e h0 h
  have h1 : 2 ^ k ∣ 2 ^ tz e := Nat.pow_dvd_pow 2 hk
  have h2 : 2 ^ k ∣ 2 ^ tz e * (2 * m + 1) := Nat.dvd_trans h1 (Nat.dvd_mul_right _ _)
  rwa [← hm] at h2

theorem tz_not (e : Nat) (h0 : 0 < e) (h : e < 9223372036854775808) : ¬ 2 ^ (tz e + 1) ∣ e := by
  obtain ⟨m, hm, _⟩ := tz_spec e h0 h
  rintro ⟨c, hc⟩
  rw [Nat.pow_succ, Nat.mul_assoc] at hc
  rw [hc] at hm
  have h2 : 2 * c = 2 * m + 1 := by
    have hp : 0 < 2 ^ tz (2 ^ tz e * (2 * c)) := Nat.pow_pos (by decide)
    rw [← hc] at hm hp
    rw [hc] at hm
    have : 2 ^ tz e * (2 * c) = 2 ^ tz e * (2 * m + 1) := by
      have e2 : tz (2 ^ tz e * (2 * c)) = tz e := by rw [← hc]
      rw [e2] at hm
      exact hm
    exact Nat.eq_of_mul_eq_mul_left (Nat.pow_pos (by decide)) this
  omega

theorem tz_ge (e k : Nat) (h0 : 0 < e) (h : e < 9223372036854775808) (hk : 2 ^ k ∣ e) : k ≤ tz e := by
  apply Nat.le_of_not_lt
  intro hlt
  exact tz_not e h0 h (Nat.dvd_trans (Nat.pow_dvd_pow 2 hlt) hk)

theorem tz_pow_le (e k : Nat) (h0 : 0 < e) (h : e < 9223372036854775808) (hk : k ≤ tz e) : 2 ^ k ≤ e := Nat.le_of_dvd h0 (tz_dvd e k h0 h hk)

/-- The first n links of e. -/
def lk (e n : Nat) : List Nat := (List.range n).map fun k => e - 2 ^ k
theorem lk_length (e n : Nat) : (lk e n).length = n := by simp [lk]
theorem lk_succ (e n : Nat) : lk e (n + 1) = lk e n ++ [e - 2 ^ n] := by simp [lk, List.range_succ]
theorem lk_zero (e : Nat) : lk e 0 = [] := rfl

/-- The links of an epoch. -/
def linksL (e : Nat) : List Nat := if e = 0 then [] else lk e (tz e + 1)
theorem linksL_zero : linksL 0 = [] := rfl
theorem linksL_pos (e : Nat) (h : 0 < e) : linksL e = lk e (tz e + 1) := by unfold linksL; rw [if_neg (by omega)]
theorem linksL_len (e : Nat) (h : e < 9223372036854775808) : (linksL e).length ≤ 63 := by
  unfold linksL
  split
  · simp
  · rw [lk_length]
    have := (tz_spec e (by omega) h).choose_spec.2
    omega

theorem mem_lk {e n x : Nat} (h : x ∈ lk e n) : ∃ k, k < n ∧ x = e - 2 ^ k := by
  unfold lk at h
  obtain ⟨k, hk, rfl⟩ := List.mem_map.1 h
  exact ⟨k, List.mem_range.1 hk, rfl⟩

theorem mem_linksL {e x : Nat} (he : e < 9223372036854775808) (h : x ∈ linksL e) : x < e := by
  unfold linksL at h
  split at h
  · cases h
  · obtain ⟨k, hk, rfl⟩ := mem_lk h
    have := Nat.pow_pos (n := k) (show 0 < 2 by decide)
    omega

/-- The last one of those that is not below b, else a. -/
def nxF (b : Nat) (a : Nat) (ls : List Nat) : Nat := ls.foldl (fun n l => if b ≤ l then l else n) a
theorem nxF_snoc (b a : Nat) (ls : List Nat) (x : Nat) : nxF b a (ls ++ [x]) = if b ≤ x then x else nxF b a ls := by simp [nxF]
theorem nxF_nil (b a : Nat) : nxF b a [] = a := rfl

theorem nxF_none (b a : Nat) (ls : List Nat) (h : ∀ x ∈ ls, x < b) : nxF b a ls = a := by
  induction ls generalizing a with
  | nil => rfl
  | cons x t ih =>
    have hx := h x (by simp)
    have : nxF b a (x :: t) = nxF b a t := by simp only [nxF, List.foldl_cons, if_neg (show ¬ b ≤ x by omega)]
    rw [this]
    exact ih a (fun y hy => h y (by simp [hy]))

/-- The next epoch on the way. -/
def nextN (a b : Nat) : Nat := nxF b a (linksL a)
theorem nextN_far (a b : Nat) (ha : a < 9223372036854775808) (h : a ≤ b) : nextN a b = a := nxF_none b a _ fun x hx => by have := mem_linksL ha hx; omega

theorem nxF_mem (b a : Nat) (ls : List Nat) : nxF b a ls = a ∨ (nxF b a ls ∈ ls ∧ b ≤ nxF b a ls) := by
  induction ls generalizing a with
  | nil => exact .inl rfl
  | cons x t ih =>
    have e : nxF b a (x :: t) = nxF b (if b ≤ x then x else a) t := rfl
    rw [e]
    rcases ih (if b ≤ x then x else a) with h | ⟨h1, h2⟩
    · rw [h]
      split
      · exact .inr ⟨by simp, by assumption⟩
      · exact .inl rfl
    · exact .inr ⟨by simp [h1], h2⟩

theorem nxF_first (b a x : Nat) (t : List Nat) (hx : b ≤ x) : nxF b a (x :: t) ∈ x :: t ∧ b ≤ nxF b a (x :: t) := by
  have e : nxF b a (x :: t) = nxF b x t := by simp [nxF, hx]
  rw [e]
  rcases nxF_mem b x t with h | ⟨h1, h2⟩
  · rw [h]; exact ⟨by simp, hx⟩
  · exact ⟨by simp [h1], h2⟩

theorem linksL_cons (a : Nat) (h : 0 < a) : ∃ t, linksL a = (a - 1) :: t := by
  rw [linksL_pos a h]
  refine ⟨(List.range (tz a)).map fun k => a - 2 ^ (k + 1), ?_⟩
  unfold lk
  rw [List.range_succ_eq_map]
  simp [Function.comp_def]

theorem nextN_mem (a b : Nat) (h : b < a) : nextN a b ∈ linksL a ∧ b ≤ nextN a b := by
  obtain ⟨t, e⟩ := linksL_cons a (by omega)
  unfold nextN
  rw [e]
  exact nxF_first b a (a - 1) t (by omega)

theorem nextN_lt (a b : Nat) (ha : a < 9223372036854775808) (h : b < a) : nextN a b < a := mem_linksL ha (nextN_mem a b h).1
theorem nextN_ge (a b : Nat) (h : b < a) : b ≤ nextN a b := (nextN_mem a b h).2
theorem nextN_le (a b : Nat) (ha : a < 9223372036854775808) : nextN a b ≤ a := by
  rcases Nat.lt_or_ge b a with h | h
  · exact Nat.le_of_lt (nextN_lt a b ha h)
  · rw [nextN_far a b ha h]; exact Nat.le_refl _

/-- The way, by fuel. -/
def wayF : Nat → Nat → Nat → List Nat
  | 0, _, _ => []
  | f + 1, a, b => if a ≤ b then [] else nextN a b :: wayF f (nextN a b) b

theorem wayF_at (f a b : Nat) (h : a ≤ b) : wayF f a b = [] := by cases f <;> simp [wayF, h]

theorem wayF_fuel : ∀ (f g a b : Nat), a < 9223372036854775808 → a - b ≤ f → a - b ≤ g → wayF f a b = wayF g a b := by
  intro f
  induction f with
  | zero => intro g a b _ h1 h2; rw [wayF_at 0 a b (by omega), wayF_at g a b (by omega)]
  | succ f ih =>
    intro g a b ha h1 h2
    rcases Nat.lt_or_ge b a with h | h
    · cases g with
      | zero => omega
      | succ g =>
        have hl := nextN_lt a b ha h
        have hg := nextN_ge a b h
        simp only [wayF, if_neg (show ¬ a ≤ b by omega)]
        rw [ih g (nextN a b) b (by omega) (by omega) (by omega)]
    · rw [wayF_at _ a b h, wayF_at _ a b h]

def wayN (a b : Nat) : List Nat := wayF (a - b) a b
theorem wayN_at (a b : Nat) (h : a ≤ b) : wayN a b = [] := wayF_at _ a b h
theorem wayN_step (a b : Nat) (ha : a < 9223372036854775808) (h : b < a) : wayN a b = nextN a b :: wayN (nextN a b) b := by
  have hl := nextN_lt a b ha h
  have hg := nextN_ge a b h
  unfold wayN
  obtain ⟨f, hf⟩ : ∃ f, a - b = f + 1 := ⟨a - b - 1, by omega⟩
  rw [hf]
  simp only [wayF, if_neg (show ¬ a ≤ b by omega)]
  rw [wayF_fuel f (nextN a b - b) (nextN a b) b (by omega) (by omega) (by omega)]

theorem wayN_len : ∀ (n a b : Nat), a - b ≤ n → a < 9223372036854775808 → (wayN a b).length ≤ a - b := by
  intro n
  induction n with
  | zero => intro a b h _; rw [wayN_at a b (by omega)]; simp
  | succ n ih =>
    intro a b h ha
    rcases Nat.lt_or_ge b a with hb | hb
    · have hl := nextN_lt a b ha hb
      have hg := nextN_ge a b hb
      rw [wayN_step a b ha hb, List.length_cons]
      have := ih (nextN a b) b (by omega) (by omega)
      omega
    · rw [wayN_at a b hb]; simp

/-- The next one lies 2^k ahead, for the greatest k that may be. -/
theorem nxF_lk (a b : Nat) : ∀ n, (∃ k, k < n ∧ b ≤ a - 2 ^ k) → ∃ k, k < n ∧ nxF b a (lk a n) = a - 2 ^ k ∧ b ≤ a - 2 ^ k ∧ ∀ j, j < n → k < j → ¬ b ≤ a - 2 ^ j := by
  intro n
  induction n with
  | zero => rintro ⟨k, hk, _⟩; omega
  | succ n ih =>
    intro h
    rw [lk_succ, nxF_snoc]
    by_cases hn : b ≤ a - 2 ^ n
    · rw [if_pos hn]
      exact ⟨n, by omega, rfl, hn, fun j h1 h2 => by omega⟩
    · rw [if_neg hn]
      obtain ⟨k, hk, hb⟩ := h
      have hkn : k < n := by
        rcases Nat.lt_or_ge k n with h | h
        · exact h
        · obtain rfl : k = n := by omega
          exact absurd hb hn
      obtain ⟨j, h1, h2, h3, h4⟩ := ih ⟨k, hkn, hb⟩
      refine ⟨j, by omega, h2, h3, fun i hi hj => ?_⟩
      by_cases he : i = n
      · subst he; exact hn
      · exact h4 i (by omega) hj

theorem nextN_pow (a b : Nat) (ha : a < 9223372036854775808) (h : b < a) : ∃ k, k ≤ tz a ∧ nextN a b = a - 2 ^ k ∧ 2 ^ k ≤ a - b ∧ ∀ j, 2 ^ j ∣ a → k < j → a - b < 2 ^ j := by
  have h0 : 0 < a := by omega
  unfold nextN
  rw [linksL_pos a h0]
  obtain ⟨k, h1, h2, h3, h4⟩ := nxF_lk a b (tz a + 1) ⟨0, by omega, by simp; omega⟩
  have hle : 2 ^ k ≤ a := tz_pow_le a k h0 ha (by omega)
  refine ⟨k, by omega, h2, by omega, fun j hj hkj => ?_⟩
  have hjt := tz_ge a j h0 ha hj
  have := h4 j (by omega) hkj
  have hp := tz_pow_le a j h0 ha hjt
  omega

theorem dvd_sub_pow {a k m : Nat} (h : 2 ^ m ∣ a) (hk : k ≤ m) : 2 ^ k ∣ a - 2 ^ k := Nat.dvd_sub (Nat.dvd_trans (Nat.pow_dvd_pow 2 hk) h) (Nat.dvd_refl _)

/-- Where 2^m divides a and the distance is below it, the way falls in its powers. -/
theorem way_fall : ∀ (m a b : Nat), a < 9223372036854775808 → b ≤ a → 2 ^ m ∣ a → a - b < 2 ^ m → (wayN a b).length ≤ m := by
  intro m
  induction m using Nat.strongRecOn with
  | _ m ih =>
    intro a b ha hb hd hlt
    rcases Nat.lt_or_ge b a with h | h
    · obtain ⟨k, h1, h2, h3, h4⟩ := nextN_pow a b ha h
      have hkm : k < m := by
        apply Nat.lt_of_not_le
        intro hle
        have : 2 ^ m ≤ 2 ^ k := Nat.pow_le_pow_right (by decide) hle
        omega
      have hle : 2 ^ k ≤ a := by omega
      have hnext : a - b < 2 ^ (k + 1) := h4 (k + 1) (Nat.dvd_trans (Nat.pow_dvd_pow 2 hkm) hd) (by omega)
      rw [Nat.pow_succ] at hnext
      rw [wayN_step a b ha h, List.length_cons, h2]
      have := ih k hkm (a - 2 ^ k) b (by omega) (by omega) (dvd_sub_pow hd (by omega)) (by omega)
      omega
    · rw [wayN_at a b h]; simp

/-- Where 2^t divides a and the distance is below 2^L. -/
theorem way_rise : ∀ (n t a b L : Nat), L - t ≤ n → a < 9223372036854775808 → b ≤ a → 2 ^ t ∣ a → a - b < 2 ^ L → t ≤ L → (wayN a b).length ≤ (L - t) + L := by
  intro n
  induction n with
  | zero =>
    intro t a b L hn ha hb hd hlt htl
    obtain rfl : t = L := by omega
    have := way_fall t a b ha hb hd hlt
    omega
  | succ n ih =>
    intro t a b L hn ha hb hd hlt htl
    rcases Nat.lt_or_ge b a with h | h
    · by_cases htL : t = L
      · subst htL
        have := way_fall t a b ha hb hd hlt
        omega
      · by_cases hd2 : 2 ^ (t + 1) ∣ a
        · have := ih (t + 1) a b L (by omega) ha hb hd2 hlt (by omega)
          omega
        · by_cases hsm : a - b < 2 ^ t
          · have := way_fall t a b ha hb hd hsm
            omega
          · obtain ⟨k, h1, h2, h3, h4⟩ := nextN_pow a b ha h
            have hkt : k = t := by
              have h5 : ¬ k < t := fun hlt2 => hsm (h4 t hd hlt2)
              have h6 : ¬ t < k := fun hlt2 => hd2 (Nat.dvd_trans (Nat.pow_dvd_pow 2 hlt2) (tz_dvd a k (by omega) ha h1))
              omega
            subst hkt
            have hle : 2 ^ k ≤ a := by omega
            have hd3 : 2 ^ (k + 1) ∣ a - 2 ^ k := by
              obtain ⟨c, hc⟩ := hd
              have hodd : c % 2 = 1 := by
                rcases Nat.mod_two_eq_zero_or_one c with h | h
                · exact absurd ⟨c / 2, by rw [Nat.pow_succ, Nat.mul_assoc]; rw [show 2 * (c / 2) = c by omega]; exact hc⟩ hd2
                · exact h
              refine ⟨c / 2, ?_⟩
              have hc2 : c = 2 * (c / 2) + 1 := by omega
              rw [Nat.pow_succ, Nat.mul_assoc, hc]
              conv => lhs; rw [hc2, Nat.mul_add, Nat.mul_one]
              omega
            rw [wayN_step a b ha h, List.length_cons, h2]
            have hp := Nat.pow_pos (n := k) (show 0 < 2 by decide)
            have := ih (k + 1) (a - 2 ^ k) b L (by omega) (by omega) (by omega) hd3 (by omega) (by omega)
            omega
    · rw [wayN_at a b h]; simp

/-- How many a way has at most. -/
def mostN (d : Nat) : Nat := if d = 0 then 0 else 2 * Nat.log2 d + 2

theorem way_short (a b : Nat) (ha : a < 9223372036854775808) (hb : b ≤ a) : (wayN a b).length ≤ mostN (a - b) := by
  rcases Nat.eq_zero_or_pos (a - b) with h | h
  · rw [wayN_at a b (by omega)]; simp
  · unfold mostN
    rw [if_neg (by omega)]
    have := way_rise (Nat.log2 (a - b) + 1) 0 a b (Nat.log2 (a - b) + 1) (by omega) ha hb (by simp) Nat.lt_log2_self (by omega)
    omega

/-- The way as a walk sees it: what is behind, and the rest. -/
theorem way_all (a b : Nat) (ha : a < 9223372036854775808) (hb : b ≤ a) : ∀ x ∈ wayN a b, b ≤ x ∧ x < a := by
  suffices ∀ n a, a - b ≤ n → a < 9223372036854775808 → b ≤ a → ∀ x ∈ wayN a b, b ≤ x ∧ x < a from this (a - b) a (Nat.le_refl _) ha hb
  intro n
  induction n with
  | zero => intro a h _ _ x hx; rw [wayN_at a b (by omega)] at hx; cases hx
  | succ n ih =>
    intro a h ha hb x hx
    rcases Nat.lt_or_ge b a with hb2 | hb2
    · have hl := nextN_lt a b ha hb2
      have hg := nextN_ge a b hb2
      rw [wayN_step a b ha hb2] at hx
      rcases List.mem_cons.1 hx with rfl | hx
      · exact ⟨hg, hl⟩
      · have := ih (nextN a b) (by omega) (by omega) hg x hx
        omega
    · rw [wayN_at a b hb2] at hx; cases hx

end Go.Proofs.YtgfddabccjfhiabDoor

namespace Go.Proofs.YtgfddabccjfhiabDoor
open Go.RowKit

/-- A byte as a cell. -/
def bc (b : UInt8) : Value := .int .u8 (b.toNat : Int)
def bcs (l : List UInt8) : List Value := l.map bc
theorem bcs_length (l : List UInt8) : (bcs l).length = l.length := by simp [bcs]
theorem bcs_get (l : List UInt8) (i : Nat) : (bcs l)[i]? = l[i]?.map bc := by simp [bcs]
theorem bcs_append (a b : List UInt8) : bcs (a ++ b) = bcs a ++ bcs b := by simp [bcs]
theorem bcs_one (l : List UInt8) : ∀ u ∈ bcs l, u.oneCell' = true := by
  intro u hu
  obtain ⟨_, _, rfl⟩ := List.mem_map.1 hu
  rfl

/-- The value v is a slice of the bytes l. -/
def HB (w : World) (v : Value) (l : List UInt8) : Prop :=
  ∃ (p : Option Addr) (cap : Nat), v = .slice p l.length cap ∧ l.length ≤ cap ∧ cap ≤ maxLen ∧ (p = none → cap = 0) ∧
    (l ≠ [] → ∃ b o, p = some ⟨b, o, none⟩ ∧ ∀ i x, l[i]? = some x → w.cell? ⟨b, o + i, none⟩ = some (bc x))

theorem HB.later {w w' : World} {v : Value} {l : List UInt8} (h : HB w v l) (hb : Below w.heap.size w w') : HB w' v l := by
  obtain ⟨p, cap, e, h1, h2, h3, h4⟩ := h
  refine ⟨p, cap, e, h1, h2, h3, fun hn => ?_⟩
  obtain ⟨b, o, e1, e2⟩ := h4 hn
  exact ⟨b, o, e1, fun i x hx => cell_later hb (e2 i x hx)⟩

theorem HB.nil (w : World) : HB w (.slice none 0 0) [] := ⟨none, 0, rfl, Nat.le_refl _, Nat.zero_le _, fun _ => rfl, fun h => absurd rfl h⟩

theorem HB.empty (w : World) (p : Option Addr) (cap : Nat) (h1 : cap ≤ maxLen) (h2 : p = none → cap = 0) : HB w (.slice p 0 cap) [] := ⟨p, cap, rfl, Nat.zero_le _, h1, h2, fun h => absurd rfl h⟩

theorem HB.len_le {w : World} {v : Value} {l : List UInt8} (h : HB w v l) : l.length ≤ maxLen := by
  obtain ⟨p, cap, e, h1, h2, h3, h4⟩ := h
  omega

/-- What a call owns is a slice of bytes. -/
theorem HB.of_owns {w : World} {base : Nat} {e : TypeId} {v : Value} {n : Nat} {l : List UInt8} (h : w.ownsRow base e 1 v n (bcs l)) : HB w v l := by
  obtain ⟨h1, h2⟩ := h
  rw [bcs_length, Nat.mul_one] at h1
  subst h1
  rcases h2 with ⟨rfl, h0⟩ | ⟨g, cap, cur, rfl, hb, hg, hl, hm, hs, ht⟩
  · obtain rfl : l = [] := List.eq_nil_of_length_eq_zero h0
    exact HB.nil w
  · refine ⟨_, cap, rfl, hl, hm, (fun h => by cases h), fun _ => ⟨g, 0, rfl, fun i x hx => ?_⟩⟩
    rw [Nat.zero_add, cell_of_row w g i cur e (0, 0) hg]
    have hi : i < l.length := (List.getElem?_eq_some_iff.1 hx).1
    have e1 : (bcs l)[i]? = some (bc x) := by rw [bcs_get, hx]; rfl
    rw [← ht, List.getElem?_take, if_pos (by omega)] at e1
    simpa using e1

/-- The address behind a cut 'v[k:h:m]' (Go leaves the address where nothing of the capacity is left). -/
def cutP (p : Option Addr) (m k : Nat) : Option Addr := if m = k then p else p.map (·.add k)

theorem run_cut {P : Program} {t e : TypeId} (ht : P.underlying t = some (.slice e)) (hsz : (P.info? e).map (·.size) = some 1) (p : Option Addr) (n c k : Nat) (x : Int) (hx : x = (k : Int)) (hk : k ≤ n) (w : World) :
    (Instr.slice t (.slice p n c) (some (.int .i64 x)) none none).run P w = .ok (.slice (cutP p c k) (n - k) (c - k)) w := by
  subst hx
  obtain ⟨i, hi, hs⟩ := Option.map_eq_some_iff.1 hsz
  have he : P.elem t = e := by simp [Program.elem, ht]
  rw [run_slice_l w t p n c (by rw [he]; exact ht) .i64 (k : Int) (by omega) (by omega), he]
  simp [Go.sizeOf, typeInfo, hi, hs, cutP, sliced, Result.andThen]

/-- 'v[k:h:m]', k ≤ h ≤ m ≤ cap. -/
theorem run_cut3 {P : Program} {t e : TypeId} (ht : P.underlying t = some (.slice e)) (hsz : (P.info? e).map (·.size) = some 1) (p : Option Addr) (n c k h m : Nat) (x y z : Int) (hx : x = (k : Int)) (hy : y = (h : Int)) (hz : z = (m : Int)) (hk : k ≤ h) (hh : h ≤ m) (hm : m ≤ c) (w : World) :
    (Instr.slice t (.slice p n c) (some (.int .i64 x)) (some (.int .i64 y)) (some (.int .i64 z))).run P w = .ok (.slice (cutP p m k) (h - k) (m - k)) w := by
  subst hx; subst hy; subst hz
  obtain ⟨i, hi, hs⟩ := Option.map_eq_some_iff.1 hsz
  have he : P.elem t = e := by simp [Program.elem, ht]
  rw [run_slice_lhm w t p n c (by rw [he]; exact ht) .i64 .i64 .i64 (k : Int) h m (by omega) (by omega) (by omega) (by omega), he]
  simp [Go.sizeOf, typeInfo, hi, hs, cutP, sliced, Result.andThen]

/-- 'v[k:h]', k ≤ h ≤ cap. -/
theorem run_cut2 {P : Program} {t e : TypeId} (ht : P.underlying t = some (.slice e)) (hsz : (P.info? e).map (·.size) = some 1) (p : Option Addr) (n c k h : Nat) (x y : Int) (hx : x = (k : Int)) (hy : y = (h : Int)) (hk : k ≤ h) (hh : h ≤ c) (w : World) :
    (Instr.slice t (.slice p n c) (some (.int .i64 x)) (some (.int .i64 y)) none).run P w = .ok (.slice (cutP p c k) (h - k) (c - k)) w := by
  subst hx; subst hy
  obtain ⟨i, hi, hs⟩ := Option.map_eq_some_iff.1 hsz
  have he : P.elem t = e := by simp [Program.elem, ht]
  rw [run_slice_lh w t p n c (by rw [he]; exact ht) .i64 .i64 (k : Int) h (by omega) (by omega) (by omega), he]
  simp [Go.sizeOf, typeInfo, hi, hs, cutP, sliced, Result.andThen]

/-- A cut of bytes: from k up to h, the capacity cut at m. -/
theorem HB.cut {w : World} {p : Option Addr} {n c : Nat} {l : List UInt8} (h : HB w (.slice p n c) l) (k h' m : Nat) (hk : k ≤ h') (hh : h' ≤ n) (hm : h' ≤ m) (hmc : m ≤ c) :
    HB w (.slice (cutP p m k) (h' - k) (m - k)) ((l.drop k).take (h' - k)) := by
  obtain ⟨p', cap, e, h1, h2, h3, h4⟩ := h
  simp only [Value.slice.injEq] at e
  obtain ⟨rfl, rfl, rfl⟩ := e
  refine ⟨cutP p m k, m - k, ?_, ?_, by omega, ?_, ?_⟩
  · congr 1
    simp
    omega
  · simp
    omega
  · intro hp
    unfold cutP at hp
    split at hp
    · omega
    · have := h3 (by simpa using hp)
      omega
  · intro hn
    have hkl : k < h' := by
      rcases Nat.lt_or_ge k h' with h | h
      · exact h
      · exact absurd (by rw [show h' - k = 0 by omega]; simp) hn
    have hl : l ≠ [] := by
      intro e
      subst e
      simp at hn
    obtain ⟨b, o, rfl, hc⟩ := h4 hl
    refine ⟨b, o + k, ?_, fun i x hx => ?_⟩
    · unfold cutP
      rw [if_neg (by omega)]
      simp [Addr.add_lit]
    · rw [List.getElem?_take] at hx
      split at hx
      · rw [List.getElem?_drop] at hx
        have := hc (k + i) x hx
        rwa [← Nat.add_assoc] at this
      · cases hx

/-- 'v[k:]' of bytes. -/
theorem HB.behind {w : World} {p : Option Addr} {n c : Nat} {l : List UInt8} (h : HB w (.slice p n c) l) (k : Nat) (hk : k ≤ n) :
    HB w (.slice (cutP p c k) (n - k) (c - k)) (l.drop k) := by
  have hn : n = l.length ∧ l.length ≤ c := by
    obtain ⟨p', cap, e, h1, h2, h3, h4⟩ := h
    simp only [Value.slice.injEq] at e
    obtain ⟨rfl, rfl, rfl⟩ := e
    exact ⟨rfl, h1⟩
  have := h.cut k n c hk (Nat.le_refl _) (by omega) (Nat.le_refl _)
  rwa [List.take_of_length_le (by simp; omega)] at this

theorem HB.len {w : World} {p : Option Addr} {n c : Nat} {l : List UInt8} (h : HB w (.slice p n c) l) : n = l.length ∧ n ≤ c ∧ c ≤ maxLen ∧ (p = none → c = 0) := by
  obtain ⟨p', cap, e, h1, h2, h3, h4⟩ := h
  simp only [Value.slice.injEq] at e
  obtain ⟨rfl, rfl, rfl⟩ := e
  exact ⟨rfl, h1, h2, h3⟩

theorem HB.addr {w : World} {p : Option Addr} {n c : Nat} {l : List UInt8} (h : HB w (.slice p n c) l) (hn : 0 < n) : ∃ b o, p = some ⟨b, o, none⟩ ∧ ∀ i x, l[i]? = some x → w.cell? ⟨b, o + i, none⟩ = some (bc x) := by
  obtain ⟨p', cap, e, h1, h2, h3, h4⟩ := h
  simp only [Value.slice.injEq] at e
  obtain ⟨rfl, rfl, rfl⟩ := e
  exact h4 (fun h => by subst h; simp at hn)

theorem HB.shape {w : World} {v : Value} {l : List UInt8} (h : HB w v l) : ∃ p c, v = .slice p l.length c := by
  obtain ⟨p', cap, e, _⟩ := h
  exact ⟨p', cap, e⟩

/-- The numbers of a list of bytes. -/
def nums (l : List UInt8) : List Int := l.map fun b => (b.toNat : Int)
theorem strOfNums_nums (l : List UInt8) : strOfNums (nums l) = ⟨l.toArray⟩ := by
  unfold strOfNums nums
  congr 1
  rw [List.map_map]
  congr 1
  conv => rhs; rw [← List.map_id l]
  apply List.map_congr_left
  intro x _
  simp

/-- 'string(v)' of a slice of bytes. -/
theorem HB.str {P : Program} {w : World} {p : Option Addr} {n c : Nat} {l : List UInt8} (h : HB w (.slice p n c) l) (src e dst : TypeId)
    (hs : P.underlying src = some (.slice e)) (he : P.underlying e = some (.int .u8)) (hd : P.underlying dst = some .string) :
    (convert src dst (.slice p n c)).run P w = .ok (.string ⟨l.toArray⟩) w := by
  have hl := h.len.1
  rcases Nat.eq_zero_or_pos n with hn | hn
  · obtain rfl : l = [] := List.eq_nil_of_length_eq_zero (by omega)
    subst hn
    rw [run_convert_bytes_string w src dst e p 0 c hs he hd]
    cases p <;> simp [Conv.bytesToString, loadCells]
    all_goals rfl
  · obtain ⟨b, o, rfl, hc⟩ := h.addr hn
    have := run_convert_bytes_arg (P := P) w src e hs he b o n c (nums l) (by simp [nums]; omega) (fun i hi => by
      have hi' : i < l.length := by omega
      rw [hc i l[i] (List.getElem?_eq_getElem hi')]
      simp [nums, bc, List.getD, hi']) dst hd
    rw [this, strOfNums_nums]

/-- The value v is a slice of slices of bytes. -/
def PA (w : World) (v : Value) (ls : List (List UInt8)) : Prop :=
  ∃ (p : Option Addr) (cap : Nat) (vs : List Value), v = .slice p ls.length cap ∧ ls.length ≤ cap ∧ cap ≤ maxLen ∧ (p = none → cap = 0) ∧ vs.length = ls.length ∧
    (ls ≠ [] → ∃ b o, p = some ⟨b, o, none⟩ ∧ ∀ i x, vs[i]? = some x → w.cell? ⟨b, o + i, none⟩ = some x) ∧
    ∀ (i : Nat) x l, vs[i]? = some x → ls[i]? = some l → HB w x l

theorem PA.later {w w' : World} {v : Value} {ls : List (List UInt8)} (h : PA w v ls) (hb : Below w.heap.size w w') : PA w' v ls := by
  obtain ⟨p, cap, vs, e, h1, h2, h3, h4, h5, h6⟩ := h
  refine ⟨p, cap, vs, e, h1, h2, h3, h4, fun hn => ?_, fun i x l hx hl => (h6 i x l hx hl).later hb⟩
  obtain ⟨b, o, e1, e2⟩ := h5 hn
  exact ⟨b, o, e1, fun i x hx => cell_later hb (e2 i x hx)⟩

theorem PA.len {w : World} {p : Option Addr} {n c : Nat} {ls : List (List UInt8)} (h : PA w (.slice p n c) ls) : n = ls.length ∧ n ≤ c ∧ c ≤ maxLen := by
  obtain ⟨p', cap, vs, e, h1, h2, _⟩ := h
  simp only [Value.slice.injEq] at e
  obtain ⟨rfl, rfl, rfl⟩ := e
  exact ⟨rfl, h1, h2⟩

/-- One element: its cell, and what it holds. -/
theorem PA.get {w : World} {b o n c : Nat} {ls : List (List UInt8)} (h : PA w (.slice (some ⟨b, o, none⟩) n c) ls) (i : Nat) (hi : i < n) :
    ∃ q k l, Hid (ls[i]? = some l) ∧ w.cell? ⟨b, o + i, none⟩ = some (.slice q l.length k) ∧ HB w (.slice q l.length k) l := by
  obtain ⟨p', cap, vs, e, h1, h2, h3, h4, h5, h6⟩ := h
  simp only [Value.slice.injEq] at e
  obtain ⟨rfl, rfl, rfl⟩ := e
  obtain ⟨b', o', e', hc⟩ := h5 (fun e => by subst e; simp at hi)
  simp only [Option.some.injEq, Addr.mk.injEq, and_true] at e'
  obtain ⟨rfl, rfl⟩ := e'
  have hv : i < vs.length := by omega
  have hb := h6 i vs[i] ls[i] (List.getElem?_eq_getElem hv) (List.getElem?_eq_getElem hi)
  obtain ⟨q, k, eq⟩ := hb.shape
  refine ⟨q, k, ls[i], List.getElem?_eq_getElem hi, ?_, by rw [← eq]; exact hb⟩
  rw [← eq]
  exact hc i vs[i] (List.getElem?_eq_getElem hv)

theorem PA.addr {w : World} {p : Option Addr} {n c : Nat} {ls : List (List UInt8)} (h : PA w (.slice p n c) ls) (hn : 0 < n) : ∃ b o, p = some ⟨b, o, none⟩ := by
  obtain ⟨p', cap, vs, e, h1, h2, h3, h4, h5, h6⟩ := h
  simp only [Value.slice.injEq] at e
  obtain ⟨rfl, rfl, rfl⟩ := e
  obtain ⟨b, o, e, _⟩ := h5 (fun h => by subst h; simp at hn)
  exact ⟨b, o, e⟩

theorem PA.shape {w : World} {v : Value} {ls : List (List UInt8)} (h : PA w v ls) : ∃ p c, v = .slice p ls.length c := by
  obtain ⟨p', cap, vs, e, _⟩ := h
  exact ⟨p', cap, e⟩

theorem PA.nil (w : World) : PA w (.slice none 0 0) [] := ⟨none, 0, [], rfl, Nat.le_refl _, Nat.zero_le _, fun _ => rfl, rfl, fun h => absurd rfl h, fun i x l h => by simp at h⟩

/-- A row of rows of bytes that the call owns: rt the type of a row of bytes, bt of a byte. -/
def OP (w : World) (base : Nat) (rt bt : TypeId) (v : Value) (ls : List (List UInt8)) : Prop :=
  ∃ vs : List Value, vs.length = ls.length ∧ w.ownsRow base rt 1 v ls.length vs ∧ ∀ (i : Nat) x l, vs[i]? = some x → ls[i]? = some l → w.ownsRow base bt 1 x l.length (bcs l)

theorem OP.nil (w : World) (base : Nat) (rt bt : TypeId) : OP w base rt bt (.slice none 0 0) [] :=
  ⟨[], rfl, World.ownsRow_nil _ _ _ _, fun i x l h => by simp at h⟩

theorem OP.pa {w : World} {base : Nat} {rt bt : TypeId} {v : Value} {ls : List (List UInt8)} (h : OP w base rt bt v ls) : PA w v ls := by
  obtain ⟨vs, h1, h2, h3⟩ := h
  obtain ⟨h4, h5⟩ := h2
  rcases h5 with ⟨rfl, h0⟩ | ⟨g, cap, cur, rfl, hb, hg, hl, hm, hs, ht⟩
  · obtain rfl : ls = [] := List.eq_nil_of_length_eq_zero h0
    exact PA.nil w
  · refine ⟨_, cap, vs, rfl, hl, hm, (fun h => by cases h), h1, fun _ => ⟨g, 0, rfl, fun i x hx => ?_⟩, fun i x l hx hl => HB.of_owns (h3 i x l hx hl)⟩
    rw [Nat.zero_add, cell_of_row w g i cur rt (0, 0) hg]
    have hi : i < vs.length := (List.getElem?_eq_some_iff.1 hx).1
    rw [← ht, List.getElem?_take, if_pos (by omega)] at hx
    simpa using hx

/-- Two owned rows of unlike element types lie in two blocks. -/
theorem owns_apart {w : World} {b1 b2 : Nat} {e1 e2 : TypeId} {s1 s2 n1 n2 : Nat} {v1 v2 : Value} {x1 x2 : List Value} (h1 : w.ownsRow b1 e1 s1 v1 n1 x1) (h2 : w.ownsRow b2 e2 s2 v2 n2 x2) (hne : e1 ≠ e2) :
    v1.ownBlock = none ∨ v1.ownBlock ≠ v2.ownBlock := by
  rcases h1.2 with ⟨rfl, _⟩ | ⟨g, cap, cur, rfl, _, hg, _⟩
  · exact .inl rfl
  · right
    rcases h2.2 with ⟨rfl, _⟩ | ⟨g', cap', cur', rfl, _, hg', _⟩
    · simp [Value.ownBlock]
    · simp only [Value.ownBlock, ne_eq, Option.some.injEq]
      intro e
      subst e
      rw [hg] at hg'
      simp only [Option.some.injEq, Obj.cells.injEq] at hg'
      exact hne hg'.2.1

/-- The same rows in a world that grew beside them. -/
theorem owns_later {w w' : World} {base : Nat} {e : TypeId} {s n : Nat} {v : Value} {xs : List Value} (h : w.ownsRow base e s v n xs) (hb : Below w.heap.size w w') : w'.ownsRow base e s v n xs := by
  refine ⟨h.1, ?_⟩
  rcases h.2 with hn | ⟨g, cap, cur, rfl, hbg, hg, rest⟩
  · exact .inl hn
  · refine .inr ⟨g, cap, cur, rfl, hbg, ?_, rest⟩
    rw [hb.block g (Array.getElem?_eq_some_iff.1 hg).1]
    exact hg

theorem owns_mono {w : World} {base base' : Nat} {e : TypeId} {s n : Nat} {v : Value} {xs : List Value} (h : w.ownsRow base e s v n xs) (hb : base' ≤ base) : w.ownsRow base' e s v n xs := by
  refine ⟨h.1, ?_⟩
  rcases h.2 with hn | ⟨g, cap, cur, rfl, hbg, rest⟩
  · exact .inl hn
  · exact .inr ⟨g, cap, cur, rfl, by omega, rest⟩

theorem OP.later {w w' : World} {base : Nat} {rt bt : TypeId} {v : Value} {ls : List (List UInt8)} (h : OP w base rt bt v ls) (hb : Below w.heap.size w w') : OP w' base rt bt v ls := by
  obtain ⟨vs, h1, h2, h3⟩ := h
  exact ⟨vs, h1, owns_later h2 hb, fun i x l hx hl => owns_later (h3 i x l hx hl) hb⟩

/-- Behind an append of one owned row. -/
theorem OP.snoc {w w' : World} {base : Nat} {rt bt : TypeId} {v v' x : Value} {ls : List (List UInt8)} {vs : List Value} {l : List UInt8} (hrb : bt ≠ rt) (h1 : vs.length = ls.length)
    (h3 : ∀ (i : Nat) x l, vs[i]? = some x → ls[i]? = some l → w.ownsRow base bt 1 x l.length (bcs l)) (h2 : w.ownsRow base rt 1 v ls.length vs) (hx : w.ownsRow base bt 1 x l.length (bcs l))
    (hg : w.grownBy w' v.ownBlock) (hown : w'.ownsRow base rt 1 v' (ls.length + 1) (vs ++ [x])) : OP w' base rt bt v' (ls ++ [l]) := by
  refine ⟨vs ++ [x], by simp [h1], by simpa using hown, fun i y m hy hm => ?_⟩
  by_cases hi : i < ls.length
  · rw [List.getElem?_append_left (by omega)] at hy hm
    have o := h3 i y m hy hm
    exact o.kept hg (owns_apart o h2 hrb)
  · rw [List.getElem?_append_right (by omega)] at hy hm
    rw [h1] at hy
    obtain ⟨rfl, rfl⟩ : x = y ∧ l = m := by
      cases hj : i - ls.length with
      | zero => rw [hj] at hy hm; exact ⟨by simpa using hy, by simpa using hm⟩
      | succ j => rw [hj] at hm; simp at hm
    exact hx.kept hg (owns_apart hx h2 hrb)

end Go.Proofs.YtgfddabccjfhiabDoor

namespace Go.Proofs.YtgfddabccjfhiabDoor
open Go.RowKit

theorem add_lit (b o j : Nat) : (⟨b, o, none⟩ : Addr).add j = ⟨b, o + j, none⟩ := by unfold Addr.add; split <;> simp_all

/-- The cells of a slice of bytes, as the laws of append and copy ask for them. -/
theorem HB.cells {w : World} {b o n c : Nat} {l : List UInt8} (h : HB w (.slice (some ⟨b, o, none⟩) n c) l) : ∀ j u, (bcs l)[j]? = some u → w.cell? ((⟨b, o, none⟩ : Addr).add j) = some u := by
  intro j u hu
  rw [bcs_get] at hu
  obtain ⟨x, hx, rfl⟩ := Option.map_eq_some_iff.1 hu
  have hj : j < l.length := (List.getElem?_eq_some_iff.1 hx).1
  have hl := h.len.1
  obtain ⟨b', o', e, hc⟩ := h.addr (by omega)
  simp only [Option.some.injEq, Addr.mk.injEq, and_true] at e
  obtain ⟨rfl, rfl⟩ := e
  rw [add_lit]
  exact hc j x hx

theorem owns_shape {w : World} {base : Nat} {e : TypeId} {s n : Nat} {v : Value} {xs : List Value} (h : w.ownsRow base e s v n xs) : ∃ p c, v = .slice p n c := by
  rcases h.2 with ⟨rfl, rfl⟩ | ⟨g, cap, cur, rfl, _⟩
  · exact ⟨none, 0, rfl⟩
  · exact ⟨_, _, rfl⟩

/-- A literal of bytes in a new block. -/
theorem HB.lit (w : World) (e : TypeId) (l : List UInt8) (cs : Array Value) (n : Nat) (hc : cs = (bcs l).toArray) (hn : n = l.length) (hm : n ≤ maxLen) : HB (w.alloc (.cells cs e)) (.slice (some ⟨w.heap.size, 0, none⟩) n n) l := by
  subst hc; subst hn
  refine ⟨_, l.length, rfl, Nat.le_refl _, hm, (fun h => by cases h), fun _ => ⟨_, 0, rfl, fun i x hx => ?_⟩⟩
  rw [Nat.zero_add, cell_of_row _ _ i _ _ _ (heap_alloc_new w _)]
  simp [bcs, hx]

theorem ownBlock_some (a : Addr) (n c : Nat) : (Value.slice (some a) n c).ownBlock = some a.block := rfl

theorem wpList_append_hb {P : Program} {w : World} {ops : Array Oper} {rest : List Oper} {o : Oper} {a : Act} {Q : Exit → Act → World → Prop} (hgd : o.guard = none) (s x : Operand) (t : TypeId)
    (ho : o.op = .call { callee := .builtin .append, args := #[s, x], argTypes := #[t, t] })
    (base : Nat) (e : TypeId) (ht : P.underlying t = some (.slice e)) (hi0 : (P.info? e).map (fun i => (i.zero, i.size, i.bytes)) = some (some (.int .u8 0), 1, 1))
    (v : Value) (n : Nat) (xs : List Value) (hs : a.eval s = v) (hown : w.ownsRow base e 1 v n xs)
    (p : Option Addr) (m c : Nat) (l : List UInt8) (hx : a.eval x = .slice p m c) (hsrc : HB w (.slice p m c) l)
    (hbytes : n + m ≤ 140737488355328) (hbase : base ≤ w.heap.size)
    (h : ∀ v' w', w'.ownsRow base e 1 v' (n + m) (xs ++ bcs l) → w.grownBy w' v.ownBlock → wpList P ops Q rest (a.put o.dst v') w') : wpList P ops Q (o :: rest) a w := by
  obtain ⟨i, hi, hz, h1, h2⟩ := info_parts hi0
  have hm := hsrc.len.1
  rcases Nat.eq_zero_or_pos m with h0 | h0
  · subst h0
    obtain rfl : l = [] := List.eq_nil_of_length_eq_zero hm.symm
    cases p with
    | none =>
      obtain rfl : c = 0 := hsrc.len.2.2.2 rfl
      exact wpList_append_own_none hgd s x t ho base e i 1 ht hi v n xs hs hown hx (h v w (by simpa [bcs] using hown) (World.grownBy.refl _ _))
    | some ad =>
      exact wpList_append_own w hgd s x t ho base e i (.int .u8 0) 1 1 ht hi hz h1 h2 rfl (by decide) v n xs hs hown ad 0 c [] hx rfl (fun j u hu => by simp at hu) (fun u hu => by cases hu) (by unfold maxLen; omega) (by omega) hbase (fun v' w' q1 q2 _ => h v' w' q1 q2)
  · obtain ⟨b, o', rfl, hc⟩ := hsrc.addr h0
    exact wpList_append_own w hgd s x t ho base e i (.int .u8 0) 1 1 ht hi hz h1 h2 rfl (by decide) v n xs hs hown ⟨b, o', none⟩ m c (bcs l) hx (by rw [bcs_length]; omega) hsrc.cells (bcs_one l) (by unfold maxLen; omega) (by omega) hbase (fun v' w' q1 q2 _ => h v' w' q1 q2)

theorem grownBy_setRow (w : World) (g : Nat) (cs : Array Value) : w.grownBy (w.setRow g cs) (some g) :=
  ⟨rfl, rfl, rfl, by simp [World.setRow], fun k _ hne => setRow_other w g k cs (fun e => hne (by rw [e]))⟩

/-- 'copy(dst, src)', dst a whole row of n bytes that the call owns, src of n bytes. -/
theorem wpList_copy_hb {P : Program} {w : World} {ops : Array Oper} {rest : List Oper} {o : Oper} {a : Act} {Q : Exit → Act → World → Prop} (hgd : o.guard = none) (d s : Operand) (dT sT : TypeId)
    (ho : o.op = .call { callee := .builtin .copy, args := #[d, s], argTypes := #[dT, sT] }) (e : TypeId) (hu : P.underlying dT = some (.slice e)) (hsz : (P.info? e).map (·.size) = some 1)
    (g n : Nat) (p : Option Addr) (m c : Nat) (hd : a.eval d = .slice (some ⟨g, 0, none⟩) n n) (hs : a.eval s = .slice p m c)
    (base : Nat) (xs : List Value) (hown : w.ownsRow base e 1 (.slice (some ⟨g, 0, none⟩) n n) n xs) (l : List UInt8) (hsrc : HB w (.slice p m c) l) (hl : m = n)
    (h : ∀ w', w'.ownsRow base e 1 (.slice (some ⟨g, 0, none⟩) n n) n (bcs l) → w.grownBy w' (some g) → wpList P ops Q rest (a.put o.dst (goInt n)) w') : wpList P ops Q (o :: rest) a w := by
  have hm := hsrc.len.1
  subst hl
  rcases Nat.eq_zero_or_pos m with h0 | h0
  · subst h0
    obtain rfl : l = [] := List.eq_nil_of_length_eq_zero hm.symm
    refine wpList_copy_nothing hgd d s dT sT ho e hu hsz _ _ _ _ _ _ hd hs rfl (h w ?_ (World.grownBy.refl _ _))
    obtain ⟨q1, q2⟩ := hown
    obtain rfl : xs = [] := List.eq_nil_of_length_eq_zero (by simpa using q1)
    exact ⟨q1, q2⟩
  · obtain ⟨b, o', rfl, hc⟩ := hsrc.addr h0
    obtain ⟨q1, q2⟩ := hown
    rcases q2 with ⟨q3, _⟩ | ⟨g', cap, cur, q3, hb, hg, hle, hmx, hcs, htk⟩
    · cases q3
    · simp only [Value.slice.injEq, Option.some.injEq, Addr.mk.injEq, and_true, true_and] at q3
      obtain ⟨rfl, rfl⟩ := q3
      refine wpList_copy_own hgd d s dT sT ho e hu hsz g 0 m m ⟨b, o', none⟩ m c hd hs cur e hg (bcs l) (by rw [bcs_length]; simp [hm]) hsrc.cells (by rw [bcs_length]; omega) (bcs_one l) ?_
      have hlen : (bcs l).length = m := by rw [bcs_length]; omega
      rw [hlen]
      refine h _ ⟨by rw [hlen]; omega, .inr ⟨g, m, _, rfl, hb, setRow_heap w g cur _ e (0, 0) hg, Nat.le_refl _, hmx, ?_, ?_⟩⟩ (grownBy_setRow w g _)
      · simp [hlen]
        omega
      · simp [hlen]

/-- 'copy(dst, src)', dst a whole row of n bytes that the call owns, src of m bytes, no more than n. -/
theorem wpList_copy_front {P : Program} {w : World} {ops : Array Oper} {rest : List Oper} {o : Oper} {a : Act} {Q : Exit → Act → World → Prop} (hgd : o.guard = none) (d s : Operand) (dT sT : TypeId)
    (ho : o.op = .call { callee := .builtin .copy, args := #[d, s], argTypes := #[dT, sT] }) (e : TypeId) (hu : P.underlying dT = some (.slice e)) (hsz : (P.info? e).map (·.size) = some 1)
    (g n : Nat) (p : Option Addr) (m c : Nat) (hd : a.eval d = .slice (some ⟨g, 0, none⟩) n n) (hs : a.eval s = .slice p m c)
    (base : Nat) (xs : List Value) (hown : w.ownsRow base e 1 (.slice (some ⟨g, 0, none⟩) n n) n xs) (l : List UInt8) (hsrc : HB w (.slice p m c) l) (hl : m ≤ n)
    (h : ∀ w', w'.ownsRow base e 1 (.slice (some ⟨g, 0, none⟩) n n) n (bcs l ++ xs.drop m) → w.grownBy w' (some g) → wpList P ops Q rest (a.put o.dst (goInt m)) w') : wpList P ops Q (o :: rest) a w := by
  have hm := hsrc.len.1
  rcases Nat.eq_zero_or_pos m with h0 | h0
  · subst h0
    obtain rfl : l = [] := List.eq_nil_of_length_eq_zero hm.symm
    exact wpList_copy_nothing hgd d s dT sT ho e hu hsz _ _ _ _ _ _ hd hs (Nat.zero_min n) (h w (by simpa [bcs] using hown) (World.grownBy.refl _ _))
  · obtain ⟨b, o', rfl, hc⟩ := hsrc.addr h0
    obtain ⟨q1, q2⟩ := hown
    rcases q2 with ⟨q3, _⟩ | ⟨g', cap, cur, q3, hb, hg, hle, hmx, hcs, htk⟩
    · cases q3
    · simp only [Value.slice.injEq, Option.some.injEq, Addr.mk.injEq, and_true, true_and] at q3
      obtain ⟨rfl, rfl⟩ := q3
      have hlen : (bcs l).length = m := by rw [bcs_length]; omega
      refine wpList_copy_own hgd d s dT sT ho e hu hsz g 0 n n ⟨b, o', none⟩ m c hd hs cur e hg (bcs l) (by rw [hlen]; exact (Nat.min_eq_left hl).symm) hsrc.cells (by rw [hlen]; omega) (bcs_one l) ?_
      rw [hlen]
      have hx : cur.toList = xs := by rw [← htk, List.take_of_length_le (by simp; omega)]
      refine h _ ⟨?_, .inr ⟨g, n, _, rfl, hb, setRow_heap w g cur _ e (0, 0) hg, Nat.le_refl _, hmx, ?_, ?_⟩⟩ (grownBy_setRow w g _)
      · rw [List.length_append, hlen, List.length_drop, q1]
        omega
      · simp [hlen]
        omega
      · rw [hx]
        simp only [List.take_zero, List.nil_append, Nat.zero_add]
        rw [List.take_of_length_le]
        rw [List.length_append, hlen, List.length_drop, q1]
        omega

/-- 'v[:h]', h ≤ cap. -/
theorem run_upto {P : Program} {t e : TypeId} (ht : P.underlying t = some (.slice e)) (hsz : (P.info? e).map (·.size) = some 1) (p : Option Addr) (n c h : Nat) (y : Int) (hy : y = (h : Int)) (hh : h ≤ c) (w : World) :
    (Instr.slice t (.slice p n c) none (some (.int .i64 y)) none).run P w = .ok (.slice p h c) w := by
  subst hy
  obtain ⟨i, hi, hs⟩ := Option.map_eq_some_iff.1 hsz
  have he : P.elem t = e := by simp [Program.elem, ht]
  rw [run_slice_h w t p n c (by rw [he]; exact ht) .i64 h (by omega) (by omega), he]
  have ha : Option.map (fun x : Addr => x.add 0) p = p := by cases p <;> simp [Addr.add]
  simp [Go.sizeOf, typeInfo, hi, hs, sliced, Result.andThen, ha]

end Go.Proofs.YtgfddabccjfhiabDoor

namespace Go.Proofs.YtgfddabccjfhiabDoor
open Go.RowKit

theorem i_u8 : (Tryd.prog.info? 5).map (fun i => (i.zero, i.size, i.bytes)) = some (some (.int .u8 0), 1, 1) := by kernel_rfl
theorem i_bytes : (Tryd.prog.info? 30).map (fun i => (i.zero, i.size, i.bytes)) = some (some (.slice none 0 0), 1, 24) := by kernel_rfl
theorem s_u8 : (Tryd.prog.info? 5).map (·.size) = some 1 := by kernel_rfl
theorem s_bytes : (Tryd.prog.info? 30).map (·.size) = some 1 := by kernel_rfl

end Go.Proofs.YtgfddabccjfhiabDoor

namespace Go.Proofs.YtgfddabccjfhiabDoor
open Go.RowKit

/-- The table of package math/bits lies in its variable. -/
def TD (w : World) : Prop := ∀ j, j < 64 → w.cell? ⟨1, j, none⟩ = some (.int .u8 (Lib.deBruijn64tab.getD j 0))
theorem TD.later {w w' : World} (h : TD w) (hb : Below w.heap.size w w') : TD w' := fun j hj => cell_later hb (h j hj)

set_option maxRecDepth 100000 in
set_option maxHeartbeats 1000000 in
theorem tz64_core (x k idx : Nat) (w : World) (hx0 : ((x : Int) == 0) = false)
    (key : IntKind.u64.wrap (bits BinOp.and IntKind.u64 (x : Int) (IntKind.u64.wrap (-(x : Int))) * 285870213051353865) / 288230376151711744 = (idx : Int))
    (hi : idx < 64) (hk : k < 64) (hcell : w.cell? ⟨1, idx, none⟩ = some (.int .u8 k)) :
    Calls Tryd.prog 26 #[.int .u64 x] w fun e w' => e = .returned (.int .i64 k) ∧ w' = w := by
  go_enter Tryd.func26, Tryd.ntmps26
  go_wp2_with (simp only [key])
  go_ret
  exact ⟨rfl, rfl⟩

theorem tz64_key (x a : Nat) (hx : x < 18446744073709551616) (hx0 : x ≠ 0) (hlow : x &&& (18446744073709551616 - x) = a) :
    IntKind.u64.wrap (bits BinOp.and IntKind.u64 (x : Int) (IntKind.u64.wrap (-(x : Int))) * 285870213051353865) / 288230376151711744 = ((a * 285870213051353865 % 18446744073709551616 / 288230376151711744 : Nat) : Int) := by
  have e1 : IntKind.u64.wrap (-(x : Int)) = ((18446744073709551616 - x : Nat) : Int) := by rw [IntKind.wrap_u64]; omega
  rw [e1, bits_and_u64_nat x _ hx (by omega), hlow, IntKind.wrap_u64]
  omega

theorem tz64_any (x : Nat) (hx : x < 18446744073709551616) (hx0 : x ≠ 0) (w : World) (hT : TD w) :
    Calls Tryd.prog 26 #[.int .u64 x] w fun e w' => e = .returned (.int .i64 (tz x : Nat)) ∧ w' = w := by
  obtain ⟨hlow, hk⟩ := Lib.lowest_bit 64 x hx0 hx
  obtain ⟨hi, htab⟩ := Lib.deBruijn64_at _ hk
  have hcell := hT _ hi
  rw [htab] at hcell
  exact tz64_core x _ _ w (by simp; omega) (tz64_key x _ hx hx0 hlow) hi hk hcell

set_option maxRecDepth 100000 in
set_option maxHeartbeats 1000000 in
theorem tz_any (x : Nat) (hx : x < 18446744073709551616) (hx0 : x ≠ 0) (w : World) (hT : TD w) :
    Calls Tryd.prog 17 #[.int .u64 x] w fun e w' => e = .returned (.int .i64 (tz x : Nat)) ∧ w' = w := by
  have hC := tz64_any x hx hx0 w hT
  generalize tz x = T at *
  have hw : IntKind.u64.wrap (x : Int) = (x : Int) := by rw [IntKind.wrap_u64]; omega
  go_enter Tryd.func17, Tryd.ntmps17
  go_wp2_with fail
  refine hC.mono ?_
  rintro e w1 ⟨rfl, hw1⟩
  subst hw1
  go_wp2
  go_ret
  exact ⟨rfl, rfl⟩

end Go.Proofs.YtgfddabccjfhiabDoor
