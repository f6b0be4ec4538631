/- What this text proves: the walks of skip.Next and of the document's Next over this program. -/
import Derived.Test.YtikkldjghgcaeaaDoorSkRLinks
namespace Go.Proofs.YtikkldjghgcaeaaDoor
open Go.RowKit

/-- The next epoch on the way, of any numbers. -/
def nextI (a b : Int) : Int := if b < 0 ∨ a ≤ b then a else (nextN a.toNat b.toNat : Int)

theorem ahead_any (a b : Int) (w : World) :
    Calls Tryd.prog 17 #[.int .i64 a, .int .i64 b] w fun x w' => x = .returned (.bool (decide (0 ≤ b ∧ b < a))) ∧ w' = w := by
  by_cases h0 : 0 ≤ b
  · by_cases h1 : b < a
    · rw [show decide (0 ≤ b ∧ b < a) = true by simp; omega]
      go_enter Tryd.func17, Tryd.ntmps17
      go_wp2
      go_ret
      exact ⟨rfl, rfl⟩
    · rw [show decide (0 ≤ b ∧ b < a) = false by simp; omega]
      have d1 : decide (b < a) = false := by simpa using h1
      go_enter Tryd.func17, Tryd.ntmps17
      go_wp2
      go_ret
      exact ⟨rfl, rfl⟩
  · rw [show decide (0 ≤ b ∧ b < a) = false by simp; omega]
    have d0 : decide (0 ≤ b) = false := by simpa using h0
    go_enter Tryd.func17, Tryd.ntmps17
    go_wp2
    go_ret
    exact ⟨rfl, rfl⟩

theorem next_no (a b : Int) (w : World) (h : b < 0 ∨ a ≤ b) :
    Calls Tryd.prog 8 #[.int .i64 a, .int .i64 b] w fun x w' => x = .returned (.int .i64 a) ∧ w' = w := by
  have hA := fun w => ahead_any a b w
  rw [show decide (0 ≤ b ∧ b < a) = false by simp; omega] at hA
  clear h
  go_enter Tryd.func8, Tryd.ntmps8
  go_wp2_with fail
  refine (hA _).mono ?_
  rintro x w1 ⟨rfl, hw⟩
  subst hw
  clear hA
  go_wp2
  go_ret
  exact ⟨rfl, rfl⟩

theorem nx_take (b a : Nat) (ls : List Nat) (k x : Nat) (h : ls[k]? = some x) : nxF b a (ls.take (k + 1)) = if b ≤ x then x else nxF b a (ls.take k) := by
  rw [List.take_add_one, h]
  exact nxF_snoc b a _ x

set_option maxHeartbeats 2000000 in
theorem next_yes (a b : Nat) (w : World) (h : b < a) (ha : a < 9223372036854775808) (hT : TD w) :
    Calls Tryd.prog 8 #[.int .i64 (a : Int), .int .i64 (b : Int)] w fun x w' => x = .returned (.int .i64 (nextN a b : Int)) ∧ Below w.heap.size w w' := by
  have hA := fun w => ahead_any (a : Int) (b : Int) w
  rw [show decide (0 ≤ (b : Int) ∧ (b : Int) < (a : Int)) = true by simp; omega] at hA
  have hK := links_any (a : Int) w (by omega) hT
  rw [Int.toNat_natCast] at hK
  have hll := linksL_len a ha
  have HN : Hid (nextN a b = nxF b a (linksL a)) := rfl
  generalize nextN a b = N at *
  generalize linksL a = ls at *
  go_enter Tryd.func8, Tryd.ntmps8
  go_wp2_with fail
  refine (hA _).mono ?_
  rintro x w1 ⟨rfl, hw⟩
  subst hw
  clear hA
  go_wp2_with fail
  refine hK.mono ?_
  rintro x w2 ⟨v2, rfl, hown, hb2⟩
  clear hK hT
  obtain ⟨p, c, rfl⟩ := owns_shape hown
  have hIA := IA.of_owns hown
  clear hown
  go_wp2
  go_loopw [5, 17] (fun v i wr => ∃ k : Nat, k ≤ ls.length ∧ i = .int .i64 (k : Int) ∧ v = .int .i64 (nxF b a (ls.take k) : Int) ∧ wr = w2) (fun _ i _ => ls.length - (intOf i).toNat)
  case atStart => exact ⟨0, Nat.zero_le _, rfl, rfl, rfl⟩
  case round =>
    obtain ⟨k, hk, rfl, rfl, hwr⟩ := hrel
    subst hwr
    by_cases hlt : k < ls.length
    · obtain ⟨g, o, rfl, f1⟩ := hIA.addr (by omega)
      have c1 := f1 k ls[k] (List.getElem?_eq_getElem hlt)
      have HS : Hid (nxF b a (ls.take (k + 1)) = if b ≤ ls[k] then ls[k] else nxF b a (ls.take k)) := nx_take b a ls k _ (List.getElem?_eq_getElem hlt)
      generalize ls[k] = y at *
      generalize hX : nxF b a (ls.take k) = X at *
      clear hX f1 HN
      have hlt2 : (k : Int) < (ls.length : Int) := by omega
      by_cases hy : b ≤ y
      · have hy2 : (b : Int) ≤ (y : Int) := by omega
        go_wp2
        go_roundw
        case rel => exact ⟨k + 1, by omega, by go_num, by rw [HS.out, if_pos hy], trivial⟩
        case measure => simp [intOf]; omega
      · have hy2 : decide ((b : Int) ≤ (y : Int)) = false := by simp; omega
        go_wp2
        go_roundw
        case rel => exact ⟨k + 1, by omega, by go_num, by rw [HS.out, if_neg hy], trivial⟩
        case measure => simp [intOf]; omega
    · have e1 : ls.take k = ls := List.take_of_length_le (by omega)
      rw [e1, ← HN.out]
      clear e1
      go_wp2
      go_ret
      exact ⟨rfl, hb2⟩

theorem next_any (a b : Int) (w : World) (ha : a < 9223372036854775808) (hT : TD w) :
    Calls Tryd.prog 8 #[.int .i64 a, .int .i64 b] w fun x w' => x = .returned (.int .i64 (nextI a b)) ∧ Below w.heap.size w w' := by
  unfold nextI
  by_cases h : b < 0 ∨ a ≤ b
  · rw [if_pos h]
    exact (next_no a b w h).mono fun x w' ⟨h1, h2⟩ => ⟨h1, by subst h2; exact Below.refl _ _⟩
  · rw [if_neg h]
    obtain ⟨A, rfl⟩ : ∃ A : Nat, a = (A : Int) := ⟨a.toNat, by omega⟩
    obtain ⟨B, rfl⟩ : ∃ B : Nat, b = (B : Int) := ⟨b.toNat, by omega⟩
    simp only [Int.toNat_natCast]
    exact next_yes A B w (by omega) (by omega) hT

theorem rnext_neg (a b : Int) (w : World) (h : b < 0) :
    Calls Tryd.prog 9 #[.int .i64 a, .int .i64 b] w fun x w' => x = .returned (.int .i64 a) ∧ w' = w := by
  go_enter Tryd.func9, Tryd.ntmps9
  go_wp2
  go_ret
  exact ⟨rfl, rfl⟩

set_option maxHeartbeats 2000000 in
theorem rnext_low (a b : Int) (w : World) (h : a < 1) (hb : 0 ≤ b) :
    Calls Tryd.prog 9 #[.int .i64 a, .int .i64 b] w fun x w' => x = .returned (.int .i64 a) ∧ w' = w := by
  have hK := rlinks_none a w h
  have d0 : decide (b < 0) = false := by simpa using hb
  go_enter Tryd.func9, Tryd.ntmps9
  go_wp2_with fail
  refine hK.mono ?_
  rintro x w2 ⟨rfl, hw⟩
  subst hw
  clear hK
  go_wp2
  go_loopw [5, 15] (fun v i wr => v = .int .i64 a ∧ i = .int .i64 0 ∧ wr = w2) (fun _ _ _ => 0)
  case atStart => exact ⟨rfl, rfl, rfl⟩
  case round =>
    obtain ⟨rfl, rfl, hwr⟩ := hrel
    subst hwr
    go_wp2
    go_ret
    exact ⟨rfl, rfl⟩

set_option maxHeartbeats 2000000 in
theorem rnext_yes (a b : Nat) (w : World) (h : 0 < a) (ha : a < 9223372036854775808) :
    Calls Tryd.prog 9 #[.int .i64 (a : Int), .int .i64 (b : Int)] w fun x w' => x = .returned (.int .i64 (nextN a b : Int)) ∧ Below w.heap.size w w' := by
  have hK := rlinks_any (a : Int) w (by omega)
  rw [Int.toNat_natCast] at hK
  have hll := linksL_len a ha
  have HN : Hid (nextN a b = nxF b a (linksL a)) := rfl
  generalize nextN a b = N at *
  generalize linksL a = ls at *
  go_enter Tryd.func9, Tryd.ntmps9
  go_wp2_with fail
  refine hK.mono ?_
  rintro x w2 ⟨v2, rfl, hown, hb2⟩
  clear hK
  obtain ⟨p, c, rfl⟩ := owns_shape hown
  have hIA := IA.of_owns hown
  clear hown
  go_wp2
  go_loopw [5, 15] (fun v i wr => ∃ k : Nat, k ≤ ls.length ∧ i = .int .i64 (k : Int) ∧ v = .int .i64 (nxF b a (ls.take k) : Int) ∧ wr = w2) (fun _ i _ => ls.length - (intOf i).toNat)
  case atStart => exact ⟨0, Nat.zero_le _, rfl, rfl, rfl⟩
  case round =>
    obtain ⟨k, hk, rfl, rfl, hwr⟩ := hrel
    subst hwr
    by_cases hlt : k < ls.length
    · obtain ⟨g, o, rfl, f1⟩ := hIA.addr (by omega)
      have c1 := f1 k ls[k] (List.getElem?_eq_getElem hlt)
      have HS : Hid (nxF b a (ls.take (k + 1)) = if b ≤ ls[k] then ls[k] else nxF b a (ls.take k)) := nx_take b a ls k _ (List.getElem?_eq_getElem hlt)
      generalize ls[k] = y at *
      generalize hX : nxF b a (ls.take k) = X at *
      clear hX f1 HN
      have hlt2 : (k : Int) < (ls.length : Int) := by omega
      by_cases hy : b ≤ y
      · have hy2 : (b : Int) ≤ (y : Int) := by omega
        go_wp2
        go_roundw
        case rel => exact ⟨k + 1, by omega, by go_num, by rw [HS.out, if_pos hy], trivial⟩
        case measure => simp [intOf]; omega
      · have hy2 : decide ((b : Int) ≤ (y : Int)) = false := by simp; omega
        go_wp2
        go_roundw
        case rel => exact ⟨k + 1, by omega, by go_num, by rw [HS.out, if_neg hy], trivial⟩
        case measure => simp [intOf]; omega
    · have e1 : ls.take k = ls := List.take_of_length_le (by omega)
      rw [e1, ← HN.out]
      clear e1
      go_wp2
      go_ret
      exact ⟨rfl, hb2⟩

theorem rnext_any (a b : Int) (w : World) (ha : a < 9223372036854775808) :
    Calls Tryd.prog 9 #[.int .i64 a, .int .i64 b] w fun x w' => x = .returned (.int .i64 (nextI a b)) ∧ Below w.heap.size w w' := by
  unfold nextI
  by_cases h : b < 0
  · rw [if_pos (.inl h)]
    exact (rnext_neg a b w h).mono fun x w' ⟨h1, h2⟩ => ⟨h1, by subst h2; exact Below.refl _ _⟩
  · by_cases hl : a < 1
    · rw [if_pos (.inr (by omega))]
      exact (rnext_low a b w hl (by omega)).mono fun x w' ⟨h1, h2⟩ => ⟨h1, by subst h2; exact Below.refl _ _⟩
    · obtain ⟨A, rfl⟩ : ∃ A : Nat, a = (A : Int) := ⟨a.toNat, by omega⟩
      obtain ⟨B, rfl⟩ : ∃ B : Nat, b = (B : Int) := ⟨b.toNat, by omega⟩
      have hy := rnext_yes A B w (by omega) (by omega)
      by_cases hab : (A : Int) ≤ (B : Int)
      · rw [if_pos (.inr hab)]
        rw [nextN_far A B (by omega) (by omega)] at hy
        exact hy
      · rw [if_neg (by omega)]
        simp only [Int.toNat_natCast]
        exact hy

end Go.Proofs.YtikkldjghgcaeaaDoor
