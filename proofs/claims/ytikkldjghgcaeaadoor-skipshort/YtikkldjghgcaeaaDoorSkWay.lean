/- What this text proves: the walks of skip.Way and of the document's Way over this program. -/
import Derived.Test.YtikkldjghgcaeaaDoorSkNext
namespace Go.Proofs.YtikkldjghgcaeaaDoor
open Go.RowKit

/-- The way, of any numbers. -/
def wayI (a b : Int) : List Nat := if b < 0 ∨ a ≤ b ∨ 1048576 < a then [] else wayN a.toNat b.toNat

theorem nextI_yes (a b : Nat) (h : b < a) : nextI (a : Int) (b : Int) = (nextN a b : Int) := by
  unfold nextI
  rw [if_neg (by omega)]
  simp

theorem way_no (a b : Int) (w : World) (h : b < 0 ∨ a ≤ b ∨ 1048576 < a) :
    Calls Tryd.prog 10 #[.int .i64 a, .int .i64 b] w fun x w' => x = .returned (.slice none 0 0) ∧ w' = w := by
  have hA := fun w => ahead_any a b w
  by_cases h1 : 0 ≤ b ∧ b < a
  · rw [show decide (0 ≤ b ∧ b < a) = true by simp; omega] at hA
    have h2 : (1048576 : Int) < a := by omega
    clear h
    go_enter Tryd.func10, Tryd.ntmps10
    go_wp2_with fail
    refine (hA _).mono ?_
    rintro x w1 ⟨rfl, hw⟩
    subst hw
    clear hA
    go_wp2
    go_ret
    exact ⟨rfl, rfl⟩
  · rw [show decide (0 ≤ b ∧ b < a) = false by simp; omega] at hA
    clear h h1
    go_enter Tryd.func10, Tryd.ntmps10
    go_wp2_with fail
    refine (hA _).mono ?_
    rintro x w1 ⟨rfl, hw⟩
    subst hw
    clear hA
    go_wp2
    go_ret
    exact ⟨rfl, rfl⟩

/-- How a round of the way goes. -/
theorem way_round (W acc : List Nat) (c b : Nat) (hc : c < 9223372036854775808) (h : b < c) (hW : W = acc ++ wayN c b) : W = (acc ++ [nextN c b]) ++ wayN (nextN c b) b := by
  rw [hW, wayN_step c b hc h]
  simp

set_option maxHeartbeats 2000000 in
theorem way_yes (a b : Nat) (w : World) (h : b < a) (ha : a ≤ 1048576) (hT : TD w) :
    Calls Tryd.prog 10 #[.int .i64 (a : Int), .int .i64 (b : Int)] w fun x w' => ∃ v', x = .returned v' ∧ w'.ownsRow w.heap.size 3 1 v' (wayN a b).length (ics (wayN a b)) ∧ Below w.heap.size w w' := by
  have hA := fun w => ahead_any (a : Int) (b : Int) w
  rw [show decide (0 ≤ (b : Int) ∧ (b : Int) < (a : Int)) = true by simp; omega] at hA
  have HL : Hid ((wayN a b).length ≤ 1048576) := by
    have := wayN_len (a - b) a b (Nat.le_refl _) (by omega)
    show _ ≤ _
    omega
  obtain ⟨W, hW⟩ : ∃ W, W = wayN a b := ⟨_, rfl⟩
  rw [← hW] at HL ⊢
  have HW : Hid (W = [] ++ wayN a b) := hW
  clear hW
  obtain ⟨i0, hi, hz0, hz1, hz2⟩ := info_parts i_intS
  go_enter Tryd.func10, Tryd.ntmps10
  go_wp2_with fail
  refine (hA _).mono ?_
  rintro x w1 ⟨rfl, hw⟩
  subst hw
  clear hA
  go_wp2_with fail
  go_loopw [5, 6] (fun v i wr => ∃ (c : Nat) (acc : List Nat), b ≤ c ∧ c ≤ a ∧ Hid (W = acc ++ wayN c b) ∧ i = .int .i64 (c : Int) ∧ wr.ownsRow w1.heap.size 3 1 v acc.length (ics acc) ∧ Below w1.heap.size w1 wr) (fun _ i _ => (intOf i).toNat)
  case atStart => exact ⟨a, [], by omega, Nat.le_refl _, HW, rfl, World.ownsRow_nil _ _ _ _, Below.refl _ _⟩
  case round =>
    obtain ⟨c, acc, hbc, hca, hcW, rfl, hown, hbe⟩ := hrel
    have hsz := hbe.size
    by_cases hlt : b < c
    · have hN := next_any (c : Int) (b : Int) wr (by omega) (hT.later hbe)
      rw [nextI_yes c b hlt] at hN
      have hn1 := nextN_lt c b (by omega) hlt
      have hn2 := nextN_ge c b hlt
      have HR : Hid (W = (acc ++ [nextN c b]) ++ wayN (nextN c b) b) := way_round W acc c b (by omega) hlt hcW.out
      have hal : acc.length ≤ 1048576 := by
        have h1 := HL.out
        rw [hcW.out, List.length_append] at h1
        omega
      clear hcW HW HL hT
      generalize nextN c b = n at *
      have hne : ((c : Int) != (b : Int)) = true := by simp; omega
      go_wp2_with fail
      refine hN.mono ?_
      rintro x w2 ⟨rfl, hb2⟩
      have hbe2 := hbe.trans (hb2.mono hsz)
      have hown2 := owns_later hown hb2
      have hsz2 := hbe2.size
      clear hN hown hb2 hbe hsz
      go_wp2_with (first | (at_builtin; refine wpList_append_own _ rfl (.tmp 22) (.tmp 24) 23 rfl w1.heap.size 3 i0 (.int .i64 0) 1 8 Tryd.underlying23 hi hz0 hz1 hz2 rfl (by decide) _ _ _ rfl (hown2.alloc _) ⟨w2.heap.size, 0, none⟩ 1 1 [.int .i64 (n : Int)] rfl rfl ?ra ?rb ?rc ?rd ?re ?_))
      case ra => exact cell_one_new _ _ _
      case rb => intro u hu; simp at hu; subst hu; rfl
      case rc => unfold maxLen; omega
      case rd => omega
      case re => simp; omega
      intro v3 w3 hown3 hgrow3 _
      have hb3 : Below w1.heap.size w1 w3 := (hbe2.alloc hsz2 _).grown hgrow3 (by simp; omega) (fun k hk => (hown2.lt k hk).1)
      have hown4 : w3.ownsRow w1.heap.size 3 1 v3 (acc ++ [n]).length (ics (acc ++ [n])) := by
        have := hown3
        simp only [ics, List.map_append, List.map_cons, List.map_nil, ic, List.length_append, List.length_cons, List.length_nil] at this ⊢
        exact this
      clear hown2 hown3 hgrow3 hbe2
      go_wp2
      go_roundw
      case rel => first | exact ⟨n, acc ++ [n], by omega, by omega, HR, rfl, hown4, hb3⟩ | ((repeat apply Exists.intro); exact ⟨⟨n, acc ++ [n], by omega, by omega, HR, rfl, hown4, hb3⟩, rfl⟩)
      case measure => simp [intOf]; omega
    · obtain rfl : c = b := by omega
      have e1 := hcW.out
      rw [wayN_at c c (Nat.le_refl _), List.append_nil] at e1
      have HE : Hid (W = acc) := e1
      have hne : ((c : Int) != (c : Int)) = false := by simp
      clear e1 hcW HW HL
      go_wp2
      go_ret
      rw [HE.out]
      exact ⟨_, rfl, hown, hbe⟩

theorem way_any (a b : Int) (w : World) (hT : TD w) :
    Calls Tryd.prog 10 #[.int .i64 a, .int .i64 b] w fun x w' => ∃ v', x = .returned v' ∧ w'.ownsRow w.heap.size 3 1 v' (wayI a b).length (ics (wayI a b)) ∧ Below w.heap.size w w' := by
  unfold wayI
  by_cases h : b < 0 ∨ a ≤ b ∨ 1048576 < a
  · rw [if_pos h]
    refine (way_no a b w h).mono ?_
    rintro x w' ⟨rfl, rfl⟩
    exact ⟨_, rfl, World.ownsRow_nil _ _ _ _, Below.refl _ _⟩
  · rw [if_neg h]
    obtain ⟨A, rfl⟩ : ∃ A : Nat, a = (A : Int) := ⟨a.toNat, by omega⟩
    obtain ⟨B, rfl⟩ : ∃ B : Nat, b = (B : Int) := ⟨b.toNat, by omega⟩
    simp only [Int.toNat_natCast]
    exact way_yes A B w (by omega) (by omega) hT

theorem rway_no (a b : Int) (w : World) (h : b < 0 ∨ a ≤ b ∨ 1048576 < a) :
    Calls Tryd.prog 11 #[.int .i64 a, .int .i64 b] w fun x w' => x = .returned (.slice none 0 0) ∧ w' = w := by
  by_cases h0 : b < 0
  · clear h
    go_enter Tryd.func11, Tryd.ntmps11
    go_wp2
    go_ret
    exact ⟨rfl, rfl⟩
  · have d0 : decide (b < 0) = false := by simpa using h0
    by_cases h1 : a ≤ b
    · clear h
      go_enter Tryd.func11, Tryd.ntmps11
      go_wp2
      go_ret
      exact ⟨rfl, rfl⟩
    · have d1 : decide (a ≤ b) = false := by simpa using h1
      have h2 : (1048576 : Int) < a := by omega
      clear h
      go_enter Tryd.func11, Tryd.ntmps11
      go_wp2
      go_ret
      exact ⟨rfl, rfl⟩

set_option maxHeartbeats 2000000 in
theorem rway_yes (a b : Nat) (w : World) (h : b < a) (ha : a ≤ 1048576) :
    Calls Tryd.prog 11 #[.int .i64 (a : Int), .int .i64 (b : Int)] w fun x w' => ∃ v', x = .returned v' ∧ w'.ownsRow w.heap.size 3 1 v' (wayN a b).length (ics (wayN a b)) ∧ Below w.heap.size w w' := by
  have HL : Hid ((wayN a b).length ≤ 1048576) := by
    have := wayN_len (a - b) a b (Nat.le_refl _) (by omega)
    show _ ≤ _
    omega
  obtain ⟨W, hW⟩ : ∃ W, W = wayN a b := ⟨_, rfl⟩
  rw [← hW] at HL ⊢
  have HW : Hid (W = [] ++ wayN a b) := hW
  clear hW
  obtain ⟨i0, hi, hz0, hz1, hz2⟩ := info_parts i_intS
  have d0 : decide ((b : Int) < 0) = false := by simp
  have d1n : decide (a ≤ b) = false := by simp; omega
  have d1 : decide ((a : Int) ≤ (b : Int)) = false := by simp; omega
  have d2 : decide ((1048576 : Int) < (a : Int)) = false := by simp; omega
  go_enter Tryd.func11, Tryd.ntmps11
  go_wp2_with fail
  clear d0 d1 d2 d1n
  go_loopw [0, 5] (fun i v wr => ∃ (c : Nat) (acc : List Nat), b ≤ c ∧ c ≤ a ∧ Hid (W = acc ++ wayN c b) ∧ i = .int .i64 (c : Int) ∧ wr.ownsRow w.heap.size 3 1 v acc.length (ics acc) ∧ Below w.heap.size w wr) (fun i _ _ => (intOf i).toNat)
  case atStart => exact ⟨a, [], by omega, Nat.le_refl _, HW, rfl, World.ownsRow_nil _ _ _ _, Below.refl _ _⟩
  case round =>
    obtain ⟨c, acc, hbc, hca, hcW, rfl, hown, hbe⟩ := hrel
    have hsz := hbe.size
    by_cases hlt : b < c
    · have hN := rnext_any (c : Int) (b : Int) wr (by omega)
      rw [nextI_yes c b hlt] at hN
      have hn1 := nextN_lt c b (by omega) hlt
      have hn2 := nextN_ge c b hlt
      have HR : Hid (W = (acc ++ [nextN c b]) ++ wayN (nextN c b) b) := way_round W acc c b (by omega) hlt hcW.out
      have hal : acc.length ≤ 1048576 := by
        have h1 := HL.out
        rw [hcW.out, List.length_append] at h1
        omega
      clear hcW HW HL
      generalize nextN c b = n at *
      have hne : (b : Int) < (c : Int) := by omega
      go_wp2_with fail
      refine hN.mono ?_
      rintro x w2 ⟨rfl, hb2⟩
      have hbe2 := hbe.trans (hb2.mono hsz)
      have hown2 := owns_later hown hb2
      have hsz2 := hbe2.size
      clear hN hown hb2 hbe hsz
      go_wp2_with (first | (at_builtin; refine wpList_append_own _ rfl (.tmp 23) (.tmp 25) 23 rfl w.heap.size 3 i0 (.int .i64 0) 1 8 Tryd.underlying23 hi hz0 hz1 hz2 rfl (by decide) _ _ _ rfl (hown2.alloc _) ⟨w2.heap.size, 0, none⟩ 1 1 [.int .i64 (n : Int)] rfl rfl ?ra ?rb ?rc ?rd ?re ?_))
      case ra => exact cell_one_new _ _ _
      case rb => intro u hu; simp at hu; subst hu; rfl
      case rc => unfold maxLen; omega
      case rd => omega
      case re => simp; omega
      intro v3 w3 hown3 hgrow3 _
      have hb3 : Below w.heap.size w w3 := (hbe2.alloc hsz2 _).grown hgrow3 (by simp; omega) (fun k hk => (hown2.lt k hk).1)
      have hown4 : w3.ownsRow w.heap.size 3 1 v3 (acc ++ [n]).length (ics (acc ++ [n])) := by
        have := hown3
        simp only [ics, List.map_append, List.map_cons, List.map_nil, ic, List.length_append, List.length_cons, List.length_nil] at this ⊢
        exact this
      clear hown2 hown3 hgrow3 hbe2
      go_wp2
      go_roundw
      case rel => first | exact ⟨n, acc ++ [n], by omega, by omega, HR, rfl, hown4, hb3⟩ | ((repeat apply Exists.intro); exact ⟨⟨n, acc ++ [n], by omega, by omega, HR, rfl, hown4, hb3⟩, rfl⟩)
      case measure => simp [intOf]; omega
    · obtain rfl : c = b := by omega
      have e1 := hcW.out
      rw [wayN_at c c (Nat.le_refl _), List.append_nil] at e1
      have HE : Hid (W = acc) := e1
      clear e1 hcW HW HL
      go_wp2
      go_ret
      rw [HE.out]
      exact ⟨_, rfl, hown, hbe⟩

theorem rway_any (a b : Int) (w : World) :
    Calls Tryd.prog 11 #[.int .i64 a, .int .i64 b] w fun x w' => ∃ v', x = .returned v' ∧ w'.ownsRow w.heap.size 3 1 v' (wayI a b).length (ics (wayI a b)) ∧ Below w.heap.size w w' := by
  unfold wayI
  by_cases h : b < 0 ∨ a ≤ b ∨ 1048576 < a
  · rw [if_pos h]
    refine (rway_no a b w h).mono ?_
    rintro x w' ⟨rfl, rfl⟩
    exact ⟨_, rfl, World.ownsRow_nil _ _ _ _, Below.refl _ _⟩
  · rw [if_neg h]
    obtain ⟨A, rfl⟩ : ∃ A : Nat, a = (A : Int) := ⟨a.toNat, by omega⟩
    obtain ⟨B, rfl⟩ : ∃ B : Nat, b = (B : Int) := ⟨b.toNat, by omega⟩
    simp only [Int.toNat_natCast]
    exact rway_yes A B w (by omega) (by omega)

end Go.Proofs.YtikkldjghgcaeaaDoor
