/- What this text proves: the walks of the statements MtsNew and MtsNobody over this program: what is wrong with any keys; keys that no call made. -/
import Derived.Test.YtpnginemjcphcabDoorMKeysT
import Derived.Test.YtpnginemjcphcabDoorRWots
namespace Go.Proofs.YtpnginemjcphcabDoor
open Go.RowKit

theorem Tabs.size {w : World} (h : Tabs w) : 1 < w.heap.size := by
  obtain ⟨x, hx⟩ : ∃ x, kTab[0]? = some x := ⟨_, rfl⟩
  exact cell_lt (h.2 0 x hx)

set_option maxRecDepth 100000 in
set_option maxHeartbeats 1000000 in
theorem rnew_err (size height : Int) (v : Value) (seed : List UInt8) (w : World) (hv : HB w v seed) (hbad : ¬ (0 ≤ height ∧ height ≤ 8)) :
    Calls Tryd.prog 18 #[.int .i64 size, v, .int .i64 height] w fun e w' => e = .returned (.tuple #[.pointer none, .int .i64 1]) ∧ w' = w := by
  have hm := hv.len_le
  unfold maxLen at hm
  obtain ⟨p, c, rfl⟩ := hv.shape
  have hC := fun w' => rcan_any size 0 p seed.length c w' (by omega)
  cases hb : rcanB size 0 seed.length with
  | false =>
    rw [hb] at hC
    clear hbad
    go_enter Tryd.func18, Tryd.ntmps18
    go_wp2_with fail
    refine (hC _).mono ?_
    rintro e w1 ⟨rfl, hw1⟩
    subst hw1
    go_wp2
    go_ret2
    exact ⟨rfl, rfl⟩
  | true =>
    rw [hb] at hC
    by_cases h0 : height < 0
    · clear hbad
      go_enter Tryd.func18, Tryd.ntmps18
      go_wp2_with fail
      refine (hC _).mono ?_
      rintro e w1 ⟨rfl, hw1⟩
      subst hw1
      go_wp2
      go_ret2
      exact ⟨rfl, rfl⟩
    · have h8 : 8 < height := by omega
      have hd : decide (height < 0) = false := by simpa using h0
      clear hbad
      go_enter Tryd.func18, Tryd.ntmps18
      go_wp2_with fail
      refine (hC _).mono ?_
      rintro e w1 ⟨rfl, hw1⟩
      subst hw1
      go_wp2
      go_ret2
      exact ⟨rfl, rfl⟩

set_option maxRecDepth 100000 in
set_option maxHeartbeats 2000000 in
theorem newWalk (size height : Int) (v : Value) (seed : List UInt8) (w : World) (hv : HB w v seed) (hT : Tabs w) :
    Calls Tryd.prog 4 #[.int .i64 size, v, .int .i64 height] w fun e w' => e = .returned (.bool true) ∧ Below w.heap.size w w' := by
  obtain ⟨p, c, rfl⟩ := hv.shape
  obtain ⟨U, hU, hU2⟩ := u64_nat size
  have hA := fun w' hT' hs' => mtsAwake_any w' hT' hs'
  have hN2 : Calls Tryd.prog 17 #[.int .i64 (33 + (U : Int) % 9), .slice none 0 0, .int .i64 1] w fun e w' => e = .returned (.tuple #[.pointer none, .int .i64 1]) ∧ w' = w := new_err _ 1 _ [] w (HB.nil w) (.inl (by simp [mcanB]; omega))
  have hsz := hT.size
  go_enter Tryd.func4, Tryd.ntmps4
  by_cases h0 : 0 ≤ height ∧ height ≤ 8
  case' pos =>
    obtain ⟨h1, h2⟩ := h0
    have hN1 := new_err size (-1 - height) (.slice p seed.length c) seed w hv (.inl (by simp [mcanB]; omega))
    have hR := rnew_err size (-1 - height) (.slice p seed.length c) seed w hv (by omega)
  case' neg =>
    have hN1 := new_err size height (.slice p seed.length c) seed w hv (.inl (by simp [mcanB]; omega))
    have hR := rnew_err size height (.slice p seed.length c) seed w hv h0
    rcases (show height < 0 ∨ 8 < height by omega) with h1 | h1
    case' inr => have h2 : 0 ≤ height := by omega
  all_goals
    try clear h0
    go_wp2_with fail
    refine hN1.mono ?_
    rintro e w1 ⟨rfl, hw1⟩
    have hw2 := hw1.symm
    clear hw1
    subst hw2
    go_wp2_with fail
    refine hN2.mono ?_
    rintro e w1 ⟨rfl, hw1⟩
    have hw2 := hw1.symm
    clear hw1
    subst hw2
    go_wp2_with fail
    refine hR.mono ?_
    rintro e w1 ⟨rfl, hw1⟩
    have hw2 := hw1.symm
    clear hw1
    subst hw2
    go_wp2_with fail
    refine (hA _ hT hsz).mono ?_
    rintro e w2 ⟨rfl, hb2⟩
    go_wp2
    go_ret
    exact ⟨rfl, hb2⟩

end Go.Proofs.YtpnginemjcphcabDoor
