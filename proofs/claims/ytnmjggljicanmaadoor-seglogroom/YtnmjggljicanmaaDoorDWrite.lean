/- What this text proves: the walk of a device's Write over this program. -/
import Derived.Test.YtnmjggljicanmaaDoorDLook
import Derived.Deep.RegionHeld3
namespace Go.Proofs.YtnmjggljicanmaaDoor
open Go.RowKit Go.Maps

set_option maxRecDepth 100000 in
set_option maxHeartbeats 400000 in
theorem write_arg {bd bn bm : Nat} {s : DevS} {w : World} (h : Dev w bd bn bm s) (i : Int) (v : Value) (l : List UInt8) (hv : HB w v l) (hbad : ¬ (0 ≤ i ∧ i < (s.now.length : Int)) ∨ l.length ≠ 64) : Calls Tryd.prog 34 #[.pointer (some ⟨bd, 0, none⟩), .int .i64 i, v] w fun e w' => e = .returned (.int .i64 1) ∧ w' = w := by
  have h1 := miss_no h
  have h2 := has_any h i
  obtain ⟨p, c, rfl⟩ := hv.shape
  by_cases hi : 0 ≤ i ∧ i < (s.now.length : Int)
  · have hl : ¬ (l.length : Int) = 64 := by
      rcases hbad with h | h
      · exact absurd hi h
      · omega
    rw [decide_eq_true hi] at h2
    clear h hv hbad hi
    go_enter Tryd.func34, Tryd.ntmps34
    go_wp2_with (first
      | (go_at_call 26; refine h1.mono ?_; rintro e w1 ⟨rfl, rfl⟩)
      | (go_at_call 31; refine h2.mono ?_; rintro e w1 ⟨rfl, rfl⟩))
    go_ret
    exact ⟨rfl, rfl⟩
  · rw [decide_eq_false hi] at h2
    clear h hv hbad hi
    go_enter Tryd.func34, Tryd.ntmps34
    go_wp2_with (first
      | (go_at_call 26; refine h1.mono ?_; rintro e w1 ⟨rfl, rfl⟩)
      | (go_at_call 31; refine h2.mono ?_; rintro e w1 ⟨rfl, rfl⟩))
    go_ret
    exact ⟨rfl, rfl⟩

set_option maxRecDepth 100000 in
set_option maxHeartbeats 400000 in
theorem write_stop {bd bn bm : Nat} {s : DevS} {w : World} (h : Dev w bd bn bm s) (i : Int) (v : Value) (l : List UInt8) (hv : HB w v l) (hi : 0 ≤ i ∧ i < (s.now.length : Int)) (hl : l.length = 64) (hc : s.ch + 1 ≤ 1099511627776) (hs : s.stops = true) :
    Calls Tryd.prog 34 #[.pointer (some ⟨bd, 0, none⟩), .int .i64 i, v] w fun e w' => e = .returned (.int .i64 70) ∧ Dev w' bd bn bm s.counted ∧ Part (fun k => k = bd) w w' := by
  have h1 := miss_no h
  have h2 := has_any h i
  have h3 := change_any h hc
  rw [show s.err = 70 by simp [DevS.err, hs]] at h3
  obtain ⟨p, c, rfl⟩ := hv.shape
  rw [hl]
  rw [decide_eq_true hi] at h2
  clear h hv hi hl
  go_enter Tryd.func34, Tryd.ntmps34
  go_wp2_with (first
    | (go_at_call 26; refine h1.mono ?_; rintro e w1 ⟨rfl, rfl⟩)
    | (go_at_call 31; refine h2.mono ?_; rintro e w1 ⟨rfl, rfl⟩)
    | (go_at_call 45; refine h3.mono ?_; rintro e w2 ⟨rfl, hd2, hp2⟩))
  go_ret
  exact ⟨rfl, hd2, hp2⟩

end Go.Proofs.YtnmjggljicanmaaDoor
