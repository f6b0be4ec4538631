/- What this text proves: the walks of a device's methods, of a device that no call made, over this program. -/
import Derived.Test.YtmikhebbcmniaaaDBase
namespace Go.Proofs.Ytmikhebbcmniaaa
open Go.RowKit Go.Maps

/-- In this world no call made the device. -/
def Gone (q : Option Addr) (W : World) : Prop := Calls Try.prog 40 #[.pointer q] W fun e w' => e = .returned (.bool true) ∧ w' = W

set_option maxRecDepth 10000 in
set_option maxHeartbeats 400000 in
theorem read_gone (q : Option Addr) (i : Int) (W : World) (h : Gone q W) : Calls Try.prog 17 #[.pointer q, .int .i64 i] W fun e w' => e = .returned (.tuple #[.slice none 0 0, .int .i64 2]) ∧ w' = W := by
  unfold Gone at h
  go_enter Try.func17, Try.ntmps17
  go_wp2_with (go_at_call 40; refine h.mono ?_; rintro e w1 ⟨rfl, rfl⟩)
  go_ret2
  exact ⟨rfl, rfl⟩

set_option maxRecDepth 10000 in
set_option maxHeartbeats 400000 in
theorem write_gone (q : Option Addr) (i : Int) (p : Option Addr) (n c : Nat) (W : World) (h : Gone q W) : Calls Try.prog 23 #[.pointer q, .int .i64 i, .slice p n c] W fun e w' => e = .returned (.int .i64 2) ∧ w' = W := by
  unfold Gone at h
  go_enter Try.func23, Try.ntmps23
  go_wp2_with (go_at_call 40; refine h.mono ?_; rintro e w1 ⟨rfl, rfl⟩)
  go_ret
  exact ⟨rfl, rfl⟩

set_option maxRecDepth 10000 in
set_option maxHeartbeats 400000 in
theorem sync_gone (q : Option Addr) (W : World) (h : Gone q W) : Calls Try.prog 24 #[.pointer q] W fun e w' => e = .returned (.int .i64 2) ∧ w' = W := by
  unfold Gone at h
  go_enter Try.func24, Try.ntmps24
  go_wp2_with (go_at_call 40; refine h.mono ?_; rintro e w1 ⟨rfl, rfl⟩)
  go_ret
  exact ⟨rfl, rfl⟩

set_option maxRecDepth 10000 in
set_option maxHeartbeats 400000 in
theorem fuse_gone (q : Option Addr) (i : Int) (W : World) (h : Gone q W) : Calls Try.prog 32 #[.pointer q, .int .i64 i] W fun e w' => e = .returned (.int .i64 2) ∧ w' = W := by
  unfold Gone at h
  go_enter Try.func32, Try.ntmps32
  go_wp2_with (go_at_call 40; refine h.mono ?_; rintro e w1 ⟨rfl, rfl⟩)
  go_ret
  exact ⟨rfl, rfl⟩

set_option maxRecDepth 10000 in
set_option maxHeartbeats 400000 in
theorem crash_gone (q : Option Addr) (p : Option Addr) (n c : Nat) (W : World) (h : Gone q W) : Calls Try.prog 25 #[.pointer q, .slice p n c] W fun e w' => e = .returned (.int .i64 2) ∧ w' = W := by
  unfold Gone at h
  go_enter Try.func25, Try.ntmps25
  go_wp2_with (go_at_call 40; refine h.mono ?_; rintro e w1 ⟨rfl, rfl⟩)
  go_ret
  exact ⟨rfl, rfl⟩

set_option maxRecDepth 10000 in
set_option maxHeartbeats 400000 in
theorem dead_gone (q : Option Addr) (W : World) (h : Gone q W) : Calls Try.prog 33 #[.pointer q] W fun e w' => e = .returned (.bool true) ∧ w' = W := by
  unfold Gone at h
  go_enter Try.func33, Try.ntmps33
  go_wp2_with (go_at_call 40; refine h.mono ?_; rintro e w1 ⟨rfl, rfl⟩)
  go_ret
  exact ⟨rfl, rfl⟩

set_option maxRecDepth 10000 in
set_option maxHeartbeats 400000 in
theorem waits_gone (q : Option Addr) (W : World) (h : Gone q W) : Calls Try.prog 31 #[.pointer q] W fun e w' => e = .returned (.slice none 0 0) ∧ w' = W := by
  unfold Gone at h
  go_enter Try.func31, Try.ntmps31
  go_wp2_with (go_at_call 40; refine h.mono ?_; rintro e w1 ⟨rfl, rfl⟩)
  go_ret
  exact ⟨rfl, rfl⟩

set_option maxRecDepth 10000 in
set_option maxHeartbeats 400000 in
theorem image_gone (q : Option Addr) (W : World) (h : Gone q W) : Calls Try.prog 16 #[.pointer q] W fun e w' => e = .returned (.slice none 0 0) ∧ w' = W := by
  unfold Gone at h
  go_enter Try.func16, Try.ntmps16
  go_wp2_with (go_at_call 40; refine h.mono ?_; rintro e w1 ⟨rfl, rfl⟩)
  go_ret
  exact ⟨rfl, rfl⟩

set_option maxRecDepth 10000 in
set_option maxHeartbeats 400000 in
theorem changes_gone (q : Option Addr) (W : World) (h : Gone q W) : Calls Try.prog 34 #[.pointer q] W fun e w' => e = .returned (.int .i64 0) ∧ w' = W := by
  unfold Gone at h
  go_enter Try.func34, Try.ntmps34
  go_wp2_with (go_at_call 40; refine h.mono ?_; rintro e w1 ⟨rfl, rfl⟩)
  go_ret
  exact ⟨rfl, rfl⟩

set_option maxRecDepth 10000 in
set_option maxHeartbeats 400000 in
theorem copy_gone (q : Option Addr) (W : World) (h : Gone q W) : Calls Try.prog 19 #[.pointer q] W fun e w' => e = .returned (.pointer none) ∧ w' = W := by
  unfold Gone at h
  go_enter Try.func19, Try.ntmps19
  go_wp2_with (go_at_call 40; refine h.mono ?_; rintro e w1 ⟨rfl, rfl⟩)
  go_ret
  exact ⟨rfl, rfl⟩

end Go.Proofs.Ytmikhebbcmniaaa
