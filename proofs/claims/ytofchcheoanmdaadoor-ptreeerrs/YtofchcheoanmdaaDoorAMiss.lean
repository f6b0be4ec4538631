/- What this text proves: the walks of an arena's methods, of an arena that no call made, over this program. -/
import Derived.Test.YtofchcheoanmdaaDoorOwn
namespace Go.Proofs.YtofchcheoanmdaaDoor
open Go.RowKit

/-- In this world no call made the arena. -/
def Gone (q : Option Addr) (W : World) : Prop := Calls Tryd.prog 55 #[.pointer q] W fun e w' => e = .returned (.bool true) ∧ w' = W

/-- The node that is none. -/
def zNode : Value := .agg #[.bool false, .slice none 0 0, .slice none 0 0, .int .i64 0, .int .i64 0, .slice none 0 0, .int .i64 0, .int .i64 0, .int .i64 0, .slice none 0 0]

set_option maxRecDepth 100000 in
set_option maxHeartbeats 400000 in
theorem miss_nil (W : World) : Gone none W := by
  unfold Gone
  go_enter Tryd.func55, Tryd.ntmps55
  go_wp2
  go_ret
  exact ⟨rfl, rfl⟩

set_option maxRecDepth 100000 in
set_option maxHeartbeats 400000 in
theorem miss_raw (g : Nat) (W : World) (c0 : W.cell? ⟨g, 0, none⟩ = some (.int .i64 0)) : Gone (some ⟨g, 0, none⟩) W := by
  unfold Gone
  go_enter Tryd.func55, Tryd.ntmps55
  go_wp2
  go_ret
  exact ⟨rfl, rfl⟩

set_option maxRecDepth 100000 in
set_option maxHeartbeats 400000 in
theorem miss_no (g : Nat) (s : Int) (W : World) (c0 : W.cell? ⟨g, 0, none⟩ = some (.int .i64 s)) (hs : s ≠ 0) : Calls Tryd.prog 55 #[.pointer (some ⟨g, 0, none⟩)] W fun e w' => e = .returned (.bool false) ∧ w' = W := by
  have hb : (s == 0) = false := by simpa using hs
  go_enter Tryd.func55, Tryd.ntmps55
  go_wp2
  go_ret
  exact ⟨rfl, rfl⟩

set_option maxRecDepth 100000 in
set_option maxHeartbeats 400000 in
theorem leaf_gone (q : Option Addr) (p : Option Addr) (n c : Nat) (p' : Option Addr) (n' c' : Nat) (since : Int) (W : World) (h : Gone q W) : Calls Tryd.prog 26 #[.pointer q, .slice p n c, .slice p' n' c', .int .i64 since] W fun e w' => e = .returned (.tuple #[.int .i64 0, .int .i64 2]) ∧ w' = W := by
  unfold Gone at h
  go_enter Tryd.func26, Tryd.ntmps26
  go_wp2_with (go_at_call 55; refine h.mono ?_; rintro e w1 ⟨rfl, rfl⟩)
  go_ret2
  exact ⟨rfl, rfl⟩

set_option maxRecDepth 100000 in
set_option maxHeartbeats 400000 in
theorem fork_gone (q : Option Addr) (depth : Int) (p : Option Addr) (n c : Nat) (l r : Int) (W : World) (h : Gone q W) : Calls Tryd.prog 27 #[.pointer q, .int .i64 depth, .slice p n c, .int .i64 l, .int .i64 r] W fun e w' => e = .returned (.tuple #[.int .i64 0, .int .i64 2]) ∧ w' = W := by
  unfold Gone at h
  go_enter Tryd.func27, Tryd.ntmps27
  go_wp2_with (go_at_call 55; refine h.mono ?_; rintro e w1 ⟨rfl, rfl⟩)
  go_ret2
  exact ⟨rfl, rfl⟩

set_option maxRecDepth 100000 in
set_option maxHeartbeats 400000 in
theorem node_gone (q : Option Addr) (i : Int) (W : World) (h : ∀ W', Below W.heap.size W W' → Gone q W') : Calls Tryd.prog 23 #[.pointer q, .int .i64 i] W fun e w' => e = .returned (.tuple #[zNode, .bool false]) ∧ Below W.heap.size W w' := by
  have bA := (Below.refl _ W).alloc (Nat.le_refl _) (.cells #[.bool false, .slice none 0 0, .slice none 0 0, .int .i64 0, .int .i64 0, .slice none 0 0, .int .i64 0, .int .i64 0, .int .i64 0, .slice none 0 0] 43)
  have hG := h _ bA
  unfold Gone at hG
  clear h
  go_enter Tryd.func23, Tryd.ntmps23
  go_wp2_with (go_at_call 55; refine hG.mono ?_; rintro e w1 ⟨rfl, hw⟩; subst hw)
  refine bodyPost_ret (v := .tuple #[zNode, .bool false]) ?_ rfl ?_
  · simp only [results, Tryd.results23]
    go_simp
    rfl
  · exact ⟨rfl, bA⟩

set_option maxRecDepth 100000 in
set_option maxHeartbeats 400000 in
theorem hash_gone (q : Option Addr) (i : Int) (W : World) (h : Gone q W) : Calls Tryd.prog 28 #[.pointer q, .int .i64 i] W fun e w' => e = .returned (.slice none 0 0) ∧ w' = W := by
  unfold Gone at h
  go_enter Tryd.func28, Tryd.ntmps28
  go_wp2_with (go_at_call 55; refine h.mono ?_; rintro e w1 ⟨rfl, rfl⟩)
  go_ret
  exact ⟨rfl, rfl⟩

set_option maxRecDepth 100000 in
set_option maxHeartbeats 400000 in
theorem sweep_gone (q : Option Addr) (p : Option Addr) (n c : Nat) (W : World) (h : Gone q W) : Calls Tryd.prog 22 #[.pointer q, .slice p n c] W fun e w' => e = .returned (.int .i64 0) ∧ w' = W := by
  unfold Gone at h
  go_enter Tryd.func22, Tryd.ntmps22
  go_wp2_with (go_at_call 55; refine h.mono ?_; rintro e w1 ⟨rfl, rfl⟩)
  go_ret
  exact ⟨rfl, rfl⟩

set_option maxRecDepth 100000 in
set_option maxHeartbeats 400000 in
theorem used_gone (q : Option Addr) (W : World) (h : Gone q W) : Calls Tryd.prog 21 #[.pointer q] W fun e w' => e = .returned (.int .i64 0) ∧ w' = W := by
  unfold Gone at h
  go_enter Tryd.func21, Tryd.ntmps21
  go_wp2_with (go_at_call 55; refine h.mono ?_; rintro e w1 ⟨rfl, rfl⟩)
  go_ret
  exact ⟨rfl, rfl⟩

set_option maxRecDepth 100000 in
set_option maxHeartbeats 400000 in
theorem room_gone (q : Option Addr) (W : World) (h : Gone q W) : Calls Tryd.prog 25 #[.pointer q] W fun e w' => e = .returned (.int .i64 0) ∧ w' = W := by
  unfold Gone at h
  go_enter Tryd.func25, Tryd.ntmps25
  go_wp2_with (go_at_call 55; refine h.mono ?_; rintro e w1 ⟨rfl, rfl⟩)
  go_ret
  exact ⟨rfl, rfl⟩

set_option maxRecDepth 100000 in
set_option maxHeartbeats 400000 in
theorem size_gone (q : Option Addr) (W : World) (h : Gone q W) : Calls Tryd.prog 29 #[.pointer q] W fun e w' => e = .returned (.int .i64 0) ∧ w' = W := by
  unfold Gone at h
  go_enter Tryd.func29, Tryd.ntmps29
  go_wp2_with (go_at_call 55; refine h.mono ?_; rintro e w1 ⟨rfl, rfl⟩)
  go_ret
  exact ⟨rfl, rfl⟩

end Go.Proofs.YtofchcheoanmdaaDoor
