/- What this text proves: the walks of bits.RotateLeft32 and of the document's 'right' over this program: a word turned right. -/
import Derived.Test.YtahfjemllkbpgaaGreatDoorRows
import Derived.Test.YtahfjemllkbpgaaGreatDoorShaVocab
import Derived.WalkLawsBesides
import Derived.BigQuiet
namespace Go.Proofs.YtahfjemllkbpgaaGreatDoor
open Go.RowKit

theorem rot_eq (x : UInt32) (n : Nat) :
    bits .or .u32 ((x.toNat : Int) * 2 ^ (32 - n) % 4294967296) ((x.toNat : Int) / 2 ^ n) = ((rotr x n).toNat : Int) ∧
    bits .or .u32 ((x.toNat : Int) / 2 ^ n) ((x.toNat : Int) * 2 ^ (32 - n) % 4294967296) = ((rotr x n).toNat : Int) := by
  have hx := w32 x
  have ha : x.toNat / 2 ^ n < 4294967296 := Nat.lt_of_le_of_lt (Nat.div_le_self _ _) hx
  have hb : x.toNat * 2 ^ (32 - n) % 4294967296 < 4294967296 := Nat.mod_lt _ (by decide)
  have e1 : (x.toNat : Int) / 2 ^ n = ((x.toNat / 2 ^ n : Nat) : Int) := by simp
  have e2 : (x.toNat : Int) * 2 ^ (32 - n) % 4294967296 = ((x.toNat * 2 ^ (32 - n) % 4294967296 : Nat) : Int) := by simp
  rw [e1, e2, b_or _ _ hb ha, b_or _ _ ha hb]
  unfold rotr
  rw [ofNat32 _ (or_lt _ _ ha hb), Nat.or_comm]
  exact ⟨rfl, rfl⟩

set_option maxRecDepth 100000 in
set_option maxHeartbeats 400000 in
theorem rotl_any (x : UInt32) (k : Int) (n : Nat) (h1 : 1 ≤ n) (h2 : n ≤ 31) (hk : bits BinOp.and IntKind.u64 (IntKind.u64.wrap k) 31 = ((32 - n : Nat) : Int)) (w : World) :
    Calls Tryz.prog 95 #[.int .u32 (x.toNat : Int), .int .i64 k] w fun e w' => e = .returned (.int .u32 ((rotr x n).toNat : Int)) ∧ w' = w := by
  have hx := w32 x
  have HE := rot_eq x n
  obtain ⟨m, hm⟩ : ∃ m, m = 32 - n := ⟨_, rfl⟩
  have hn : n = 32 - m := by omega
  rw [← hm] at hk HE
  have HH : Hid (bits .or .u32 ((x.toNat : Int) * 2 ^ m % 4294967296) ((x.toNat : Int) / 2 ^ n) = ((rotr x n).toNat : Int)) := HE.1
  clear HE
  have hm1 : m ≤ 31 := by omega
  have hm2 : 1 ≤ m := by omega
  clear hm h1 h2
  subst hn
  go_enter Tryz.func95, Tryz.ntmps95
  go_wp2
  go_ret
  exact ⟨ret_int HH.out, rfl⟩

theorem rot7 (x : UInt32) (w : World) : Calls Tryz.prog 95 #[.int .u32 (x.toNat : Int), .int .i64 (-7)] w fun e w' => e = .returned (.int .u32 ((rotr x 7).toNat : Int)) ∧ w' = w := rotl_any x (-7) 7 (by decide) (by decide) (by kernel_rfl) w
theorem rot18 (x : UInt32) (w : World) : Calls Tryz.prog 95 #[.int .u32 (x.toNat : Int), .int .i64 (-18)] w fun e w' => e = .returned (.int .u32 ((rotr x 18).toNat : Int)) ∧ w' = w := rotl_any x (-18) 18 (by decide) (by decide) (by kernel_rfl) w
theorem rot17 (x : UInt32) (w : World) : Calls Tryz.prog 95 #[.int .u32 (x.toNat : Int), .int .i64 (-17)] w fun e w' => e = .returned (.int .u32 ((rotr x 17).toNat : Int)) ∧ w' = w := rotl_any x (-17) 17 (by decide) (by decide) (by kernel_rfl) w
theorem rot19 (x : UInt32) (w : World) : Calls Tryz.prog 95 #[.int .u32 (x.toNat : Int), .int .i64 (-19)] w fun e w' => e = .returned (.int .u32 ((rotr x 19).toNat : Int)) ∧ w' = w := rotl_any x (-19) 19 (by decide) (by decide) (by kernel_rfl) w
theorem rot6 (x : UInt32) (w : World) : Calls Tryz.prog 95 #[.int .u32 (x.toNat : Int), .int .i64 (-6)] w fun e w' => e = .returned (.int .u32 ((rotr x 6).toNat : Int)) ∧ w' = w := rotl_any x (-6) 6 (by decide) (by decide) (by kernel_rfl) w
theorem rot11 (x : UInt32) (w : World) : Calls Tryz.prog 95 #[.int .u32 (x.toNat : Int), .int .i64 (-11)] w fun e w' => e = .returned (.int .u32 ((rotr x 11).toNat : Int)) ∧ w' = w := rotl_any x (-11) 11 (by decide) (by decide) (by kernel_rfl) w
theorem rot25 (x : UInt32) (w : World) : Calls Tryz.prog 95 #[.int .u32 (x.toNat : Int), .int .i64 (-25)] w fun e w' => e = .returned (.int .u32 ((rotr x 25).toNat : Int)) ∧ w' = w := rotl_any x (-25) 25 (by decide) (by decide) (by kernel_rfl) w
theorem rot2 (x : UInt32) (w : World) : Calls Tryz.prog 95 #[.int .u32 (x.toNat : Int), .int .i64 (-2)] w fun e w' => e = .returned (.int .u32 ((rotr x 2).toNat : Int)) ∧ w' = w := rotl_any x (-2) 2 (by decide) (by decide) (by kernel_rfl) w
theorem rot13 (x : UInt32) (w : World) : Calls Tryz.prog 95 #[.int .u32 (x.toNat : Int), .int .i64 (-13)] w fun e w' => e = .returned (.int .u32 ((rotr x 13).toNat : Int)) ∧ w' = w := rotl_any x (-13) 13 (by decide) (by decide) (by kernel_rfl) w
theorem rot22 (x : UInt32) (w : World) : Calls Tryz.prog 95 #[.int .u32 (x.toNat : Int), .int .i64 (-22)] w fun e w' => e = .returned (.int .u32 ((rotr x 22).toNat : Int)) ∧ w' = w := rotl_any x (-22) 22 (by decide) (by decide) (by kernel_rfl) w

set_option maxRecDepth 100000 in
set_option maxHeartbeats 400000 in
theorem right_any (x : UInt32) (n : Nat) (h1 : 1 ≤ n) (h2 : n ≤ 31) (w : World) :
    Calls Tryz.prog 86 #[.int .u32 (x.toNat : Int), .int .i64 (n : Int)] w fun e w' => e = .returned (.int .u32 ((rotr x n).toNat : Int)) ∧ ∃ n, w' = w.drewN n := by
  have hx := w32 x
  have HH : Hid (bits .or .u32 ((x.toNat : Int) / 2 ^ n) ((x.toNat : Int) * 2 ^ (32 - n) % 4294967296) = ((rotr x n).toNat : Int)) := (rot_eq x n).2
  go_enter Tryz.func86, Tryz.ntmps86
  go_wp2
  go_quiet (fail)
  go_wp2
  go_ret
  exact ⟨ret_int HH.out, _, rfl⟩

end Go.Proofs.YtahfjemllkbpgaaGreatDoor
