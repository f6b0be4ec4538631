/- What this text proves: the walk of the statements' 'awake' of layer 3 over this program: it answers true. -/
import Derived.Test.YthbkkddfklbhlaaKey
import Derived.Test.YthbkkddfklbhlaaBit
import Derived.Lib.SlBytesConst
namespace Go.Proofs.Ythbkkddfklbhlaa
open Go.RowKit

theorem keyF_a : keyF [97] = [1, 97] := by decide +kernel
theorem bitF_1 : bitF [1] 7 = 1 := by decide +kernel

set_option maxHeartbeats 1000000 in
theorem bitsAwake_any (w : World) : Calls Try.prog 16 #[] w fun e w' => e = .returned (.bool true) ∧ Below w.heap.size w w' := by
  have kc := fun (w : World) (C : Array Value) (n c : Nat) => Lib.run_convert_bytes_const (P := Try.prog) w 22 5 C n c Try.underlying22 Try.underlying5
  go_enter Try.func16, Try.ntmps16
  go_wp2_with fail
  refine (key_any _ [97] _ (HB.litF w 5 _ _ 1 _ rfl rfl (by unfold maxLen; omega))).mono ?_
  rintro e w1 ⟨p1, c1, rfl, h1, hb1⟩
  rw [keyF_a] at h1 ⊢
  have hb01 : Below w.heap.size w w1 := ((Below.refl _ w).alloc (Nat.le_refl _) _).trans (hb1.mono (by simp))
  clear hb1
  go_wp2_with fail
  refine (equal_t _ _ [1, 97] [1, 97] _ (h1.later ((Below.refl _ w1).alloc (Nat.le_refl _) _)) (HB.lit w1 5 _ _ 2 rfl rfl (by unfold maxLen; omega)) rfl).mono ?_
  rintro e w2 ⟨rfl, hw2⟩
  have hb02 : Below w.heap.size w w2 := by rw [hw2]; exact hb01.alloc hb01.size _
  clear hw2 hb01 h1
  go_wp2_with fail
  refine (bit_any _ [1] 7 _ (HB.lit w2 5 _ _ 1 rfl rfl (by unfold maxLen; omega)) (by decide) (by decide)).mono ?_
  rintro e w3 ⟨rfl, hw3⟩
  have hb03 : Below w.heap.size w w3 := by rw [hw3]; exact hb02.alloc hb02.size _
  rw [bitF_1]
  clear hw3 hb02
  go_wp2
  go_ret
  exact ⟨rfl, hb03⟩

end Go.Proofs.Ythbkkddfklbhlaa
