/- What this text proves: the walk of the statement BitsKeys over this program: it answers true for any arguments, and writes nothing that was there. -/
import Derived.Test.YthbkkddfklbhlaaOrder
import Derived.Test.YthbkkddfklbhlaaRBit
import Derived.Test.YthbkkddfklbhlaaBitsAwake
namespace Go.Proofs.Ythbkkddfklbhlaa
open Go.RowKit

set_option maxHeartbeats 2000000 in
theorem keysWalk (x y z : Value) (a b r : List UInt8) (i : Int) (w : World) (ha : HB w x a) (hb : HB w y b) (hr : HB w z r) (h0 : -9223372036854775808 ≤ i) (h1 : i ≤ 9223372036854775807) :
    Calls Try.prog 3 #[x, y, z, .int .i64 i] w fun e w' => e = .returned (.bool true) ∧ Below w.heap.size w w' := by
  obtain ⟨p, c, rfl⟩ := ha.shape
  obtain ⟨q, d, rfl⟩ := hb.shape
  obtain ⟨s, f, rfl⟩ := hr.shape
  go_enter Try.func3, Try.ntmps3
  go_wp2_with fail
  refine (key_any _ a _ ha).mono ?_
  rintro e w1 ⟨p1, c1, rfl, k1, hb1⟩
  go_wp2_with fail
  refine (rkey_any _ a _ (ha.later hb1)).mono ?_
  rintro e w2 ⟨p2, c2, rfl, k2, hb2⟩
  have hb02 := hb1.trans (hb2.mono hb1.size)
  go_wp2_with fail
  refine (equal_t _ _ (keyF a) (keyF a) _ (k1.later hb2) k2 rfl).mono ?_
  rintro e w3 ⟨rfl, rfl⟩
  clear k1 k2 hb1 hb2
  go_wp2_with fail
  refine (bit_any _ r i _ (hr.later hb02) h0 h1).mono ?_
  rintro e w4 ⟨rfl, rfl⟩
  go_wp2_with fail
  refine (rbit_any _ r i _ (hr.later hb02) h0 h1).mono ?_
  rintro e w5 ⟨rfl, rfl⟩
  obtain ⟨B, hB⟩ : ∃ B, bitF r i = B := ⟨_, rfl⟩
  rw [hB]
  clear hB
  go_wp2_with fail
  refine (order_any _ _ a b _ (ha.later hb02) (hb.later hb02)).mono ?_
  rintro e w6 ⟨rfl, hb6⟩
  have hb06 := hb02.trans (hb6.mono hb02.size)
  go_wp2_with fail
  refine (rorder_any _ _ a b _ (ha.later hb06) (hb.later hb06)).mono ?_
  rintro e w7 ⟨rfl, hb7⟩
  have hb07 := hb06.trans (hb7.mono hb06.size)
  obtain ⟨C, hC⟩ : ∃ C, Lib.compareBytes (keyF a) (keyF b) = C := ⟨_, rfl⟩
  rw [hC]
  clear hC hb02 hb6 hb06 hb7
  go_wp2_with fail
  refine (bitsAwake_any _).mono ?_
  rintro e w8 ⟨rfl, hb8⟩
  have hb08 := hb07.trans (hb8.mono hb07.size)
  go_wp2
  go_ret
  exact ⟨rfl, hb08⟩

end Go.Proofs.Ythbkkddfklbhlaa
