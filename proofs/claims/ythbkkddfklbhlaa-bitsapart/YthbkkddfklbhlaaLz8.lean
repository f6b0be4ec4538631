/- What this text proves: the walks of math/bits' Len8 and LeadingZeros8 over this program: how many noughts a byte begins with. -/
import Derived.Test.YthbkkddfklbhlaaEqual
import Derived.Test.YthbkkddfklbhlaaBitsPlain
namespace Go.Proofs.Ythbkkddfklbhlaa
open Go.RowKit

theorem len8_at (x : UInt8) (h : x.toNat < Lib.len8tab.size) : wrap64 ((Lib.len8tab[x.toNat]'h).toNat : Int) = (Lib.bitLen x.toNat : Int) := by
  have hx := x.toNat_lt
  have e := Lib.len8_eq ⟨x.toNat, hx⟩
  have hle : Lib.bitLen x.toNat ≤ 8 := Lib.bitLen_le8 ⟨x.toNat, hx⟩
  unfold Lib.len8 at e
  simp only [Int.toNat_natCast] at e
  rw [getElem?_pos Lib.len8tab x.toNat h] at e
  simp only [Option.getD_some] at e
  rw [e]
  unfold wrap64
  omega

set_option maxRecDepth 100000 in
set_option maxHeartbeats 4000000 in
theorem len8_any (x : UInt8) (w : World) :
    Calls Try.prog 39 #[.int .u8 (x.toNat : Int)] w fun e w' => e = .returned (.int .i64 (Lib.bitLen x.toNat : Int)) ∧ w' = w := by
  have hx := x.toNat_lt
  go_enter Try.func39, Try.ntmps39
  go_wp2
  go_ret
  refine ⟨congrArg (fun z => Ending.returned (Value.int .i64 z)) ?_, rfl⟩
  exact len8_at x _

set_option maxHeartbeats 400000 in
theorem lz8_any (x : UInt8) (w : World) :
    Calls Try.prog 35 #[.int .u8 (x.toNat : Int)] w fun e w' => e = .returned (.int .i64 (lz x : Int)) ∧ w' = w := by
  have hx := x.toNat_lt
  have hle : Lib.bitLen x.toNat ≤ 8 := Lib.bitLen_le8 ⟨x.toNat, hx⟩
  have e : (lz x : Int) = 8 - (Lib.bitLen x.toNat : Int) := by unfold lz; omega
  rw [e]
  clear e
  go_enter Try.func35, Try.ntmps35
  go_wp2_with fail
  refine (len8_any x w).mono ?_
  rintro e w1 ⟨rfl, rfl⟩
  have hle : (Lib.bitLen x.toNat : Int) ≤ 8 := by omega
  go_wp2
  go_ret
  exact ⟨rfl, rfl⟩

end Go.Proofs.Ythbkkddfklbhlaa
