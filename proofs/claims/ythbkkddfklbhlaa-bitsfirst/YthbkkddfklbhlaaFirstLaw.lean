/- What this text proves: the walk of the statement BitsFirst over this program: it answers true for any arguments, and writes nothing that was there. -/
import Derived.Test.YthbkkddfklbhlaaBegins
import Derived.Test.YthbkkddfklbhlaaClone
import Derived.Test.YthbkkddfklbhlaaBitsAwake
namespace Go.Proofs.Ythbkkddfklbhlaa
open Go.RowKit

set_option maxHeartbeats 2000000 in
theorem firstWalk (x y : Value) (a b : List UInt8) (n : Int) (w : World) (ha : HB w x a) (hb : HB w y b) (h0 : -9223372036854775808 ≤ n) (h1 : n ≤ 9223372036854775807) (hsz : a.length ≤ 140737488351232) (hsb : b.length ≤ 140737488351232) :
    Calls Try.prog 4 #[x, y, .int .i64 n] w fun e w' => e = .returned (.bool true) ∧ Below w.heap.size w w' := by
  obtain ⟨p, c, rfl⟩ := ha.shape
  obtain ⟨q, d, rfl⟩ := hb.shape
  go_enter Try.func4, Try.ntmps4
  go_wp2_with fail
  refine (clone_any _ a _ ha (by omega)).mono ?_
  rintro e w1 ⟨p1, c1, rfl, k1, hb1⟩
  go_wp2_with fail
  refine (first_any _ a n _ k1 h0 h1 (by omega)).mono ?_
  rintro e w2 ⟨p2, c2, rfl, k2, hb2⟩
  have hb02 := hb1.trans (hb2.mono hb1.size)
  go_wp2_with fail
  refine (rfirst_any _ a n _ (ha.later hb02) h0 h1 hsz).mono ?_
  rintro e w3 ⟨p3, c3, rfl, k3, hb3⟩
  have hb03 := hb02.trans (hb3.mono hb02.size)
  go_wp2_with fail
  refine (equal_t _ _ (firstF a n) (firstF a n) _ (k2.later hb3) k3 rfl).mono ?_
  rintro e w4 ⟨rfl, rfl⟩
  have k13 := (k1.later hb2).later hb3
  clear k1 k2 k3 hb1 hb2 hb3 hb02
  go_wp2_with fail
  refine (common_any _ _ a b _ (ha.later hb03) (hb.later hb03) (by omega)).mono ?_
  rintro e w5 ⟨rfl, hb5⟩
  have hb05 := hb03.trans (hb5.mono hb03.size)
  have k15 := k13.later hb5
  clear k13 hb5 hb03
  go_wp2_with fail
  refine (rcommon_any _ _ a b _ (ha.later hb05) (hb.later hb05) (by omega)).mono ?_
  rintro e w6 ⟨rfl, rfl⟩
  go_wp2_with fail
  refine (begins_any _ _ a b n _ (ha.later hb05) (hb.later hb05) (by omega)).mono ?_
  rintro e w7 ⟨rfl, hb7⟩
  have hb07 := hb05.trans (hb7.mono hb05.size)
  have k17 := k15.later hb7
  clear k15 hb7 hb05
  go_wp2_with fail
  refine (rbegins_any _ _ a b n _ (ha.later hb07) (hb.later hb07) h0 h1 hsz hsb).mono ?_
  rintro e w8 ⟨rfl, hb8⟩
  have hb08 := hb07.trans (hb8.mono hb07.size)
  have k18 := k17.later hb8
  obtain ⟨B, hB⟩ : ∃ B, decide (n ≤ (com a b : Int)) = B := ⟨_, rfl⟩
  rw [hB]
  clear k17 hb8 hb07 hB
  have hBB : (B == B) = true := by simp
  go_wp2_with fail
  refine (equal_t _ _ a a _ k18 (ha.later hb08) rfl).mono ?_
  rintro e w9 ⟨rfl, rfl⟩
  go_wp2_with fail
  refine (bitsAwake_any _).mono ?_
  rintro e w10 ⟨rfl, hb10⟩
  have hb010 := hb08.trans (hb10.mono hb08.size)
  go_wp2
  go_ret
  exact ⟨rfl, hb010⟩

end Go.Proofs.Ythbkkddfklbhlaa
