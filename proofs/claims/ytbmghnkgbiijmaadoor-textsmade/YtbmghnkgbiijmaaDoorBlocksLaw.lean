/- What this text proves: the walk of the statement ShaBlocks over this program: it answers true for any number, where the two tables lie in their variables. -/
import Derived.Test.YtbmghnkgbiijmaaDoorShaAwake
namespace Go.Proofs.YtbmghnkgbiijmaaDoor
open Go.RowKit

theorem modk (n : Int) (m : Nat) (h0 : 0 < m) (h1 : m ≤ 4611686018427387904) : ∃ k : Nat, k < m ∧ wrap64 ((IntKind.u64.wrap n).tmod (m : Int)) = (k : Int) := by
  have e : IntKind.u64.wrap n = n % 18446744073709551616 := by simp [IntKind.wrap, IntKind.bits, IntKind.signed]
  have hp : 0 ≤ IntKind.u64.wrap n := by rw [e]; omega
  have h2 : (IntKind.u64.wrap n).tmod (m : Int) = IntKind.u64.wrap n % (m : Int) := Int.tmod_eq_emod_of_nonneg hp
  have h3 : 0 ≤ IntKind.u64.wrap n % (m : Int) := Int.emod_nonneg _ (by omega)
  have h4 : IntKind.u64.wrap n % (m : Int) < (m : Int) := Int.emod_lt_of_pos _ (by omega)
  refine ⟨(IntKind.u64.wrap n % (m : Int)).toNat, by omega, ?_⟩
  rw [h2, IntWalk.wrap64_in _ ⟨by omega, by omega⟩]
  omega

set_option maxHeartbeats 1000000 in
theorem blocksWalk (n : Int) (w : World) (hT : Tabs w) : Calls Tryd.prog 5 #[.int .i64 n] w fun e w' => e = .returned (.bool true) ∧ Below w.heap.size w w' := by
  obtain ⟨k, hk, ek⟩ := modk n 100000 (by decide) (by decide)
  have EK : Hid (wrap64 ((IntKind.u64.wrap n).tmod 100000) = (k : Int)) := ek
  clear ek
  have hb : blocks k = (k + 72) / 64 := rfl
  have hb1 : ((blocks k : Nat) : Int) ≤ 1600 := by omega
  have hb2 : (k : Int) + 9 ≤ 64 * ((blocks k : Nat) : Int) := by omega
  have hb3 : decide ((k : Int) + 9 ≤ 64 * ((blocks k : Nat) : Int)) = true := by simpa using hb2
  clear hb
  go_enter Tryd.func5, Tryd.ntmps5
  go_wp2_with fail
  rw [EK.out]
  refine (blocks_any k _ (by omega)).mono ?_
  rintro e w' ⟨rfl, hw⟩
  have hw2 := hw.symm
  subst hw2
  clear hw
  go_wp2_with fail
  refine (rblocks_any k _ (by omega)).mono ?_
  rintro e w' ⟨rfl, hw⟩
  have hw2 := hw.symm
  subst hw2
  clear hw
  go_wp2_with fail
  refine (blocks_neg _ _ (by omega)).mono ?_
  rintro e w' ⟨rfl, hw⟩
  have hw2 := hw.symm
  subst hw2
  clear hw
  go_wp2_with fail
  refine (blocks_any k _ (by omega)).mono ?_
  rintro e w' ⟨rfl, hw⟩
  have hw2 := hw.symm
  subst hw2
  clear hw
  go_wp2_with fail
  refine (shaAwake_any _ hT).mono ?_
  rintro e w6 ⟨rfl, hb6⟩
  go_wp2
  go_ret
  exact ⟨rfl, hb6⟩

end Go.Proofs.YtbmghnkgbiijmaaDoor
