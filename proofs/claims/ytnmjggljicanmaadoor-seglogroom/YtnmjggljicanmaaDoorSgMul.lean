/- What this text proves: the walk of math/bits.Mul over this program: of 1 and a small number. -/
import Derived.Test.YtnmjggljicanmaaDoorDRepeat
namespace Go.Proofs.YtnmjggljicanmaaDoor
open Go.RowKit

theorem and_calc : ∀ a : Fin 64, ∀ b : Fin 64, bits BinOp.and IntKind.u64 ((64 * a.val + b.val : Nat) : Int) 4294967295 = ((64 * a.val + b.val : Nat) : Int) := by decide +kernel

theorem and_small (n : Nat) (h : n ≤ 4000) : bits BinOp.and IntKind.u64 (n : Int) 4294967295 = (n : Int) := by
  have := and_calc ⟨n / 64, by omega⟩ ⟨n % 64, by omega⟩
  rw [show 64 * (n / 64) + n % 64 = n by omega] at this
  exact this

set_option maxRecDepth 100000 in
set_option maxHeartbeats 4000000 in
theorem mul_small (n : Nat) (hn : n ≤ 4000) (W : World) : Calls Tryd.prog 24 #[.int .u64 1, .int .u64 (n : Int)] W fun e w' => e = .returned (.tuple #[.int .u64 0, .int .u64 (n : Int)]) ∧ w' = W := by
  have h1 : bits BinOp.and IntKind.u64 1 4294967295 = 1 := by decide +kernel
  have h2 : bits BinOp.and IntKind.u64 (n : Int) 4294967295 = (n : Int) := and_small n hn
  have h3 : (n : Int) / 4294967296 = 0 := by omega
  have h4 : bits BinOp.and IntKind.u64 0 4294967295 = 0 := by decide +kernel
  have h5 : IntKind.u64.wrap (n : Int) = (n : Int) := by rw [IntKind.wrap_u64]; omega
  have h6 : IntKind.u64.wrap 0 = 0 := by decide +kernel
  go_enter Tryd.func24, Tryd.ntmps24
  go_wp2
  go_ret2
  first | exact ⟨rfl, rfl⟩ | simp [h1, h2, h3, h4, h5, h6]

end Go.Proofs.YtnmjggljicanmaaDoor
