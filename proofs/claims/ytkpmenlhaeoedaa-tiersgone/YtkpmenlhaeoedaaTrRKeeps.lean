/- What this text proves: the walk of the document's Keeps (layer 21) over this program. -/
import Derived.Test.YtkpmenlhaeoedaaTrKeeps
import Derived.BigGuardPart
namespace Go.Proofs.Ytkpmenlhaeoedaa
open Go.RowKit

set_option maxRecDepth 100000 in
set_option maxHeartbeats 2000000 in
theorem rkeeps_any (l e : Int) (hl : l < 9223372036854775808) (w : World) :
    Calls Try.prog 7 #[.int .i64 l, .int .i64 e] w fun x w' => x = .returned (.bool (kpB l e)) ∧ Below w.heap.size w w' := by
  by_cases h1 : e < 0
  · rw [kpB_out l e (by omega)]
    go_enter Try.func7, Try.ntmps7
    go_wp2
    go_ret
    exact ⟨rfl, Below.refl _ _⟩
  · by_cases h2 : l < e
    · rw [kpB_out l e (by omega)]
      go_enter Try.func7, Try.ntmps7
      go_wp2
      go_ret
      exact ⟨rfl, Below.refl _ _⟩
    · obtain ⟨n, rfl⟩ : ∃ n : Nat, e = (n : Int) := ⟨e.toNat, by omega⟩
      obtain ⟨m, rfl⟩ : ∃ m : Nat, l = (m : Int) := ⟨l.toNat, by omega⟩
      rw [kpB_nat]
      have hnm : n ≤ m := by omega
      have e64 : Int.tmod (n : Int) 64 = ((n % 64 : Nat) : Int) := mod_nat n 64
      have e16 : Int.tmod (n : Int) 16 = ((n % 16 : Nat) : Int) := mod_nat n 16
      have e4 : Int.tmod (n : Int) 4 = ((n % 4 : Nat) : Int) := mod_nat n 4
      have HR : Hid (kpN m n = decide (((n % 64 : Nat) : Int) = 0 ∨ (((n % 16 : Nat) : Int) = 0 ∧ (m : Int) - n < 64) ∨ (((n % 4 : Nat) : Int) = 0 ∧ (m : Int) - n < 16) ∨ (m : Int) - n < 4)) := by
        show _ = _
        unfold kpN
        apply decide_eq_decide.2
        omega
      rw [HR.out]
      clear HR
      generalize ((n % 64 : Nat) : Int) = A at *
      generalize ((n % 16 : Nat) : Int) = B at *
      generalize ((n % 4 : Nat) : Int) = C at *
      obtain ⟨D, hD⟩ : ∃ D : Int, (m : Int) - n = D := ⟨_, rfl⟩
      rw [hD]
      obtain ⟨R, HR⟩ : ∃ R, Hid (decide (A = 0 ∨ B = 0 ∧ D < 64 ∨ C = 0 ∧ D < 16 ∨ D < 4) = R) := ⟨_, rfl⟩
      rw [HR.out]
      go_enter Try.func7, Try.ntmps7
      rcases Decidable.em (A = 0) with rfl | a1
      · obtain rfl : true = R := by rw [← HR.out]; exact (decide_eq_true (by omega)).symm
        clear HR
        go_wp2
        go_ret
        exact ⟨rfl, Below.refl _ _⟩
      · have a2 : (A == 0) = false := beq_eq_false_iff_ne.2 a1
        rcases Decidable.em (B = 0) with rfl | b1
        · rcases Decidable.em (D < 64) with d1 | d1
          · have d2 : decide (D < 64) = true := decide_eq_true d1
            obtain rfl : true = R := by rw [← HR.out]; exact (decide_eq_true (by omega)).symm
            clear HR
            go_wp2
            go_ret
            exact ⟨rfl, Below.refl _ _⟩
          · have d2 : decide (D < 64) = false := decide_eq_false d1
            have d3 : decide (D < 16) = false := decide_eq_false (by omega)
            have d4 : decide (D < 4) = false := decide_eq_false (by omega)
            obtain rfl : false = R := by rw [← HR.out]; exact (decide_eq_false (by omega)).symm
            clear HR
            rcases Decidable.em (C = 0) with rfl | c1
            · go_wp2
              go_ret
              exact ⟨rfl, Below.refl _ _⟩
            · have c2 : (C == 0) = false := beq_eq_false_iff_ne.2 c1
              go_wp2
              go_ret
              exact ⟨rfl, Below.refl _ _⟩
        · have b2 : (B == 0) = false := beq_eq_false_iff_ne.2 b1
          rcases Decidable.em (C = 0) with rfl | c1
          · rcases Decidable.em (D < 16) with d1 | d1
            · have d2 : decide (D < 16) = true := decide_eq_true d1
              obtain rfl : true = R := by rw [← HR.out]; exact (decide_eq_true (by omega)).symm
              clear HR
              go_wp2
              go_ret
              exact ⟨rfl, Below.refl _ _⟩
            · have d2 : decide (D < 16) = false := decide_eq_false d1
              have d4 : decide (D < 4) = false := decide_eq_false (by omega)
              obtain rfl : false = R := by rw [← HR.out]; exact (decide_eq_false (by omega)).symm
              clear HR
              go_wp2
              go_ret
              exact ⟨rfl, Below.refl _ _⟩
          · have c2 : (C == 0) = false := beq_eq_false_iff_ne.2 c1
            rcases Decidable.em (D < 4) with d1 | d1
            · have d2 : decide (D < 4) = true := decide_eq_true d1
              obtain rfl : true = R := by rw [← HR.out]; exact (decide_eq_true (by omega)).symm
              clear HR
              go_wp2
              go_ret
              exact ⟨rfl, Below.refl _ _⟩
            · have d2 : decide (D < 4) = false := decide_eq_false d1
              obtain rfl : false = R := by rw [← HR.out]; exact (decide_eq_false (by omega)).symm
              clear HR
              go_wp2
              go_ret
              exact ⟨rfl, Below.refl _ _⟩

end Go.Proofs.Ytkpmenlhaeoedaa
