/- What this text proves: the walks of tiers.Keeps and of the document's Keeps over this program: both tell the same plain function. -/
import Derived.Test.YtkpmenlhaeoedaaIntsEq
namespace Go.Proofs.Ytkpmenlhaeoedaa
open Go.RowKit

/-- Whether the epoch n is retained behind m. -/
def kpN (m n : Nat) : Bool := decide (n ≤ m ∧ (n % 64 = 0 ∨ (n % 16 = 0 ∧ m < n + 64) ∨ (n % 4 = 0 ∧ m < n + 16) ∨ m < n + 4))

/-- Whether the epoch e is retained behind l. -/
def kpB (l e : Int) : Bool := decide (0 ≤ e ∧ e ≤ l) && kpN l.toNat e.toNat

theorem kpB_nat (m n : Nat) : kpB (m : Int) (n : Int) = kpN m n := by
  unfold kpB
  by_cases h : n ≤ m
  · have : (0 : Int) ≤ n ∧ (n : Int) ≤ m := by omega
    simp [this]
  · have h1 : ¬ ((0 : Int) ≤ n ∧ (n : Int) ≤ m) := by omega
    have h2 : kpN m n = false := by unfold kpN; exact decide_eq_false (fun q => h q.1)
    rw [h2, decide_eq_false h1]
    rfl

theorem kpB_out (l e : Int) (h : ¬ (0 ≤ e ∧ e ≤ l)) : kpB l e = false := by
  unfold kpB
  rw [decide_eq_false h]
  rfl

theorem mod_nat (n k : Nat) : Int.tmod (n : Int) (k : Int) = ((n % k : Nat) : Int) := by
  rw [Int.tmod_eq_emod_of_nonneg (by omega)]
  omega

set_option maxRecDepth 100000 in
set_option maxHeartbeats 1000000 in
theorem holds_any (s a m n : Nat) (hs : 0 < s) (ha : a < 1000) (hm : m < 9223372036854775808) (w : World) :
    Calls Try.prog 16 #[.agg #[.int .i64 (s : Int), .int .i64 (a : Int)], .int .i64 (m : Int), .int .i64 (n : Int)] w fun x w' => x = .returned (.bool (decide (n % s = 0 ∧ m < n + a))) ∧ Below w.heap.size w w' := by
  have hs0 : ¬ ((s : Int) = 0) := by omega
  have hmod := mod_nat n s
  have hbe := (Below.refl w.heap.size w).alloc (Nat.le_refl _) (.cells #[.int .i64 (s : Int), .int .i64 (a : Int)] 33)
  go_enter Try.func16, Try.ntmps16
  by_cases h1 : n % s = 0
  · have e1 : decide (n % s = 0 ∧ m < n + a) = decide ((m : Int) - (a : Int) < (n : Int)) := by
      apply decide_eq_decide.2
      constructor
      · intro h; omega
      · intro h; exact ⟨h1, by omega⟩
    rw [e1]
    clear e1
    go_wp2
    go_ret
    exact ⟨rfl, hbe⟩
  · have e1 : decide (n % s = 0 ∧ m < n + a) = false := decide_eq_false (fun h => h1 h.1)
    rw [e1]
    clear e1
    have h2 : ¬ (((n % s : Nat) : Int) = 0) := by omega
    go_wp2
    go_ret
    exact ⟨rfl, hbe⟩

/-- An index into an array by value whose run is known. -/
theorem wpList_indexes {P : Program} {w : World} {ops : Array Oper} {rest : List Oper} {o : Oper} {a : Act} {Q : Exit → Act → World → Prop} (hgd : o.guard = none) (t : TypeId) (x i : Operand) (ho : o.op = .index t x i)
    (v : Value) (hl : (Instr.index t (a.eval x) (a.eval i)).run P w = .ok v w) (h : wpList P ops Q rest (a.put o.dst v) w) : wpList P ops Q (o :: rest) a w := by
  unfold wpList
  rw [if_pos (by simp [Region.wanted, hgd])]
  refine .inl ?_
  unfold Oper.wp execOp
  simp only [ho, Sem.run_bind, hl, Result.andThen_ok]
  exact h

theorem idx3 (C : Array Value) (k : Nat) (hk : k < 3) (w : World) : (Instr.index 34 (.agg C) (.int .i64 (k : Int))).run Try.prog w = .ok (.agg (C.extract (k * 2) (k * 2 + 2))) w := by
  simp [Instr.index, run_underlying Try.underlying34, asIntOf, go_sem]
  intro
  omega

theorem kpN_yes {m n : Nat} (h : n ≤ m) (q : n % 64 = 0 ∨ (n % 16 = 0 ∧ m < n + 64) ∨ (n % 4 = 0 ∧ m < n + 16) ∨ m < n + 4) : kpN m n = true := decide_eq_true ⟨h, q⟩

theorem kpN_last {m n : Nat} (h : n ≤ m) (q : ¬ ((n % 16 = 0 ∧ m < n + 64) ∨ (n % 4 = 0 ∧ m < n + 16) ∨ m < n + 4)) : kpN m n = decide (n % 64 = 0) := by
  unfold kpN
  apply decide_eq_decide.2
  constructor
  · rintro ⟨_, h1 | h1⟩
    · exact h1
    · exact absurd h1 q
  · intro h1
    exact ⟨h, .inl h1⟩

set_option maxRecDepth 100000 in
set_option maxHeartbeats 2000000 in
theorem keeps_any (l e : Int) (hl : l < 9223372036854775808) (w : World) :
    Calls Try.prog 6 #[.int .i64 l, .int .i64 e] w fun x w' => x = .returned (.bool (kpB l e)) ∧ Below w.heap.size w w' := by
  by_cases h1 : e < 0
  · rw [kpB_out l e (by omega)]
    go_enter Try.func6, Try.ntmps6
    go_wp2
    go_ret
    exact ⟨rfl, Below.refl _ _⟩
  · by_cases h2 : l < e
    · rw [kpB_out l e (by omega)]
      go_enter Try.func6, Try.ntmps6
      go_wp2
      go_ret
      exact ⟨rfl, Below.refl _ _⟩
    · obtain ⟨n, rfl⟩ : ∃ n : Nat, e = (n : Int) := ⟨e.toNat, by omega⟩
      obtain ⟨m, rfl⟩ : ∃ m : Nat, l = (m : Int) := ⟨l.toNat, by omega⟩
      rw [kpB_nat]
      have hnm : n ≤ m := by omega
      have c0 : ∀ w, Calls Try.prog 16 #[.agg #[.int .i64 1, .int .i64 4], .int .i64 (m : Int), .int .i64 (n : Int)] w fun x w' => x = .returned (.bool (decide (n % 1 = 0 ∧ m < n + 4))) ∧ Below w.heap.size w w' := fun w => holds_any 1 4 m n (by omega) (by omega) (by omega) w
      have c1 : ∀ w, Calls Try.prog 16 #[.agg #[.int .i64 4, .int .i64 16], .int .i64 (m : Int), .int .i64 (n : Int)] w fun x w' => x = .returned (.bool (decide (n % 4 = 0 ∧ m < n + 16))) ∧ Below w.heap.size w w' := fun w => holds_any 4 16 m n (by omega) (by omega) (by omega) w
      have c2 : ∀ w, Calls Try.prog 16 #[.agg #[.int .i64 16, .int .i64 64], .int .i64 (m : Int), .int .i64 (n : Int)] w fun x w' => x = .returned (.bool (decide (n % 16 = 0 ∧ m < n + 64))) ∧ Below w.heap.size w w' := fun w => holds_any 16 64 m n (by omega) (by omega) (by omega) w
      have H0 : Hid (n % 1 = 0 ∧ m < n + 4 → kpN m n = true) := fun h => kpN_yes hnm (.inr (.inr (.inr h.2)))
      have H1 : Hid (n % 4 = 0 ∧ m < n + 16 → kpN m n = true) := fun h => kpN_yes hnm (.inr (.inr (.inl h)))
      have H2 : Hid (n % 16 = 0 ∧ m < n + 64 → kpN m n = true) := fun h => kpN_yes hnm (.inr (.inl h))
      have HZ : Hid (¬ (n % 1 = 0 ∧ m < n + 4) → ¬ (n % 4 = 0 ∧ m < n + 16) → ¬ (n % 16 = 0 ∧ m < n + 64) → kpN m n = decide (n % 64 = 0)) := fun q0 q1 q2 => kpN_last hnm (by omega)
      have em : Int.tmod (n : Int) 64 = ((n % 64 : Nat) : Int) := mod_nat n 64
      generalize kpN m n = R at *
      go_enter Try.func6, Try.ntmps6
      go_wp2
      go_loopw [18] (fun v wr => ∃ k : Nat, k ≤ 3 ∧ v = .int .i64 k ∧ Hid (1 ≤ k → ¬ (n % 1 = 0 ∧ m < n + 4)) ∧ Hid (2 ≤ k → ¬ (n % 4 = 0 ∧ m < n + 16)) ∧ Hid (3 ≤ k → ¬ (n % 16 = 0 ∧ m < n + 64)) ∧ Below w.heap.size w wr) (fun v _ => 3 - (intOf v).toNat)
      case atStart => exact ⟨0, by omega, rfl, fun h => absurd h (by omega), fun h => absurd h (by omega), fun h => absurd h (by omega), Below.refl _ _⟩
      case round =>
        obtain ⟨k, hk, rfl, q0, q1, q2, hbe⟩ := hrel
        have hsz := hbe.size
        rcases (by omega : k = 0 ∨ k = 1 ∨ k = 2 ∨ k = 3) with rfl | rfl | rfl | rfl
        · have hba := hbe.alloc hsz (.cells #[.int .i64 1, .int .i64 4] 33)
          have hix : (Instr.index 34 (.agg #[.int .i64 1, .int .i64 4, .int .i64 4, .int .i64 16, .int .i64 16, .int .i64 64]) (.int .i64 0)).run Try.prog wr = .ok (.agg #[.int .i64 1, .int .i64 4]) wr := idx3 _ 0 (by omega) wr
          have hC := c0 (wr.alloc (.cells #[.int .i64 1, .int .i64 4] 33))
          clear c0 c1 c2
          go_wp2_with (first | refine wpList_indexes rfl 34 _ _ rfl _ hix ?_ | fail)
          refine hC.mono ?_
          rintro x w1 ⟨rfl, b1⟩
          have bb := hba.trans (b1.mono hba.size)
          by_cases hh : n % 1 = 0 ∧ m < n + 4
          · have hR := H0.out hh
            rw [decide_eq_true hh]
            clear H0 H1 H2 HZ hh hC
            subst hR
            go_wp2
            go_ret
            exact ⟨rfl, bb⟩
          · rw [decide_eq_false hh]
            have HH : Hid (¬ (n % 1 = 0 ∧ m < n + 4)) := hh
            clear hh hC
            go_wp2
            go_roundw
            case rel => first | exact ⟨1, by omega, rfl, fun _ => HH.out, fun h => absurd h (by omega), fun h => absurd h (by omega), bb⟩ | ((repeat apply Exists.intro); exact ⟨⟨1, by omega, rfl, fun _ => HH.out, fun h => absurd h (by omega), fun h => absurd h (by omega), bb⟩, rfl⟩)
            case measure => simp [intOf]
        · have hba := hbe.alloc hsz (.cells #[.int .i64 4, .int .i64 16] 33)
          have hix : (Instr.index 34 (.agg #[.int .i64 1, .int .i64 4, .int .i64 4, .int .i64 16, .int .i64 16, .int .i64 64]) (.int .i64 1)).run Try.prog wr = .ok (.agg #[.int .i64 4, .int .i64 16]) wr := idx3 _ 1 (by omega) wr
          have hC := c1 (wr.alloc (.cells #[.int .i64 4, .int .i64 16] 33))
          clear c0 c1 c2
          go_wp2_with (first | refine wpList_indexes rfl 34 _ _ rfl _ hix ?_ | fail)
          refine hC.mono ?_
          rintro x w1 ⟨rfl, b1⟩
          have bb := hba.trans (b1.mono hba.size)
          by_cases hh : n % 4 = 0 ∧ m < n + 16
          · have hR := H1.out hh
            rw [decide_eq_true hh]
            clear H0 H1 H2 HZ hh hC
            subst hR
            go_wp2
            go_ret
            exact ⟨rfl, bb⟩
          · rw [decide_eq_false hh]
            have HH : Hid (¬ (n % 4 = 0 ∧ m < n + 16)) := hh
            clear hh hC
            go_wp2
            go_roundw
            case rel => first | exact ⟨2, by omega, rfl, fun _ => q0.out (by omega), fun _ => HH.out, fun h => absurd h (by omega), bb⟩ | ((repeat apply Exists.intro); exact ⟨⟨2, by omega, rfl, fun _ => q0.out (by omega), fun _ => HH.out, fun h => absurd h (by omega), bb⟩, rfl⟩)
            case measure => simp [intOf]
        · have hba := hbe.alloc hsz (.cells #[.int .i64 16, .int .i64 64] 33)
          have hix : (Instr.index 34 (.agg #[.int .i64 1, .int .i64 4, .int .i64 4, .int .i64 16, .int .i64 16, .int .i64 64]) (.int .i64 2)).run Try.prog wr = .ok (.agg #[.int .i64 16, .int .i64 64]) wr := idx3 _ 2 (by omega) wr
          have hC := c2 (wr.alloc (.cells #[.int .i64 16, .int .i64 64] 33))
          clear c0 c1 c2
          go_wp2_with (first | refine wpList_indexes rfl 34 _ _ rfl _ hix ?_ | fail)
          refine hC.mono ?_
          rintro x w1 ⟨rfl, b1⟩
          have bb := hba.trans (b1.mono hba.size)
          by_cases hh : n % 16 = 0 ∧ m < n + 64
          · have hR := H2.out hh
            rw [decide_eq_true hh]
            clear H0 H1 H2 HZ hh hC
            subst hR
            go_wp2
            go_ret
            exact ⟨rfl, bb⟩
          · rw [decide_eq_false hh]
            have HH : Hid (¬ (n % 16 = 0 ∧ m < n + 64)) := hh
            clear hh hC
            go_wp2
            go_roundw
            case rel => first | exact ⟨3, by omega, rfl, fun _ => q0.out (by omega), fun _ => q1.out (by omega), fun _ => HH.out, bb⟩ | ((repeat apply Exists.intro); exact ⟨⟨3, by omega, rfl, fun _ => q0.out (by omega), fun _ => q1.out (by omega), fun _ => HH.out, bb⟩, rfl⟩)
            case measure => simp [intOf]
        · have hR := HZ.out (q0.out (by omega)) (q1.out (by omega)) (q2.out (by omega))
          clear H0 H1 H2 HZ c0 c1 c2 q0 q1 q2
          have eR : R = decide (((n % 64 : Nat) : Int) = 0) := by rw [hR]; apply decide_eq_decide.2; omega
          clear hR
          subst eR
          go_wp2
          go_ret
          exact ⟨rfl, hbe⟩

end Go.Proofs.Ytkpmenlhaeoedaa
