/- What this text proves: the walks of tiers.Nearest and of the document's Nearest over this program. -/
import Derived.Test.YtkpmenlhaeoedaaTrRKeeps
namespace Go.Proofs.Ytkpmenlhaeoedaa
open Go.RowKit

/-- The last retained epoch not above n, behind m. -/
def nrN (m : Nat) : Nat → Nat
  | 0 => 0
  | n + 1 => if kpN m (n + 1) = true then n + 1 else nrN m n

theorem kpN_zero (m : Nat) : kpN m 0 = true := kpN_yes (Nat.zero_le _) (.inl rfl)

theorem nrN_yes {m n : Nat} (h : kpN m n = true) : nrN m n = n := by
  cases n with
  | zero => rfl
  | succ n => rw [nrN, if_pos h]

theorem nrN_no {m n : Nat} (h : kpN m n = false) : 0 < n ∧ nrN m n = nrN m (n - 1) := by
  cases n with
  | zero => rw [kpN_zero] at h; cases h
  | succ n => exact ⟨by omega, by rw [nrN, if_neg (by rw [h]; decide)]; rfl⟩

theorem nrN_le (m : Nat) : ∀ n, nrN m n ≤ n := by
  intro n
  induction n with
  | zero => exact Nat.le_refl _
  | succ n ih =>
    rw [nrN]
    split <;> omega

theorem nrN_kept (m : Nat) : ∀ n, kpN m (nrN m n) = true := by
  intro n
  induction n with
  | zero => exact kpN_zero m
  | succ n ih =>
    rw [nrN]
    split
    · assumption
    · exact ih

/-- The answer of Nearest. -/
def nrI (l e : Int) : Int := if 0 ≤ e ∧ e ≤ l then (nrN l.toNat e.toNat : Int) else -1

theorem nrI_nat {m n : Nat} (h : n ≤ m) : nrI (m : Int) (n : Int) = (nrN m n : Int) := by
  unfold nrI
  rw [if_pos (by omega)]
  simp

theorem nrI_out (l e : Int) (h : ¬ (0 ≤ e ∧ e ≤ l)) : nrI l e = -1 := if_neg h

set_option maxRecDepth 100000 in
set_option maxHeartbeats 2000000 in
theorem nearest_any (l e : Int) (hl : l < 9223372036854775808) (w : World) :
    Calls Try.prog 8 #[.int .i64 l, .int .i64 e] w fun x w' => x = .returned (.int .i64 (nrI l e)) ∧ Below w.heap.size w w' := by
  by_cases h1 : e < 0
  · rw [nrI_out l e (by omega)]
    go_enter Try.func8, Try.ntmps8
    go_wp2
    go_ret
    exact ⟨rfl, Below.refl _ _⟩
  · by_cases h2 : l < e
    · rw [nrI_out l e (by omega)]
      go_enter Try.func8, Try.ntmps8
      go_wp2
      go_ret
      exact ⟨rfl, Below.refl _ _⟩
    · obtain ⟨n, rfl⟩ : ∃ n : Nat, e = (n : Int) := ⟨e.toNat, by omega⟩
      obtain ⟨m, rfl⟩ : ∃ m : Nat, l = (m : Int) := ⟨l.toNat, by omega⟩
      have hnm : n ≤ m := by omega
      rw [nrI_nat hnm]
      have hc : ∀ (k : Nat) (w : World), Calls Try.prog 6 #[.int .i64 (m : Int), .int .i64 (k : Int)] w fun x w' => x = .returned (.bool (kpN m k)) ∧ Below w.heap.size w w' := fun k w => by rw [← kpB_nat]; exact keeps_any m k hl w
      obtain ⟨R, HR⟩ : ∃ R, Hid (nrN m n = R) := ⟨_, rfl⟩
      rw [HR.out]
      go_enter Try.func8, Try.ntmps8
      go_wp2
      go_loopw [5] (fun v wr => ∃ k : Nat, k ≤ n ∧ v = .int .i64 k ∧ Hid (nrN m k = R) ∧ Below w.heap.size w wr) (fun v _ => (intOf v).toNat)
      case atStart => exact ⟨n, Nat.le_refl _, rfl, HR, Below.refl _ _⟩
      case round =>
        obtain ⟨k, hk, rfl, hN, hbe⟩ := hrel
        have hC := hc k wr
        have Hy : Hid (kpN m k = true → k = R) := fun h => (nrN_yes h).symm.trans hN.out
        have Hn : Hid (kpN m k = false → 0 < k ∧ nrN m (k - 1) = R) := fun h => ⟨(nrN_no h).1, (nrN_no h).2.symm.trans hN.out⟩
        generalize kpN m k = b at *
        clear hc hN HR
        go_wp2_with fail
        refine hC.mono ?_
        rintro x w1 ⟨rfl, b1⟩
        have bb := hbe.trans (b1.mono hbe.size)
        clear hC
        cases b with
        | true =>
          obtain rfl := Hy.out rfl
          clear Hy Hn
          go_wp2
          go_ret
          exact ⟨rfl, bb⟩
        | false =>
          obtain ⟨hk0, hE0⟩ := Hn.out rfl
          have hE : Hid (nrN m (k - 1) = R) := hE0
          have es : (k : Int) - 1 = ((k - 1 : Nat) : Int) := by omega
          clear Hy Hn hE0
          go_wp2
          go_roundw
          case rel => first | exact ⟨k - 1, by omega, by go_num, hE, bb⟩ | ((repeat apply Exists.intro); exact ⟨⟨k - 1, by omega, by go_num, hE, bb⟩, rfl⟩)
          case measure => simp [intOf]; omega

set_option maxRecDepth 100000 in
set_option maxHeartbeats 2000000 in
theorem rnearest_any (l e : Int) (hl : l < 9223372036854775808) (w : World) :
    Calls Try.prog 9 #[.int .i64 l, .int .i64 e] w fun x w' => x = .returned (.int .i64 (nrI l e)) ∧ Below w.heap.size w w' := by
  by_cases h1 : e < 0
  · rw [nrI_out l e (by omega)]
    go_enter Try.func9, Try.ntmps9
    go_wp2
    go_ret
    exact ⟨rfl, Below.refl _ _⟩
  · by_cases h2 : l < e
    · rw [nrI_out l e (by omega)]
      go_enter Try.func9, Try.ntmps9
      go_wp2
      go_ret
      exact ⟨rfl, Below.refl _ _⟩
    · obtain ⟨n, rfl⟩ : ∃ n : Nat, e = (n : Int) := ⟨e.toNat, by omega⟩
      obtain ⟨m, rfl⟩ : ∃ m : Nat, l = (m : Int) := ⟨l.toNat, by omega⟩
      have hnm : n ≤ m := by omega
      rw [nrI_nat hnm]
      have hc : ∀ (k : Nat) (w : World), Calls Try.prog 7 #[.int .i64 (m : Int), .int .i64 (k : Int)] w fun x w' => x = .returned (.bool (kpN m k)) ∧ Below w.heap.size w w' := fun k w => by rw [← kpB_nat]; exact rkeeps_any m k hl w
      obtain ⟨R, HR⟩ : ∃ R, Hid (nrN m n = R) := ⟨_, rfl⟩
      rw [HR.out]
      go_enter Try.func9, Try.ntmps9
      go_wp2
      go_loopw [1] (fun v wr => ∃ k : Nat, k ≤ n ∧ v = .int .i64 k ∧ Hid (nrN m k = R) ∧ Below w.heap.size w wr) (fun v _ => (intOf v).toNat)
      case atStart => exact ⟨n, Nat.le_refl _, rfl, HR, Below.refl _ _⟩
      case round =>
        obtain ⟨k, hk, rfl, hN, hbe⟩ := hrel
        have hC := hc k wr
        have Hy : Hid (kpN m k = true → k = R) := fun h => (nrN_yes h).symm.trans hN.out
        have Hn : Hid (kpN m k = false → 0 < k ∧ nrN m (k - 1) = R) := fun h => ⟨(nrN_no h).1, (nrN_no h).2.symm.trans hN.out⟩
        generalize kpN m k = b at *
        clear hc hN HR
        go_wp2_with fail
        refine hC.mono ?_
        rintro x w1 ⟨rfl, b1⟩
        have bb := hbe.trans (b1.mono hbe.size)
        clear hC
        cases b with
        | true =>
          obtain rfl := Hy.out rfl
          clear Hy Hn
          go_wp2
          go_ret
          exact ⟨rfl, bb⟩
        | false =>
          obtain ⟨hk0, hE0⟩ := Hn.out rfl
          have hE : Hid (nrN m (k - 1) = R) := hE0
          have es : (k : Int) - 1 = ((k - 1 : Nat) : Int) := by omega
          clear Hy Hn hE0
          go_wp2
          go_roundw
          case rel => first | exact ⟨k - 1, by omega, by go_num, hE, bb⟩ | ((repeat apply Exists.intro); exact ⟨⟨k - 1, by omega, by go_num, hE, bb⟩, rfl⟩)
          case measure => simp [intOf]; omega

end Go.Proofs.Ytkpmenlhaeoedaa
