/- What this text holds: a plain fact on a number in eight bytes. What this text proves: the walk of texts.Number over this program: a number in eight bytes. -/
import Derived.Test.YtcdikkgkjjopmaaGreatDoorShaVocab
import Derived.Test.YtcdikkgkjjopmaaGreatDoorSum
namespace Go.Proofs.YtcdikkgkjjopmaaGreatDoor
theorem be64_get (n k : Nat) (hk : k < 8) : (be64 n)[k]? = some (UInt8.ofNat (n / 2 ^ (8 * (7 - k)))) := by simp [be64, hk]
end Go.Proofs.YtcdikkgkjjopmaaGreatDoor

namespace Go.Proofs.YtcdikkgkjjopmaaGreatDoor
open Go.RowKit

/-- The first k bytes of a number, and noughts behind. -/
def numTo (U k : Nat) : List UInt8 := (be64 U).take k ++ List.replicate (8 - k) 0
theorem numTo_step (U k : Nat) (hk : k < 8) : (numTo U k).set k (UInt8.ofNat (U / 2 ^ (8 * (7 - k)))) = numTo U (k + 1) := by
  have hl : ((be64 U).take k).length = k := by rw [List.length_take, be64_length]; omega
  have e : 8 - k = (8 - (k + 1)) + 1 := by omega
  unfold numTo
  rw [List.set_append_right _ _ (by omega), hl, Nat.sub_self, e, List.replicate_succ, List.set_cons_zero, List.take_add_one, be64_get _ _ hk]
  simp
theorem numTo_all (U : Nat) : numTo U 8 = be64 U := by
  unfold numTo
  rw [List.take_of_length_le (by rw [be64_length]; omega)]
  simp
theorem numV (U k : Nat) (hk : k < 8) : Value.int .u8 ((U : Int) / 2 ^ (56 - 8 * k) % 256) = bc (UInt8.ofNat (U / 2 ^ (8 * (7 - k)))) := by
  unfold bc
  have e : 56 - 8 * k = 8 * (7 - k) := by omega
  rw [e, show (U : Int) / 2 ^ (8 * (7 - k)) % 256 = ((U / 2 ^ (8 * (7 - k)) % 256 : Nat) : Int) by simp]
  simp

theorem u64_nat (n : Int) : ∃ U : Nat, IntKind.u64.wrap n = (U : Int) ∧ U < 18446744073709551616 := by
  have e : IntKind.u64.wrap n = n % 18446744073709551616 := by simp [IntKind.wrap, IntKind.bits, IntKind.signed]
  exact ⟨(n % 18446744073709551616).toNat, by rw [e]; omega, by omega⟩

set_option maxRecDepth 100000 in
set_option maxHeartbeats 1000000 in
theorem number_any (n : Int) (U : Nat) (hU : IntKind.u64.wrap n = (U : Int)) (w : World) :
    Calls Tryz.prog 101 #[.int .i64 n] w fun e w' => ∃ p c, e = .returned (.slice p 8 c) ∧ HB w' (.slice p 8 c) (be64 U) ∧ Below w.heap.size w w' := by
  obtain ⟨i0, hi, hz0, hz1, hz2⟩ := info_parts i_u8
  go_enter Tryz.func101, Tryz.ntmps101
  go_wp2_with (at_make; refine wpList_make_full _ rfl _ _ 27 rfl w.heap.size 5 i0 (.int .u8 0) 1 Tryz.underlying27 hi hz0 hz1 .i64 .i64 _ _ 8 rfl rfl ?qa ?qb ?qc ?qd ?qe ?_)
  all_goals (try (first | omega | (unfold maxLen; omega) | (rw [hz2]; omega)))
  intro w1 hown1 hgrow1
  have hb1 : Below w.heap.size w w1 := (Below.refl _ w).grown hgrow1 (Nat.le_refl _) (by intro k hk; cases hk)
  have hown1' : w1.ownsRow w.heap.size 5 1 (.slice (some ⟨w.heap.size, 0, none⟩) 8 8) 8 (bcs (numTo U 0)) := by
    have e : numTo U 0 = List.replicate 8 0 := rfl
    rw [e, ← made_bcs]
    simpa using hown1
  clear hown1 hgrow1
  go_wp2
  go_loopw [8] (fun i wr => ∃ k : Nat, k ≤ 8 ∧ i = .int .i64 k ∧ wr.ownsRow w.heap.size 5 1 (.slice (some ⟨w.heap.size, 0, none⟩) 8 8) 8 (bcs (numTo U k)) ∧ Below w.heap.size w wr)
    (fun i _ => 8 - (intOf i).toNat)
  case atStart => exact ⟨0, by omega, rfl, hown1', hb1⟩
  case round =>
    clear hown1' hb1
    obtain ⟨k, hk, rfl, hown, hbe⟩ := hrel
    by_cases hlt : k < 8
    · have hlen : (numTo U k).length = 8 := by
        have := hown.1
        rw [bcs_length] at this
        omega
      have hq : (bcs (numTo U k))[k]? = some (bc ((numTo U k).getD k 0)) := by
        rw [bcs_get]
        have : k < (numTo U k).length := by omega
        simp [List.getD, this]
      have q1 := hown.cellAt k (by omega)
      rw [hq] at q1
      have qf := hown.frozenAt k
      generalize (numTo U k).getD k 0 = y at *
      have HNV : Hid (Value.int .u8 ((U : Int) / 2 ^ (56 - 8 * k) % 256) = bc (UInt8.ofNat (U / 2 ^ (8 * (7 - k))))) := numV U k hlt
      have hk8 : (k : Int) < 8 := by omega
      clear hq hlen
      unfold bc at q1
      go_wp2
      have hown2 := owns_put hown k (UInt8.ofNat (U / 2 ^ (8 * (7 - k)))) _ HNV.out
      rw [numTo_step U k hlt] at hown2
      have hb2 : Below w.heap.size w (wr.setCell ⟨w.heap.size, k, none⟩ (.int .u8 ((U : Int) / 2 ^ (56 - 8 * k) % 256))) := hbe.setCell (Nat.le_refl _) _
      clear HNV q1 qf hown hbe
      go_roundw
      case rel => first | exact ⟨k + 1, by omega, by go_num, hown2, hb2⟩ | ((repeat apply Exists.intro); exact ⟨⟨k + 1, by omega, by go_num, hown2, hb2⟩, rfl⟩)
      case measure => simp [intOf]; omega
    · have hk8 : k = 8 := by omega
      subst hk8
      rw [numTo_all] at hown
      have hh := HB.of_owns hown
      have HH : Hid (HB wr (.slice (some ⟨w.heap.size, 0, none⟩) 8 8) (be64 U)) := hh
      clear hh hown
      go_wp2
      go_ret
      exact ⟨_, _, rfl, HH.out, hbe⟩

end Go.Proofs.YtcdikkgkjjopmaaGreatDoor
