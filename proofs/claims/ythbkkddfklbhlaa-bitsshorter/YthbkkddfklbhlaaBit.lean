/- What this text proves: the walk of bits.Bit over this program: bit i of bytes, -1 if there is none; the world stays. -/
import Derived.Test.YthbkkddfklbhlaaEqual
import Derived.Test.YthbkkddfklbhlaaBitsPlain
import Derived.BigQuiet
namespace Go.Proofs.Ythbkkddfklbhlaa
open Go.RowKit

theorem bit_calc : ∀ n : Fin 256, ∀ k : Fin 8, bits BinOp.and IntKind.i64 (wrap64 ((n.val : Int) / 2 ^ (7 - k.val))) 1 = ((n.val.testBit (7 - k.val)).toNat : Int) := by decide +kernel

set_option maxHeartbeats 400000 in
theorem bit_any (v : Value) (l : List UInt8) (i : Int) (w : World) (h : HB w v l) (h0 : -9223372036854775808 ≤ i) (h1 : i ≤ 9223372036854775807) :
    Calls Try.prog 12 #[v, .int .i64 i] w fun e w' => e = .returned (.int .i64 (bitF l i)) ∧ w' = w := by
  obtain ⟨p, c, rfl⟩ := h.shape
  by_cases hneg : i < 0
  · have e : bitF l i = -1 := by unfold bitF; rw [if_pos hneg]
    rw [e]
    clear h e
    go_enter Try.func12, Try.ntmps12
    go_wp2
    go_ret
    exact ⟨rfl, rfl⟩
  · by_cases hge : (l.length : Int) ≤ i / 8
    · have e : bitF l i = -1 := by unfold bitF; rw [if_neg hneg, bitN_none (by omega)]
      rw [e]
      clear h e
      have ht : i.tdiv 8 = i / 8 := Int.tdiv_eq_ediv_of_nonneg (by omega)
      go_enter Try.func12, Try.ntmps12
      go_wp2
      go_ret
      exact ⟨rfl, rfl⟩
    · have hk : i.toNat / 8 < l.length := by omega
      obtain ⟨b', o, rfl, hc⟩ := h.addr (by omega)
      have hcell := hc (i.toNat / 8) l[i.toNat / 8] (List.getElem?_eq_getElem hk)
      have e : bitF l i = ((l[i.toNat / 8].toNat.testBit (7 - i.toNat % 8)).toNat : Int) := by unfold bitF; rw [if_neg hneg, bitN_some (List.getElem?_eq_getElem hk)]
      rw [e]
      generalize l[i.toNat / 8] = x at hcell ⊢
      have hx := x.toNat_lt
      unfold bc at hcell
      obtain ⟨n, rfl⟩ : ∃ n : Nat, i = n := ⟨i.toNat, by omega⟩
      simp only [Int.toNat_natCast] at hcell hk ⊢
      clear h hc e
      go_enter Try.func12, Try.ntmps12
      go_wp2
      go_ret
      refine ⟨congrArg (fun z => Ending.returned (Value.int .i64 z)) ?_, rfl⟩
      exact bit_calc ⟨x.toNat, hx⟩ ⟨n % 8, by omega⟩

end Go.Proofs.Ythbkkddfklbhlaa
