/- What this text proves: the walks of bits.Order and of the document's Order over this program: the order of two identities' bits. -/
import Derived.Test.YthbkkddfklbhlaaKey
import Derived.Test.YthbkkddfklbhlaaCompare
namespace Go.Proofs.Ythbkkddfklbhlaa
open Go.RowKit

set_option maxHeartbeats 1000000 in
theorem order_any (x y : Value) (a b : List UInt8) (w : World) (ha : HB w x a) (hb : HB w y b) :
    Calls Try.prog 14 #[x, y] w fun e w' => e = .returned (.int .i64 (Lib.compareBytes (keyF a) (keyF b))) ∧ Below w.heap.size w w' := by
  obtain ⟨p, c, rfl⟩ := ha.shape
  obtain ⟨q, d, rfl⟩ := hb.shape
  go_enter Try.func14, Try.ntmps14
  go_wp2_with fail
  refine (key_any _ a _ ha).mono ?_
  rintro e w1 ⟨p1, c1, rfl, h1, hb1⟩
  go_wp2_with fail
  refine (key_any _ b _ (hb.later hb1)).mono ?_
  rintro e w2 ⟨p2, c2, rfl, h2, hb2⟩
  have hb02 := hb1.trans (hb2.mono hb1.size)
  go_wp2_with fail
  refine (compare_any _ _ (keyF a) (keyF b) _ (h1.later hb2) h2).mono ?_
  rintro e w3 ⟨rfl, rfl⟩
  go_wp2
  go_ret
  exact ⟨rfl, hb02⟩

theorem cmp_three : ∀ x y : List UInt8, Lib.compareBytes x y = -1 ∨ Lib.compareBytes x y = 0 ∨ Lib.compareBytes x y = 1
  | [], [] => by simp [Lib.compareBytes]
  | [], _ :: _ => by simp [Lib.compareBytes]
  | _ :: _, [] => by simp [Lib.compareBytes]
  | a :: x, b :: y => by
    unfold Lib.compareBytes
    split
    · simp
    · split
      · simp
      · exact cmp_three x y

theorem less_cmp : ∀ x y : List UInt8, Op.bytesLess x y = decide (Lib.compareBytes x y = -1) ∧ (x == y) = decide (Lib.compareBytes x y = 0)
  | [], [] => by simp [Lib.compareBytes, Op.bytesLess]
  | [], _ :: _ => by simp [Lib.compareBytes, Op.bytesLess]
  | _ :: _, [] => by simp [Lib.compareBytes, Op.bytesLess]
  | a :: x, b :: y => by
    have ih := less_cmp x y
    unfold Lib.compareBytes Op.bytesLess
    by_cases h1 : a < b
    · have hne : a ≠ b := fun e => by subst e; exact UInt8.lt_irrefl _ h1
      simp [h1, hne]
    · by_cases h2 : b < a
      · have hne : a ≠ b := fun e => by subst e; exact UInt8.lt_irrefl _ h2
        simp [h1, h2, hne]
      · have he : a = b := UInt8.le_antisymm (UInt8.not_lt.1 h2) (UInt8.not_lt.1 h1)
        subst he
        have := ih.2
        simp only [h1, if_false, decide_false, Bool.false_or, beq_self_eq_true, Bool.true_and]
        refine ⟨ih.1, ?_⟩
        rw [← ih.2]
        simp

theorem less_ways (x y : List UInt8) : ∃ B E : Bool, ∃ C : Int, Op.bytesLess x y = B ∧ (x == y) = E ∧ Lib.compareBytes x y = C ∧ ((B = true ∧ C = -1) ∨ (B = false ∧ E = true ∧ C = 0) ∨ (B = false ∧ E = false ∧ C = 1)) := by
  refine ⟨_, _, _, rfl, rfl, rfl, ?_⟩
  rw [(less_cmp x y).1, (less_cmp x y).2]
  rcases cmp_three x y with h | h | h <;> simp [h]

set_option maxHeartbeats 4000000 in
theorem rorder_any (x y : Value) (a b : List UInt8) (w : World) (ha : HB w x a) (hb : HB w y b) :
    Calls Try.prog 15 #[x, y] w fun e w' => e = .returned (.int .i64 (Lib.compareBytes (keyF a) (keyF b))) ∧ Below w.heap.size w w' := by
  obtain ⟨p, c, rfl⟩ := ha.shape
  obtain ⟨q, d, rfl⟩ := hb.shape
  obtain ⟨B, E, C, hB, hE, hC, h3⟩ := less_ways (keyF a) (keyF b)
  rw [hC]
  clear hC
  go_enter Try.func15, Try.ntmps15
  have ha' : ∀ W, Below w.heap.size w W → HB W (.slice p a.length c) a := fun W h => ha.later h
  have hb' : ∀ W, Below w.heap.size w W → HB W (.slice q b.length d) b := fun W h => hb.later h
  clear ha hb
  go_wp2
  go_region_with (first
    | (go_at_call_of 11 (Value.slice p a.length c); refine (rkey_any _ a _ (ha' _ (by repeat (first | exact Below.refl _ _ | refine Below.drew ?_)))).mono ?_; rintro e w1 ⟨p1, c1, rfl, h1, hb1⟩; have s1 := h1.str (P := Try.prog) 22 5 9 Try.underlying22 Try.underlying5 Try.underlying9)
    | (go_at_call_of 11 (Value.slice q b.length d); refine (rkey_any _ b _ (hb' _ (Below.trans (by repeat (first | exact Below.refl _ _ | refine Below.drew ?_)) hb1))).mono ?_; rintro e w2 ⟨p2, c2, rfl, h2, hb2⟩; have s2 := h2.str (P := Try.prog) 22 5 9 Try.underlying22 Try.underlying5 Try.underlying9; have s12 := (h1.later hb2).str (P := Try.prog) 22 5 9 Try.underlying22 Try.underlying5 Try.underlying9; have hb02 : Below w.heap.size w w2 := (Below.trans (by repeat (first | exact Below.refl _ _ | refine Below.drew ?_)) hb1).trans (hb2.mono hb1.size); clear ha' hb'))
  all_goals (clear s1 s2 s12 h1 h2 hb1 hb2; rcases h3 with ⟨rfl, rfl⟩ | ⟨rfl, rfl, rfl⟩ | ⟨rfl, rfl, rfl⟩)
  all_goals (go_wp2; go_ret; exact ⟨rfl, hb02⟩)

end Go.Proofs.Ythbkkddfklbhlaa
