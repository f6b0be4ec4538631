/- What this text proves: the walks of mts.within, mts.lengths, mts.lists and mts.shaped over this program. -/
import Derived.Test.YtpnginemjcphcabDoorJMKeysT
namespace Go.Proofs.YtpnginemjcphcabDoor
open Go.RowKit

theorem pow_wrap (h : Nat) (hh : h ≤ 8) : wrap64 ((2 : Int) ^ h) = ((2 ^ h : Nat) : Int) := by
  have hN : 2 ^ h ≤ 256 := Nat.pow_le_pow_right (by decide) hh (n := 2)
  have e : ((2 : Int) ^ h) = ((2 ^ h : Nat) : Int) := by push_cast; rfl
  rw [e]
  generalize 2 ^ h = N at *
  unfold wrap64
  omega

/-- Whether a tree of that height has a key of that number. -/
def withinB (index : Int) (h : Nat) : Bool := decide (0 ≤ index ∧ index < ((2 ^ h : Nat) : Int))

set_option maxRecDepth 100000 in
set_option maxHeartbeats 1000000 in
theorem within_any (index : Int) (h : Nat) (w : World) (hh : h ≤ 8) :
    Calls Tryd.prog 26 #[.int .i64 index, .int .i64 (h : Int)] w fun e w' => e = .returned (.bool (withinB index h)) ∧ w' = w := by
  have HW : Hid (wrap64 ((2 : Int) ^ h) = ((2 ^ h : Nat) : Int)) := pow_wrap h hh
  have HB : Hid (withinB index h = decide (0 ≤ index ∧ index < ((2 ^ h : Nat) : Int))) := rfl
  generalize withinB index h = B at *
  generalize 2 ^ h = N at *
  have hh2 : (h : Int) ≤ 8 := by omega
  go_enter Tryd.func26, Tryd.ntmps26
  by_cases h1 : 0 ≤ index
  · go_wp2
    rw [HW.out]
    go_ret
    rw [HB.out]
    by_cases h2 : index < (N : Int)
    · simp [h1, h2]
    · simp [h2]
  · have hd : decide (0 ≤ index) = false := by simpa using h1
    have e : B = false := by
      rw [HB.out, decide_eq_false_iff_not]
      omega
    subst e
    go_wp2
    go_ret
    exact ⟨rfl, rfl⟩

set_option maxRecDepth 100000 in
set_option maxHeartbeats 1000000 in
theorem lengths_any (n : Nat) (h : Int) (w : World) (hn : n ≤ 32) :
    Calls Tryd.prog 43 #[.int .i64 (n : Int), .int .i64 h] w fun e w' => e = .returned (.agg #[.int .i64 (4 * (n : Int) + 5), .int .i64 h]) ∧ Below w.heap.size w w' := by
  obtain ⟨i0, hi, hz0, hz1, hz2⟩ := info_parts i_u8
  have b1 := (Below.refl _ w).alloc (Nat.le_refl _) (.cells #[.int .i64 0, .int .i64 0] 86)
  have hsz : (w.alloc (.cells #[.int .i64 0, .int .i64 0] 86)).heap.size = w.heap.size + 1 := by simp
  have g1 : (w.alloc (.cells #[.int .i64 0, .int .i64 0] 86)).heap[w.heap.size]? = some (.cells #[.int .i64 0, .int .i64 0] 86 (0, 0)) := heap_alloc_new w _
  go_enter Tryd.func43, Tryd.ntmps43
  go_wp2_with (first | (at_make; refine wpList_make_full _ rfl _ _ 22 rfl (w.heap.size + 1) 5 i0 (.int .u8 0) 1 Tryd.underlying22 hi hz0 hz1 .i64 .i64 _ _ n rfl rfl ?_ ?_ ?_ ?_ ?_ ?_))
  all_goals (try (first | omega | (unfold maxLen; omega) | (rw [hz2]; omega) | (simp)))
  intro w1 hown1 hgrow1
  rw [made_bcs] at hown1
  have hb1 : Below (w.heap.size + 1) (w.alloc (.cells #[.int .i64 0, .int .i64 0] 86)) w1 := (Below.refl _ _).grown hgrow1 (by omega) (by intro k hk; cases hk)
  have hD := digits_any _ _ w1 (HB.of_owns hown1)
  have HdL : Hid ((digF (List.replicate n 0)).length = 4 * n + 5) := by
    show (digF (List.replicate n 0)).length = 4 * n + 5
    rw [digF_length, List.length_replicate]
    omega
  rw [HdL.out] at hD
  clear hown1 hgrow1
  go_wp2_with fail
  refine hD.mono ?_
  rintro e w2 ⟨v2, rfl, o2, hb2⟩
  obtain ⟨p2, c2, hv2⟩ := owns_shape o2
  subst hv2
  have hb12 := hb1.trans (hb2.mono (by have := hb1.size; omega))
  have hg2 : w2.heap[w.heap.size]? = some (.cells #[.int .i64 0, .int .i64 0] 86 (0, 0)) := by
    rw [hb12.block w.heap.size (by omega)]
    exact g1
  have q0 := cell_of_row w2 w.heap.size 0 _ _ _ hg2
  have q1 := cell_of_row w2 w.heap.size 1 _ _ _ hg2
  have f0 : w2.frozen? ⟨w.heap.size, 0, none⟩ = false := by simp [World.frozen?, hg2]
  have f1 : w2.frozen? ⟨w.heap.size, 1, none⟩ = false := by simp [World.frozen?, hg2]
  simp at q0 q1
  clear o2 hD
  go_wp2
  have hbe : Below w.heap.size w ((w2.setCell ⟨w.heap.size, 0, none⟩ (.int .i64 (4 * (n : Int) + 5))).setCell ⟨w.heap.size, 1, none⟩ (.int .i64 h)) := ((b1.trans (hb12.mono (Nat.le_succ _))).setCell (Nat.le_refl _) _).setCell (Nat.le_refl _) _
  refine bodyPost_ret (v := .agg #[.int .i64 (4 * (n : Int) + 5), .int .i64 h]) ?_ rfl ⟨rfl, hbe⟩
  simp only [results, Tryd.results43]
  go_simp

set_option maxRecDepth 100000 in
set_option maxHeartbeats 1000000 in
theorem lists_any (idx : Int) (p q : Option Addr) (n c m d : Nat) (w : World) :
    Calls Tryd.prog 47 #[.agg #[.int .i64 idx, .slice p n c, .slice q m d]] w fun e w' => e = .returned (.agg #[.slice p n c, .slice q m d]) ∧ Below w.heap.size w w' := by
  have b1 := (Below.refl _ w).alloc (Nat.le_refl _) (.cells #[.int .i64 idx, .slice p n c, .slice q m d] 30)
  have b2 := b1.alloc b1.size (.cells #[.slice p n c, .slice q m d] 88)
  go_enter Tryd.func47, Tryd.ntmps47
  go_wp2
  refine bodyPost_ret (v := .agg #[.slice p n c, .slice q m d]) ?_ rfl ⟨rfl, b2⟩
  simp only [results, Tryd.results47]
  go_simp

end Go.Proofs.YtpnginemjcphcabDoor
