/- What this text proves: the walk of seglog's textOf over this program. -/
import Derived.Test.YtnmjggljicanmaaDoorSgText
namespace Go.Proofs.YtnmjggljicanmaaDoor
open Go.RowKit

/-- The text of record number U. -/
def textL (U : Nat) (b : List UInt8) : List UInt8 := splice (splice (splice (List.replicate (tsec b.length * 64) 0) 0 (be64 U)) 8 ((be64 b.length).drop 4)) 12 b

theorem textL_len (U : Nat) (b : List UInt8) : (textL U b).length = tsec b.length * 64 := by
  have h1 : 12 + b.length ≤ tsec b.length * 64 := by unfold tsec; omega
  have e1 : (splice (List.replicate (tsec b.length * 64) 0) 0 (be64 U)).length = tsec b.length * 64 := by rw [splice_len _ _ _ (by rw [be64_length, List.length_replicate]; omega), List.length_replicate]
  have e2 : (splice (splice (List.replicate (tsec b.length * 64) 0) 0 (be64 U)) 8 ((be64 b.length).drop 4)).length = tsec b.length * 64 := by rw [splice_len _ _ _ (by rw [e1, List.length_drop, be64_length]; omega), e1]
  unfold textL
  rw [splice_len _ _ _ (by rw [e2]; omega), e2]

theorem cf_four (a : Value) (w : World) : (callFunc 48 #[a]).run Tryd.prog w = .ok (.enter 48 #[a]) w := by go_simp

set_option maxRecDepth 100000 in
set_option maxHeartbeats 1600000 in
theorem textOf_any (U : Nat) (hU : U < 9223372036854775808) (v : Value) (b : List UInt8) (w : World) (hv : HB w v b) (hb : b.length ≤ 4000) :
    Calls Tryd.prog 37 #[.int .i64 (U : Int), v] w fun e w' => ∃ g, e = .returned (.slice (some ⟨g, 0, none⟩) (tsec b.length * 64) (tsec b.length * 64)) ∧ TX w' g (textL U b) ∧ w.heap.size ≤ g ∧ Below w.heap.size w w' := by
  obtain ⟨p, c, rfl⟩ := hv.shape
  obtain ⟨i0, hi, hz0, hz1, hz2⟩ := info_parts i_u8
  have hT := tsec_any b.length (by omega) w
  have ht0 : 12 + b.length ≤ tsec b.length * 64 := by unfold tsec; omega
  have ht1 : tsec b.length ≤ 64 := by unfold tsec; omega
  have hL := textL_len U b
  obtain ⟨TL, hTL⟩ : ∃ TL, TL = textL U b := ⟨_, rfl⟩
  rw [← hTL]
  unfold textL at hTL
  generalize tsec b.length = t at *
  have hN := fun W => number_any (U : Int) U (by rw [IntKind.wrap]; simp [IntKind.bits, IntKind.signed]; omega) W
  have hF := fun W => four_any (b.length : Int) b.length (by rw [IntKind.wrap]; simp [IntKind.bits, IntKind.signed]; omega) W
  have hm : (t : Int) * 64 = ((t * 64 : Nat) : Int) := by omega
  generalize hn : t * 64 = n at *
  go_enter Tryd.func37, Tryd.ntmps37
  go_wp2_with (first
    | (go_at_call 36; refine hT.mono ?_; rintro e w1 ⟨rfl, rfl⟩)
    | (at_make; refine wpList_make_full _ rfl _ _ 31 rfl w1.heap.size 5 i0 (.int .u8 0) 1 Tryd.underlying31 hi hz0 hz1 .i64 .i64 _ _ n rfl rfl rfl rfl (by rw [hz2]; omega) (by unfold maxLen; omega) (Nat.le_refl _) ?_; intro w2 hown2 hgrow2))
  have hb2 : Below w1.heap.size w1 w2 := (Below.refl _ w1).grown hgrow2 (Nat.le_refl _) (by intro k hk; cases hk)
  replace hown2 : w2.ownsRow w1.heap.size 5 1 (.slice (some ⟨w1.heap.size, 0, none⟩) n n) n (bcs (List.replicate n 0)) := by
    rw [← made_bcs]
    rw [Nat.mul_one] at hown2
    exact hown2
  have x2 := (TX.of_owns hown2).1
  have L2 : (List.replicate n (0 : UInt8)).length = n := List.length_replicate
  generalize hG : w1.heap.size = G at *
  obtain ⟨X2, hX2⟩ : ∃ X2, X2 = List.replicate n (0 : UInt8) := ⟨_, rfl⟩
  rw [← hX2] at x2 L2 hTL
  clear hX2 hown2 hgrow2 hT
  go_wp2_with (first
    | (go_at_call 47; refine (hN _).mono ?_; rintro e w3 ⟨p3, c3, rfl, h3, hb3⟩; have x3 := x2.later hb3; have hb03 : Below G w1 w3 := hb2.trans (hb3.mono (by rw [← hG]; exact hb2.size)))
    | (refine wpList_copy_splice rfl (.tmp 11) (.tmp 13) 31 31 rfl 5 Tryd.underlying31 s_u8 _ _ _ _ _ _ rfl rfl G 0 (bcs X2) 5 x3 (bcs (be64 U)) (by rw [bcs_length, be64_length]; exact (Nat.min_eq_left (by omega)).symm) (fun h0 => ⟨rfl, h3.src h0⟩) (by rw [bcs_length, bcs_length, be64_length, L2]; omega) (bcs_one _) G w1 hb03 (Nat.le_refl _) ?_; intro w4 hg4 hb4))
  have x4 : TX w4 G (splice X2 0 (be64 U)) := by have := hg4.out; rw [bcs_splice] at this; exact this
  have L4 : (splice X2 0 (be64 U)).length = n := by rw [splice_len _ _ _ (by rw [be64_length, L2]; omega), L2]
  generalize splice X2 0 (be64 U) = X4 at *
  have k8 := run_tail G n 8 8 rfl (by omega)
  have k12 := run_tail G n 12 12 rfl (by omega)
  have hF4 := hF w4.drew
  have hb4d : Below w4.heap.size w4 w4.drew := (Below.refl _ _).drew
  have hGw : G < w4.heap.size := (Array.getElem?_eq_some_iff.1 x4).1
  have hv4 := hv.later (hG ▸ hb4)
  simp only [Act.put, List.setIfInBounds_toArray, List.set_cons_zero, List.set_cons_succ]
  have hvw := hv
  clear hg4 hN hF hv x2 x3 h3
  go_region_law (first
    | (refine step_calls1 (by rfl) 48 _ _ (by rfl) _ (by rfl) (cf_four _ _) _ hF4 ?_; rintro v5 w5 ⟨p5, c5, rfl, h5, hb5⟩; have hb45 : Below w4.heap.size w4 w5 := hb4d.trans hb5; have x5 := x4.later hb45; have hb05 : Below G w1 w5 := hb4.trans (hb45.mono (by omega)))
    | (refine step_copy_splice (by rfl) (.tmp 16) (.tmp 19) 31 31 (by rfl) 5 Tryd.underlying31 s_u8 _ _ _ _ _ _ (by rfl) (by rfl) G 8 (bcs X4) 5 x5 (bcs ((be64 b.length).drop 4)) (by rw [bcs_length, List.length_drop, be64_length]; exact (Nat.min_eq_left (by omega)).symm) (fun h0 => ⟨rfl, h5.src h0⟩) (by rw [bcs_length, bcs_length, List.length_drop, be64_length, L4]; omega) (bcs_one _) G w1 hb05 (Nat.le_refl _) ?_; intro w6 hg6 hb6))
  all_goals
    have x6 : TX w6 G (splice X4 8 ((be64 b.length).drop 4)) := by have := hg6.out; rw [bcs_splice] at this; exact this
    have L6 : (splice X4 8 ((be64 b.length).drop 4)).length = n := by rw [splice_len _ _ _ (by rw [List.length_drop, be64_length, L4]; omega), L4]
    generalize splice X4 8 ((be64 b.length).drop 4) = X6 at *
    have hv6 : HB w6 (.slice p b.length c) b := hvw.later (hG ▸ hb6)
    clear hg6 h5 x5 x4 hv4 hF4
    go_wp2_with (refine wpList_copy_splice rfl (.tmp 22) (.tmp 23) 31 31 rfl 5 Tryd.underlying31 s_u8 _ _ _ _ _ _ rfl rfl G 12 (bcs X6) 5 x6 (bcs b) (by rw [bcs_length]; exact (Nat.min_eq_left (by omega)).symm) (fun h0 => ⟨rfl, hv6.src h0⟩) (by rw [bcs_length, bcs_length, L6]; omega) (bcs_one _) G w1 hb6 (Nat.le_refl _) ?_; intro w7 hg7 hb7)
    go_ret
    refine ⟨_, rfl, ?_, Nat.le_of_eq hG, ?_⟩
    · rw [hTL]
      have := hg7.out
      rw [bcs_splice] at this
      exact this
    · rw [hG]
      exact hb7

end Go.Proofs.YtnmjggljicanmaaDoor
