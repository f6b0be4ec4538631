/- What this text proves: the calls of a map that no call made, over this program: each answers nothing, or ErrNil. -/
import Derived.Test.YtbnfaeafkkagcaaFacts
import Derived.Test.YtbnfaeafkkagcaaOnlyT
namespace Go.Proofs.Ytbnfaeafkkagcaa
open Go.RowKit

/-- No call made this map. -/
def GoneM (q : Option Addr) (W : World) : Prop := Calls Try.prog 13 #[.pointer q] W fun e w' => e = .returned (.bool false) ∧ w' = W

theorem gone_nil (W : World) : GoneM none W := by
  unfold GoneM
  go_enter Try.func13, Try.ntmps13
  go_wp2
  go_ret
  exact ⟨rfl, rfl⟩

theorem gone_zero (W : World) (g : Nat) (h : W.cell? ⟨g, 8, none⟩ = some (.slice none 0 0)) : GoneM (some ⟨g, 0, none⟩) W := by
  unfold GoneM
  go_enter Try.func13, Try.ntmps13
  go_wp2
  go_ret
  exact ⟨rfl, rfl⟩

/-- The cells of an answer that nothing was put into yet. -/
theorem ans_cells {w : World} {b : Nat} (g : w.heap[b]? = some (.cells #[.int .i64 0, .int .i64 0, .bool false, .bool false, .slice none 0 0, .int .i64 0, .slice none 0 0, .slice none 0 0, .bool false] 38 (0, 0))) : (w.cell? ⟨b, 0, none⟩ = some (.int .i64 0) ∧ w.cell? ⟨b, 1, none⟩ = some (.int .i64 0) ∧ w.cell? ⟨b, 2, none⟩ = some (.bool false) ∧ w.cell? ⟨b, 3, none⟩ = some (.bool false) ∧ w.cell? ⟨b, 4, none⟩ = some (.slice none 0 0) ∧ w.cell? ⟨b, 5, none⟩ = some (.int .i64 0) ∧ w.cell? ⟨b, 6, none⟩ = some (.slice none 0 0) ∧ w.cell? ⟨b, 7, none⟩ = some (.slice none 0 0) ∧ w.cell? ⟨b, 8, none⟩ = some (.bool false)) ∧ ∀ i, w.frozen? ⟨b, i, none⟩ = false :=
  ⟨⟨by rw [cell_of_row _ _ _ _ _ _ g]; rfl, by rw [cell_of_row _ _ _ _ _ _ g]; rfl, by rw [cell_of_row _ _ _ _ _ _ g]; rfl, by rw [cell_of_row _ _ _ _ _ _ g]; rfl, by rw [cell_of_row _ _ _ _ _ _ g]; rfl, by rw [cell_of_row _ _ _ _ _ _ g]; rfl, by rw [cell_of_row _ _ _ _ _ _ g]; rfl, by rw [cell_of_row _ _ _ _ _ _ g]; rfl, by rw [cell_of_row _ _ _ _ _ _ g]; rfl⟩, fun i => by simp [World.frozen?, g]⟩

theorem failed_any (e : Int) (w : World) : Calls Try.prog 14 #[.int .i64 e] w fun x w' => x = .returned (.agg #[.int .i64 e, .int .i64 0, .bool false, .bool false, .slice none 0 0, .int .i64 0, .slice none 0 0, .slice none 0 0, .bool false]) ∧ Below w.heap.size w w' := by
  have b0 := (Below.refl w.heap.size w).alloc (Nat.le_refl _) (.cells #[.int .i64 e, .int .i64 0, .bool false, .bool false, .slice none 0 0, .int .i64 0, .slice none 0 0, .slice none 0 0, .bool false] 38)
  go_enter Try.func14, Try.ntmps14
  go_wp2
  refine bodyPost_ret (v := .agg #[.int .i64 e, .int .i64 0, .bool false, .bool false, .slice none 0 0, .int .i64 0, .slice none 0 0, .slice none 0 0, .bool false]) ?_ rfl ?_
  · simp only [results, Try.results14]
    go_simp
  · exact ⟨rfl, b0⟩

set_option maxRecDepth 100000 in
set_option maxHeartbeats 400000 in
theorem back_gone (q : Option Addr) (W : World) (h : GoneM q W) : Calls Try.prog 4 #[.pointer q] W fun e w' => (∃ v, e = .returned v) ∧ w' = W := by
  unfold GoneM at h
  go_enter Try.func4, Try.ntmps4
  go_wp2_with (go_at_call 13; refine h.mono ?_; rintro e w1 ⟨rfl, hw⟩; subst hw)
  go_end0
  exact ⟨⟨_, rfl⟩, rfl⟩

theorem epoch_gone (q : Option Addr) (W : World) (h : GoneM q W) : Calls Try.prog 6 #[.pointer q] W fun e w' => e = .returned (.int .i64 0) ∧ w' = W := by
  unfold GoneM at h
  go_enter Try.func6, Try.ntmps6
  go_wp2_with (go_at_call 13; refine h.mono ?_; rintro e w1 ⟨rfl, hw⟩; subst hw)
  go_ret
  exact ⟨rfl, rfl⟩

theorem changes_gone (q : Option Addr) (W : World) (h : GoneM q W) : Calls Try.prog 7 #[.pointer q] W fun e w' => e = .returned (.int .i64 0) ∧ w' = W := by
  unfold GoneM at h
  go_enter Try.func7, Try.ntmps7
  go_wp2_with (go_at_call 13; refine h.mono ?_; rintro e w1 ⟨rfl, hw⟩; subst hw)
  go_ret
  exact ⟨rfl, rfl⟩

theorem has_gone (q : Option Addr) (i : Int) (W : World) (h : GoneM q W) : Calls Try.prog 17 #[.pointer q, .int .i64 i] W fun e w' => e = .returned (.bool false) ∧ w' = W := by
  unfold GoneM at h
  go_enter Try.func17, Try.ntmps17
  go_wp2_with (go_at_call 13; refine h.mono ?_; rintro e w1 ⟨rfl, hw⟩; subst hw)
  go_ret
  exact ⟨rfl, rfl⟩

theorem time_gone (q : Option Addr) (i : Int) (W : World) (h : GoneM q W) : Calls Try.prog 8 #[.pointer q, .int .i64 i] W fun e w' => e = .returned (.int .i64 0) ∧ w' = W := by
  have h2 := has_gone q i W h
  go_enter Try.func8, Try.ntmps8
  go_wp2_with (go_at_call 17; refine h2.mono ?_; rintro e w1 ⟨rfl, hw⟩; subst hw)
  go_ret
  exact ⟨rfl, rfl⟩

theorem batch_gone (q : Option Addr) (i : Int) (W : World) (h : GoneM q W) : Calls Try.prog 9 #[.pointer q, .int .i64 i] W fun e w' => e = .returned (.slice none 0 0) ∧ w' = W := by
  have h2 := has_gone q i W h
  go_enter Try.func9, Try.ntmps9
  go_wp2_with (go_at_call 17; refine h2.mono ?_; rintro e w1 ⟨rfl, hw⟩; subst hw)
  go_ret
  exact ⟨rfl, rfl⟩

theorem now_gone (q : Option Addr) (W : World) (h : GoneM q W) : Calls Try.prog 10 #[.pointer q] W fun e w' => e = .returned (.int .i64 0) ∧ w' = W := by
  unfold GoneM at h
  go_enter Try.func10, Try.ntmps10
  go_wp2_with (go_at_call 13; refine h.mono ?_; rintro e w1 ⟨rfl, hw⟩; subst hw)
  go_ret
  exact ⟨rfl, rfl⟩

theorem copy_gone (q : Option Addr) (W : World) (h : GoneM q W) : Calls Try.prog 11 #[.pointer q] W fun e w' => e = .returned (.pointer none) ∧ w' = W := by
  unfold GoneM at h
  go_enter Try.func11, Try.ntmps11
  go_wp2_with (go_at_call 13; refine h.mono ?_; rintro e w1 ⟨rfl, hw⟩; subst hw)
  go_ret
  exact ⟨rfl, rfl⟩

set_option maxRecDepth 100000 in
set_option maxHeartbeats 800000 in
theorem do_gone (q : Option Addr) (k fr to ti ep ix li : Int) (so : Bool) (id ba : Value) (W : World) (h : ∀ W', Below W.heap.size W W' → GoneM q W') :
    Calls Try.prog 5 #[.pointer q, .agg #[.int .i64 k, id, .int .i64 fr, .int .i64 to, .int .i64 ti, .bool so, .int .i64 ep, .int .i64 ix, .int .i64 li, ba]] W fun e w' => e = .returned (.agg #[.int .i64 2, .int .i64 0, .bool false, .bool false, .slice none 0 0, .int .i64 0, .slice none 0 0, .slice none 0 0, .bool false]) ∧ Below W.heap.size W w' := by
  have b0 := (Below.refl W.heap.size W).alloc (Nat.le_refl _) (.cells #[.int .i64 k, id, .int .i64 fr, .int .i64 to, .int .i64 ti, .bool so, .int .i64 ep, .int .i64 ix, .int .i64 li, ba] 25)
  obtain ⟨V, hV⟩ : ∃ V, W.alloc (.cells #[.int .i64 k, id, .int .i64 fr, .int .i64 to, .int .i64 ti, .bool so, .int .i64 ep, .int .i64 ix, .int .i64 li, ba] 25) = V := ⟨_, rfl⟩
  rw [hV] at b0
  have sV : V.heap.size = W.heap.size + 1 := by rw [← hV]; simp
  have b1 := b0.alloc b0.size (.cells #[.int .i64 0, .int .i64 0, .bool false, .bool false, .slice none 0 0, .int .i64 0, .slice none 0 0, .slice none 0 0, .bool false] 38)
  have g1 := heap_alloc_new V (.cells #[.int .i64 0, .int .i64 0, .bool false, .bool false, .slice none 0 0, .int .i64 0, .slice none 0 0, .slice none 0 0, .bool false] 38)
  have hG := h _ b1
  unfold GoneM at hG
  clear h
  go_enter Try.func5, Try.ntmps5
  go_wp2_with (first | (go_at_call 13; refine hG.mono ?_; rintro e w1 ⟨rfl, hw⟩; subst hw) | (go_at_call 14; refine (failed_any _ _).mono ?_; rintro e w2 ⟨rfl, c2⟩; have hb2 := b1.trans (c2.mono b1.size); have g2 := (c2.block _ (Array.getElem?_eq_some_iff.1 g1).1).trans g1; rw [sV] at g2; obtain ⟨⟨x0, x1, x2, x3, x4, x5, x6, x7, x8⟩, fx⟩ := ans_cells g2; have y0 := fx 0; have y1 := fx 1; have y2 := fx 2; have y3 := fx 3; have y4 := fx 4; have y5 := fx 5; have y6 := fx 6; have y7 := fx 7; have y8 := fx 8; have hon : Only (W.heap.size + 1) w2 (((((((((w2.setCell ⟨W.heap.size + 1, 0, none⟩ (.int .i64 2)).setCell ⟨W.heap.size + 1, 1, none⟩ (.int .i64 0)).setCell ⟨W.heap.size + 1, 2, none⟩ (.bool false)).setCell ⟨W.heap.size + 1, 3, none⟩ (.bool false)).setCell ⟨W.heap.size + 1, 4, none⟩ (.slice none 0 0)).setCell ⟨W.heap.size + 1, 5, none⟩ (.int .i64 0)).setCell ⟨W.heap.size + 1, 6, none⟩ (.slice none 0 0)).setCell ⟨W.heap.size + 1, 7, none⟩ (.slice none 0 0)).setCell ⟨W.heap.size + 1, 8, none⟩ (.bool false)) := ((((((((((Only.refl (W.heap.size + 1) w2).setCell 0 _).setCell 1 _).setCell 2 _).setCell 3 _).setCell 4 _).setCell 5 _).setCell 6 _).setCell 7 _).setCell 8 _); have bF := hb2.trans (hon.below (by omega)); clear hon fx g2 c2))
  refine bodyPost_ret (v := .agg #[.int .i64 2, .int .i64 0, .bool false, .bool false, .slice none 0 0, .int .i64 0, .slice none 0 0, .slice none 0 0, .bool false]) ?_ rfl ?_
  · simp only [results, Try.results5]
    go_simp
  · exact ⟨rfl, bF⟩

end Go.Proofs.Ytbnfaeafkkagcaa
