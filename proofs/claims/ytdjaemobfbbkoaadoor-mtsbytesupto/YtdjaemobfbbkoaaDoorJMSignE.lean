/- What this text proves: the walk of mts.Sign over this program, at a number or a digest that can't be. -/
import Derived.Test.YtdjaemobfbbkoaaDoorJShp
import Derived.Test.YtdjaemobfbbkoaaDoorJWSign
namespace Go.Proofs.YtdjaemobfbbkoaaDoor
open Go.RowKit

set_option maxRecDepth 100000 in
set_option maxHeartbeats 1000000 in
theorem msign_out (g n h : Nat) (idx : Int) (seed D : List UInt8) (d : Int) (lv dv : Value) (w : World) (k : KW w g n h seed d lv) (hn : 1 ≤ n) (hh : h ≤ 8) (hdv : HB w dv D) (hbad : withinB idx h = false) :
    Calls Tryd.prog 8 #[.pointer (some ⟨g, 0, none⟩), .int .i64 idx, dv] w fun e w' => e = .returned (.tuple #[.agg #[.int .i64 0, .slice none 0 0, .slice none 0 0], .int .i64 1]) ∧ Below w.heap.size w w' := by
  obtain ⟨p, c, ko, hs, ts⟩ := k
  obtain ⟨q, e, rfl⟩ := hdv.shape
  have c0 := ko.c0
  have c1 := ko.c1
  have hM := fun w' c0' => missing_made g n w' c0' (by omega)
  have hW := fun w' => within_any idx h w' hh
  rw [hbad] at hW
  clear hbad
  go_enter Tryd.func8, Tryd.ntmps8
  go_wp2_with fail
  have bA := (Below.refl _ w).alloc (Nat.le_refl _) (.cells #[.int .i64 0, .slice none 0 0, .slice none 0 0] 30)
  have d0 := cell_later bA c0
  have d1 := cell_later bA c1
  have g1 : (w.alloc (.cells #[.int .i64 0, .slice none 0 0, .slice none 0 0] 30)).heap[w.heap.size]? = some (.cells #[.int .i64 0, .slice none 0 0, .slice none 0 0] 30 (0, 0)) := heap_alloc_new w _
  generalize w.alloc (.cells #[.int .i64 0, .slice none 0 0, .slice none 0 0] 30) = W at *
  have e0 := cell_of_row _ w.heap.size 0 _ _ _ g1
  have e1 := cell_of_row _ w.heap.size 1 _ _ _ g1
  have e2 := cell_of_row _ w.heap.size 2 _ _ _ g1
  have f0 : W.frozen? ⟨w.heap.size, 0, none⟩ = false := by simp [World.frozen?, g1]
  have f1 : W.frozen? ⟨w.heap.size, 1, none⟩ = false := by simp [World.frozen?, g1]
  have f2 : W.frozen? ⟨w.heap.size, 2, none⟩ = false := by simp [World.frozen?, g1]
  simp at e0 e1 e2
  refine (hM _ d0).mono ?_
  rintro e w1 ⟨rfl, hw1⟩
  subst hw1
  go_wp2_with fail
  refine (hW _).mono ?_
  rintro e w1 ⟨rfl, hw1⟩
  subst hw1
  go_wp2
  refine bodyPost_ret (v := .tuple #[.agg #[.int .i64 0, .slice none 0 0, .slice none 0 0], .int .i64 1]) ?_ rfl ⟨rfl, ((bA.setCell (Nat.le_refl _) _).setCell (Nat.le_refl _) _).setCell (Nat.le_refl _) _⟩
  simp only [results, Tryd.results8]
  go_simp

set_option maxRecDepth 100000 in
set_option maxHeartbeats 1000000 in
theorem msign_dig (g n h : Nat) (idx : Int) (seed D : List UInt8) (d : Int) (lv dv : Value) (w : World) (k : KW w g n h seed d lv) (hn : 1 ≤ n) (hh : h ≤ 8) (hdv : HB w dv D) (hin : withinB idx h = true) (hbad : D.length ≠ n) :
    Calls Tryd.prog 8 #[.pointer (some ⟨g, 0, none⟩), .int .i64 idx, dv] w fun e w' => e = .returned (.tuple #[.agg #[.int .i64 0, .slice none 0 0, .slice none 0 0], .int .i64 1]) ∧ Below w.heap.size w w' := by
  obtain ⟨p, c, ko, hs, ts⟩ := k
  obtain ⟨q, e, rfl⟩ := hdv.shape
  have c0 := ko.c0
  have c1 := ko.c1
  have hM := fun w' c0' => missing_made g n w' c0' (by omega)
  have hW := fun w' => within_any idx h w' hh
  rw [hin] at hW
  have hS := fun w' hs' hd' => sign_err n idx (.slice p seed.length c) (.slice q D.length e) seed D w' hs' hd' (.inr (.inr (by omega)))
  have c2 := ko.c2
  clear hbad hin
  go_enter Tryd.func8, Tryd.ntmps8
  go_wp2_with fail
  have bA := (Below.refl _ w).alloc (Nat.le_refl _) (.cells #[.int .i64 0, .slice none 0 0, .slice none 0 0] 30)
  have d0 := cell_later bA c0
  have d1 := cell_later bA c1
  have d2 := cell_later bA c2
  have hsA := hs.later bA
  have hdA := hdv.later bA
  have g1 : (w.alloc (.cells #[.int .i64 0, .slice none 0 0, .slice none 0 0] 30)).heap[w.heap.size]? = some (.cells #[.int .i64 0, .slice none 0 0, .slice none 0 0] 30 (0, 0)) := heap_alloc_new w _
  generalize w.alloc (.cells #[.int .i64 0, .slice none 0 0, .slice none 0 0] 30) = W at *
  have e0 := cell_of_row _ w.heap.size 0 _ _ _ g1
  have e1 := cell_of_row _ w.heap.size 1 _ _ _ g1
  have e2 := cell_of_row _ w.heap.size 2 _ _ _ g1
  have f0 : W.frozen? ⟨w.heap.size, 0, none⟩ = false := by simp [World.frozen?, g1]
  have f1 : W.frozen? ⟨w.heap.size, 1, none⟩ = false := by simp [World.frozen?, g1]
  have f2 : W.frozen? ⟨w.heap.size, 2, none⟩ = false := by simp [World.frozen?, g1]
  simp at e0 e1 e2
  refine (hM _ d0).mono ?_
  rintro e w1 ⟨rfl, hw1⟩
  subst hw1
  go_wp2_with fail
  refine (hW _).mono ?_
  rintro e w1 ⟨rfl, hw1⟩
  subst hw1
  go_wp2
  go_region_with (go_at_call 23; refine (hS _ (hsA.later (by repeat (first | exact Below.refl _ _ | refine Below.drew ?_))) (hdA.later (by repeat (first | exact Below.refl _ _ | refine Below.drew ?_)))).mono ?_; rintro e w1 ⟨rfl, hw1⟩; subst hw1)
  all_goals go_wp2
  all_goals (
    refine bodyPost_ret (v := .tuple #[.agg #[.int .i64 0, .slice none 0 0, .slice none 0 0], .int .i64 1]) ?_ rfl ⟨rfl, by refine Below.drew (Below.setCell (Below.setCell (Below.setCell bA ?_ _) ?_ _) ?_ _) <;> exact Nat.le_refl _⟩
    simp only [results, Tryd.results8]
    go_simp)

end Go.Proofs.YtdjaemobfbbkoaaDoor
