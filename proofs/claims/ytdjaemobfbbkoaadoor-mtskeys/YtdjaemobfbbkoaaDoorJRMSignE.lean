/- What this text proves: the walks of the document's Sign and New (annalsref06) over this program, at what can't be. -/
import Derived.Test.YtdjaemobfbbkoaaDoorJRMNewV
import Derived.Test.YtdjaemobfbbkoaaDoorJRWots
namespace Go.Proofs.YtdjaemobfbbkoaaDoor
open Go.RowKit

set_option maxRecDepth 100000 in
set_option maxHeartbeats 4000000 in
theorem rmsign_err (g n h : Nat) (idx : Int) (sv lv dv : Value) (D : List UInt8) (w : World) (k : RKO w g n h sv lv) (hdv : HB w dv D) (hh : h ≤ 8) (hbad : withinB idx h = false ∨ D.length ≠ n) :
    Calls Tryd.prog 9 #[.pointer (some ⟨g, 0, none⟩), .int .i64 idx, dv] w fun e w' => e = .returned (.tuple #[.agg #[.int .i64 0, .slice none 0 0, .slice none 0 0], .int .i64 1]) ∧ Below w.heap.size w w' := by
  obtain ⟨q, d, rfl⟩ := hdv.shape
  obtain ⟨c0, c1, _, _⟩ := k.cells
  have hcase : idx < 0 ∨ (¬ idx < 0 ∧ ((2 ^ h : Nat) : Int) ≤ idx) ∨ (¬ idx < 0 ∧ ¬ ((2 ^ h : Nat) : Int) ≤ idx ∧ D.length ≠ n) := by
    rcases hbad with hb | hb
    · simp only [withinB, decide_eq_false_iff_not] at hb
      omega
    · omega
  have HW : Hid (wrap64 ((2 : Int) ^ h) = ((2 ^ h : Nat) : Int)) := pow_wrap h hh
  generalize 2 ^ h = N at HW hcase
  generalize D.length = L at *
  have bA := (Below.refl _ w).alloc (Nat.le_refl _) (.cells #[.int .i64 0, .slice none 0 0, .slice none 0 0] 30)
  have d0 := cell_later bA c0
  have d1 := cell_later bA c1
  have g1 := heap_alloc_new w (.cells #[.int .i64 0, .slice none 0 0, .slice none 0 0] 30)
  have e0 : (w.alloc (.cells #[.int .i64 0, .slice none 0 0, .slice none 0 0] 30)).cell? ⟨w.heap.size, 0, none⟩ = some (.int .i64 0) := by rw [cell_of_row _ _ 0 _ _ _ g1]; rfl
  have e1 : (w.alloc (.cells #[.int .i64 0, .slice none 0 0, .slice none 0 0] 30)).cell? ⟨w.heap.size, 1, none⟩ = some (.slice none 0 0) := by rw [cell_of_row _ _ 1 _ _ _ g1]; rfl
  have e2 : (w.alloc (.cells #[.int .i64 0, .slice none 0 0, .slice none 0 0] 30)).cell? ⟨w.heap.size, 2, none⟩ = some (.slice none 0 0) := by rw [cell_of_row _ _ 2 _ _ _ g1]; rfl
  clear hbad g1
  go_enter Tryd.func9, Tryd.ntmps9
  rcases hcase with hc | ⟨hc, hc2⟩ | ⟨hc, hc2, hc3⟩
  case' inr.inr =>
    have hc4 : decide ((L : Int) = (n : Int)) = false := by simpa using (by omega : ¬ (L : Int) = (n : Int))
    have hc5 : ((L : Int) != (n : Int)) = true := by simpa using (by omega : ¬ (L : Int) = (n : Int))
    have hc6 : ¬ (L : Int) = (n : Int) := by omega
  all_goals
    have hW := HW.out
    go_wp2
    refine bodyPost_ret (v := .tuple #[.agg #[.int .i64 0, .slice none 0 0, .slice none 0 0], .int .i64 1]) ?_ rfl ⟨rfl, bA⟩
    simp only [results, Tryd.results9]
    go_simp

set_option maxRecDepth 100000 in
set_option maxHeartbeats 1000000 in
theorem rnew_seed (size height : Int) (v : Value) (seed : List UInt8) (w : World) (hv : HB w v seed) (hbad : 64 < seed.length) :
    Calls Tryd.prog 20 #[.int .i64 size, v, .int .i64 height] w fun e w' => e = .returned (.tuple #[.pointer none, .int .i64 1]) ∧ w' = w := by
  have hm := hv.len_le
  unfold maxLen at hm
  obtain ⟨p, c, rfl⟩ := hv.shape
  have hC := fun w' => rcan_any size 0 p seed.length c w' (by omega)
  have hb : rcanB size 0 seed.length = false := by
    cases h : rcanB size 0 seed.length with
    | false => rfl
    | true =>
      obtain ⟨q1, q2, q3, q4, q5⟩ := rcanB_true h
      omega
  rw [hb] at hC
  clear hbad
  go_enter Tryd.func20, Tryd.ntmps20
  go_wp2_with fail
  refine (hC _).mono ?_
  rintro e w1 ⟨rfl, hw1⟩
  subst hw1
  go_wp2
  go_ret2
  exact ⟨rfl, rfl⟩

end Go.Proofs.YtdjaemobfbbkoaaDoor
