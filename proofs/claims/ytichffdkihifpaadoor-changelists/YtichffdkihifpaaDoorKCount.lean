/- What this text proves: the walk of merkle.Count over this program: how many parts lie outside a range. -/
import Derived.Test.YtichffdkihifpaaDoorKWithout
import Derived.Deep.RegionHeld3
namespace Go.Proofs.YtichffdkihifpaaDoor
open Go.RowKit

/-- The counter in its cell. -/
def CC (w0 : World) (g : Nat) (acc : List (Nat × Nat)) (w : World) : Prop := w.heap[g]? = some (.cells #[.int .i64 (wrap64 (acc.length : Int))] 3 (0, 0)) ∧ Below g w0 w

theorem wrap_succ (n : Nat) : wrap64 (wrap64 (n : Int) + 1) = wrap64 ((n + 1 : Nat) : Int) := by unfold wrap64; omega
theorem wrap_small (n : Nat) (h : n ≤ 4611686018427387904) : wrap64 (n : Int) = (n : Int) := by unfold wrap64; omega

theorem eg_countF : ∀ args w, (callFunc 40 args).run Tryd.prog w = .ok (.enter 40 args) w := by intro args w; go_simp

set_option maxRecDepth 100000 in
set_option maxHeartbeats 1000000 in
theorem countF_any (w0 : World) (g b e : Nat) (acc : List (Nat × Nat)) (w : World) (h : CC w0 g acc w) :
    Calls Tryd.prog 40 (#[.int .i64 (b : Int), .int .i64 (e : Int)] ++ #[.pointer (some ⟨g, 0, none⟩)]) w fun x w' => x = .returned (.tuple #[]) ∧ CC w0 g (acc ++ [(b, e)]) w' := by
  obtain ⟨h1, h2⟩ := h
  have HB : Hid (Below g w0 w) := h2
  have H1 : Hid (w.heap[g]? = some (.cells #[.int .i64 (wrap64 (acc.length : Int))] 3 (0, 0))) := h1
  have c0 : w.cell? ⟨g, 0, none⟩ = some (.int .i64 (wrap64 (acc.length : Int))) := by rw [cell_of_row w g _ _ _ _ h1]; rfl
  have f0 : w.frozen? ⟨g, 0, none⟩ = false := by simp [World.frozen?, h1]
  have HW : Hid (wrap64 (wrap64 (acc.length : Int) + 1) = wrap64 (((acc ++ [(b, e)]).length : Nat) : Int)) := by show _ = _; rw [wrap_succ]; simp
  clear h1 h2
  generalize wrap64 (acc.length : Int) = z at *
  show Calls Tryd.prog 40 #[.int .i64 (b : Int), .int .i64 (e : Int), .pointer (some ⟨g, 0, none⟩)] w _
  go_enter Tryd.func40, Tryd.ntmps40
  go_wp2
  go_end0
  refine ⟨rfl, ?_, HB.out.setCell (Nat.le_refl _) _⟩
  rw [heap_setCell_same w g 0 _ _ _ H1.out, HW.out]
  rfl

/-- How many parts of n lie outside. -/
def cntF (n lo hi : Int) : Nat := if n ≤ 1048576 ∧ 0 ≤ lo ∧ lo ≤ hi ∧ hi ≤ n ∧ 0 < n then (wo lo.toNat hi.toNat 20 0 n.toNat).length else 0

theorem wo_len {lo hi n : Nat} (h1 : lo ≤ hi) (h2 : hi ≤ n) (h3 : n ≤ 1048576) (h0 : 0 < n) : (wo lo hi 20 0 n).length ≤ 40 := by
  by_cases h : lo = hi
  · by_cases hc : lo ≤ 0 ∧ n ≤ hi
    · rw [wo_in hc]; simp
    · rw [wo_out hc (.inl h)]; simp
  · exact wo_few 20 0 n h0 (by omega) (by omega) (by omega) (by omega) (by omega)

set_option maxRecDepth 100000 in
set_option maxHeartbeats 1000000 in
theorem count_ok (n lo hi : Nat) (w : World) (h1 : lo ≤ hi) (h2 : hi ≤ n) (h3 : n ≤ 1048576) (h0 : 0 < n) :
    Calls Tryd.prog 15 #[.int .i64 (n : Int), .int .i64 (lo : Int), .int .i64 (hi : Int)] w fun x w' => x = .returned (.int .i64 ((wo lo hi 20 0 n).length : Int)) ∧ Below w.heap.size w w' := by
  have hL := fun w => lies_any (n : Int) (lo : Int) (hi : Int) w
  rw [show decide (0 ≤ (lo : Int) ∧ (lo : Int) ≤ (hi : Int) ∧ (hi : Int) ≤ (n : Int)) = true by simp; omega] at hL
  have hlen := wo_len h1 h2 h3 h0
  have HC : Hid (CC w w.heap.size [] (w.alloc (.cells #[.int .i64 0] 3))) := ⟨by rw [heap_alloc_new w _, show wrap64 ((([] : List (Nat × Nat)).length : Nat) : Int) = 0 from wrap_small 0 (by omega)], (Below.refl _ _).alloc (Nat.le_refl _) _⟩
  have hW : ∀ w1, CC w w.heap.size [] w1 → Calls Tryd.prog 37 #[.int .i64 0, .int .i64 (n : Int), .int .i64 (lo : Int), .int .i64 (hi : Int), .func (.func 40) #[] #[.pointer (some ⟨w.heap.size, 0, none⟩)]] w1 fun x w' => x = .returned (.tuple #[]) ∧ CC w w.heap.size (wo lo hi 20 0 n) w' :=
    fun w1 hc => without_any 40 #[.pointer (some ⟨w.heap.size, 0, none⟩)] eg_countF lo hi 1048576 (CC w w.heap.size) (by omega) (fun acc b e w' hc _ _ _ => countF_any w _ b e acc w' hc) 20 0 n [] w1 h0 (by omega) h3 (by simp) hc
  generalize wo lo hi 20 0 n = P at *
  go_enter Tryd.func15, Tryd.ntmps15
  go_wp2_with fail
  refine (hL _).mono ?_
  rintro x w1 ⟨rfl, hw⟩
  subst hw
  clear hL
  go_wp2_with fail
  refine (hW _ ?_).mono ?_
  · exact HC.out
  rintro x w2 ⟨rfl, hc, hb⟩
  rw [wrap_small _ (by omega)] at hc
  have c0 : w2.cell? ⟨w1.heap.size, 0, none⟩ = some (.int .i64 (P.length : Int)) := by rw [cell_of_row w2 _ _ _ _ _ hc]; rfl
  clear hW hc
  go_wp2
  go_ret
  exact ⟨rfl, hb⟩

set_option maxRecDepth 100000 in
set_option maxHeartbeats 1000000 in
theorem count_none (w : World) :
    Calls Tryd.prog 15 #[.int .i64 0, .int .i64 0, .int .i64 0] w fun x w' => x = .returned (.int .i64 0) ∧ Below w.heap.size w w' := by
  have hL := fun w => lies_any 0 0 0 w
  rw [show decide (0 ≤ (0 : Int) ∧ (0 : Int) ≤ 0 ∧ (0 : Int) ≤ 0) = true by decide] at hL
  have hW := fun fv w => without_in fv 0 0 0 0 w (Nat.le_refl _) (Nat.le_refl _)
  simp only [Int.natCast_zero] at hW
  go_enter Tryd.func15, Tryd.ntmps15
  go_wp2_with fail
  refine (hL _).mono ?_
  rintro x w1 ⟨rfl, hw⟩
  subst hw
  clear hL
  go_wp2_with fail
  refine (hW _ _).mono ?_
  rintro x w2 ⟨rfl, hw⟩
  subst hw
  clear hW
  go_wp2
  go_ret
  exact ⟨rfl, (Below.refl _ _).alloc (Nat.le_refl _) _⟩

set_option maxRecDepth 100000 in
set_option maxHeartbeats 1000000 in
theorem count_no (n lo hi : Int) (w : World) (h : ¬ (n ≤ 1048576 ∧ 0 ≤ lo ∧ lo ≤ hi ∧ hi ≤ n)) :
    Calls Tryd.prog 15 #[.int .i64 n, .int .i64 lo, .int .i64 hi] w fun x w' => x = .returned (.int .i64 0) ∧ w' = w := by
  have hL := fun w => lies_any n lo hi w
  by_cases h1 : 1048576 < n
  · clear hL h
    go_enter Tryd.func15, Tryd.ntmps15
    go_wp2
    go_ret
    exact ⟨rfl, rfl⟩
  · rw [show decide (0 ≤ lo ∧ lo ≤ hi ∧ hi ≤ n) = false by simp; omega] at hL
    have d1 : decide (1048576 < n) = false := by simpa using h1
    clear h
    go_enter Tryd.func15, Tryd.ntmps15
    go_wp2_with fail
    refine (hL _).mono ?_
    rintro x w1 ⟨rfl, hw⟩
    subst hw
    clear hL
    go_wp2
    go_ret
    exact ⟨rfl, rfl⟩

theorem count_any (n lo hi : Int) (w : World) :
    Calls Tryd.prog 15 #[.int .i64 n, .int .i64 lo, .int .i64 hi] w fun x w' => x = .returned (.int .i64 (cntF n lo hi : Int)) ∧ Below w.heap.size w w' := by
  by_cases h : n ≤ 1048576 ∧ 0 ≤ lo ∧ lo ≤ hi ∧ hi ≤ n
  · obtain ⟨N, rfl⟩ : ∃ N : Nat, n = (N : Int) := ⟨n.toNat, by omega⟩
    obtain ⟨A, rfl⟩ : ∃ A : Nat, lo = (A : Int) := ⟨lo.toNat, by omega⟩
    obtain ⟨B, rfl⟩ : ∃ B : Nat, hi = (B : Int) := ⟨hi.toNat, by omega⟩
    rcases Nat.eq_zero_or_pos N with h0 | h0
    · obtain rfl : A = 0 := by omega
      obtain rfl : B = 0 := by omega
      subst h0
      have e : cntF ((0 : Nat) : Int) ((0 : Nat) : Int) ((0 : Nat) : Int) = 0 := by decide
      rw [e]
      exact count_none w
    · have e : cntF (N : Int) (A : Int) (B : Int) = (wo A B 20 0 N).length := by unfold cntF; rw [if_pos (by omega)]; simp
      rw [e]
      exact count_ok N A B w (by omega) (by omega) (by omega) h0
  · have e : cntF n lo hi = 0 := by unfold cntF; rw [if_neg (by omega)]
    rw [e]
    exact (count_no n lo hi w h).mono fun x w' ⟨h1, h2⟩ => ⟨h1, by subst h2; exact Below.refl _ _⟩

end Go.Proofs.YtichffdkihifpaaDoor
