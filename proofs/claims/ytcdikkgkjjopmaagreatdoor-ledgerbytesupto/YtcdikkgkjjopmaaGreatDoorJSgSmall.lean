/- What this text proves: a log in memory; the walks of seglog's missing, can, textSectors, taken, Len, Stopped over this program. -/
import Derived.Test.YtcdikkgkjjopmaaGreatDoorJD2
namespace Go.Proofs.YtcdikkgkjjopmaaGreatDoor
open Go.RowKit

/-- Block g holds a log's five fields. -/
def LB (w : World) (g bd : Nat) (n k : Int) (rs : Value) (st : Bool) : Prop :=
  w.heap[g]? = some (.cells #[.pointer (some ⟨bd, 0, none⟩), .int .i64 n, .int .i64 k, rs, .bool st] 105 (0, 0))

theorem LB.cells {w : World} {g bd : Nat} {n k : Int} {rs : Value} {st : Bool} (h : LB w g bd n k rs st) : w.cell? ⟨g, 0, none⟩ = some (.pointer (some ⟨bd, 0, none⟩)) ∧ w.cell? ⟨g, 1, none⟩ = some (.int .i64 n) ∧ w.cell? ⟨g, 2, none⟩ = some (.int .i64 k) ∧ w.cell? ⟨g, 3, none⟩ = some rs ∧ w.cell? ⟨g, 4, none⟩ = some (.bool st) := by
  refine ⟨?_, ?_, ?_, ?_, ?_⟩ <;> rw [cell_of_row w g _ _ _ _ h] <;> rfl
theorem LB.same {w w' : World} {g bd : Nat} {n k : Int} {rs : Value} {st : Bool} (h : LB w g bd n k rs st) (e : w'.heap[g]? = w.heap[g]?) : LB w' g bd n k rs st := e.trans h
theorem LB.lt {w : World} {g bd : Nat} {n k : Int} {rs : Value} {st : Bool} (h : LB w g bd n k rs st) : g < w.heap.size := (Array.getElem?_eq_some_iff.1 h).1
theorem LB.free {w : World} {g bd : Nat} {n k : Int} {rs : Value} {st : Bool} (h : LB w g bd n k rs st) (i : Nat) : w.frozen? ⟨g, i, none⟩ = false := by
  unfold LB at h
  simp [World.frozen?, h]
theorem LB.put2 {w : World} {g bd : Nat} {n k : Int} {rs : Value} {st : Bool} (h : LB w g bd n k rs st) (x : Int) : LB (w.setCell ⟨g, 2, none⟩ (.int .i64 x)) g bd n x rs st := by
  unfold LB; rw [heap_setCell_same w g 2 _ _ _ h]; rfl
theorem LB.put3 {w : World} {g bd : Nat} {n k : Int} {rs : Value} {st : Bool} (h : LB w g bd n k rs st) (x : Value) : LB (w.setCell ⟨g, 3, none⟩ x) g bd n k x st := by
  unfold LB; rw [heap_setCell_same w g 3 _ _ _ h]; rfl
theorem LB.put4 {w : World} {g bd : Nat} {n k : Int} {rs : Value} {st : Bool} (h : LB w g bd n k rs st) (x : Bool) : LB (w.setCell ⟨g, 4, none⟩ (.bool x)) g bd n k rs x := by
  unfold LB; rw [heap_setCell_same w g 4 _ _ _ h]; rfl

set_option maxRecDepth 100000 in
set_option maxHeartbeats 400000 in
theorem smiss_nil (w : World) : Calls Tryz.prog 69 #[.pointer none] w fun e w' => e = .returned (.bool true) ∧ w' = w := by
  go_enter Tryz.func69, Tryz.ntmps69
  go_wp2
  go_ret
  exact ⟨rfl, rfl⟩

set_option maxRecDepth 100000 in
set_option maxHeartbeats 400000 in
theorem smiss_raw (g : Nat) (w : World) (h0 : w.cell? ⟨g, 0, none⟩ = some (.pointer none)) : Calls Tryz.prog 69 #[.pointer (some ⟨g, 0, none⟩)] w fun e w' => e = .returned (.bool true) ∧ w' = w := by
  go_enter Tryz.func69, Tryz.ntmps69
  go_wp2
  go_ret
  exact ⟨rfl, rfl⟩

set_option maxRecDepth 100000 in
set_option maxHeartbeats 400000 in
theorem smiss_no (g bd : Nat) (w : World) (h0 : w.cell? ⟨g, 0, none⟩ = some (.pointer (some ⟨bd, 0, none⟩))) : Calls Tryz.prog 69 #[.pointer (some ⟨g, 0, none⟩)] w fun e w' => e = .returned (.bool false) ∧ w' = w := by
  go_enter Tryz.func69, Tryz.ntmps69
  go_wp2
  go_ret
  exact ⟨rfl, rfl⟩

set_option maxRecDepth 100000 in
set_option maxHeartbeats 400000 in
theorem scan_any (n : Int) (w : World) : Calls Tryz.prog 70 #[.int .i64 n] w fun e w' => e = .returned (.bool (decide (1 ≤ n ∧ n ≤ 4000))) ∧ w' = w := by
  by_cases h : 1 ≤ n
  · go_enter Tryz.func70, Tryz.ntmps70
    go_wp2
    go_ret
    exact ⟨by simp [h], rfl⟩
  · have h' : n < 1 := by omega
    go_enter Tryz.func70, Tryz.ntmps70
    go_wp2
    go_ret
    exact ⟨by simp; omega, rfl⟩

/-- How many sectors a text of n bytes takes. -/
def tsec (n : Nat) : Nat := (12 + n + 64 - 1) / 64

set_option maxRecDepth 100000 in
set_option maxHeartbeats 400000 in
theorem tsec_any (n : Nat) (hn : n ≤ 4294967296) (w : World) : Calls Tryz.prog 88 #[.int .i64 (n : Int)] w fun e w' => e = .returned (.int .i64 (tsec n : Int)) ∧ w' = w := by
  go_enter Tryz.func88, Tryz.ntmps88
  go_wp2
  go_ret
  refine ⟨?_, rfl⟩
  unfold tsec
  congr 2
  rw [show (12 + (n : Int) + 64 - 1) = ((12 + n + 64 - 1 : Nat) : Int) by omega]
  simp

set_option maxRecDepth 100000 in
set_option maxHeartbeats 400000 in
theorem taken_any (n : Nat) (hn : n ≤ 4294967296) (w : World) : Calls Tryz.prog 71 #[.int .i64 (n : Int)] w fun e w' => e = .returned (.int .i64 ((tsec n + 1 : Nat) : Int)) ∧ w' = w := by
  have h1 := tsec_any n hn w
  have h2 : tsec n ≤ 4294967296 := by unfold tsec; omega
  generalize tsec n = t at h1 h2
  go_enter Tryz.func71, Tryz.ntmps71
  go_wp2_with (go_at_call 88; refine h1.mono ?_; rintro e w1 ⟨rfl, rfl⟩)
  go_ret
  refine ⟨?_, rfl⟩
  go_num

set_option maxRecDepth 100000 in
set_option maxHeartbeats 400000 in
theorem slen_nil (v : Value) (w : World) (hm : Calls Tryz.prog 69 #[v] w fun e w' => e = .returned (.bool true) ∧ w' = w) : Calls Tryz.prog 50 #[v] w fun e w' => e = .returned (.int .i64 0) ∧ w' = w := by
  go_enter Tryz.func50, Tryz.ntmps50
  go_wp2_with (go_at_call 69; refine hm.mono ?_; rintro e w1 ⟨rfl, rfl⟩)
  go_ret
  exact ⟨rfl, rfl⟩

set_option maxRecDepth 100000 in
set_option maxHeartbeats 400000 in
theorem srecs_nil (v : Value) (w : World) (hm : Calls Tryz.prog 69 #[v] w fun e w' => e = .returned (.bool true) ∧ w' = w) : Calls Tryz.prog 53 #[v] w fun e w' => e = .returned (.slice none 0 0) ∧ w' = w := by
  go_enter Tryz.func53, Tryz.ntmps53
  go_wp2_with (go_at_call 69; refine hm.mono ?_; rintro e w1 ⟨rfl, rfl⟩)
  go_ret
  exact ⟨rfl, rfl⟩

set_option maxRecDepth 100000 in
set_option maxHeartbeats 400000 in
theorem sapp_nil (v b : Value) (w : World) (hm : Calls Tryz.prog 69 #[v] w fun e w' => e = .returned (.bool true) ∧ w' = w) : Calls Tryz.prog 51 #[v, b] w fun e w' => e = .returned (.int .i64 2) ∧ w' = w := by
  go_enter Tryz.func51, Tryz.ntmps51
  go_wp2_with (go_at_call 69; refine hm.mono ?_; rintro e w1 ⟨rfl, rfl⟩)
  go_ret
  exact ⟨rfl, rfl⟩

set_option maxRecDepth 100000 in
set_option maxHeartbeats 400000 in
theorem slen_any {g bd c k : Nat} {n x : Int} {p : Option Addr} {st : Bool} {w : World} (h : LB w g bd n x (.slice p k c) st) : Calls Tryz.prog 50 #[.pointer (some ⟨g, 0, none⟩)] w fun e w' => e = .returned (.int .i64 (k : Int)) ∧ w' = w := by
  obtain ⟨c0, c1, c2, c3, c4⟩ := h.cells
  have hm := smiss_no g bd w c0
  clear h
  go_enter Tryz.func50, Tryz.ntmps50
  go_wp2_with (go_at_call 69; refine hm.mono ?_; rintro e w1 ⟨rfl, rfl⟩)
  go_ret
  exact ⟨rfl, rfl⟩

/-- The longest record that still goes in. -/
def roomF (n x : Nat) : Nat := min 4000 ((n - x - 1) * 64 - 12)

end Go.Proofs.YtcdikkgkjjopmaaGreatDoor
