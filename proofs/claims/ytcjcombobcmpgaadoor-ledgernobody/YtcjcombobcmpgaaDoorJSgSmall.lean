/- What this text proves: a log in memory; the walks of seglog's missing, can, textSectors, taken, Len, Stopped over this program. -/
import Derived.Test.YtcjcombobcmpgaaDoorJD3
namespace Go.Proofs.YtcjcombobcmpgaaDoor
open Go.RowKit

/-- Block g holds a log's five fields. -/
def LB (w : World) (g bd : Nat) (n k : Int) (rs : Value) (st : Bool) : Prop :=
  w.heap[g]? = some (.cells #[.pointer (some ⟨bd, 0, none⟩), .int .i64 n, .int .i64 k, rs, .bool st] 72 (0, 0))

theorem LB.cells {w : World} {g bd : Nat} {n k : Int} {rs : Value} {st : Bool} (h : LB w g bd n k rs st) : w.cell? ⟨g, 0, none⟩ = some (.pointer (some ⟨bd, 0, none⟩)) ∧ w.cell? ⟨g, 1, none⟩ = some (.int .i64 n) ∧ w.cell? ⟨g, 2, none⟩ = some (.int .i64 k) ∧ w.cell? ⟨g, 3, none⟩ = some rs ∧ w.cell? ⟨g, 4, none⟩ = some (.bool st) := by
  refine ⟨?_, ?_, ?_, ?_, ?_⟩ <;> rw [cell_of_row w g _ _ _ _ h] <;> rfl
theorem LB.same {w w' : World} {g bd : Nat} {n k : Int} {rs : Value} {st : Bool} (h : LB w g bd n k rs st) (e : w'.heap[g]? = w.heap[g]?) : LB w' g bd n k rs st := e.trans h
theorem LB.lt {w : World} {g bd : Nat} {n k : Int} {rs : Value} {st : Bool} (h : LB w g bd n k rs st) : g < w.heap.size := (Array.getElem?_eq_some_iff.1 h).1
theorem LB.free {w : World} {g bd : Nat} {n k : Int} {rs : Value} {st : Bool} (h : LB w g bd n k rs st) (i : Nat) : w.frozen? ⟨g, i, none⟩ = false := by
  unfold LB at h
  simp [World.frozen?, h]
theorem LB.put2 {w : World} {g bd : Nat} {n k : Int} {rs : Value} {st : Bool} (h : LB w g bd n k rs st) (x : Int) : LB (w.setCell ⟨g, 2, none⟩ (.int .i64 x)) g bd n x rs st := by
  unfold LB; rw [heap_setCell_same w g 2 _ _ _ h]; rfl
theorem LB.put3 {w : World} {g bd : Nat} {n k : Int} {rs : Value} {st : Bool} (h : LB w g bd n k rs st) (x : Value) : LB (w.setCell ⟨g, 3, none⟩ x) g bd n k x st := by
  unfold LB; rw [heap_setCell_same w g 3 _ _ _ h]; rfl
theorem LB.put4 {w : World} {g bd : Nat} {n k : Int} {rs : Value} {st : Bool} (h : LB w g bd n k rs st) (x : Bool) : LB (w.setCell ⟨g, 4, none⟩ (.bool x)) g bd n k rs x := by
  unfold LB; rw [heap_setCell_same w g 4 _ _ _ h]; rfl

set_option maxRecDepth 100000 in
set_option maxHeartbeats 400000 in
theorem smiss_nil (w : World) : Calls Tryd.prog 28 #[.pointer none] w fun e w' => e = .returned (.bool true) ∧ w' = w := by
  go_enter Tryd.func28, Tryd.ntmps28
  go_wp2
  go_ret
  exact ⟨rfl, rfl⟩

set_option maxRecDepth 100000 in
set_option maxHeartbeats 400000 in
theorem smiss_raw (g : Nat) (w : World) (h0 : w.cell? ⟨g, 0, none⟩ = some (.pointer none)) : Calls Tryd.prog 28 #[.pointer (some ⟨g, 0, none⟩)] w fun e w' => e = .returned (.bool true) ∧ w' = w := by
  go_enter Tryd.func28, Tryd.ntmps28
  go_wp2
  go_ret
  exact ⟨rfl, rfl⟩

set_option maxRecDepth 100000 in
set_option maxHeartbeats 400000 in
theorem smiss_no (g bd : Nat) (w : World) (h0 : w.cell? ⟨g, 0, none⟩ = some (.pointer (some ⟨bd, 0, none⟩))) : Calls Tryd.prog 28 #[.pointer (some ⟨g, 0, none⟩)] w fun e w' => e = .returned (.bool false) ∧ w' = w := by
  go_enter Tryd.func28, Tryd.ntmps28
  go_wp2
  go_ret
  exact ⟨rfl, rfl⟩

set_option maxRecDepth 100000 in
set_option maxHeartbeats 400000 in
theorem scan_any (n : Int) (w : World) : Calls Tryd.prog 29 #[.int .i64 n] w fun e w' => e = .returned (.bool (decide (1 ≤ n ∧ n ≤ 4000))) ∧ w' = w := by
  by_cases h : 1 ≤ n
  · go_enter Tryd.func29, Tryd.ntmps29
    go_wp2
    go_ret
    exact ⟨by simp [h], rfl⟩
  · have h' : n < 1 := by omega
    go_enter Tryd.func29, Tryd.ntmps29
    go_wp2
    go_ret
    exact ⟨by simp; omega, rfl⟩

/-- How many sectors a text of n bytes takes. -/
def tsec (n : Nat) : Nat := (12 + n + 64 - 1) / 64

set_option maxRecDepth 100000 in
set_option maxHeartbeats 400000 in
theorem tsec_any (n : Nat) (hn : n ≤ 4294967296) (w : World) : Calls Tryd.prog 56 #[.int .i64 (n : Int)] w fun e w' => e = .returned (.int .i64 (tsec n : Int)) ∧ w' = w := by
  go_enter Tryd.func56, Tryd.ntmps56
  go_wp2
  go_ret
  refine ⟨?_, rfl⟩
  unfold tsec
  congr 2
  rw [show (12 + (n : Int) + 64 - 1) = ((12 + n + 64 - 1 : Nat) : Int) by omega]
  simp

set_option maxRecDepth 100000 in
set_option maxHeartbeats 400000 in
theorem taken_any (n : Nat) (hn : n ≤ 4294967296) (w : World) : Calls Tryd.prog 30 #[.int .i64 (n : Int)] w fun e w' => e = .returned (.int .i64 ((tsec n + 1 : Nat) : Int)) ∧ w' = w := by
  have h1 := tsec_any n hn w
  have h2 : tsec n ≤ 4294967296 := by unfold tsec; omega
  generalize tsec n = t at h1 h2
  go_enter Tryd.func30, Tryd.ntmps30
  go_wp2_with (go_at_call 56; refine h1.mono ?_; rintro e w1 ⟨rfl, rfl⟩)
  go_ret
  refine ⟨?_, rfl⟩
  go_num

set_option maxRecDepth 100000 in
set_option maxHeartbeats 400000 in
theorem slen_nil (v : Value) (w : World) (hm : Calls Tryd.prog 28 #[v] w fun e w' => e = .returned (.bool true) ∧ w' = w) : Calls Tryd.prog 23 #[v] w fun e w' => e = .returned (.int .i64 0) ∧ w' = w := by
  go_enter Tryd.func23, Tryd.ntmps23
  go_wp2_with (go_at_call 28; refine hm.mono ?_; rintro e w1 ⟨rfl, rfl⟩)
  go_ret
  exact ⟨rfl, rfl⟩

set_option maxRecDepth 100000 in
set_option maxHeartbeats 400000 in
theorem sroom_nil (v : Value) (w : World) (hm : Calls Tryd.prog 28 #[v] w fun e w' => e = .returned (.bool true) ∧ w' = w) : Calls Tryd.prog 18 #[v] w fun e w' => e = .returned (.int .i64 0) ∧ w' = w := by
  go_enter Tryd.func18, Tryd.ntmps18
  go_wp2_with (go_at_call 28; refine hm.mono ?_; rintro e w1 ⟨rfl, rfl⟩)
  go_ret
  exact ⟨rfl, rfl⟩

set_option maxRecDepth 100000 in
set_option maxHeartbeats 400000 in
theorem srecs_nil (v : Value) (w : World) (hm : Calls Tryd.prog 28 #[v] w fun e w' => e = .returned (.bool true) ∧ w' = w) : Calls Tryd.prog 16 #[v] w fun e w' => e = .returned (.slice none 0 0) ∧ w' = w := by
  go_enter Tryd.func16, Tryd.ntmps16
  go_wp2_with (go_at_call 28; refine hm.mono ?_; rintro e w1 ⟨rfl, rfl⟩)
  go_ret
  exact ⟨rfl, rfl⟩

set_option maxRecDepth 100000 in
set_option maxHeartbeats 400000 in
theorem sstop_nil (v : Value) (w : World) (hm : Calls Tryd.prog 28 #[v] w fun e w' => e = .returned (.bool true) ∧ w' = w) : Calls Tryd.prog 19 #[v] w fun e w' => e = .returned (.bool true) ∧ w' = w := by
  go_enter Tryd.func19, Tryd.ntmps19
  go_wp2_with (go_at_call 28; refine hm.mono ?_; rintro e w1 ⟨rfl, rfl⟩)
  go_ret
  exact ⟨rfl, rfl⟩

set_option maxRecDepth 100000 in
set_option maxHeartbeats 400000 in
theorem sapp_nil (v b : Value) (w : World) (hm : Calls Tryd.prog 28 #[v] w fun e w' => e = .returned (.bool true) ∧ w' = w) : Calls Tryd.prog 13 #[v, b] w fun e w' => e = .returned (.int .i64 2) ∧ w' = w := by
  go_enter Tryd.func13, Tryd.ntmps13
  go_wp2_with (go_at_call 28; refine hm.mono ?_; rintro e w1 ⟨rfl, rfl⟩)
  go_ret
  exact ⟨rfl, rfl⟩

set_option maxRecDepth 100000 in
set_option maxHeartbeats 400000 in
theorem slen_any {g bd c k : Nat} {n x : Int} {p : Option Addr} {st : Bool} {w : World} (h : LB w g bd n x (.slice p k c) st) : Calls Tryd.prog 23 #[.pointer (some ⟨g, 0, none⟩)] w fun e w' => e = .returned (.int .i64 (k : Int)) ∧ w' = w := by
  obtain ⟨c0, c1, c2, c3, c4⟩ := h.cells
  have hm := smiss_no g bd w c0
  clear h
  go_enter Tryd.func23, Tryd.ntmps23
  go_wp2_with (go_at_call 28; refine hm.mono ?_; rintro e w1 ⟨rfl, rfl⟩)
  go_ret
  exact ⟨rfl, rfl⟩

set_option maxRecDepth 100000 in
set_option maxHeartbeats 400000 in
theorem sstop_any {g bd : Nat} {n x : Int} {rs : Value} {st : Bool} {w : World} (h : LB w g bd n x rs st) : Calls Tryd.prog 19 #[.pointer (some ⟨g, 0, none⟩)] w fun e w' => e = .returned (.bool st) ∧ w' = w := by
  obtain ⟨c0, c1, c2, c3, c4⟩ := h.cells
  have hm := smiss_no g bd w c0
  clear h
  go_enter Tryd.func19, Tryd.ntmps19
  go_wp2_with (go_at_call 28; refine hm.mono ?_; rintro e w1 ⟨rfl, rfl⟩)
  go_ret
  exact ⟨rfl, rfl⟩

/-- The longest record that still goes in. -/
def roomF (n x : Nat) : Nat := min 4000 ((n - x - 1) * 64 - 12)

set_option maxRecDepth 100000 in
set_option maxHeartbeats 800000 in
theorem sroom_any {g bd n x : Nat} {rs : Value} {st : Bool} {w : World} (h : LB w g bd (n : Int) (x : Int) rs st) (hn : n ≤ 16384) (hx : x ≤ n) : Calls Tryd.prog 18 #[.pointer (some ⟨g, 0, none⟩)] w fun e w' => e = .returned (.int .i64 (roomF n x : Int)) ∧ Below w.heap.size w w' := by
  obtain ⟨c0, c1, c2, c3, c4⟩ := h.cells
  have hm := smiss_no g bd w c0
  clear h
  go_enter Tryd.func18, Tryd.ntmps18
  go_wp2_with (go_at_call 28; refine hm.mono ?_; rintro e w1 ⟨rfl, rfl⟩)
  go_region
  all_goals
    go_wp2
    all_goals
      go_ret
      refine ⟨?_, (Below.refl _ _).drew⟩
      have hR : (roomF n x : Int) = max 0 (min 4000 (((n : Int) - x - 1) * 64 - 12)) := by unfold roomF; omega
      rw [hR]
      refine congrArg (fun z => Ending.returned (Value.int .i64 z)) ?_
      omega

end Go.Proofs.YtcjcombobcmpgaaDoor
