/- What this text proves: a log in memory; the walks of seglog's missing, can, textSectors, taken, Len, Stopped over this program. What this text proves: the walks of seglog's numberOf, recordOf, standing, wipe over this program, where all is noughts. What this text proves: the walk of seglog's wipe over this program, where all that it looks at is noughts. What this text proves: the walk of seglog.Open over this program, on a device whose sectors are noughts. -/
import Derived.Test.YtcgpgnajmfemhaaGreatDoorJD2
import Derived.Test.YtcgpgnajmfemhaaGreatDoorJQ4
import Derived.RangeFuncNested
import Derived.RangeFuncBound
import Derived.RangeFuncCalls
import Derived.RangeFuncLeaves
import Derived.Shelf.Abstract
import Derived.Shelf.RegionOpen
import Derived.WalkKit
import Derived.OwnWalkIn
import Derived.TacticsInMore
import Derived.LoopNIn
import Derived.LoopIn
namespace Go.Proofs.YtcgpgnajmfemhaaGreatDoor
open Go.RowKit

/-- Block g holds a log's five fields. -/
def LB (w : World) (g bd : Nat) (n k : Int) (rs : Value) (st : Bool) : Prop :=
  w.heap[g]? = some (.cells #[.pointer (some ⟨bd, 0, none⟩), .int .i64 n, .int .i64 k, rs, .bool st] 157 (0, 0))

theorem LB.cells {w : World} {g bd : Nat} {n k : Int} {rs : Value} {st : Bool} (h : LB w g bd n k rs st) : w.cell? ⟨g, 0, none⟩ = some (.pointer (some ⟨bd, 0, none⟩)) ∧ w.cell? ⟨g, 1, none⟩ = some (.int .i64 n) ∧ w.cell? ⟨g, 2, none⟩ = some (.int .i64 k) ∧ w.cell? ⟨g, 3, none⟩ = some rs ∧ w.cell? ⟨g, 4, none⟩ = some (.bool st) := by
  refine ⟨?_, ?_, ?_, ?_, ?_⟩ <;> rw [cell_of_row w g _ _ _ _ h] <;> rfl
theorem LB.same {w w' : World} {g bd : Nat} {n k : Int} {rs : Value} {st : Bool} (h : LB w g bd n k rs st) (e : w'.heap[g]? = w.heap[g]?) : LB w' g bd n k rs st := e.trans h
theorem LB.lt {w : World} {g bd : Nat} {n k : Int} {rs : Value} {st : Bool} (h : LB w g bd n k rs st) : g < w.heap.size := (Array.getElem?_eq_some_iff.1 h).1
theorem LB.free {w : World} {g bd : Nat} {n k : Int} {rs : Value} {st : Bool} (h : LB w g bd n k rs st) (i : Nat) : w.frozen? ⟨g, i, none⟩ = false := by
  unfold LB at h
  simp [World.frozen?, h]
theorem LB.put2 {w : World} {g bd : Nat} {n k : Int} {rs : Value} {st : Bool} (h : LB w g bd n k rs st) (x : Int) : LB (w.setCell ⟨g, 2, none⟩ (.int .i64 x)) g bd n x rs st := by
  unfold LB; rw [heap_setCell_same w g 2 _ _ _ h]; rfl
theorem LB.put3 {w : World} {g bd : Nat} {n k : Int} {rs : Value} {st : Bool} (h : LB w g bd n k rs st) (x : Value) : LB (w.setCell ⟨g, 3, none⟩ x) g bd n k x st := by
  unfold LB; rw [heap_setCell_same w g 3 _ _ _ h]; rfl
theorem LB.put4 {w : World} {g bd : Nat} {n k : Int} {rs : Value} {st : Bool} (h : LB w g bd n k rs st) (x : Bool) : LB (w.setCell ⟨g, 4, none⟩ (.bool x)) g bd n k rs x := by
  unfold LB; rw [heap_setCell_same w g 4 _ _ _ h]; rfl

set_option maxRecDepth 100000 in
set_option maxHeartbeats 400000 in
theorem smiss_nil (w : World) : Calls Tryz.prog 81 #[.pointer none] w fun e w' => e = .returned (.bool true) ∧ w' = w := by
  go_enter Tryz.func81, Tryz.ntmps81
  go_wp2
  go_ret
  exact ⟨rfl, rfl⟩

set_option maxRecDepth 100000 in
set_option maxHeartbeats 400000 in
theorem smiss_raw (g : Nat) (w : World) (h0 : w.cell? ⟨g, 0, none⟩ = some (.pointer none)) : Calls Tryz.prog 81 #[.pointer (some ⟨g, 0, none⟩)] w fun e w' => e = .returned (.bool true) ∧ w' = w := by
  go_enter Tryz.func81, Tryz.ntmps81
  go_wp2
  go_ret
  exact ⟨rfl, rfl⟩

set_option maxRecDepth 100000 in
set_option maxHeartbeats 400000 in
theorem smiss_no (g bd : Nat) (w : World) (h0 : w.cell? ⟨g, 0, none⟩ = some (.pointer (some ⟨bd, 0, none⟩))) : Calls Tryz.prog 81 #[.pointer (some ⟨g, 0, none⟩)] w fun e w' => e = .returned (.bool false) ∧ w' = w := by
  go_enter Tryz.func81, Tryz.ntmps81
  go_wp2
  go_ret
  exact ⟨rfl, rfl⟩

set_option maxRecDepth 100000 in
set_option maxHeartbeats 400000 in
theorem scan_any (n : Int) (w : World) : Calls Tryz.prog 82 #[.int .i64 n] w fun e w' => e = .returned (.bool (decide (1 ≤ n ∧ n ≤ 4000))) ∧ w' = w := by
  by_cases h : 1 ≤ n
  · go_enter Tryz.func82, Tryz.ntmps82
    go_wp2
    go_ret
    exact ⟨by simp [h], rfl⟩
  · have h' : n < 1 := by omega
    go_enter Tryz.func82, Tryz.ntmps82
    go_wp2
    go_ret
    exact ⟨by simp; omega, rfl⟩

/-- How many sectors a text of n bytes takes. -/
def tsec (n : Nat) : Nat := (12 + n + 64 - 1) / 64

set_option maxRecDepth 100000 in
set_option maxHeartbeats 400000 in
theorem tsec_any (n : Nat) (hn : n ≤ 4294967296) (w : World) : Calls Tryz.prog 126 #[.int .i64 (n : Int)] w fun e w' => e = .returned (.int .i64 (tsec n : Int)) ∧ w' = w := by
  go_enter Tryz.func126, Tryz.ntmps126
  go_wp2
  go_ret
  refine ⟨?_, rfl⟩
  unfold tsec
  congr 2
  rw [show (12 + (n : Int) + 64 - 1) = ((12 + n + 64 - 1 : Nat) : Int) by omega]
  simp

set_option maxRecDepth 100000 in
set_option maxHeartbeats 400000 in
theorem taken_any (n : Nat) (hn : n ≤ 4294967296) (w : World) : Calls Tryz.prog 83 #[.int .i64 (n : Int)] w fun e w' => e = .returned (.int .i64 ((tsec n + 1 : Nat) : Int)) ∧ w' = w := by
  have h1 := tsec_any n hn w
  have h2 : tsec n ≤ 4294967296 := by unfold tsec; omega
  generalize tsec n = t at h1 h2
  go_enter Tryz.func83, Tryz.ntmps83
  go_wp2_with (go_at_call 126; refine h1.mono ?_; rintro e w1 ⟨rfl, rfl⟩)
  go_ret
  refine ⟨?_, rfl⟩
  go_num

set_option maxRecDepth 100000 in
set_option maxHeartbeats 400000 in
theorem slen_nil (v : Value) (w : World) (hm : Calls Tryz.prog 81 #[v] w fun e w' => e = .returned (.bool true) ∧ w' = w) : Calls Tryz.prog 70 #[v] w fun e w' => e = .returned (.int .i64 0) ∧ w' = w := by
  go_enter Tryz.func70, Tryz.ntmps70
  go_wp2_with (go_at_call 81; refine hm.mono ?_; rintro e w1 ⟨rfl, rfl⟩)
  go_ret
  exact ⟨rfl, rfl⟩

set_option maxRecDepth 100000 in
set_option maxHeartbeats 400000 in
theorem srecs_nil (v : Value) (w : World) (hm : Calls Tryz.prog 81 #[v] w fun e w' => e = .returned (.bool true) ∧ w' = w) : Calls Tryz.prog 72 #[v] w fun e w' => e = .returned (.slice none 0 0) ∧ w' = w := by
  go_enter Tryz.func72, Tryz.ntmps72
  go_wp2_with (go_at_call 81; refine hm.mono ?_; rintro e w1 ⟨rfl, rfl⟩)
  go_ret
  exact ⟨rfl, rfl⟩

set_option maxRecDepth 100000 in
set_option maxHeartbeats 400000 in
theorem sstop_nil (v : Value) (w : World) (hm : Calls Tryz.prog 81 #[v] w fun e w' => e = .returned (.bool true) ∧ w' = w) : Calls Tryz.prog 66 #[v] w fun e w' => e = .returned (.bool true) ∧ w' = w := by
  go_enter Tryz.func66, Tryz.ntmps66
  go_wp2_with (go_at_call 81; refine hm.mono ?_; rintro e w1 ⟨rfl, rfl⟩)
  go_ret
  exact ⟨rfl, rfl⟩

set_option maxRecDepth 100000 in
set_option maxHeartbeats 400000 in
theorem sapp_nil (v b : Value) (w : World) (hm : Calls Tryz.prog 81 #[v] w fun e w' => e = .returned (.bool true) ∧ w' = w) : Calls Tryz.prog 47 #[v, b] w fun e w' => e = .returned (.int .i64 2) ∧ w' = w := by
  go_enter Tryz.func47, Tryz.ntmps47
  go_wp2_with (go_at_call 81; refine hm.mono ?_; rintro e w1 ⟨rfl, rfl⟩)
  go_ret
  exact ⟨rfl, rfl⟩

set_option maxRecDepth 100000 in
set_option maxHeartbeats 400000 in
theorem slen_any {g bd c k : Nat} {n x : Int} {p : Option Addr} {st : Bool} {w : World} (h : LB w g bd n x (.slice p k c) st) : Calls Tryz.prog 70 #[.pointer (some ⟨g, 0, none⟩)] w fun e w' => e = .returned (.int .i64 (k : Int)) ∧ w' = w := by
  obtain ⟨c0, c1, c2, c3, c4⟩ := h.cells
  have hm := smiss_no g bd w c0
  clear h
  go_enter Tryz.func70, Tryz.ntmps70
  go_wp2_with (go_at_call 81; refine hm.mono ?_; rintro e w1 ⟨rfl, rfl⟩)
  go_ret
  exact ⟨rfl, rfl⟩

set_option maxRecDepth 100000 in
set_option maxHeartbeats 400000 in
theorem sstop_any {g bd : Nat} {n x : Int} {rs : Value} {st : Bool} {w : World} (h : LB w g bd n x rs st) : Calls Tryz.prog 66 #[.pointer (some ⟨g, 0, none⟩)] w fun e w' => e = .returned (.bool st) ∧ w' = w := by
  obtain ⟨c0, c1, c2, c3, c4⟩ := h.cells
  have hm := smiss_no g bd w c0
  clear h
  go_enter Tryz.func66, Tryz.ntmps66
  go_wp2_with (go_at_call 81; refine hm.mono ?_; rintro e w1 ⟨rfl, rfl⟩)
  go_ret
  exact ⟨rfl, rfl⟩

/-- The longest record that still goes in. -/
def roomF (n x : Nat) : Nat := min 4000 ((n - x - 1) * 64 - 12)

end Go.Proofs.YtcgpgnajmfemhaaGreatDoor

namespace Go.Proofs.YtcgpgnajmfemhaaGreatDoor
open Go.RowKit

set_option maxRecDepth 100000 in
set_option maxHeartbeats 800000 in
theorem numOf_zero (k c : Nat) (p : Option Addr) (w : World) (h : HB w (.slice p k c) (List.replicate k 0)) : Calls Tryz.prog 190 #[.slice p k c] w fun e w' => e = .returned (.int .i64 0) ∧ w' = w := by
  have hl := h.len
  have hm : k ≤ 9223372036854775807 := by have := hl.2.1; have := hl.2.2.1; unfold maxLen at *; omega
  have hcell : ∀ j, j < k → ∃ b o, p = some ⟨b, o, none⟩ ∧ w.cell? ⟨b, o + j, none⟩ = some (.int .u8 0) := fun j hj => by
    obtain ⟨b, o, e1, e2⟩ := h.addr (by omega)
    exact ⟨b, o, e1, e2 j 0 (by rw [List.getElem?_replicate, if_pos hj])⟩
  clear h hl
  go_enter Tryz.func190, Tryz.ntmps190
  go_wp2
  go_loopw [3, 8] (fun n i wr => ∃ j : Nat, j ≤ k ∧ n = .int .i64 0 ∧ i = .int .i64 (j : Int) ∧ wr = w) (fun _ i _ => k - (RowKit.intOf i).toNat)
  case atStart => exact ⟨0, Nat.zero_le _, rfl, rfl, rfl⟩
  case round =>
    obtain ⟨j, hj, rfl, rfl, rfl⟩ := hrel
    by_cases hlt : j < k
    · obtain ⟨b, o, rfl, hc⟩ := hcell j hlt
      clear hcell
      go_wp2
      go_roundw
      case rel => refine ⟨j + 1, by omega, ?_, by go_num, trivial⟩; kernel_rfl
      case measure => simp [RowKit.intOf]; omega
    · obtain rfl : j = k := by omega
      clear hcell
      go_wp2
      go_ret
      exact ⟨rfl, rfl⟩

set_option maxRecDepth 100000 in
set_option maxHeartbeats 800000 in
theorem recOf_zero (g o n c b : Nat) (s : Int) (w : World) (hn : 1 ≤ n) (hnm : n ≤ 16384) (hc : w.cell? ⟨g, o, none⟩ = some (.slice (some ⟨b, 0, none⟩) 64 64)) (hb : HB w (.slice (some ⟨b, 0, none⟩) 64 64) (List.replicate 64 0)) :
    Calls Tryz.prog 155 #[.slice (some ⟨g, o, none⟩) n c, .int .i64 s] w fun e w' => e = .returned (.tuple #[.slice none 0 0, .bool false]) ∧ w' = w := by
  have k1 := fun W => run_cut2 (P := Tryz.prog) Tryz.underlying37 s_u8 (some ⟨b, 0, none⟩) 64 64 8 12 8 12 rfl rfl (by omega) (by omega) W
  have hb4 := hb.cut 8 12 64 (by omega) (by omega) (by omega) (by omega)
  have e4 : ((List.replicate 64 (0 : UInt8)).drop 8).take (12 - 8) = List.replicate 4 0 := by simp
  rw [e4] at hb4
  have hN := numOf_zero 4 56 (cutP (some ⟨b, 0, none⟩) 64 8) w hb4
  have hK := scan_any 0 w
  rw [decide_eq_false (by omega)] at hK
  generalize cutP (some ⟨b, 0, none⟩) 64 8 = q at *
  clear hb hb4 e4
  go_enter Tryz.func155, Tryz.ntmps155
  go_wp2_with (first
    | (go_at_call 190; refine hN.mono ?_; rintro e w1 ⟨rfl, rfl⟩)
    | (go_at_call 82; refine hK.mono ?_; rintro e w2 ⟨rfl, rfl⟩))
  go_ret2
  exact ⟨rfl, rfl⟩

attribute [local go_sem] Oper.semAt_some

theorem run_slice0 (g n c : Nat) (hn : 1 ≤ n) (hc : n ≤ c) (W : World) : (Instr.slice 38 (.slice (some ⟨g, 0, none⟩) n c) (some (.int .i64 0)) none none).run Tryz.prog W = .ok (.slice (some ⟨g, 0, none⟩) n c) W := by
  have h := run_cut (P := Tryz.prog) Tryz.underlying38 s_bytes (some ⟨g, 0, none⟩) n c 0 0 rfl (Nat.zero_le _) W
  rw [h]
  unfold cutP
  rw [if_neg (by omega)]
  simp [Addr.add_lit]

set_option maxRecDepth 100000 in
set_option maxHeartbeats 2000000 in
theorem stand_zero (n B g N b n₀ : Nat) (w : World) (hn1 : 1 ≤ n) (hN : 1 ≤ N) (hNm : N ≤ 16384) (hB : w.cell? ⟨B, 0, none⟩ = some (.slice (some ⟨g, 0, none⟩) N N)) (hc : w.cell? ⟨g, 0, none⟩ = some (.slice (some ⟨b, 0, none⟩) 64 64)) (hb : HB w (.slice (some ⟨b, 0, none⟩) 64 64) (List.replicate 64 0)) :
    SeqStopsK Fence.wide n Tryz.prog 154 #[.pointer (some ⟨B, 0, none⟩)] (fun v : Value => #[v]) (Below n₀) (fun xs => xs = []) (fun _ => False) 0 w := fun l J Jx W hW hJ hJx hY h0 => by
  have hB' := cell_later hW hB
  have hR := recOf_zero g 0 N N b 1 W hN hNm (cell_later hW hc) (hb.later hW)
  have k1 := fun X => run_slice0 g N N hN (Nat.le_refl _) X
  clear hb hc hB
  refine callsIn_of_wp Tryz.func154 rfl trivial ?_ rfl
  simp only [Tryz.ntmps154, List.size_toArray, List.length_cons, List.length_nil, Nat.reduceAdd, Nat.reduceSub, Array.replicate_succ, Array.replicate_zero, List.push_toArray, List.append_toArray, List.nil_append, List.cons_append]
  gi_wp2
  gi_loopw [3, 4] (fun a s wr => a = .int .i64 0 ∧ s = .int .i64 1 ∧ wr = W) (fun _ _ _ => 0)
  case atStart => exact ⟨rfl, rfl, rfl⟩
  case round =>
    obtain ⟨rfl, rfl, rfl⟩ := hrel
    gi_wp2_with (refine ⟨trivial, ?_⟩; gi_at_call 155; refine (callsIn_wide.2 hR).mono ?_; rintro e w1 ⟨rfl, rfl⟩)
    refine ⟨fun _ h => (by cases h), ?_⟩
    gi_wp2
    refine bodyPost_ret (results_none rfl _ _ _) rfl ?_
    exact ⟨⟨_, rfl⟩, .inl ⟨[], rfl, h0⟩⟩

end Go.Proofs.YtcgpgnajmfemhaaGreatDoor

namespace Go.Proofs.YtcgpgnajmfemhaaGreatDoor
open Go.RowKit

set_option maxRecDepth 100000 in
set_option maxHeartbeats 1600000 in
theorem wipe_zero {g bd gi N k : Nat} {n : Int} {rs : Value} {st : Bool} {w : World} (h : LB w g bd n (k : Int) rs st) (hk : k ≤ N) (hN : N ≤ 16384) (himg : ∀ j, k ≤ j → j < N → ∃ b, w.cell? ⟨gi, j, none⟩ = some (.slice (some ⟨b, 0, none⟩) 64 64) ∧ HB w (.slice (some ⟨b, 0, none⟩) 64 64) nulls) :
    Calls Tryz.prog 113 #[.pointer (some ⟨g, 0, none⟩), .slice (some ⟨gi, 0, none⟩) N N] w fun e w' => e = .returned (.int .i64 0) ∧ Below w.heap.size w w' := by
  obtain ⟨c0, c1, c2, c3, c4⟩ := h.cells
  obtain ⟨i0, hi, hz0, hz1, hz2⟩ := info_parts i_u8
  clear h c0 c1 c3 c4
  go_enter Tryz.func113, Tryz.ntmps113
  go_wp2_with (at_make; refine wpList_make_full _ rfl _ _ 37 rfl w.heap.size 5 i0 (.int .u8 0) 1 Tryz.underlying37 hi hz0 hz1 .i64 .i64 _ _ 64 rfl rfl ?qa ?qb ?qc ?qd ?qe ?_)
  all_goals (try (first | omega | (unfold maxLen; omega) | (rw [hz2]; omega)))
  intro w1 hown1 hgrow1
  have hb1 : Below w.heap.size w w1 := (Below.refl _ w).grown hgrow1 (Nat.le_refl _) (by intro k hk; cases hk)
  have hNo : HB w1 (.slice (some ⟨w.heap.size, 0, none⟩) 64 64) nulls := by
    refine HB.of_owns (base := w.heap.size) (e := 5) (n := 64) ?_
    have e : nulls = List.replicate 64 0 := rfl
    rw [e, ← made_bcs]
    simpa using hown1
  have d2 := cell_later hb1 c2
  have himg1 : ∀ j, k ≤ j → j < N → ∃ b, w1.cell? ⟨gi, j, none⟩ = some (.slice (some ⟨b, 0, none⟩) 64 64) ∧ Calls Tryz.prog 117 #[.slice (some ⟨b, 0, none⟩) 64 64, .slice (some ⟨w.heap.size, 0, none⟩) 64 64] w1 fun e w' => e = .returned (.bool true) ∧ w' = w1 := fun j h1 h2 => by
    obtain ⟨b, e1, e2⟩ := himg j h1 h2
    exact ⟨b, cell_later hb1 e1, equal_t _ _ nulls nulls w1 (e2.later hb1) hNo rfl⟩
  clear himg hown1 hgrow1 hNo c2
  go_wp2
  go_loopw [6, 7] (fun f i wr => ∃ j : Nat, k ≤ j ∧ j ≤ N ∧ f = .bool false ∧ i = .int .i64 (j : Int) ∧ wr = w1) (fun _ i _ => N - (RowKit.intOf i).toNat)
  case atStart => exact ⟨k, Nat.le_refl _, hk, rfl, rfl, rfl⟩
  case round =>
    obtain ⟨j, hkj, hj, rfl, rfl, rfl⟩ := hrel
    by_cases hlt : j < N
    · obtain ⟨b, e1, e2⟩ := himg1 j hkj hlt
      have hlt2 : (j : Int) < (N : Int) := by omega
      clear himg1
      go_wp2_with (go_at_call 117; refine e2.mono ?_; rintro e w3 ⟨rfl, rfl⟩)
      go_roundw
      case rel => exact ⟨j + 1, by omega, by omega, rfl, by go_num, trivial⟩
      case measure => simp [RowKit.intOf]; omega
    · obtain rfl : j = N := by omega
      clear himg1
      go_wp2
      go_ret
      exact ⟨rfl, hb1⟩

end Go.Proofs.YtcgpgnajmfemhaaGreatDoor

namespace Go.Proofs.YtcgpgnajmfemhaaGreatDoor
open Go.RowKit

set_option maxRecDepth 100000 in
set_option maxHeartbeats 400000 in
theorem stand_any (v : Value) (w : World) (p : Option Addr) (n c : Nat) (hv : v = .slice p n c) : Calls Tryz.prog 112 #[v] w fun e w' => e = .returned (.func (.func 154) #[] #[.pointer (some ⟨w.heap.size, 0, none⟩)]) ∧ w' = w.alloc (.cells #[v] 38) := by
  subst hv
  go_enter Tryz.func112, Tryz.ntmps112
  go_wp2
  go_ret
  exact ⟨rfl, rfl⟩

theorem new_cell (w : World) (v : Value) (t : TypeId) : (w.alloc (.cells #[v] t)).cell? ⟨w.heap.size, 0, none⟩ = some v := by
  rw [cell_of_row _ _ 0 _ _ _ (heap_alloc_new w (.cells #[v] t))]
  rfl

attribute [local go_sem] Oper.semAt_some

set_option maxRecDepth 100000 in
set_option maxHeartbeats 4000000 in
theorem open_new {bd bn bm : Nat} {s : DevS} {w : World} (h : Dev w bd bn bm s) (hz : ∀ r ∈ s.now, r = nulls) (hdead : s.dead = false) :
    Calls Tryz.prog 68 #[.pointer (some ⟨bd, 0, none⟩)] w fun e w' => ∃ g, e = .returned (.tuple #[.pointer (some ⟨g, 0, none⟩), .int .i64 0]) ∧ LB w' g bd (s.now.length : Int) 0 (.slice none 0 0) false ∧ w.heap.size ≤ g ∧ Below w.heap.size w w' := by
  have hp := h.ok.pos
  have hm := h.ok.most
  obtain ⟨r0, hr0⟩ : ∃ r0, s.now[0]? = some r0 := ⟨_, List.getElem?_eq_getElem (by omega)⟩
  have hRd := read_any h 0 r0 hr0 hdead
  have hIm := fun (W : World) (hb : Below w.heap.size w W) => image_any (h.later hb)
  have hnow : ∀ j, j < s.now.length → nowF s j = nulls := fun j hj => hz _ (List.mem_of_getElem? (nowF_row h.ok j hj).1)
  obtain ⟨SC, hSC⟩ : ∃ SC, SC = Obj.cells (bcs r0).toArray 214 := ⟨_, rfl⟩
  rw [← hSC] at hRd
  have hb1 : Below w.heap.size w (w.alloc SC) := (Below.refl _ w).alloc (Nat.le_refl _) SC
  have hIm1 := hIm _ hb1
  clear hIm hSC hr0
  generalize hN : s.now.length = N at *
  refine (callsIn_wide (n := 6)).1 ?_
  refine callsIn_of_wp_marks Tryz.func68 rfl trivial ?_ rfl
  simp only [Tryz.ntmps68, List.size_toArray, List.length_cons, List.length_nil, Nat.reduceAdd, Nat.reduceSub, Array.replicate_succ, Array.replicate_zero, List.push_toArray, List.append_toArray, List.nil_append, List.cons_append]
  gi_wp2_with (first
    | (refine ⟨trivial, ?_⟩; gi_at_call 110; refine (callsIn_wide.2 hRd).mono ?_; rintro e w1 ⟨rfl, rfl⟩)
    | (refine ⟨trivial, ?_⟩; gi_at_call 111; refine (callsIn_wide.2 hIm1).mono ?_; rintro e w2 ⟨gI, rfl, hI, hb2⟩)
    | (refine ⟨trivial, ?_⟩; gi_at_call 112; refine (callsIn_wide.2 (stand_any _ _ _ _ _ rfl)).mono ?_; rintro e w3 ⟨rfl, rfl⟩))
  have l1 : LB (w2.alloc (.cells #[.pointer (some ⟨bd, 0, none⟩), .int .i64 (N : Int), .int .i64 0, .slice none 0 0, .bool false] 157)) w2.heap.size bd (N : Int) 0 (.slice none 0 0) false := heap_alloc_new w2 _
  have b23 : Below w2.heap.size w2 (w2.alloc (.cells #[.pointer (some ⟨bd, 0, none⟩), .int .i64 (N : Int), .int .i64 0, .slice none 0 0, .bool false] 157)) := (Below.refl _ w2).alloc (Nat.le_refl _) _
  have s3 : (w2.alloc (.cells #[.pointer (some ⟨bd, 0, none⟩), .int .i64 (N : Int), .int .i64 0, .slice none 0 0, .bool false] 157)).heap.size = w2.heap.size + 1 := by simp
  generalize w2.alloc (.cells #[.pointer (some ⟨bd, 0, none⟩), .int .i64 (N : Int), .int .i64 0, .slice none 0 0, .bool false] 157) = w3 at *
  have b34 : Below w3.heap.size w3 ((w3.alloc (.cells #[.pointer (some ⟨w2.heap.size, 0, none⟩)] 93)).alloc (.cells #[.slice (some ⟨gI, 0, none⟩) N N] 38)) := ((Below.refl _ w3).alloc (Nat.le_refl _) _).alloc (by simp) _
  have k4 := cell_later ((Below.refl _ (w3.alloc (.cells #[.pointer (some ⟨w2.heap.size, 0, none⟩)] 93))).alloc (Nat.le_refl _) (.cells #[.slice (some ⟨gI, 0, none⟩) N N] 38)) (new_cell w3 (.pointer (some ⟨w2.heap.size, 0, none⟩)) 93)
  have k5 := new_cell (w3.alloc (.cells #[.pointer (some ⟨w2.heap.size, 0, none⟩)] 93)) (.slice (some ⟨gI, 0, none⟩) N N) 38
  rw [World.size_alloc] at k5
  have s4 : ((w3.alloc (.cells #[.pointer (some ⟨w2.heap.size, 0, none⟩)] 93)).alloc (.cells #[.slice (some ⟨gI, 0, none⟩) N N] 38)).heap.size = w3.heap.size + 2 := by simp
  generalize (w3.alloc (.cells #[.pointer (some ⟨w2.heap.size, 0, none⟩)] 93)).alloc (.cells #[.slice (some ⟨gI, 0, none⟩) N N] 38) = W4 at *
  rw [s3] at k4 k5
  have hI4 := (hI.later b23).later b34
  have himg : ∀ j, j < N → ∃ b, W4.cell? ⟨gI, j, none⟩ = some (.slice (some ⟨b, 0, none⟩) 64 64) ∧ HB W4 (.slice (some ⟨b, 0, none⟩) 64 64) nulls := fun j hj => by
    obtain ⟨b, e1, e2⟩ := hI4.get (fun j hj => by rw [hnow j hj]; exact nulls_len) j hj
    rw [hnow j hj] at e2
    exact ⟨b, e1, e2⟩
  have l4 := l1.same (b34.block _ l1.lt)
  have b04 : Below w.heap.size w W4 := ((hb1.trans (hb2.mono hb1.size)).trans (b23.mono (hb1.trans (hb2.mono hb1.size)).size)).trans (b34.mono (by have := (hb1.trans (hb2.mono hb1.size)).size; omega))
  have hsz : w.heap.size ≤ w2.heap.size := (hb1.trans (hb2.mono hb1.size)).size
  clear hI hI4 hIm1 hRd h hz hnow l1 b23 b34
  obtain ⟨bI, f1, f2⟩ := himg 0 (by omega)
  refine wpIn_rangeFunc_ownF rfl (by omega) (gf := 154) (lb := #[.pointer (some ⟨w2.heap.size + 1 + 1, 0, none⟩)]) rfl trivial (enters_of Tryz.func154 (by kernel_rfl) rfl)
    (stand_zero 5 (w2.heap.size + 1 + 1) gI N bI W4.heap.size W4 (by omega) hp hm k5 f1 f2) belowK_t (belowK_b (Nat.le_refl _)) (Below.refl _ _) (fun _ => rfl)
    (fun _ W => Below W4.heap.size W4 W) (fun _ _ _ => False)
    (ownFrom_below (Nat.le_refl _) (Nat.le_refl _))
    (fun _ _ _ _ _ hs _ _ => hs)
    (Below.refl _ _)
    (fun x => { tmps := #[.pointer (some ⟨bd, 0, none⟩), undef, .pointer none, .int .i64 0, .slice (some ⟨w.heap.size, 0, none⟩) 64 64, .int .i64 0, .slice (some ⟨gI, 0, none⟩) N N, .pointer (some ⟨w2.heap.size + 1, 0, none⟩), x, undef, .tuple #[.slice (some ⟨w.heap.size, 0, none⟩) 64 64, .int .i64 0], .pointer (some ⟨bd, 0, none⟩), .tuple #[.slice (some ⟨w.heap.size, 0, none⟩) 64 64, .int .i64 0], .slice (some ⟨w.heap.size, 0, none⟩) 64 64, .int .i64 0, .int .i64 0, .bool false, undef, .pointer (some ⟨bd, 0, none⟩), .slice (some ⟨gI, 0, none⟩) N N, .pointer (some ⟨bd, 0, none⟩), .slice (some ⟨gI, 0, none⟩) N N, .int .i64 (N : Int), .agg #[.pointer (some ⟨bd, 0, none⟩), .int .i64 (N : Int), .int .i64 0, .slice none 0 0, .bool false], .pointer (some ⟨w2.heap.size, 0, none⟩), .slice (some ⟨gI, 0, none⟩) N N, .func (.func 154) #[] #[.pointer (some ⟨w2.heap.size + 1 + 1, 0, none⟩)], x, undef, undef, undef, undef, undef, undef, undef, undef, undef, undef], defers := [] }) ?assign ?body ?done ?stop
  case assign =>
    intro l x W K hK
    gi_wp2
    exact hK
  case body =>
    intro l pre x W _ h
    exact absurd h (Nat.not_lt_zero _)
  case stop =>
    intro D c pre W _ h
    exact h.elim
  case done =>
    intro D xs W hD _ hB hK
    have l5 := l4.same (hB.block _ l4.lt)
    have k6 := cell_later hB k4
    have hW := wipe_zero (gi := gI) (N := N) (k := 0) l5 (Nat.zero_le _) hm (fun j _ hj => by
      obtain ⟨b, e1, e2⟩ := himg j hj
      exact ⟨b, cell_later hB e1, e2.later hB⟩)
    clear himg f1 f2 k5
    gi_wp2_with (refine ⟨trivial, ?_⟩; gi_at_call 113; refine (callsIn_wide.2 hW).mono ?_; rintro e w5 ⟨rfl, hb5⟩; have k7 := cell_later hb5 k6)
    have hK5 := (hb5.block D (Array.getElem?_eq_some_iff.1 hK).1).trans hK
    have l6 := l5.same (hb5.block _ l5.lt)
    have bP := fun o => belowK_b (w := W4) (Nat.le_refl W4.heap.size) w5 D _ o hD hK5 rfl rfl
    have b05 : Below W4.heap.size W4 w5 := hB.trans (hb5.mono hB.size)
    have lt4 := l4.lt
    refine ⟨by simp, .inl ⟨_, _, rfl, run_takeDeferred hK5, ?_⟩⟩
    exact ⟨_, results_tmp2 rfl _ _ _, _, rfl, l6.same ((bP _).block _ lt4), hsz, (b04.trans ((b05.trans (bP _)).mono b04.size))⟩

end Go.Proofs.YtcgpgnajmfemhaaGreatDoor
