/- What this text proves: the walk of annalslaw08.SeglogNobody over this program: it answers true. -/
import Derived.Test.YtgannhmgnbbpfaaDoorSgAwake
namespace Go.Proofs.YtgannhmgnbbpfaaDoor
open Go.RowKit

set_option maxRecDepth 100000 in
set_option maxHeartbeats 400000 in
theorem read_none (v : Value) (i : Int) (w : World) (hm : Calls Tryd.prog 30 #[v] w fun e w' => e = .returned (.bool true) ∧ w' = w) : Calls Tryd.prog 21 #[v, .int .i64 i] w fun e w' => e = .returned (.tuple #[.slice none 0 0, .int .i64 2]) ∧ w' = w := by
  go_enter Tryd.func21, Tryd.ntmps21
  go_wp2_with (go_at_call 30; refine hm.mono ?_; rintro e w1 ⟨rfl, rfl⟩)
  go_ret2
  exact ⟨rfl, rfl⟩

attribute [local go_sem] Oper.semAt_some

set_option maxRecDepth 100000 in
set_option maxHeartbeats 800000 in
theorem open_none (v : Value) (w : World) (hm : Calls Tryd.prog 30 #[v] w fun e w' => e = .returned (.bool true) ∧ w' = w) : Calls Tryd.prog 7 #[v] w fun e w' => e = .returned (.tuple #[.pointer none, .int .i64 2]) ∧ w' = w := by
  have hR := read_none v 0 w hm
  refine (callsIn_wide (n := 6)).1 ?_
  refine callsIn_of_wp_marks Tryd.func7 rfl trivial ?_ rfl
  simp only [Tryd.ntmps7, List.size_toArray, List.length_cons, List.length_nil, Nat.reduceAdd, Nat.reduceSub, Array.replicate_succ, Array.replicate_zero, List.push_toArray, List.append_toArray, List.nil_append, List.cons_append]
  gi_wp2_with (refine ⟨trivial, ?_⟩; gi_at_call 21; refine (callsIn_wide.2 hR).mono ?_; rintro e w1 ⟨rfl, rfl⟩)
  exact ⟨_, results_tmp2 rfl _ _ _, rfl, rfl⟩

set_option maxRecDepth 100000 in
set_option maxHeartbeats 3200000 in
theorem snobodyWalk (u : Value) (l : List UInt8) (w : World) (hu : HB w u l) (hT : Tabs w) :
    Calls Tryd.prog 5 #[u] w fun e w' => e = .returned (.bool true) ∧ Below w.heap.size w w' := by
  have hs : 3 ≤ w.heap.size := cell_in (hT.2 0 _ rfl)
  obtain ⟨pu, cu, rfl⟩ := hu.shape
  obtain ⟨W1, hW1⟩ : ∃ W1, W1 = (w.alloc (.cells #[.pointer none, .int .i64 0, .int .i64 0, .slice none 0 0, .bool false] 42)).alloc (.cells #[.pointer none, .pointer (some ⟨w.heap.size, 0, none⟩)] 28) := ⟨_, rfl⟩
  have b1 : Below w.heap.size w W1 := by rw [hW1]; exact ((Below.refl _ w).alloc (Nat.le_refl _) _).alloc (by simp) _
  have g0 : W1.heap[w.heap.size]? = some (.cells #[.pointer none, .int .i64 0, .int .i64 0, .slice none 0 0, .bool false] 42 (0, 0)) := by
    rw [hW1, Below.heap_alloc _ _ _ (by simp)]
    exact heap_alloc_new w _
  have g1 : W1.heap[w.heap.size + 1]? = some (.cells #[.pointer none, .pointer (some ⟨w.heap.size, 0, none⟩)] 28 (0, 0)) := by
    rw [hW1]
    have := heap_alloc_new (w.alloc (.cells #[.pointer none, .int .i64 0, .int .i64 0, .slice none 0 0, .bool false] 42)) (.cells #[.pointer none, .pointer (some ⟨w.heap.size, 0, none⟩)] 28)
    simpa using this
  have d0 : W1.cell? ⟨w.heap.size, 0, none⟩ = some (.pointer none) := by rw [cell_of_row _ _ 0 _ _ _ g0]; rfl
  have e0 : W1.cell? ⟨w.heap.size + 1, 0, none⟩ = some (.pointer none) := by rw [cell_of_row _ _ 0 _ _ _ g1]; rfl
  have e1 : W1.cell? ⟨w.heap.size + 1, 1, none⟩ = some (.pointer (some ⟨w.heap.size, 0, none⟩)) := by rw [cell_of_row _ _ 1 _ _ _ g1]; rfl
  have m0 := smiss_nil W1
  have m1 := smiss_raw w.heap.size W1 d0
  obtain ⟨W2, hW2⟩ : ∃ W2, W2 = (W1.alloc (.cells #[.slice none 0 0, .map none, .int .i64 0, .bool false, .int .i64 0] 47)).alloc (.cells #[.pointer none, .pointer (some ⟨W1.heap.size, 0, none⟩)] 24) := ⟨_, rfl⟩
  have b2 : Below W1.heap.size W1 W2 := by rw [hW2]; exact ((Below.refl _ W1).alloc (Nat.le_refl _) _).alloc (by simp) _
  have g2 : W2.heap[W1.heap.size]? = some (.cells #[.slice none 0 0, .map none, .int .i64 0, .bool false, .int .i64 0] 47 (0, 0)) := by
    rw [hW2, Below.heap_alloc _ _ _ (by simp)]
    exact heap_alloc_new W1 _
  have g3 : W2.heap[W1.heap.size + 1]? = some (.cells #[.pointer none, .pointer (some ⟨W1.heap.size, 0, none⟩)] 24 (0, 0)) := by
    rw [hW2]
    have := heap_alloc_new (W1.alloc (.cells #[.slice none 0 0, .map none, .int .i64 0, .bool false, .int .i64 0] 47)) (.cells #[.pointer none, .pointer (some ⟨W1.heap.size, 0, none⟩)] 24)
    simpa using this
  have q0 : W2.cell? ⟨W1.heap.size, 0, none⟩ = some (.slice none 0 0) := by rw [cell_of_row _ _ 0 _ _ _ g2]; rfl
  have r0 : W2.cell? ⟨W1.heap.size + 1, 0, none⟩ = some (.pointer none) := by rw [cell_of_row _ _ 0 _ _ _ g3]; rfl
  have r1 : W2.cell? ⟨W1.heap.size + 1, 1, none⟩ = some (.pointer (some ⟨W1.heap.size, 0, none⟩)) := by rw [cell_of_row _ _ 1 _ _ _ g3]; rfl
  have o0 := open_none (.pointer none) W2 (miss_nil W2)
  have o1 := open_none (.pointer (some ⟨W1.heap.size, 0, none⟩)) W2 (miss_raw W1.heap.size W2 q0)
  have b02 : Below w.heap.size w W2 := b1.trans (b2.mono b1.size)
  have hAw := sawake_any W2 (hT.later b02) (Nat.le_trans hs b02.size)
  have hA := fun (v : Value) (hm : Calls Tryd.prog 25 #[v] W1 fun e w' => e = .returned (.bool true) ∧ w' = W1) => (⟨sapp_nil v (.slice pu l.length cu) W1 hm, srecs_nil v W1 hm, sroom_nil v W1 hm, slen_nil v W1 hm, sstop_nil v W1 hm⟩ : _ ∧ _ ∧ _ ∧ _ ∧ _)
  have hA0 := hA _ m0
  have hA1 := hA _ m1
  clear hA m0 m1 g0 g1 g2 g3 d0 q0 b1 b2 hT
  go_enter Tryd.func5, Tryd.ntmps5
  go_wp2
  rw [← hW1]
  clear hW1
  go_loopw [13] (fun j wr => ∃ k : Nat, k ≤ 2 ∧ j = .int .i64 k ∧ wr = W1) (fun j _ => 2 - (RowKit.intOf j).toNat)
  case atStart => exact ⟨0, by omega, rfl, rfl⟩
  case round =>
    obtain ⟨k, hk, rfl, rfl⟩ := hrel
    have hk3 : k = 0 ∨ k = 1 ∨ k = 2 := by omega
    rcases hk3 with rfl | rfl | rfl
    · obtain ⟨y1, y2, y3, y4, y5⟩ := hA0
      go_wp2_with (first
        | (go_at_call 8; refine y1.mono ?_; rintro e w4 ⟨rfl, rfl⟩)
        | (go_at_call 11; refine y2.mono ?_; rintro e w4 ⟨rfl, rfl⟩)
        | (go_at_call 15; refine y3.mono ?_; rintro e w4 ⟨rfl, rfl⟩)
        | (go_at_call 17; refine y4.mono ?_; rintro e w4 ⟨rfl, rfl⟩)
        | (go_at_call 18; refine y5.mono ?_; rintro e w4 ⟨rfl, rfl⟩))
      go_roundw
      case rel => exact ⟨1, by omega, rfl, trivial⟩
      case measure => simp [RowKit.intOf]
    · obtain ⟨y1, y2, y3, y4, y5⟩ := hA1
      go_wp2_with (first
        | (go_at_call 8; refine y1.mono ?_; rintro e w4 ⟨rfl, rfl⟩)
        | (go_at_call 11; refine y2.mono ?_; rintro e w4 ⟨rfl, rfl⟩)
        | (go_at_call 15; refine y3.mono ?_; rintro e w4 ⟨rfl, rfl⟩)
        | (go_at_call 17; refine y4.mono ?_; rintro e w4 ⟨rfl, rfl⟩)
        | (go_at_call 18; refine y5.mono ?_; rintro e w4 ⟨rfl, rfl⟩))
      go_roundw
      case rel => exact ⟨2, by omega, rfl, trivial⟩
      case measure => simp [RowKit.intOf]
    · clear hA0 hA1
      go_wp2
      rw [← hW2]
      clear hW2
      go_loopw [43] (fun j wx => ∃ k : Nat, k ≤ 2 ∧ j = .int .i64 k ∧ wx = W2) (fun j _ => 2 - (RowKit.intOf j).toNat)
      case atStart => exact ⟨0, by omega, rfl, rfl⟩
      case round =>
        obtain ⟨k, hk', rfl, rfl⟩ := hrel
        have hk4 : k = 0 ∨ k = 1 ∨ k = 2 := by omega
        rcases hk4 with rfl | rfl | rfl
        · go_wp2_with (go_at_call 7; refine o0.mono ?_; rintro e w4 ⟨rfl, rfl⟩)
          go_roundw
          case rel => ((repeat apply Exists.intro); exact ⟨⟨1, by omega, rfl, trivial⟩, rfl⟩)
          case measure => simp [RowKit.intOf]
        · go_wp2_with (go_at_call 7; refine o1.mono ?_; rintro e w4 ⟨rfl, rfl⟩)
          go_roundw
          case rel => ((repeat apply Exists.intro); exact ⟨⟨2, by omega, rfl, trivial⟩, rfl⟩)
          case measure => simp [RowKit.intOf]
        · go_wp2_with (go_at_call 13; refine hAw.mono ?_; rintro e w5 ⟨rfl, hb5⟩)
          go_ret
          exact ⟨rfl, b02.trans (hb5.mono b02.size)⟩

end Go.Proofs.YtgannhmgnbbpfaaDoor
