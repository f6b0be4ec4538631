/- What this text proves: the walk of annalslaw09.ArenaNobody over this program: it answers true, and writes nothing that was there. -/
import Derived.Test.YtofchcheoanmdaaDoorAAwakeW
namespace Go.Proofs.YtofchcheoanmdaaDoor
open Go.RowKit

set_option maxRecDepth 100000 in
set_option maxHeartbeats 3200000 in
theorem anobodyWalk (op a b dp : Int) (vx vy vr : Value) (x y : List UInt8) (pr : Option Addr) (nr cr : Nat) (w : World) (hx : HB w vx x) (hy : HB w vy y) (hr : vr = .slice pr nr cr) (hT : Tabs w) :
    Calls Tryd.prog 6 #[.agg #[.int .i64 op, .int .i64 a, .int .i64 b, .int .i64 dp, vx, vy, vr]] w fun e w' => e = .returned (.bool true) ∧ Below w.heap.size w w' := by
  subst hr
  obtain ⟨px, cx, rfl⟩ := hx.shape
  obtain ⟨py, cy, rfl⟩ := hy.shape
  clear hx hy
  obtain ⟨W0, hW0⟩ : ∃ W0, W0 = (((w.alloc (.cells #[.int .i64 op, .int .i64 a, .int .i64 b, .int .i64 dp, .slice px x.length cx, .slice py y.length cy, .slice pr nr cr] 34)).alloc (.cells #[.int .i64 0, .int .i64 0, .slice none 0 0, .slice none 0 0] 56)).alloc (.cells #[.pointer none, .pointer (some ⟨w.heap.size + 1, 0, none⟩)] 23)) := ⟨_, rfl⟩
  have hsz : W0.heap.size = w.heap.size + 3 := by rw [hW0]; simp
  have hb0 : Below w.heap.size w W0 := by rw [hW0]; exact ((((Below.refl _ w).alloc (Nat.le_refl _) _).alloc (by simp) _).alloc (by simp; omega) _)
  have s0 : W0.heap[w.heap.size]? = some (.cells #[.int .i64 op, .int .i64 a, .int .i64 b, .int .i64 dp, .slice px x.length cx, .slice py y.length cy, .slice pr nr cr] 34 (0, 0)) := by
    rw [hW0, Below.heap_alloc _ _ _ (by simp; omega), Below.heap_alloc _ _ _ (by simp)]
    exact heap_alloc_new w _
  have s1 : W0.heap[w.heap.size + 1]? = some (.cells #[.int .i64 0, .int .i64 0, .slice none 0 0, .slice none 0 0] 56 (0, 0)) := by
    rw [hW0, Below.heap_alloc _ _ _ (by simp)]
    have := heap_alloc_new (w.alloc (.cells #[.int .i64 op, .int .i64 a, .int .i64 b, .int .i64 dp, .slice px x.length cx, .slice py y.length cy, .slice pr nr cr] 34)) (.cells #[.int .i64 0, .int .i64 0, .slice none 0 0, .slice none 0 0] 56)
    simpa using this
  have s2 : W0.heap[w.heap.size + 1 + 1]? = some (.cells #[.pointer none, .pointer (some ⟨w.heap.size + 1, 0, none⟩)] 23 (0, 0)) := by
    rw [hW0]
    have := heap_alloc_new ((w.alloc (.cells #[.int .i64 op, .int .i64 a, .int .i64 b, .int .i64 dp, .slice px x.length cx, .slice py y.length cy, .slice pr nr cr] 34)).alloc (.cells #[.int .i64 0, .int .i64 0, .slice none 0 0, .slice none 0 0] 56)) (.cells #[.pointer none, .pointer (some ⟨w.heap.size + 1, 0, none⟩)] 23)
    simpa using this
  have hcell : ∀ W, Below W0.heap.size W0 W → W.cell? ⟨w.heap.size + 1, 0, none⟩ = some (.int .i64 0) ∧ W.cell? ⟨w.heap.size, 1, none⟩ = some (.int .i64 a) ∧ W.cell? ⟨w.heap.size, 2, none⟩ = some (.int .i64 b) ∧ W.cell? ⟨w.heap.size, 3, none⟩ = some (.int .i64 dp) ∧ W.cell? ⟨w.heap.size, 4, none⟩ = some (.slice px x.length cx) ∧ W.cell? ⟨w.heap.size, 5, none⟩ = some (.slice py y.length cy) ∧ W.cell? ⟨w.heap.size, 6, none⟩ = some (.slice pr nr cr) ∧ W.cell? ⟨w.heap.size + 1 + 1, 0, none⟩ = some (.pointer none) ∧ W.cell? ⟨w.heap.size + 1 + 1, 1, none⟩ = some (.pointer (some ⟨w.heap.size + 1, 0, none⟩)) := by
    intro W hb
    refine ⟨cell_later hb ?_, cell_later hb ?_, cell_later hb ?_, cell_later hb ?_, cell_later hb ?_, cell_later hb ?_, cell_later hb ?_, cell_later hb ?_, cell_later hb ?_⟩
    · rw [cell_of_row _ _ 0 _ _ _ s1]; rfl
    · rw [cell_of_row _ _ 1 _ _ _ s0]; rfl
    · rw [cell_of_row _ _ 2 _ _ _ s0]; rfl
    · rw [cell_of_row _ _ 3 _ _ _ s0]; rfl
    · rw [cell_of_row _ _ 4 _ _ _ s0]; rfl
    · rw [cell_of_row _ _ 5 _ _ _ s0]; rfl
    · rw [cell_of_row _ _ 6 _ _ _ s0]; rfl
    · rw [cell_of_row _ _ 0 _ _ _ s2]; rfl
    · rw [cell_of_row _ _ 1 _ _ _ s2]; rfl
  have hG0 : ∀ W, Gone none W := fun W => miss_nil W
  have hG1 : ∀ W, Below W0.heap.size W0 W → Gone (some ⟨w.heap.size + 1, 0, none⟩) W := fun W hb => miss_raw _ W (hcell W hb).1
  clear s0 s1 s2
  go_enter Tryd.func6, Tryd.ntmps6
  go_wp2
  rw [← hW0]
  clear hW0
  go_loopw [15] (fun j wr => ∃ k : Nat, k ≤ 2 ∧ j = .int .i64 k ∧ Below W0.heap.size W0 wr) (fun j _ => 2 - (intOf j).toNat)
  case atStart => exact ⟨0, by omega, rfl, Below.refl _ _⟩
  case round =>
    obtain ⟨k, hk, rfl, hbw⟩ := hrel
    obtain ⟨a0, a1, a2, a3, a4, a5, a6, a7, a8⟩ := hcell wr hbw
    have hk3 : k = 0 ∨ k = 1 ∨ k = 2 := by omega
    rcases hk3 with rfl | rfl | rfl
    · have hLf := leaf_gone none px x.length cx py y.length cy 1 wr (hG0 wr)
      have hFk := fork_gone none 0 px x.length cx a b wr (hG0 wr)
      have hNd := node_gone none a wr (fun W' hb => hG0 W')
      unfold zNode at hNd
      go_wp2_with (first | (go_at_call 26; refine hLf.mono ?_; rintro e w4 ⟨rfl, hw⟩; have hw2 := hw.symm; clear hw; subst hw2) | (go_at_call 27; refine hFk.mono ?_; rintro e w4 ⟨rfl, hw⟩; have hw2 := hw.symm; clear hw; subst hw2) | (go_at_call 23; refine hNd.mono ?_; rintro e w4 ⟨rfl, hb4⟩; have hbw4 : Below W0.heap.size W0 w4 := hbw.trans (hb4.mono hbw.size); have hbw5 : Below W0.heap.size W0 (w4.alloc (.cells #[.bool false, .slice none 0 0, .slice none 0 0, .int .i64 0, .int .i64 0, .slice none 0 0, .int .i64 0, .int .i64 0, .int .i64 0, .slice none 0 0] 43)) := hbw4.alloc hbw4.size _; obtain ⟨b0, b1, b2, b3, b4, b5, b6, b7, b8⟩ := hcell _ hbw5))
      clear hbw4
      clear hLf hFk hNd
      go_region_held3 (fun w' => w'.cell? ⟨w.heap.size, 1, none⟩ = some (.int .i64 a) ∧ w'.cell? ⟨w.heap.size, 6, none⟩ = some (.slice pr nr cr)) (first | exact ⟨b1, b6⟩ | exact ⟨by simpa using b1, by simpa using b6⟩) (first
        | (go_at_call 28; refine (hash_gone none _ _ (hG0 _)).mono ?_; rintro e w6 ⟨rfl, rfl⟩)
        | (go_at_call 22; refine (sweep_gone none _ _ _ _ (hG0 _)).mono ?_; rintro e w6 ⟨rfl, rfl⟩)
        | (go_at_call 21; refine (used_gone none _ (hG0 _)).mono ?_; rintro e w6 ⟨rfl, rfl⟩)
        | (go_at_call 25; refine (room_gone none _ (hG0 _)).mono ?_; rintro e w6 ⟨rfl, rfl⟩)
        | (go_at_call 29; refine (size_gone none _ (hG0 _)).mono ?_; rintro e w6 ⟨rfl, rfl⟩))
      all_goals go_wp2
      all_goals go_roundw
      all_goals (first | (first | exact ⟨1, by omega, by go_num, by first | assumption | exact Below.drew (by assumption)⟩ | ((repeat apply Exists.intro); exact ⟨⟨1, by omega, by go_num, by first | assumption | exact Below.drew (by assumption)⟩, rfl⟩)) | (simp [intOf]; done) | (simp [intOf]; omega))
    · have hLf := leaf_gone (some ⟨w.heap.size + 1, 0, none⟩) px x.length cx py y.length cy 1 wr (hG1 wr hbw)
      have hFk := fork_gone (some ⟨w.heap.size + 1, 0, none⟩) 0 px x.length cx a b wr (hG1 wr hbw)
      have hNd := node_gone (some ⟨w.heap.size + 1, 0, none⟩) a wr (fun W' hb => hG1 W' (hbw.trans (hb.mono hbw.size)))
      unfold zNode at hNd
      go_wp2_with (first | (go_at_call 26; refine hLf.mono ?_; rintro e w4 ⟨rfl, hw⟩; have hw2 := hw.symm; clear hw; subst hw2) | (go_at_call 27; refine hFk.mono ?_; rintro e w4 ⟨rfl, hw⟩; have hw2 := hw.symm; clear hw; subst hw2) | (go_at_call 23; refine hNd.mono ?_; rintro e w4 ⟨rfl, hb4⟩; have hbw4 : Below W0.heap.size W0 w4 := hbw.trans (hb4.mono hbw.size); have hbw5 : Below W0.heap.size W0 (w4.alloc (.cells #[.bool false, .slice none 0 0, .slice none 0 0, .int .i64 0, .int .i64 0, .slice none 0 0, .int .i64 0, .int .i64 0, .int .i64 0, .slice none 0 0] 43)) := hbw4.alloc hbw4.size _; obtain ⟨b0, b1, b2, b3, b4, b5, b6, b7, b8⟩ := hcell _ hbw5))
      clear hbw4
      clear hLf hFk hNd
      go_region_held3 (fun w' => w'.cell? ⟨w.heap.size, 1, none⟩ = some (.int .i64 a) ∧ w'.cell? ⟨w.heap.size, 6, none⟩ = some (.slice pr nr cr)) (first | exact ⟨b1, b6⟩ | exact ⟨by simpa using b1, by simpa using b6⟩) (first
        | (go_at_call 28; refine (hash_gone (some ⟨w.heap.size + 1, 0, none⟩) _ _ (hG1 _ (by repeat (first | exact hbw5 | refine Below.drew ?_)))).mono ?_; rintro e w6 ⟨rfl, rfl⟩)
        | (go_at_call 22; refine (sweep_gone (some ⟨w.heap.size + 1, 0, none⟩) _ _ _ _ (hG1 _ (by repeat (first | exact hbw5 | refine Below.drew ?_)))).mono ?_; rintro e w6 ⟨rfl, rfl⟩)
        | (go_at_call 21; refine (used_gone (some ⟨w.heap.size + 1, 0, none⟩) _ (hG1 _ (by repeat (first | exact hbw5 | refine Below.drew ?_)))).mono ?_; rintro e w6 ⟨rfl, rfl⟩)
        | (go_at_call 25; refine (room_gone (some ⟨w.heap.size + 1, 0, none⟩) _ (hG1 _ (by repeat (first | exact hbw5 | refine Below.drew ?_)))).mono ?_; rintro e w6 ⟨rfl, rfl⟩)
        | (go_at_call 29; refine (size_gone (some ⟨w.heap.size + 1, 0, none⟩) _ (hG1 _ (by repeat (first | exact hbw5 | refine Below.drew ?_)))).mono ?_; rintro e w6 ⟨rfl, rfl⟩))
      all_goals go_wp2
      all_goals go_roundw
      all_goals (first | (first | exact ⟨2, by omega, by go_num, by first | assumption | exact Below.drew (by assumption)⟩ | ((repeat apply Exists.intro); exact ⟨⟨2, by omega, by go_num, by first | assumption | exact Below.drew (by assumption)⟩, rfl⟩)) | (simp [intOf]; done) | (simp [intOf]; omega))
    · have hA := arenaAwake_any wr (hT.later (hb0.trans (hbw.mono (by omega))))
      go_wp2_with (go_at_call 11; refine hA.mono ?_; rintro e w4 ⟨rfl, hb4⟩)
      go_ret
      exact ⟨rfl, hb0.trans ((hbw.mono (by omega)).trans (hb4.mono (Nat.le_trans (by omega) hbw.size)))⟩

end Go.Proofs.YtofchcheoanmdaaDoor
