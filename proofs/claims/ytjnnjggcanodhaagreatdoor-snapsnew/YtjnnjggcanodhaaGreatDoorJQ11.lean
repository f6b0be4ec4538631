/- What this text proves: the walk of snaps.put of one binding into the empty tree, over this program. (By program: mksnput.py.) -/
import Derived.Test.YtjnnjggcanodhaaGreatDoorJQ5
import Derived.Test.YtjnnjggcanodhaaGreatDoorJQ10
import Derived.Test.YtjnnjggcanodhaaGreatDoorJQ1
namespace Go.Proofs.YtjnnjggcanodhaaGreatDoor
open Go.RowKit

theorem cell_only {g b i : Nat} {w w' : World} {v : Value} (ho : Only g w w') (h : w.cell? ⟨b, i, none⟩ = some v) (hne : b ≠ g) : w'.cell? ⟨b, i, none⟩ = some v := by
  rw [World.cell?_of_block (w := w) (ho.block b hne (cell_lt h))]
  exact h

set_option maxRecDepth 100000 in
set_option maxHeartbeats 2000000 in
theorem sput_one {w : World} {g bl : Nat} {s h mi mk ch ar ca pg : Int} {ga : Nat} {vb vr vt : Value} {pi : Option Addr} {ci : Nat} (H : SN w g s h mi mk ch ar ca pg ga vb vr vt) (hA : AG w ga s ar none 0 0) (hs : s ≠ 0) (hr : 1 ≤ ar) (hr2 : ar ≤ 4194304) (hne : g ≠ ga)
    (hB : w.heap[bl]? = some (.cells #[.slice pi 1 ci, .slice none 0 0] 69 (0, 0))) (hI : HB w (.slice pi 1 ci) [97]) (hT : Tabs w) :
    Calls Tryz.prog 28 #[.pointer (some ⟨g, 0, none⟩), .int .i64 (-1), .slice (some ⟨bl, 0, none⟩) 1 1, .int .i64 1] w fun e w' => ∃ p' c' nb, e = .returned (.tuple #[.int .i64 0, .int .i64 0]) ∧ AG w' ga s ar p' 1 c' ∧ w'.ownsRow 0 104 1 (.slice p' 1 c') 1 [.pointer (some ⟨nb, 0, none⟩)] ∧ NB w' nb (leafS s [97] [] 1) ∧ Only ga w w' := by
  obtain ⟨_, c8, _, _, _⟩ := H.cells
  have lg := H.lt
  have la := hA.lt
  have d0 : w.cell? ⟨bl, 0, none⟩ = some (.slice pi 1 ci) := by rw [cell_of_row _ _ _ _ _ _ hB]; rfl
  have d1 : w.cell? ⟨bl, 1, none⟩ = some (.slice none 0 0) := by rw [cell_of_row _ _ _ _ _ _ hB]; rfl
  go_enter Tryz.func28, Tryz.ntmps28
  go_wp2
  go_loopw [1, 15] (fun u v wr => ∃ k : Nat, k ≤ 1 ∧ v = .int .i64 (k : Int) ∧ (k = 0 → u = .int .i64 (-1) ∧ wr = w) ∧ (k = 1 → u = .int .i64 0 ∧ ∃ p' c' nb, AG wr ga s ar p' 1 c' ∧ wr.ownsRow 0 104 1 (.slice p' 1 c') 1 [.pointer (some ⟨nb, 0, none⟩)] ∧ NB wr nb (leafS s [97] [] 1) ∧ Only ga w wr)) (fun _ v _ => 1 - (intOf v).toNat)
  case atStart => exact ⟨0, by omega, rfl, fun _ => ⟨rfl, rfl⟩, fun h => absurd h (by decide)⟩
  case round =>
    obtain ⟨k, hk, rfl, q0, q1⟩ := hrel
    rcases (by omega : k = 0 ∨ k = 1) with rfl | rfl
    · obtain ⟨rfl, hw⟩ := q0 rfl
      clear q0 q1
      have bX := (Below.refl w.heap.size w).alloc (Nat.le_refl _) (.cells #[.slice pi 1 ci, .slice none 0 0] 69)
      have gX := heap_alloc_new w (.cells #[.slice pi 1 ci, .slice none 0 0] 69)
      obtain ⟨X, hX⟩ : ∃ X, X = w.alloc (.cells #[.slice pi 1 ci, .slice none 0 0] 69) := ⟨_, rfl⟩
      rw [← hX] at bX gX
      subst hw
      go_wp2_with fail
      rw [← hX]
      obtain ⟨Y, hY⟩ : ∃ Y, Y = X.drew := ⟨_, rfl⟩
      have bY : Below wr.heap.size wr Y := by rw [hY]; exact bX.drew
      have gY : Y.heap[wr.heap.size]? = some (.cells #[.slice pi 1 ci, .slice none 0 0] 69 (0, 0)) := by rw [hY]; exact gX
      have onY : Only ga wr Y := ⟨bY.mono (by omega), fun k h1 h2 => bY.block k h2⟩
      have hI := insert_first ga 0 s ar 1 (.slice pi 1 ci) (.slice none 0 0) [97] [] Y (hA.later bY) (Nat.zero_le _) hs hr hr2 (hI.later bY) (HB.nil _) (hT.later bY) (by decide) (by decide) (by decide)
      have y0 : Y.cell? ⟨wr.heap.size, 0, none⟩ = some (.slice pi 1 ci) := by rw [cell_of_row _ _ _ _ _ _ gY]; rfl
      have y1 : Y.cell? ⟨wr.heap.size, 1, none⟩ = some (.slice none 0 0) := by rw [cell_of_row _ _ _ _ _ _ gY]; rfl
      have hHeld : Y.cell? ⟨g, 8, none⟩ = some (.pointer (some ⟨ga, 0, none⟩)) ∧ Y.cell? ⟨wr.heap.size, 0, none⟩ = some (.slice pi 1 ci) ∧ Y.cell? ⟨wr.heap.size, 1, none⟩ = some (.slice none 0 0) := ⟨cell_later bY c8, y0, y1⟩
      refine wp_region_heldN (by kernel_rfl) (fun W => W.cell? ⟨g, 8, none⟩ = some (.pointer (some ⟨ga, 0, none⟩)) ∧ W.cell? ⟨wr.heap.size, 0, none⟩ = some (.slice pi 1 ci) ∧ W.cell? ⟨wr.heap.size, 1, none⟩ = some (.slice none 0 0)) 16 rfl ?_
      rw [← hY]
      clear hY
      refine tkY 0 ⟨some 20, .move (.tmp 0), 24, "snaps.go:100", #[], none⟩ ?v0z1 hHeld ?y0z1 ?r0z1
      case y0z1 => (intro w hSw; (try dsimp only at hSw); go_simp) <;> with_reducible rfl
      try simp only [Act.put, List.setIfInBounds_toArray, List.set_cons_zero, List.set_cons_succ]
      refine tkY 1 ⟨some 21, .nilCheck (.tmp 20), 0, "snaps.go:100", #[⟨0, .data⟩], none⟩ ?v1z2 hHeld ?y1z2 ?r1z2
      case y1z2 => (intro w hSw; (try dsimp only at hSw); go_simp) <;> with_reducible rfl
      try simp only [Act.put, List.setIfInBounds_toArray, List.set_cons_zero, List.set_cons_succ]
      refine tkY 2 ⟨some 22, .fieldAddr 44 (.tmp 21) 1, 0, "snaps.go:100", #[⟨1, .data⟩], none⟩ ?v2z3 hHeld ?y2z3 ?r2z3
      case y2z3 => (intro w hSw; (try dsimp only at hSw); go_simp) <;> with_reducible rfl
      try simp only [Act.put, List.setIfInBounds_toArray, List.set_cons_zero, List.set_cons_succ]
      refine tkY 3 ⟨some 23, .load 40 (.tmp 22), 40, "snaps.go:100", #[⟨2, .data⟩], none⟩ ?v3z4 hHeld ?y3z4 ?r3z4
      case y3z4 => (intro w hSw; (try dsimp only at hSw); go_simp) <;> with_reducible rfl
      try simp only [Act.put, List.setIfInBounds_toArray, List.set_cons_zero, List.set_cons_succ]
      refine tkY 4 ⟨some 24, .move (.tmp 1), 3, "snaps.go:100", #[], none⟩ ?v4z5 hHeld ?y4z5 ?r4z5
      case y4z5 => (intro w hSw; (try dsimp only at hSw); go_simp) <;> with_reducible rfl
      try simp only [Act.put, List.setIfInBounds_toArray, List.set_cons_zero, List.set_cons_succ]
      refine tkY 5 ⟨some 25, .fieldAddr 69 (.tmp 11) 0, 0, "snaps.go:100", #[], none⟩ ?v5z6 hHeld ?y5z6 ?r5z6
      case y5z6 => (intro w hSw; (try dsimp only at hSw); go_simp) <;> with_reducible rfl
      try simp only [Act.put, List.setIfInBounds_toArray, List.set_cons_zero, List.set_cons_succ]
      refine tkY 6 ⟨some 26, .load 46 (.tmp 25), 46, "snaps.go:100", #[⟨5, .data⟩], none⟩ ?v6z7 hHeld ?y6z7 ?r6z7
      case y6z7 => (intro w hSw; (try dsimp only at hSw); go_simp) <;> with_reducible rfl
      try simp only [Act.put, List.setIfInBounds_toArray, List.set_cons_zero, List.set_cons_succ]
      refine tkY 7 ⟨some 27, .fieldAddr 69 (.tmp 11) 1, 0, "snaps.go:100", #[], none⟩ ?v7z8 hHeld ?y7z8 ?r7z8
      case y7z8 => (intro w hSw; (try dsimp only at hSw); go_simp) <;> with_reducible rfl
      try simp only [Act.put, List.setIfInBounds_toArray, List.set_cons_zero, List.set_cons_succ]
      refine tkY 8 ⟨some 28, .load 46 (.tmp 27), 46, "snaps.go:100", #[⟨7, .data⟩], none⟩ ?v8z9 hHeld ?y8z9 ?r8z9
      case y8z9 => (intro w hSw; (try dsimp only at hSw); go_simp) <;> with_reducible rfl
      try simp only [Act.put, List.setIfInBounds_toArray, List.set_cons_zero, List.set_cons_succ]
      refine tkY 9 ⟨some 29, .move (.tmp 3), 3, "snaps.go:100", #[], none⟩ ?v9z10 hHeld ?y9z10 ?r9z10
      case y9z10 => (intro w hSw; (try dsimp only at hSw); go_simp) <;> with_reducible rfl
      try simp only [Act.put, List.setIfInBounds_toArray, List.set_cons_zero, List.set_cons_succ]
      refine wpAnyH_ready (rs := [10]) (by kernel_rfl) (by simp) ?_
      refine AllReadyH.cons (o := ⟨some 30, .call { callee := .value (.func 48), args := #[.tmp 23, .tmp 24, .tmp 26, .tmp 28, .tmp 29], argTypes := #[40, 3, 46, 46, 3] }, 49, "snaps.go:100", #[⟨3, .data⟩, ⟨4, .data⟩, ⟨6, .data⟩, ⟨8, .data⟩, ⟨9, .data⟩], none⟩) rfl (fun K hK => ?_) AllReadyH.nil
      go_simp
      refine hI.mono ?_
      rintro e1 w4 ⟨p', c', nb, rfl, hA4, ow4, nb4, _, on4⟩
      replace hHeld := (show _ ∧ _ ∧ _ from ⟨cell_only on4 hHeld.1 (by omega), cell_only on4 hHeld.2.1 (by omega), cell_only on4 hHeld.2.2 (by omega)⟩)
      refine hK.out _ _ ?_ (fun _ => ?_)
      · exact hHeld
      clear hK K
      try simp only [Act.put, List.setIfInBounds_toArray, List.set_cons_zero, List.set_cons_succ]
      refine tkY 11 ⟨some 19, .move (.tmp 30), 49, "snaps.go:100", #[⟨10, .data⟩], none⟩ ?v11z11 hHeld ?y11z11 ?r11z11
      case y11z11 => (intro w hSw; (try dsimp only at hSw); go_simp) <;> with_reducible rfl
      try simp only [Act.put, List.setIfInBounds_toArray, List.set_cons_zero, List.set_cons_succ]
      refine tkY 12 ⟨some 31, .extract (.tmp 19) 0, 3, "snaps.go:100", #[⟨11, .data⟩], none⟩ ?v12z12 hHeld ?y12z12 ?r12z12
      case y12z12 => (intro w hSw; (try dsimp only at hSw); go_simp) <;> with_reducible rfl
      try simp only [Act.put, List.setIfInBounds_toArray, List.set_cons_zero, List.set_cons_succ]
      refine tkY 13 ⟨some 32, .extract (.tmp 19) 1, 25, "snaps.go:100", #[⟨11, .data⟩, { on := 14, ground := .gcOnly .lateStores }], none⟩ ?v13z13 hHeld ?y13z13 ?r13z13
      case y13z13 => (intro w hSw; (try dsimp only at hSw); go_simp) <;> with_reducible rfl
      try simp only [Act.put, List.setIfInBounds_toArray, List.set_cons_zero, List.set_cons_succ]
      refine tkY 14 ⟨some 1, .assign (.tmp 31), 3, "snaps.go:100", #[⟨12, .data⟩, ⟨10, .chain⟩, ⟨0, .phase⟩, ⟨1, .phase⟩, ⟨2, .phase⟩, ⟨3, .phase⟩, ⟨4, .phase⟩, ⟨5, .phase⟩, ⟨6, .phase⟩, ⟨7, .phase⟩, ⟨8, .phase⟩, ⟨9, .phase⟩, ⟨10, .phase⟩, ⟨11, .phase⟩, ⟨12, .phase⟩, { on := 13, ground := .textOnly .lateStores }], none⟩ ?v14z14 hHeld ?y14z14 ?r14z14
      case y14z14 => (intro w hSw; (try dsimp only at hSw); go_simp) <;> with_reducible rfl
      try simp only [Act.put, List.setIfInBounds_toArray, List.set_cons_zero, List.set_cons_succ]
      refine tkY 15 ⟨some 12, .assign (.tmp 32), 25, "snaps.go:100", #[⟨13, .data⟩, ⟨14, .chain⟩, ⟨0, .phase⟩, ⟨1, .phase⟩, ⟨2, .phase⟩, ⟨3, .phase⟩, ⟨4, .phase⟩, ⟨5, .phase⟩, ⟨6, .phase⟩, ⟨7, .phase⟩, ⟨8, .phase⟩, ⟨9, .phase⟩, ⟨10, .phase⟩, ⟨11, .phase⟩, ⟨12, .phase⟩, ⟨13, .phase⟩, ⟨14, .phase⟩], none⟩ ?v15z15 hHeld ?y15z15 ?r15z15
      case y15z15 => (intro w hSw; (try dsimp only at hSw); go_simp) <;> with_reducible rfl
      try simp only [Act.put, List.setIfInBounds_toArray, List.set_cons_zero, List.set_cons_succ]
      refine wpAnyH_done (by kernel_rfl) ?_ _
      clear hHeld hI
      go_wp2
      go_roundw
      case rel => first | exact ⟨0 + 1, by omega, by go_num, fun h => absurd h (by decide), fun _ => ⟨rfl, p', c', nb, hA4, ow4, nb4, onY.trans on4⟩⟩ | ((repeat apply Exists.intro); exact ⟨⟨0 + 1, by omega, by go_num, fun h => absurd h (by decide), fun _ => ⟨rfl, p', c', nb, hA4, ow4, nb4, onY.trans on4⟩⟩, rfl⟩)
      case measure => simp [intOf]
    · obtain ⟨rfl, p', c', nb, a1, a2, a3, a4⟩ := q1 rfl
      clear q0 q1
      go_wp2
      go_ret2
      exact ⟨p', c', nb, rfl, a1, a2, a3, a4⟩

end Go.Proofs.YtjnnjggcanodhaaGreatDoor
