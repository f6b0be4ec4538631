/- What this text proves: the calls of snaps that no call made, over this program: each answers nothing, or ErrNil. What this text proves: the walks of snaps.New and of annalslaw22.small over this program. -/
import Derived.Test.YtjnnjggcanodhaaGreatDoorFacts
import Derived.Test.YtjnnjggcanodhaaGreatDoorJQ2
import Derived.Test.YtjnnjggcanodhaaGreatDoorJQ1
namespace Go.Proofs.YtjnnjggcanodhaaGreatDoor
open Go.RowKit

/-- No call made these snaps. -/
def GoneS (q : Option Addr) (W : World) : Prop := Calls Tryz.prog 21 #[.pointer q] W fun e w' => e = .returned (.bool true) ∧ w' = W

theorem sgone_nil (W : World) : GoneS none W := by
  unfold GoneS
  go_enter Tryz.func21, Tryz.ntmps21
  go_wp2
  go_ret
  exact ⟨rfl, rfl⟩

theorem sgone_zero (W : World) (g : Nat) (h : W.cell? ⟨g, 8, none⟩ = some (.pointer none)) : GoneS (some ⟨g, 0, none⟩) W := by
  unfold GoneS
  go_enter Tryz.func21, Tryz.ntmps21
  go_wp2
  go_ret
  exact ⟨rfl, rfl⟩

theorem slast_gone (q : Option Addr) (W : World) (h : GoneS q W) : Calls Tryz.prog 7 #[.pointer q] W fun e w' => e = .returned (.int .i64 0) ∧ w' = W := by
  unfold GoneS at h
  go_enter Tryz.func7, Tryz.ntmps7
  go_wp2_with (go_at_call 21; refine h.mono ?_; rintro e w1 ⟨rfl, hw⟩; subst hw)
  go_ret
  exact ⟨rfl, rfl⟩

theorem skept_gone (q : Option Addr) (W : World) (h : GoneS q W) : Calls Tryz.prog 9 #[.pointer q] W fun e w' => e = .returned (.slice none 0 0) ∧ w' = W := by
  unfold GoneS at h
  go_enter Tryz.func9, Tryz.ntmps9
  go_wp2_with (go_at_call 21; refine h.mono ?_; rintro e w1 ⟨rfl, hw⟩; subst hw)
  go_ret
  exact ⟨rfl, rfl⟩

theorem sbuilt_gone (q : Option Addr) (W : World) (h : GoneS q W) : Calls Tryz.prog 15 #[.pointer q] W fun e w' => e = .returned (.slice none 0 0) ∧ w' = W := by
  unfold GoneS at h
  go_enter Tryz.func15, Tryz.ntmps15
  go_wp2_with (go_at_call 21; refine h.mono ?_; rintro e w1 ⟨rfl, hw⟩; subst hw)
  go_ret
  exact ⟨rfl, rfl⟩

theorem sarena_gone (q : Option Addr) (W : World) (h : GoneS q W) : Calls Tryz.prog 16 #[.pointer q] W fun e w' => e = .returned (.pointer none) ∧ w' = W := by
  unfold GoneS at h
  go_enter Tryz.func16, Tryz.ntmps16
  go_wp2_with (go_at_call 21; refine h.mono ?_; rintro e w1 ⟨rfl, hw⟩; subst hw)
  go_ret
  exact ⟨rfl, rfl⟩

theorem sdrop_gone (q : Option Addr) (W : World) (h : GoneS q W) : Calls Tryz.prog 14 #[.pointer q] W fun e w' => e = .returned (.int .i64 0) ∧ w' = W := by
  unfold GoneS at h
  go_enter Tryz.func14, Tryz.ntmps14
  go_wp2_with (go_at_call 21; refine h.mono ?_; rintro e w1 ⟨rfl, hw⟩; subst hw)
  go_ret
  exact ⟨rfl, rfl⟩

theorem sevict_gone (q : Option Addr) (W : World) (h : ∀ W', Below W.heap.size W W' → GoneS q W') : Calls Tryz.prog 13 #[.pointer q] W fun e w' => e = .returned (.int .i64 0) ∧ Below W.heap.size W w' := by
  have bA := (Below.refl W.heap.size W).alloc (Nat.le_refl _) (.cells #[.pointer q] 24)
  have hA := h _ bA
  unfold GoneS at hA
  go_enter Tryz.func13, Tryz.ntmps13
  go_wp2_with (go_at_call 21; refine hA.mono ?_; rintro e w1 ⟨rfl, hw⟩; subst hw)
  go_ret
  exact ⟨rfl, bA⟩

theorem sgrow_gone (q : Option Addr) (v : Value) (W : World) (h : GoneS q W) : Calls Tryz.prog 11 #[.pointer q, v] W fun e w' => e = .returned (.tuple #[.slice none 0 0, .int .i64 2]) ∧ w' = W := by
  unfold GoneS at h
  go_enter Tryz.func11, Tryz.ntmps11
  go_wp2_with (go_at_call 21; refine h.mono ?_; rintro e w1 ⟨rfl, hw⟩; subst hw)
  go_ret2
  exact ⟨rfl, rfl⟩

theorem sroot_gone (q : Option Addr) (i : Int) (W : World) (h : ∀ W', Below W.heap.size W W' → GoneS q W') : Calls Tryz.prog 12 #[.pointer q, .int .i64 i] W fun e w' => e = .returned (.tuple #[.int .i64 0, .int .i64 2]) ∧ Below W.heap.size W w' := by
  have bA := (Below.refl W.heap.size W).alloc (Nat.le_refl _) (.cells #[.int .i64 i] 3)
  have hA := h _ bA
  unfold GoneS at hA
  go_enter Tryz.func12, Tryz.ntmps12
  go_wp2_with (go_at_call 21; refine hA.mono ?_; rintro e w1 ⟨rfl, hw⟩; subst hw)
  go_ret2
  exact ⟨rfl, bA⟩

end Go.Proofs.YtjnnjggcanodhaaGreatDoor

namespace Go.Proofs.YtjnnjggcanodhaaGreatDoor
open Go.RowKit

/-- The cells of snaps. -/
abbrev snC (s h mi mk ch ar ca pg : Int) (ga : Nat) (vb vr vt : Value) : Array Value := #[.int .i64 s, .int .i64 h, .int .i64 mi, .int .i64 mk, .int .i64 ch, .int .i64 ar, .int .i64 ca, .int .i64 pg, .pointer (some ⟨ga, 0, none⟩), vb, vr, vt]

theorem snew_bad (s h mi mk ch ar ca pg : Int) (w : World) (hne : chkV s h mi mk ch ar ca pg ≠ 0) : Calls Tryz.prog 5 #[.agg #[.int .i64 s, .int .i64 h, .int .i64 mi, .int .i64 mk, .int .i64 ch, .int .i64 ar, .int .i64 ca, .int .i64 pg]] w fun x w' => x = .returned (.tuple #[.pointer none, .int .i64 (chkV s h mi mk ch ar ca pg)]) ∧ Below w.heap.size w w' := by
  have b0 := (Below.refl w.heap.size w).alloc (Nat.le_refl _) (.cells #[.int .i64 s, .int .i64 h, .int .i64 mi, .int .i64 mk, .int .i64 ch, .int .i64 ar, .int .i64 ca, .int .i64 pg] 23)
  have hc := fun W => chk_any s h mi mk ch ar ca pg W
  have hne2 : (chkV s h mi mk ch ar ca pg != 0) = true := by simpa using hne
  generalize chkV s h mi mk ch ar ca pg = z at *
  go_enter Tryz.func5, Tryz.ntmps5
  go_wp2_with fail
  refine (hc _).mono ?_
  rintro x w1 ⟨rfl, b1⟩
  have bA := b0.trans (b1.mono b0.size)
  clear hc
  go_wp2
  go_ret2
  exact ⟨rfl, bA⟩

set_option maxRecDepth 100000 in
set_option maxHeartbeats 1000000 in
theorem snew_ok (s h mi mk ch ar ca pg : Int) (w : World) (h0 : chkV s h mi mk ch ar ca pg = 0) : Calls Tryz.prog 5 #[.agg #[.int .i64 s, .int .i64 h, .int .i64 mi, .int .i64 mk, .int .i64 ch, .int .i64 ar, .int .i64 ca, .int .i64 pg]] w fun x w' => ∃ g ga b1 b2 : Nat, x = .returned (.tuple #[.pointer (some ⟨g, 0, none⟩), .int .i64 0]) ∧ w'.heap[g]? = some (.cells (snC s h mi mk ch ar ca pg ga (.slice (some ⟨b1, 0, none⟩) 1 1) (.slice (some ⟨b2, 0, none⟩) 1 1) (.slice none 0 0)) 44 (0, 0)) ∧ w'.heap[b1]? = some (.cells #[.slice none 0 0] 37 (0, 0)) ∧ w'.heap[b2]? = some (.cells #[.int .i64 0, .int .i64 (-1)] 57 (0, 0)) ∧ AG w' ga s ar none 0 0 ∧ w.heap.size ≤ g ∧ w.heap.size ≤ ga ∧ w.heap.size ≤ b1 ∧ w.heap.size ≤ b2 ∧ Below w.heap.size w w' := by
  have b0 := (Below.refl w.heap.size w).alloc (Nat.le_refl _) (.cells #[.int .i64 s, .int .i64 h, .int .i64 mi, .int .i64 mk, .int .i64 ch, .int .i64 ar, .int .i64 ca, .int .i64 pg] 23)
  have g0 := heap_alloc_new w (.cells #[.int .i64 s, .int .i64 h, .int .i64 mi, .int .i64 mk, .int .i64 ch, .int .i64 ar, .int .i64 ca, .int .i64 pg] 23)
  have hc := fun W => chk_any s h mi mk ch ar ca pg W
  have hP : (1 ≤ s ∧ s ≤ 32) ∧ 1 ≤ ar ∧ ar ≤ 4194304 := by
    unfold chkV at h0
    split at h0
    · rename_i q
      have := q.1
      unfold mayP at this
      exact ⟨⟨by omega, by omega⟩, q.2⟩
    · cases h0
  rw [h0] at hc
  clear h0
  obtain ⟨⟨p1, p2⟩, p3, p4⟩ := hP
  have hA := fun W => anew_ok s ar W p1 p2 p3 p4
  have l0 : w.heap.size < (w.alloc (.cells #[.int .i64 s, .int .i64 h, .int .i64 mi, .int .i64 mk, .int .i64 ch, .int .i64 ar, .int .i64 ca, .int .i64 pg] 23)).heap.size := by simp
  clear p1 p2 p3 p4
  go_enter Tryz.func5, Tryz.ntmps5
  go_wp2_with fail
  refine (hc _).mono ?_
  rintro x w1 ⟨rfl, b1⟩
  have bA := b0.trans (b1.mono b0.size)
  have g1 := (b1.block _ l0).trans g0
  have l1 : w.heap.size < w1.heap.size := (Array.getElem?_eq_some_iff.1 g1).1
  clear hc g0 b0 b1 l0
  obtain ⟨c0, c1, c2, c3, c4, c5, c6, c7⟩ := par_cells g1
  go_wp2_with fail
  refine (hA _).mono ?_
  rintro x w2 ⟨rfl, hG, b2⟩
  have bB := bA.trans (b2.mono bA.size)
  have g2 := (b2.block _ l1).trans g1
  clear hA g1 c0 c1 c2 c3 c4 c5 c6 c7 l1
  obtain ⟨c0, c1, c2, c3, c4, c5, c6, c7⟩ := par_cells g2
  have hs := bA.size
  have hs2 := bB.size
  have n0 := heap_alloc_new w2 (.cells #[.slice none 0 0] 37)
  have a0 := (Below.refl w2.heap.size w2).alloc (Nat.le_refl _) (.cells #[.slice none 0 0] 37)
  have z0 : (w2.alloc (.cells #[.slice none 0 0] 37)).heap.size = w2.heap.size + 1 := by simp
  have n1 := heap_alloc_new (w2.alloc (.cells #[.slice none 0 0] 37)) (.cells #[.int .i64 0, .int .i64 (-1)] 57)
  have a1 := (Below.refl _ (w2.alloc (.cells #[.slice none 0 0] 37))).alloc (Nat.le_refl _) (.cells #[.int .i64 0, .int .i64 (-1)] 57)
  have n0' := (a1.block _ (by omega)).trans n0
  rw [z0] at n1 a1
  have a01 := a0.trans (a1.mono (by omega))
  generalize hX : (w2.alloc (.cells #[.slice none 0 0] 37)).alloc (.cells #[.int .i64 0, .int .i64 (-1)] 57) = X at *
  have zX : X.heap.size = w2.heap.size + 2 := by rw [← hX]; simp
  have n2 := heap_alloc_new X (.cells (snC s h mi mk ch ar ca pg w1.heap.size (.slice (some ⟨w2.heap.size, 0, none⟩) 1 1) (.slice (some ⟨w2.heap.size + 1, 0, none⟩) 1 1) (.slice none 0 0)) 44)
  have a2 := (Below.refl _ X).alloc (Nat.le_refl _) (.cells (snC s h mi mk ch ar ca pg w1.heap.size (.slice (some ⟨w2.heap.size, 0, none⟩) 1 1) (.slice (some ⟨w2.heap.size + 1, 0, none⟩) 1 1) (.slice none 0 0)) 44)
  have a02 := a01.trans (a2.mono (by omega))
  have bF := bB.trans (a02.mono hs2)
  have m0 := (a2.block _ (by omega)).trans n0'
  have m1 := (a2.block _ (by omega)).trans n1
  have hGF := hG.later a02
  go_wp2
  go_ret2
  first
  | exact ⟨_, _, _, _, rfl, n2, m0, m1, hGF, by omega, by omega, by omega, by omega, bF⟩
  | (rw [zX] at n2; exact ⟨_, _, _, _, rfl, n2, m0, m1, hGF, by omega, by omega, by omega, by omega, bF⟩)

set_option maxRecDepth 100000 in
set_option maxHeartbeats 1000000 in
theorem small_zero (w : World) : Calls Tryz.prog 23 #[.int .i64 0] w fun x w' => x = .returned (.agg #[.int .i64 4, .int .i64 6, .int .i64 2, .int .i64 4, .int .i64 60, .int .i64 3121, .int .i64 0, .int .i64 3]) ∧ Below w.heap.size w w' := by
  have b0 := (Below.refl w.heap.size w).alloc (Nat.le_refl _) (.cells #[.int .i64 4, .int .i64 6, .int .i64 2, .int .i64 4, .int .i64 60, .int .i64 3121, .int .i64 0, .int .i64 3] 23)
  go_enter Tryz.func23, Tryz.ntmps23
  go_wp2
  refine bodyPost_ret (v := .agg #[.int .i64 4, .int .i64 6, .int .i64 2, .int .i64 4, .int .i64 60, .int .i64 3121, .int .i64 0, .int .i64 3]) ?_ rfl ?_
  · simp only [results, Tryz.results23]
    go_simp
  · exact ⟨rfl, b0.alloc b0.size _⟩

end Go.Proofs.YtjnnjggcanodhaaGreatDoor
