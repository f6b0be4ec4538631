/- What this text proves: the walk of the document's Same (annalsref13) over this program, at two records that hold the same: true. -/
import Derived.Test.YtkgoiemnhhdlbaaDoorRcVocab
namespace Go.Proofs.YtkgoiemnhhdlbaaDoor
open Go.RowKit

set_option maxHeartbeats 4000000 in
theorem same13_true (e t c : Int) (ta tb la lb ka kb : Value) (tr li : List UInt8) (lk : List (List UInt8)) (w : World) (h1 : HB w ta tr) (h2 : HB w tb tr) (h3 : HB w la li) (h4 : HB w lb li) (h5 : PA w ka lk) (h6 : PA w kb lk) :
    Calls Tryd.prog 8 #[.agg #[.int .i64 e, .int .i64 t, ta, .int .i64 c, la, ka], .agg #[.int .i64 e, .int .i64 t, tb, .int .i64 c, lb, kb]] w fun x w' => x = .returned (.bool true) ∧ Below w.heap.size w w' := by
  obtain ⟨p1, c1, rfl⟩ := h1.shape
  obtain ⟨p2, c2, rfl⟩ := h2.shape
  obtain ⟨p3, c3, rfl⟩ := h3.shape
  obtain ⟨p4, c4, rfl⟩ := h4.shape
  obtain ⟨p5, c5, rfl⟩ := h5.shape
  obtain ⟨p6, c6, rfl⟩ := h6.shape
  have m1 := h5.len.2
  unfold maxLen at m1
  have bA := (Below.refl w.heap.size w).alloc (Nat.le_refl _) (.cells #[.int .i64 e, .int .i64 t, .slice p1 tr.length c1, .int .i64 c, .slice p3 li.length c3, .slice p5 lk.length c5] 25)
  have gA := heap_alloc_new w (.cells #[.int .i64 e, .int .i64 t, .slice p1 tr.length c1, .int .i64 c, .slice p3 li.length c3, .slice p5 lk.length c5] 25)
  have sA : (w.alloc (.cells #[.int .i64 e, .int .i64 t, .slice p1 tr.length c1, .int .i64 c, .slice p3 li.length c3, .slice p5 lk.length c5] 25)).heap.size = w.heap.size + 1 := by simp
  obtain ⟨V, hV⟩ : ∃ V, V = w.alloc (.cells #[.int .i64 e, .int .i64 t, .slice p1 tr.length c1, .int .i64 c, .slice p3 li.length c3, .slice p5 lk.length c5] 25) := ⟨_, rfl⟩
  rw [← hV] at bA gA sA
  have bB := (Below.refl V.heap.size V).alloc (Nat.le_refl _) (.cells #[.int .i64 e, .int .i64 t, .slice p2 tr.length c2, .int .i64 c, .slice p4 li.length c4, .slice p6 lk.length c6] 25)
  have gB := heap_alloc_new V (.cells #[.int .i64 e, .int .i64 t, .slice p2 tr.length c2, .int .i64 c, .slice p4 li.length c4, .slice p6 lk.length c6] 25)
  have gC := (bB.block _ (by omega)).trans gA
  rw [sA] at gB
  obtain ⟨X, hX⟩ : ∃ X, X = V.alloc (.cells #[.int .i64 e, .int .i64 t, .slice p2 tr.length c2, .int .i64 c, .slice p4 li.length c4, .slice p6 lk.length c6] 25) := ⟨_, rfl⟩
  rw [← hX] at bB gB gC
  have bX := bA.trans (bB.mono bA.size)
  have hX2 := hX
  rw [hV] at hX2
  have q1 := (h1.later bX).str (P := Tryd.prog) 22 5 9 Tryd.underlying22 Tryd.underlying5 Tryd.underlying9
  have q2 := (h2.later bX).str (P := Tryd.prog) 22 5 9 Tryd.underlying22 Tryd.underlying5 Tryd.underlying9
  have q3 := (h3.later bX).str (P := Tryd.prog) 22 5 9 Tryd.underlying22 Tryd.underlying5 Tryd.underlying9
  have q4 := (h4.later bX).str (P := Tryd.prog) 22 5 9 Tryd.underlying22 Tryd.underlying5 Tryd.underlying9
  have k5 := h5.later bX
  have k6 := h6.later bX
  have x0 : X.cell? ⟨w.heap.size, 0, none⟩ = some (.int .i64 e) := by rw [cell_of_row _ _ _ _ _ _ gC]; rfl
  have x1 : X.cell? ⟨w.heap.size, 1, none⟩ = some (.int .i64 t) := by rw [cell_of_row _ _ _ _ _ _ gC]; rfl
  have x2 : X.cell? ⟨w.heap.size, 2, none⟩ = some (.slice p1 tr.length c1) := by rw [cell_of_row _ _ _ _ _ _ gC]; rfl
  have x3 : X.cell? ⟨w.heap.size, 3, none⟩ = some (.int .i64 c) := by rw [cell_of_row _ _ _ _ _ _ gC]; rfl
  have x4 : X.cell? ⟨w.heap.size, 4, none⟩ = some (.slice p3 li.length c3) := by rw [cell_of_row _ _ _ _ _ _ gC]; rfl
  have x5 : X.cell? ⟨w.heap.size, 5, none⟩ = some (.slice p5 lk.length c5) := by rw [cell_of_row _ _ _ _ _ _ gC]; rfl
  have y0 : X.cell? ⟨w.heap.size + 1, 0, none⟩ = some (.int .i64 e) := by rw [cell_of_row _ _ _ _ _ _ gB]; rfl
  have y1 : X.cell? ⟨w.heap.size + 1, 1, none⟩ = some (.int .i64 t) := by rw [cell_of_row _ _ _ _ _ _ gB]; rfl
  have y2 : X.cell? ⟨w.heap.size + 1, 2, none⟩ = some (.slice p2 tr.length c2) := by rw [cell_of_row _ _ _ _ _ _ gB]; rfl
  have y3 : X.cell? ⟨w.heap.size + 1, 3, none⟩ = some (.int .i64 c) := by rw [cell_of_row _ _ _ _ _ _ gB]; rfl
  have y4 : X.cell? ⟨w.heap.size + 1, 4, none⟩ = some (.slice p4 li.length c4) := by rw [cell_of_row _ _ _ _ _ _ gB]; rfl
  have y5 : X.cell? ⟨w.heap.size + 1, 5, none⟩ = some (.slice p6 lk.length c6) := by rw [cell_of_row _ _ _ _ _ _ gB]; rfl
  rw [hX2] at q1 q2 q3 q4
  clear h1 h2 h3 h4 h5 h6 bA gA sA bB gB gC hX
  go_enter Tryd.func8, Tryd.ntmps8
  go_wp2
  rw [← hX2]
  clear q1 q2 q3 q4 hX2 hV x0 x1 x2 x3 x4 y0 y1 y2 y3 y4
  go_loopw [55] (fun j wr => ∃ k : Nat, k ≤ lk.length ∧ j = .int .i64 k ∧ Below X.heap.size X wr) (fun j _ => lk.length - (intOf j).toNat)
  case atStart => exact ⟨0, Nat.zero_le _, rfl, Below.refl _ _⟩
  case round =>
    obtain ⟨k, hk, rfl, hbe⟩ := hrel
    by_cases hlt : k < lk.length
    · obtain ⟨b1, o1, rfl⟩ := k5.addr (by omega)
      obtain ⟨b2, o2, rfl⟩ := k6.addr (by omega)
      obtain ⟨q6, d6, l, gl, ec, hl⟩ := (k5.later hbe).get k hlt
      obtain ⟨q7, d7, l2, gl2, ec2, hl2⟩ := (k6.later hbe).get k hlt
      have e12 : l2 = l := by
        have := gl2.out
        rw [gl.out] at this
        exact (Option.some.inj this).symm
      subst e12
      have a1 := cell_later hbe x5
      have a2 := cell_later hbe y5
      have hlt2 : (k : Int) < (lk.length : Int) := by omega
      have z3 := hl.str (P := Tryd.prog) 22 5 9 Tryd.underlying22 Tryd.underlying5 Tryd.underlying9
      have z4 := hl2.str (P := Tryd.prog) 22 5 9 Tryd.underlying22 Tryd.underlying5 Tryd.underlying9
      have z1 := (hl.later ((Below.refl _ wr).drew)).str (P := Tryd.prog) 22 5 9 Tryd.underlying22 Tryd.underlying5 Tryd.underlying9
      have z2 := (hl2.later ((Below.refl _ wr).drew)).str (P := Tryd.prog) 22 5 9 Tryd.underlying22 Tryd.underlying5 Tryd.underlying9
      clear gl gl2
      go_wp2
      go_region
      all_goals
        go_wp2
        go_roundw
      all_goals first | exact ⟨k + 1, by omega, by go_num, hbe.drew⟩ | ((repeat apply Exists.intro); exact ⟨⟨k + 1, by omega, by go_num, hbe.drew⟩, rfl⟩) | (simp [intOf]; omega)
    · have hb := bX.trans (hbe.mono bX.size)
      go_wp2
      go_ret
      exact ⟨rfl, hb⟩

end Go.Proofs.YtkgoiemnhhdlbaaDoor
