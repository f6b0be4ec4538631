/- What this text proves: the walk of the document's Same (annalsref13) over this program, at two records that hold the same: true. What this text proves: the walk of the document's Same (annalsref13) over this program, at two records that part: false. (By program: mkfosame.py.) -/
import Derived.Test.YtpndpmkoegmbkaaDoorRcVocab
namespace Go.Proofs.YtpndpmkoegmbkaaDoor
open Go.RowKit

set_option maxRecDepth 100000 in
set_option maxHeartbeats 4000000 in
theorem same13_true (e t c : Int) (ta tb la lb ka kb : Value) (tr li : List UInt8) (lk : List (List UInt8)) (w : World) (h1 : HB w ta tr) (h2 : HB w tb tr) (h3 : HB w la li) (h4 : HB w lb li) (h5 : PA w ka lk) (h6 : PA w kb lk) :
    Calls Tryd.prog 9 #[.agg #[.int .i64 e, .int .i64 t, ta, .int .i64 c, la, ka], .agg #[.int .i64 e, .int .i64 t, tb, .int .i64 c, lb, kb]] w fun x w' => x = .returned (.bool true) ∧ Below w.heap.size w w' := by
  obtain ⟨p1, c1, rfl⟩ := h1.shape
  obtain ⟨p2, c2, rfl⟩ := h2.shape
  obtain ⟨p3, c3, rfl⟩ := h3.shape
  obtain ⟨p4, c4, rfl⟩ := h4.shape
  obtain ⟨p5, c5, rfl⟩ := h5.shape
  obtain ⟨p6, c6, rfl⟩ := h6.shape
  have m1 := h5.len.2
  unfold maxLen at m1
  have bA := (Below.refl w.heap.size w).alloc (Nat.le_refl _) (.cells #[.int .i64 e, .int .i64 t, .slice p1 tr.length c1, .int .i64 c, .slice p3 li.length c3, .slice p5 lk.length c5] 25)
  have gA := heap_alloc_new w (.cells #[.int .i64 e, .int .i64 t, .slice p1 tr.length c1, .int .i64 c, .slice p3 li.length c3, .slice p5 lk.length c5] 25)
  have sA : (w.alloc (.cells #[.int .i64 e, .int .i64 t, .slice p1 tr.length c1, .int .i64 c, .slice p3 li.length c3, .slice p5 lk.length c5] 25)).heap.size = w.heap.size + 1 := by simp
  obtain ⟨V, hV⟩ : ∃ V, V = w.alloc (.cells #[.int .i64 e, .int .i64 t, .slice p1 tr.length c1, .int .i64 c, .slice p3 li.length c3, .slice p5 lk.length c5] 25) := ⟨_, rfl⟩
  rw [← hV] at bA gA sA
  have bB := (Below.refl V.heap.size V).alloc (Nat.le_refl _) (.cells #[.int .i64 e, .int .i64 t, .slice p2 tr.length c2, .int .i64 c, .slice p4 li.length c4, .slice p6 lk.length c6] 25)
  have gB := heap_alloc_new V (.cells #[.int .i64 e, .int .i64 t, .slice p2 tr.length c2, .int .i64 c, .slice p4 li.length c4, .slice p6 lk.length c6] 25)
  have gC := (bB.block _ (by omega)).trans gA
  rw [sA] at gB
  obtain ⟨X, hX⟩ : ∃ X, X = V.alloc (.cells #[.int .i64 e, .int .i64 t, .slice p2 tr.length c2, .int .i64 c, .slice p4 li.length c4, .slice p6 lk.length c6] 25) := ⟨_, rfl⟩
  rw [← hX] at bB gB gC
  have bX := bA.trans (bB.mono bA.size)
  have hX2 := hX
  rw [hV] at hX2
  have q1 := (h1.later bX).str (P := Tryd.prog) 22 5 9 Tryd.underlying22 Tryd.underlying5 Tryd.underlying9
  have q2 := (h2.later bX).str (P := Tryd.prog) 22 5 9 Tryd.underlying22 Tryd.underlying5 Tryd.underlying9
  have q3 := (h3.later bX).str (P := Tryd.prog) 22 5 9 Tryd.underlying22 Tryd.underlying5 Tryd.underlying9
  have q4 := (h4.later bX).str (P := Tryd.prog) 22 5 9 Tryd.underlying22 Tryd.underlying5 Tryd.underlying9
  have k5 := h5.later bX
  have k6 := h6.later bX
  have x0 : X.cell? ⟨w.heap.size, 0, none⟩ = some (.int .i64 e) := by rw [cell_of_row _ _ _ _ _ _ gC]; rfl
  have x1 : X.cell? ⟨w.heap.size, 1, none⟩ = some (.int .i64 t) := by rw [cell_of_row _ _ _ _ _ _ gC]; rfl
  have x2 : X.cell? ⟨w.heap.size, 2, none⟩ = some (.slice p1 tr.length c1) := by rw [cell_of_row _ _ _ _ _ _ gC]; rfl
  have x3 : X.cell? ⟨w.heap.size, 3, none⟩ = some (.int .i64 c) := by rw [cell_of_row _ _ _ _ _ _ gC]; rfl
  have x4 : X.cell? ⟨w.heap.size, 4, none⟩ = some (.slice p3 li.length c3) := by rw [cell_of_row _ _ _ _ _ _ gC]; rfl
  have x5 : X.cell? ⟨w.heap.size, 5, none⟩ = some (.slice p5 lk.length c5) := by rw [cell_of_row _ _ _ _ _ _ gC]; rfl
  have y0 : X.cell? ⟨w.heap.size + 1, 0, none⟩ = some (.int .i64 e) := by rw [cell_of_row _ _ _ _ _ _ gB]; rfl
  have y1 : X.cell? ⟨w.heap.size + 1, 1, none⟩ = some (.int .i64 t) := by rw [cell_of_row _ _ _ _ _ _ gB]; rfl
  have y2 : X.cell? ⟨w.heap.size + 1, 2, none⟩ = some (.slice p2 tr.length c2) := by rw [cell_of_row _ _ _ _ _ _ gB]; rfl
  have y3 : X.cell? ⟨w.heap.size + 1, 3, none⟩ = some (.int .i64 c) := by rw [cell_of_row _ _ _ _ _ _ gB]; rfl
  have y4 : X.cell? ⟨w.heap.size + 1, 4, none⟩ = some (.slice p4 li.length c4) := by rw [cell_of_row _ _ _ _ _ _ gB]; rfl
  have y5 : X.cell? ⟨w.heap.size + 1, 5, none⟩ = some (.slice p6 lk.length c6) := by rw [cell_of_row _ _ _ _ _ _ gB]; rfl
  rw [hX2] at q1 q2 q3 q4
  clear h1 h2 h3 h4 h5 h6 bA gA sA bB gB gC hX
  go_enter Tryd.func9, Tryd.ntmps9
  go_wp2
  rw [← hX2]
  clear q1 q2 q3 q4 hX2 hV x0 x1 x2 x3 x4 y0 y1 y2 y3 y4
  go_loopw [55] (fun j wr => ∃ k : Nat, k ≤ lk.length ∧ j = .int .i64 k ∧ Below X.heap.size X wr) (fun j _ => lk.length - (intOf j).toNat)
  case atStart => exact ⟨0, Nat.zero_le _, rfl, Below.refl _ _⟩
  case round =>
    obtain ⟨k, hk, rfl, hbe⟩ := hrel
    by_cases hlt : k < lk.length
    · obtain ⟨b1, o1, rfl⟩ := k5.addr (by omega)
      obtain ⟨b2, o2, rfl⟩ := k6.addr (by omega)
      obtain ⟨q6, d6, l, gl, ec, hl⟩ := (k5.later hbe).get k hlt
      obtain ⟨q7, d7, l2, gl2, ec2, hl2⟩ := (k6.later hbe).get k hlt
      have e12 : l2 = l := by
        have := gl2.out
        rw [gl.out] at this
        exact (Option.some.inj this).symm
      subst e12
      have a1 := cell_later hbe x5
      have a2 := cell_later hbe y5
      have hlt2 : (k : Int) < (lk.length : Int) := by omega
      have z3 := hl.str (P := Tryd.prog) 22 5 9 Tryd.underlying22 Tryd.underlying5 Tryd.underlying9
      have z4 := hl2.str (P := Tryd.prog) 22 5 9 Tryd.underlying22 Tryd.underlying5 Tryd.underlying9
      have z1 := (hl.later ((Below.refl _ wr).drew)).str (P := Tryd.prog) 22 5 9 Tryd.underlying22 Tryd.underlying5 Tryd.underlying9
      have z2 := (hl2.later ((Below.refl _ wr).drew)).str (P := Tryd.prog) 22 5 9 Tryd.underlying22 Tryd.underlying5 Tryd.underlying9
      clear gl gl2
      go_wp2
      go_region
      all_goals
        go_wp2
        go_roundw
      all_goals first | exact ⟨k + 1, by omega, by go_num, hbe.drew⟩ | ((repeat apply Exists.intro); exact ⟨⟨k + 1, by omega, by go_num, hbe.drew⟩, rfl⟩) | (simp [intOf]; omega)
    · have hb := bX.trans (hbe.mono bX.size)
      go_wp2
      go_ret
      exact ⟨rfl, hb⟩

end Go.Proofs.YtpndpmkoegmbkaaDoor

namespace Go.Proofs.YtpndpmkoegmbkaaDoor
open Go.RowKit

set_option maxRecDepth 100000 in
set_option maxHeartbeats 4000000 in
theorem same13_no_e (c c' e e' t t' : Int) (ta tb la lb ka kb : Value) (li li' tr tr' : List UInt8) (lk lk' : List (List UInt8)) (w : World) (h1 : HB w ta tr) (h2 : HB w tb tr') (h3 : HB w la li) (h4 : HB w lb li') (h5 : PA w ka lk) (h6 : PA w kb lk') (hne : ¬ e = e') :
    Calls Tryd.prog 9 #[.agg #[.int .i64 e, .int .i64 t, ta, .int .i64 c, la, ka], .agg #[.int .i64 e', .int .i64 t', tb, .int .i64 c', lb, kb]] w fun x w' => x = .returned (.bool false) ∧ Below w.heap.size w w' := by
  obtain ⟨p1, c1, rfl⟩ := h1.shape
  obtain ⟨p2, c2, rfl⟩ := h2.shape
  obtain ⟨p3, c3, rfl⟩ := h3.shape
  obtain ⟨p4, c4, rfl⟩ := h4.shape
  obtain ⟨p5, c5, rfl⟩ := h5.shape
  obtain ⟨p6, c6, rfl⟩ := h6.shape
  have m1 := h5.len.2
  unfold maxLen at m1
  have m2 := h6.len.2
  unfold maxLen at m2
  have bA := (Below.refl w.heap.size w).alloc (Nat.le_refl _) (.cells #[.int .i64 e, .int .i64 t, .slice p1 tr.length c1, .int .i64 c, .slice p3 li.length c3, .slice p5 lk.length c5] 25)
  have gA := heap_alloc_new w (.cells #[.int .i64 e, .int .i64 t, .slice p1 tr.length c1, .int .i64 c, .slice p3 li.length c3, .slice p5 lk.length c5] 25)
  have sA : (w.alloc (.cells #[.int .i64 e, .int .i64 t, .slice p1 tr.length c1, .int .i64 c, .slice p3 li.length c3, .slice p5 lk.length c5] 25)).heap.size = w.heap.size + 1 := by simp
  obtain ⟨V, hV⟩ : ∃ V, V = w.alloc (.cells #[.int .i64 e, .int .i64 t, .slice p1 tr.length c1, .int .i64 c, .slice p3 li.length c3, .slice p5 lk.length c5] 25) := ⟨_, rfl⟩
  rw [← hV] at bA gA sA
  have bB := (Below.refl V.heap.size V).alloc (Nat.le_refl _) (.cells #[.int .i64 e', .int .i64 t', .slice p2 tr'.length c2, .int .i64 c', .slice p4 li'.length c4, .slice p6 lk'.length c6] 25)
  have gB := heap_alloc_new V (.cells #[.int .i64 e', .int .i64 t', .slice p2 tr'.length c2, .int .i64 c', .slice p4 li'.length c4, .slice p6 lk'.length c6] 25)
  have gC := (bB.block _ (by omega)).trans gA
  rw [sA] at gB
  obtain ⟨X, hX⟩ : ∃ X, X = V.alloc (.cells #[.int .i64 e', .int .i64 t', .slice p2 tr'.length c2, .int .i64 c', .slice p4 li'.length c4, .slice p6 lk'.length c6] 25) := ⟨_, rfl⟩
  rw [← hX] at bB gB gC
  have bX := bA.trans (bB.mono bA.size)
  have hX2 := hX
  rw [hV] at hX2
  have q1 := (h1.later bX).str (P := Tryd.prog) 22 5 9 Tryd.underlying22 Tryd.underlying5 Tryd.underlying9
  have q2 := (h2.later bX).str (P := Tryd.prog) 22 5 9 Tryd.underlying22 Tryd.underlying5 Tryd.underlying9
  have q3 := (h3.later bX).str (P := Tryd.prog) 22 5 9 Tryd.underlying22 Tryd.underlying5 Tryd.underlying9
  have q4 := (h4.later bX).str (P := Tryd.prog) 22 5 9 Tryd.underlying22 Tryd.underlying5 Tryd.underlying9
  have k5 := h5.later bX
  have k6 := h6.later bX
  have x0 : X.cell? ⟨w.heap.size, 0, none⟩ = some (.int .i64 e) := by rw [cell_of_row _ _ _ _ _ _ gC]; rfl
  have x1 : X.cell? ⟨w.heap.size, 1, none⟩ = some (.int .i64 t) := by rw [cell_of_row _ _ _ _ _ _ gC]; rfl
  have x2 : X.cell? ⟨w.heap.size, 2, none⟩ = some (.slice p1 tr.length c1) := by rw [cell_of_row _ _ _ _ _ _ gC]; rfl
  have x3 : X.cell? ⟨w.heap.size, 3, none⟩ = some (.int .i64 c) := by rw [cell_of_row _ _ _ _ _ _ gC]; rfl
  have x4 : X.cell? ⟨w.heap.size, 4, none⟩ = some (.slice p3 li.length c3) := by rw [cell_of_row _ _ _ _ _ _ gC]; rfl
  have x5 : X.cell? ⟨w.heap.size, 5, none⟩ = some (.slice p5 lk.length c5) := by rw [cell_of_row _ _ _ _ _ _ gC]; rfl
  have y0 : X.cell? ⟨w.heap.size + 1, 0, none⟩ = some (.int .i64 e') := by rw [cell_of_row _ _ _ _ _ _ gB]; rfl
  have y1 : X.cell? ⟨w.heap.size + 1, 1, none⟩ = some (.int .i64 t') := by rw [cell_of_row _ _ _ _ _ _ gB]; rfl
  have y2 : X.cell? ⟨w.heap.size + 1, 2, none⟩ = some (.slice p2 tr'.length c2) := by rw [cell_of_row _ _ _ _ _ _ gB]; rfl
  have y3 : X.cell? ⟨w.heap.size + 1, 3, none⟩ = some (.int .i64 c') := by rw [cell_of_row _ _ _ _ _ _ gB]; rfl
  have y4 : X.cell? ⟨w.heap.size + 1, 4, none⟩ = some (.slice p4 li'.length c4) := by rw [cell_of_row _ _ _ _ _ _ gB]; rfl
  have y5 : X.cell? ⟨w.heap.size + 1, 5, none⟩ = some (.slice p6 lk'.length c6) := by rw [cell_of_row _ _ _ _ _ _ gB]; rfl
  rw [hX2] at q1 q2 q3 q4
  clear h1 h2 h3 h4 h5 h6 bA gA sA bB gB gC hX
  have n0 : (e != e') = true := by simpa using hne
  clear k5 k6
  go_enter Tryd.func9, Tryd.ntmps9
  go_wp2
  rw [← hX2]
  go_ret
  exact ⟨rfl, bX⟩

set_option maxRecDepth 100000 in
set_option maxHeartbeats 4000000 in
theorem same13_no_t (c c' e t t' : Int) (ta tb la lb ka kb : Value) (li li' tr tr' : List UInt8) (lk lk' : List (List UInt8)) (w : World) (h1 : HB w ta tr) (h2 : HB w tb tr') (h3 : HB w la li) (h4 : HB w lb li') (h5 : PA w ka lk) (h6 : PA w kb lk') (hne : ¬ t = t') :
    Calls Tryd.prog 9 #[.agg #[.int .i64 e, .int .i64 t, ta, .int .i64 c, la, ka], .agg #[.int .i64 e, .int .i64 t', tb, .int .i64 c', lb, kb]] w fun x w' => x = .returned (.bool false) ∧ Below w.heap.size w w' := by
  obtain ⟨p1, c1, rfl⟩ := h1.shape
  obtain ⟨p2, c2, rfl⟩ := h2.shape
  obtain ⟨p3, c3, rfl⟩ := h3.shape
  obtain ⟨p4, c4, rfl⟩ := h4.shape
  obtain ⟨p5, c5, rfl⟩ := h5.shape
  obtain ⟨p6, c6, rfl⟩ := h6.shape
  have m1 := h5.len.2
  unfold maxLen at m1
  have m2 := h6.len.2
  unfold maxLen at m2
  have bA := (Below.refl w.heap.size w).alloc (Nat.le_refl _) (.cells #[.int .i64 e, .int .i64 t, .slice p1 tr.length c1, .int .i64 c, .slice p3 li.length c3, .slice p5 lk.length c5] 25)
  have gA := heap_alloc_new w (.cells #[.int .i64 e, .int .i64 t, .slice p1 tr.length c1, .int .i64 c, .slice p3 li.length c3, .slice p5 lk.length c5] 25)
  have sA : (w.alloc (.cells #[.int .i64 e, .int .i64 t, .slice p1 tr.length c1, .int .i64 c, .slice p3 li.length c3, .slice p5 lk.length c5] 25)).heap.size = w.heap.size + 1 := by simp
  obtain ⟨V, hV⟩ : ∃ V, V = w.alloc (.cells #[.int .i64 e, .int .i64 t, .slice p1 tr.length c1, .int .i64 c, .slice p3 li.length c3, .slice p5 lk.length c5] 25) := ⟨_, rfl⟩
  rw [← hV] at bA gA sA
  have bB := (Below.refl V.heap.size V).alloc (Nat.le_refl _) (.cells #[.int .i64 e, .int .i64 t', .slice p2 tr'.length c2, .int .i64 c', .slice p4 li'.length c4, .slice p6 lk'.length c6] 25)
  have gB := heap_alloc_new V (.cells #[.int .i64 e, .int .i64 t', .slice p2 tr'.length c2, .int .i64 c', .slice p4 li'.length c4, .slice p6 lk'.length c6] 25)
  have gC := (bB.block _ (by omega)).trans gA
  rw [sA] at gB
  obtain ⟨X, hX⟩ : ∃ X, X = V.alloc (.cells #[.int .i64 e, .int .i64 t', .slice p2 tr'.length c2, .int .i64 c', .slice p4 li'.length c4, .slice p6 lk'.length c6] 25) := ⟨_, rfl⟩
  rw [← hX] at bB gB gC
  have bX := bA.trans (bB.mono bA.size)
  have hX2 := hX
  rw [hV] at hX2
  have q1 := (h1.later bX).str (P := Tryd.prog) 22 5 9 Tryd.underlying22 Tryd.underlying5 Tryd.underlying9
  have q2 := (h2.later bX).str (P := Tryd.prog) 22 5 9 Tryd.underlying22 Tryd.underlying5 Tryd.underlying9
  have q3 := (h3.later bX).str (P := Tryd.prog) 22 5 9 Tryd.underlying22 Tryd.underlying5 Tryd.underlying9
  have q4 := (h4.later bX).str (P := Tryd.prog) 22 5 9 Tryd.underlying22 Tryd.underlying5 Tryd.underlying9
  have k5 := h5.later bX
  have k6 := h6.later bX
  have x0 : X.cell? ⟨w.heap.size, 0, none⟩ = some (.int .i64 e) := by rw [cell_of_row _ _ _ _ _ _ gC]; rfl
  have x1 : X.cell? ⟨w.heap.size, 1, none⟩ = some (.int .i64 t) := by rw [cell_of_row _ _ _ _ _ _ gC]; rfl
  have x2 : X.cell? ⟨w.heap.size, 2, none⟩ = some (.slice p1 tr.length c1) := by rw [cell_of_row _ _ _ _ _ _ gC]; rfl
  have x3 : X.cell? ⟨w.heap.size, 3, none⟩ = some (.int .i64 c) := by rw [cell_of_row _ _ _ _ _ _ gC]; rfl
  have x4 : X.cell? ⟨w.heap.size, 4, none⟩ = some (.slice p3 li.length c3) := by rw [cell_of_row _ _ _ _ _ _ gC]; rfl
  have x5 : X.cell? ⟨w.heap.size, 5, none⟩ = some (.slice p5 lk.length c5) := by rw [cell_of_row _ _ _ _ _ _ gC]; rfl
  have y0 : X.cell? ⟨w.heap.size + 1, 0, none⟩ = some (.int .i64 e) := by rw [cell_of_row _ _ _ _ _ _ gB]; rfl
  have y1 : X.cell? ⟨w.heap.size + 1, 1, none⟩ = some (.int .i64 t') := by rw [cell_of_row _ _ _ _ _ _ gB]; rfl
  have y2 : X.cell? ⟨w.heap.size + 1, 2, none⟩ = some (.slice p2 tr'.length c2) := by rw [cell_of_row _ _ _ _ _ _ gB]; rfl
  have y3 : X.cell? ⟨w.heap.size + 1, 3, none⟩ = some (.int .i64 c') := by rw [cell_of_row _ _ _ _ _ _ gB]; rfl
  have y4 : X.cell? ⟨w.heap.size + 1, 4, none⟩ = some (.slice p4 li'.length c4) := by rw [cell_of_row _ _ _ _ _ _ gB]; rfl
  have y5 : X.cell? ⟨w.heap.size + 1, 5, none⟩ = some (.slice p6 lk'.length c6) := by rw [cell_of_row _ _ _ _ _ _ gB]; rfl
  rw [hX2] at q1 q2 q3 q4
  clear h1 h2 h3 h4 h5 h6 bA gA sA bB gB gC hX
  have n0 : (t != t') = true := by simpa using hne
  clear k5 k6
  go_enter Tryd.func9, Tryd.ntmps9
  go_wp2
  rw [← hX2]
  go_ret
  exact ⟨rfl, bX⟩

set_option maxRecDepth 100000 in
set_option maxHeartbeats 4000000 in
theorem same13_no_tr (c c' e t : Int) (ta tb la lb ka kb : Value) (li li' tr tr' : List UInt8) (lk lk' : List (List UInt8)) (w : World) (h1 : HB w ta tr) (h2 : HB w tb tr') (h3 : HB w la li) (h4 : HB w lb li') (h5 : PA w ka lk) (h6 : PA w kb lk') (hne : ¬ tr = tr') :
    Calls Tryd.prog 9 #[.agg #[.int .i64 e, .int .i64 t, ta, .int .i64 c, la, ka], .agg #[.int .i64 e, .int .i64 t, tb, .int .i64 c', lb, kb]] w fun x w' => x = .returned (.bool false) ∧ Below w.heap.size w w' := by
  obtain ⟨p1, c1, rfl⟩ := h1.shape
  obtain ⟨p2, c2, rfl⟩ := h2.shape
  obtain ⟨p3, c3, rfl⟩ := h3.shape
  obtain ⟨p4, c4, rfl⟩ := h4.shape
  obtain ⟨p5, c5, rfl⟩ := h5.shape
  obtain ⟨p6, c6, rfl⟩ := h6.shape
  have m1 := h5.len.2
  unfold maxLen at m1
  have m2 := h6.len.2
  unfold maxLen at m2
  have bA := (Below.refl w.heap.size w).alloc (Nat.le_refl _) (.cells #[.int .i64 e, .int .i64 t, .slice p1 tr.length c1, .int .i64 c, .slice p3 li.length c3, .slice p5 lk.length c5] 25)
  have gA := heap_alloc_new w (.cells #[.int .i64 e, .int .i64 t, .slice p1 tr.length c1, .int .i64 c, .slice p3 li.length c3, .slice p5 lk.length c5] 25)
  have sA : (w.alloc (.cells #[.int .i64 e, .int .i64 t, .slice p1 tr.length c1, .int .i64 c, .slice p3 li.length c3, .slice p5 lk.length c5] 25)).heap.size = w.heap.size + 1 := by simp
  obtain ⟨V, hV⟩ : ∃ V, V = w.alloc (.cells #[.int .i64 e, .int .i64 t, .slice p1 tr.length c1, .int .i64 c, .slice p3 li.length c3, .slice p5 lk.length c5] 25) := ⟨_, rfl⟩
  rw [← hV] at bA gA sA
  have bB := (Below.refl V.heap.size V).alloc (Nat.le_refl _) (.cells #[.int .i64 e, .int .i64 t, .slice p2 tr'.length c2, .int .i64 c', .slice p4 li'.length c4, .slice p6 lk'.length c6] 25)
  have gB := heap_alloc_new V (.cells #[.int .i64 e, .int .i64 t, .slice p2 tr'.length c2, .int .i64 c', .slice p4 li'.length c4, .slice p6 lk'.length c6] 25)
  have gC := (bB.block _ (by omega)).trans gA
  rw [sA] at gB
  obtain ⟨X, hX⟩ : ∃ X, X = V.alloc (.cells #[.int .i64 e, .int .i64 t, .slice p2 tr'.length c2, .int .i64 c', .slice p4 li'.length c4, .slice p6 lk'.length c6] 25) := ⟨_, rfl⟩
  rw [← hX] at bB gB gC
  have bX := bA.trans (bB.mono bA.size)
  have hX2 := hX
  rw [hV] at hX2
  have q1 := (h1.later bX).str (P := Tryd.prog) 22 5 9 Tryd.underlying22 Tryd.underlying5 Tryd.underlying9
  have q2 := (h2.later bX).str (P := Tryd.prog) 22 5 9 Tryd.underlying22 Tryd.underlying5 Tryd.underlying9
  have q3 := (h3.later bX).str (P := Tryd.prog) 22 5 9 Tryd.underlying22 Tryd.underlying5 Tryd.underlying9
  have q4 := (h4.later bX).str (P := Tryd.prog) 22 5 9 Tryd.underlying22 Tryd.underlying5 Tryd.underlying9
  have k5 := h5.later bX
  have k6 := h6.later bX
  have x0 : X.cell? ⟨w.heap.size, 0, none⟩ = some (.int .i64 e) := by rw [cell_of_row _ _ _ _ _ _ gC]; rfl
  have x1 : X.cell? ⟨w.heap.size, 1, none⟩ = some (.int .i64 t) := by rw [cell_of_row _ _ _ _ _ _ gC]; rfl
  have x2 : X.cell? ⟨w.heap.size, 2, none⟩ = some (.slice p1 tr.length c1) := by rw [cell_of_row _ _ _ _ _ _ gC]; rfl
  have x3 : X.cell? ⟨w.heap.size, 3, none⟩ = some (.int .i64 c) := by rw [cell_of_row _ _ _ _ _ _ gC]; rfl
  have x4 : X.cell? ⟨w.heap.size, 4, none⟩ = some (.slice p3 li.length c3) := by rw [cell_of_row _ _ _ _ _ _ gC]; rfl
  have x5 : X.cell? ⟨w.heap.size, 5, none⟩ = some (.slice p5 lk.length c5) := by rw [cell_of_row _ _ _ _ _ _ gC]; rfl
  have y0 : X.cell? ⟨w.heap.size + 1, 0, none⟩ = some (.int .i64 e) := by rw [cell_of_row _ _ _ _ _ _ gB]; rfl
  have y1 : X.cell? ⟨w.heap.size + 1, 1, none⟩ = some (.int .i64 t) := by rw [cell_of_row _ _ _ _ _ _ gB]; rfl
  have y2 : X.cell? ⟨w.heap.size + 1, 2, none⟩ = some (.slice p2 tr'.length c2) := by rw [cell_of_row _ _ _ _ _ _ gB]; rfl
  have y3 : X.cell? ⟨w.heap.size + 1, 3, none⟩ = some (.int .i64 c') := by rw [cell_of_row _ _ _ _ _ _ gB]; rfl
  have y4 : X.cell? ⟨w.heap.size + 1, 4, none⟩ = some (.slice p4 li'.length c4) := by rw [cell_of_row _ _ _ _ _ _ gB]; rfl
  have y5 : X.cell? ⟨w.heap.size + 1, 5, none⟩ = some (.slice p6 lk'.length c6) := by rw [cell_of_row _ _ _ _ _ _ gB]; rfl
  rw [hX2] at q1 q2 q3 q4
  clear h1 h2 h3 h4 h5 h6 bA gA sA bB gB gC hX
  have n0 : (tr != tr') = true := by simpa using hne
  have n1 : (tr == tr') = false := by simpa using hne
  have n2 : decide (tr = tr') = false := by simpa using hne
  clear k5 k6
  go_enter Tryd.func9, Tryd.ntmps9
  go_wp2
  rw [← hX2]
  go_ret
  exact ⟨rfl, bX⟩

set_option maxRecDepth 100000 in
set_option maxHeartbeats 4000000 in
theorem same13_no_c (c c' e t : Int) (ta tb la lb ka kb : Value) (li li' tr : List UInt8) (lk lk' : List (List UInt8)) (w : World) (h1 : HB w ta tr) (h2 : HB w tb tr) (h3 : HB w la li) (h4 : HB w lb li') (h5 : PA w ka lk) (h6 : PA w kb lk') (hne : ¬ c = c') :
    Calls Tryd.prog 9 #[.agg #[.int .i64 e, .int .i64 t, ta, .int .i64 c, la, ka], .agg #[.int .i64 e, .int .i64 t, tb, .int .i64 c', lb, kb]] w fun x w' => x = .returned (.bool false) ∧ Below w.heap.size w w' := by
  obtain ⟨p1, c1, rfl⟩ := h1.shape
  obtain ⟨p2, c2, rfl⟩ := h2.shape
  obtain ⟨p3, c3, rfl⟩ := h3.shape
  obtain ⟨p4, c4, rfl⟩ := h4.shape
  obtain ⟨p5, c5, rfl⟩ := h5.shape
  obtain ⟨p6, c6, rfl⟩ := h6.shape
  have m1 := h5.len.2
  unfold maxLen at m1
  have m2 := h6.len.2
  unfold maxLen at m2
  have bA := (Below.refl w.heap.size w).alloc (Nat.le_refl _) (.cells #[.int .i64 e, .int .i64 t, .slice p1 tr.length c1, .int .i64 c, .slice p3 li.length c3, .slice p5 lk.length c5] 25)
  have gA := heap_alloc_new w (.cells #[.int .i64 e, .int .i64 t, .slice p1 tr.length c1, .int .i64 c, .slice p3 li.length c3, .slice p5 lk.length c5] 25)
  have sA : (w.alloc (.cells #[.int .i64 e, .int .i64 t, .slice p1 tr.length c1, .int .i64 c, .slice p3 li.length c3, .slice p5 lk.length c5] 25)).heap.size = w.heap.size + 1 := by simp
  obtain ⟨V, hV⟩ : ∃ V, V = w.alloc (.cells #[.int .i64 e, .int .i64 t, .slice p1 tr.length c1, .int .i64 c, .slice p3 li.length c3, .slice p5 lk.length c5] 25) := ⟨_, rfl⟩
  rw [← hV] at bA gA sA
  have bB := (Below.refl V.heap.size V).alloc (Nat.le_refl _) (.cells #[.int .i64 e, .int .i64 t, .slice p2 tr.length c2, .int .i64 c', .slice p4 li'.length c4, .slice p6 lk'.length c6] 25)
  have gB := heap_alloc_new V (.cells #[.int .i64 e, .int .i64 t, .slice p2 tr.length c2, .int .i64 c', .slice p4 li'.length c4, .slice p6 lk'.length c6] 25)
  have gC := (bB.block _ (by omega)).trans gA
  rw [sA] at gB
  obtain ⟨X, hX⟩ : ∃ X, X = V.alloc (.cells #[.int .i64 e, .int .i64 t, .slice p2 tr.length c2, .int .i64 c', .slice p4 li'.length c4, .slice p6 lk'.length c6] 25) := ⟨_, rfl⟩
  rw [← hX] at bB gB gC
  have bX := bA.trans (bB.mono bA.size)
  have hX2 := hX
  rw [hV] at hX2
  have q1 := (h1.later bX).str (P := Tryd.prog) 22 5 9 Tryd.underlying22 Tryd.underlying5 Tryd.underlying9
  have q2 := (h2.later bX).str (P := Tryd.prog) 22 5 9 Tryd.underlying22 Tryd.underlying5 Tryd.underlying9
  have q3 := (h3.later bX).str (P := Tryd.prog) 22 5 9 Tryd.underlying22 Tryd.underlying5 Tryd.underlying9
  have q4 := (h4.later bX).str (P := Tryd.prog) 22 5 9 Tryd.underlying22 Tryd.underlying5 Tryd.underlying9
  have k5 := h5.later bX
  have k6 := h6.later bX
  have x0 : X.cell? ⟨w.heap.size, 0, none⟩ = some (.int .i64 e) := by rw [cell_of_row _ _ _ _ _ _ gC]; rfl
  have x1 : X.cell? ⟨w.heap.size, 1, none⟩ = some (.int .i64 t) := by rw [cell_of_row _ _ _ _ _ _ gC]; rfl
  have x2 : X.cell? ⟨w.heap.size, 2, none⟩ = some (.slice p1 tr.length c1) := by rw [cell_of_row _ _ _ _ _ _ gC]; rfl
  have x3 : X.cell? ⟨w.heap.size, 3, none⟩ = some (.int .i64 c) := by rw [cell_of_row _ _ _ _ _ _ gC]; rfl
  have x4 : X.cell? ⟨w.heap.size, 4, none⟩ = some (.slice p3 li.length c3) := by rw [cell_of_row _ _ _ _ _ _ gC]; rfl
  have x5 : X.cell? ⟨w.heap.size, 5, none⟩ = some (.slice p5 lk.length c5) := by rw [cell_of_row _ _ _ _ _ _ gC]; rfl
  have y0 : X.cell? ⟨w.heap.size + 1, 0, none⟩ = some (.int .i64 e) := by rw [cell_of_row _ _ _ _ _ _ gB]; rfl
  have y1 : X.cell? ⟨w.heap.size + 1, 1, none⟩ = some (.int .i64 t) := by rw [cell_of_row _ _ _ _ _ _ gB]; rfl
  have y2 : X.cell? ⟨w.heap.size + 1, 2, none⟩ = some (.slice p2 tr.length c2) := by rw [cell_of_row _ _ _ _ _ _ gB]; rfl
  have y3 : X.cell? ⟨w.heap.size + 1, 3, none⟩ = some (.int .i64 c') := by rw [cell_of_row _ _ _ _ _ _ gB]; rfl
  have y4 : X.cell? ⟨w.heap.size + 1, 4, none⟩ = some (.slice p4 li'.length c4) := by rw [cell_of_row _ _ _ _ _ _ gB]; rfl
  have y5 : X.cell? ⟨w.heap.size + 1, 5, none⟩ = some (.slice p6 lk'.length c6) := by rw [cell_of_row _ _ _ _ _ _ gB]; rfl
  rw [hX2] at q1 q2 q3 q4
  clear h1 h2 h3 h4 h5 h6 bA gA sA bB gB gC hX
  have n0 : (c != c') = true := by simpa using hne
  clear k5 k6
  go_enter Tryd.func9, Tryd.ntmps9
  go_wp2
  rw [← hX2]
  go_ret
  exact ⟨rfl, bX⟩

set_option maxRecDepth 100000 in
set_option maxHeartbeats 4000000 in
theorem same13_no_li (c e t : Int) (ta tb la lb ka kb : Value) (li li' tr : List UInt8) (lk lk' : List (List UInt8)) (w : World) (h1 : HB w ta tr) (h2 : HB w tb tr) (h3 : HB w la li) (h4 : HB w lb li') (h5 : PA w ka lk) (h6 : PA w kb lk') (hne : ¬ li = li') :
    Calls Tryd.prog 9 #[.agg #[.int .i64 e, .int .i64 t, ta, .int .i64 c, la, ka], .agg #[.int .i64 e, .int .i64 t, tb, .int .i64 c, lb, kb]] w fun x w' => x = .returned (.bool false) ∧ Below w.heap.size w w' := by
  obtain ⟨p1, c1, rfl⟩ := h1.shape
  obtain ⟨p2, c2, rfl⟩ := h2.shape
  obtain ⟨p3, c3, rfl⟩ := h3.shape
  obtain ⟨p4, c4, rfl⟩ := h4.shape
  obtain ⟨p5, c5, rfl⟩ := h5.shape
  obtain ⟨p6, c6, rfl⟩ := h6.shape
  have m1 := h5.len.2
  unfold maxLen at m1
  have m2 := h6.len.2
  unfold maxLen at m2
  have bA := (Below.refl w.heap.size w).alloc (Nat.le_refl _) (.cells #[.int .i64 e, .int .i64 t, .slice p1 tr.length c1, .int .i64 c, .slice p3 li.length c3, .slice p5 lk.length c5] 25)
  have gA := heap_alloc_new w (.cells #[.int .i64 e, .int .i64 t, .slice p1 tr.length c1, .int .i64 c, .slice p3 li.length c3, .slice p5 lk.length c5] 25)
  have sA : (w.alloc (.cells #[.int .i64 e, .int .i64 t, .slice p1 tr.length c1, .int .i64 c, .slice p3 li.length c3, .slice p5 lk.length c5] 25)).heap.size = w.heap.size + 1 := by simp
  obtain ⟨V, hV⟩ : ∃ V, V = w.alloc (.cells #[.int .i64 e, .int .i64 t, .slice p1 tr.length c1, .int .i64 c, .slice p3 li.length c3, .slice p5 lk.length c5] 25) := ⟨_, rfl⟩
  rw [← hV] at bA gA sA
  have bB := (Below.refl V.heap.size V).alloc (Nat.le_refl _) (.cells #[.int .i64 e, .int .i64 t, .slice p2 tr.length c2, .int .i64 c, .slice p4 li'.length c4, .slice p6 lk'.length c6] 25)
  have gB := heap_alloc_new V (.cells #[.int .i64 e, .int .i64 t, .slice p2 tr.length c2, .int .i64 c, .slice p4 li'.length c4, .slice p6 lk'.length c6] 25)
  have gC := (bB.block _ (by omega)).trans gA
  rw [sA] at gB
  obtain ⟨X, hX⟩ : ∃ X, X = V.alloc (.cells #[.int .i64 e, .int .i64 t, .slice p2 tr.length c2, .int .i64 c, .slice p4 li'.length c4, .slice p6 lk'.length c6] 25) := ⟨_, rfl⟩
  rw [← hX] at bB gB gC
  have bX := bA.trans (bB.mono bA.size)
  have hX2 := hX
  rw [hV] at hX2
  have q1 := (h1.later bX).str (P := Tryd.prog) 22 5 9 Tryd.underlying22 Tryd.underlying5 Tryd.underlying9
  have q2 := (h2.later bX).str (P := Tryd.prog) 22 5 9 Tryd.underlying22 Tryd.underlying5 Tryd.underlying9
  have q3 := (h3.later bX).str (P := Tryd.prog) 22 5 9 Tryd.underlying22 Tryd.underlying5 Tryd.underlying9
  have q4 := (h4.later bX).str (P := Tryd.prog) 22 5 9 Tryd.underlying22 Tryd.underlying5 Tryd.underlying9
  have k5 := h5.later bX
  have k6 := h6.later bX
  have x0 : X.cell? ⟨w.heap.size, 0, none⟩ = some (.int .i64 e) := by rw [cell_of_row _ _ _ _ _ _ gC]; rfl
  have x1 : X.cell? ⟨w.heap.size, 1, none⟩ = some (.int .i64 t) := by rw [cell_of_row _ _ _ _ _ _ gC]; rfl
  have x2 : X.cell? ⟨w.heap.size, 2, none⟩ = some (.slice p1 tr.length c1) := by rw [cell_of_row _ _ _ _ _ _ gC]; rfl
  have x3 : X.cell? ⟨w.heap.size, 3, none⟩ = some (.int .i64 c) := by rw [cell_of_row _ _ _ _ _ _ gC]; rfl
  have x4 : X.cell? ⟨w.heap.size, 4, none⟩ = some (.slice p3 li.length c3) := by rw [cell_of_row _ _ _ _ _ _ gC]; rfl
  have x5 : X.cell? ⟨w.heap.size, 5, none⟩ = some (.slice p5 lk.length c5) := by rw [cell_of_row _ _ _ _ _ _ gC]; rfl
  have y0 : X.cell? ⟨w.heap.size + 1, 0, none⟩ = some (.int .i64 e) := by rw [cell_of_row _ _ _ _ _ _ gB]; rfl
  have y1 : X.cell? ⟨w.heap.size + 1, 1, none⟩ = some (.int .i64 t) := by rw [cell_of_row _ _ _ _ _ _ gB]; rfl
  have y2 : X.cell? ⟨w.heap.size + 1, 2, none⟩ = some (.slice p2 tr.length c2) := by rw [cell_of_row _ _ _ _ _ _ gB]; rfl
  have y3 : X.cell? ⟨w.heap.size + 1, 3, none⟩ = some (.int .i64 c) := by rw [cell_of_row _ _ _ _ _ _ gB]; rfl
  have y4 : X.cell? ⟨w.heap.size + 1, 4, none⟩ = some (.slice p4 li'.length c4) := by rw [cell_of_row _ _ _ _ _ _ gB]; rfl
  have y5 : X.cell? ⟨w.heap.size + 1, 5, none⟩ = some (.slice p6 lk'.length c6) := by rw [cell_of_row _ _ _ _ _ _ gB]; rfl
  rw [hX2] at q1 q2 q3 q4
  clear h1 h2 h3 h4 h5 h6 bA gA sA bB gB gC hX
  have n0 : (li != li') = true := by simpa using hne
  have n1 : (li == li') = false := by simpa using hne
  have n2 : decide (li = li') = false := by simpa using hne
  clear k5 k6
  go_enter Tryd.func9, Tryd.ntmps9
  go_wp2
  rw [← hX2]
  go_ret
  exact ⟨rfl, bX⟩

set_option maxRecDepth 100000 in
set_option maxHeartbeats 4000000 in
theorem same13_no_len (c e t : Int) (ta tb la lb ka kb : Value) (li tr : List UInt8) (lk lk' : List (List UInt8)) (w : World) (h1 : HB w ta tr) (h2 : HB w tb tr) (h3 : HB w la li) (h4 : HB w lb li) (h5 : PA w ka lk) (h6 : PA w kb lk') (hne : ¬ lk.length = lk'.length) :
    Calls Tryd.prog 9 #[.agg #[.int .i64 e, .int .i64 t, ta, .int .i64 c, la, ka], .agg #[.int .i64 e, .int .i64 t, tb, .int .i64 c, lb, kb]] w fun x w' => x = .returned (.bool false) ∧ Below w.heap.size w w' := by
  obtain ⟨p1, c1, rfl⟩ := h1.shape
  obtain ⟨p2, c2, rfl⟩ := h2.shape
  obtain ⟨p3, c3, rfl⟩ := h3.shape
  obtain ⟨p4, c4, rfl⟩ := h4.shape
  obtain ⟨p5, c5, rfl⟩ := h5.shape
  obtain ⟨p6, c6, rfl⟩ := h6.shape
  have m1 := h5.len.2
  unfold maxLen at m1
  have m2 := h6.len.2
  unfold maxLen at m2
  have bA := (Below.refl w.heap.size w).alloc (Nat.le_refl _) (.cells #[.int .i64 e, .int .i64 t, .slice p1 tr.length c1, .int .i64 c, .slice p3 li.length c3, .slice p5 lk.length c5] 25)
  have gA := heap_alloc_new w (.cells #[.int .i64 e, .int .i64 t, .slice p1 tr.length c1, .int .i64 c, .slice p3 li.length c3, .slice p5 lk.length c5] 25)
  have sA : (w.alloc (.cells #[.int .i64 e, .int .i64 t, .slice p1 tr.length c1, .int .i64 c, .slice p3 li.length c3, .slice p5 lk.length c5] 25)).heap.size = w.heap.size + 1 := by simp
  obtain ⟨V, hV⟩ : ∃ V, V = w.alloc (.cells #[.int .i64 e, .int .i64 t, .slice p1 tr.length c1, .int .i64 c, .slice p3 li.length c3, .slice p5 lk.length c5] 25) := ⟨_, rfl⟩
  rw [← hV] at bA gA sA
  have bB := (Below.refl V.heap.size V).alloc (Nat.le_refl _) (.cells #[.int .i64 e, .int .i64 t, .slice p2 tr.length c2, .int .i64 c, .slice p4 li.length c4, .slice p6 lk'.length c6] 25)
  have gB := heap_alloc_new V (.cells #[.int .i64 e, .int .i64 t, .slice p2 tr.length c2, .int .i64 c, .slice p4 li.length c4, .slice p6 lk'.length c6] 25)
  have gC := (bB.block _ (by omega)).trans gA
  rw [sA] at gB
  obtain ⟨X, hX⟩ : ∃ X, X = V.alloc (.cells #[.int .i64 e, .int .i64 t, .slice p2 tr.length c2, .int .i64 c, .slice p4 li.length c4, .slice p6 lk'.length c6] 25) := ⟨_, rfl⟩
  rw [← hX] at bB gB gC
  have bX := bA.trans (bB.mono bA.size)
  have hX2 := hX
  rw [hV] at hX2
  have q1 := (h1.later bX).str (P := Tryd.prog) 22 5 9 Tryd.underlying22 Tryd.underlying5 Tryd.underlying9
  have q2 := (h2.later bX).str (P := Tryd.prog) 22 5 9 Tryd.underlying22 Tryd.underlying5 Tryd.underlying9
  have q3 := (h3.later bX).str (P := Tryd.prog) 22 5 9 Tryd.underlying22 Tryd.underlying5 Tryd.underlying9
  have q4 := (h4.later bX).str (P := Tryd.prog) 22 5 9 Tryd.underlying22 Tryd.underlying5 Tryd.underlying9
  have k5 := h5.later bX
  have k6 := h6.later bX
  have x0 : X.cell? ⟨w.heap.size, 0, none⟩ = some (.int .i64 e) := by rw [cell_of_row _ _ _ _ _ _ gC]; rfl
  have x1 : X.cell? ⟨w.heap.size, 1, none⟩ = some (.int .i64 t) := by rw [cell_of_row _ _ _ _ _ _ gC]; rfl
  have x2 : X.cell? ⟨w.heap.size, 2, none⟩ = some (.slice p1 tr.length c1) := by rw [cell_of_row _ _ _ _ _ _ gC]; rfl
  have x3 : X.cell? ⟨w.heap.size, 3, none⟩ = some (.int .i64 c) := by rw [cell_of_row _ _ _ _ _ _ gC]; rfl
  have x4 : X.cell? ⟨w.heap.size, 4, none⟩ = some (.slice p3 li.length c3) := by rw [cell_of_row _ _ _ _ _ _ gC]; rfl
  have x5 : X.cell? ⟨w.heap.size, 5, none⟩ = some (.slice p5 lk.length c5) := by rw [cell_of_row _ _ _ _ _ _ gC]; rfl
  have y0 : X.cell? ⟨w.heap.size + 1, 0, none⟩ = some (.int .i64 e) := by rw [cell_of_row _ _ _ _ _ _ gB]; rfl
  have y1 : X.cell? ⟨w.heap.size + 1, 1, none⟩ = some (.int .i64 t) := by rw [cell_of_row _ _ _ _ _ _ gB]; rfl
  have y2 : X.cell? ⟨w.heap.size + 1, 2, none⟩ = some (.slice p2 tr.length c2) := by rw [cell_of_row _ _ _ _ _ _ gB]; rfl
  have y3 : X.cell? ⟨w.heap.size + 1, 3, none⟩ = some (.int .i64 c) := by rw [cell_of_row _ _ _ _ _ _ gB]; rfl
  have y4 : X.cell? ⟨w.heap.size + 1, 4, none⟩ = some (.slice p4 li.length c4) := by rw [cell_of_row _ _ _ _ _ _ gB]; rfl
  have y5 : X.cell? ⟨w.heap.size + 1, 5, none⟩ = some (.slice p6 lk'.length c6) := by rw [cell_of_row _ _ _ _ _ _ gB]; rfl
  rw [hX2] at q1 q2 q3 q4
  clear h1 h2 h3 h4 h5 h6 bA gA sA bB gB gC hX
  have n0 : ((lk.length : Int) != (lk'.length : Int)) = true := by simp; omega
  have n1 : (lk.length == lk'.length) = false := by simpa using hne
  clear k5 k6
  go_enter Tryd.func9, Tryd.ntmps9
  go_wp2
  rw [← hX2]
  go_ret
  exact ⟨rfl, bX⟩

set_option maxRecDepth 100000 in
set_option maxHeartbeats 4000000 in
theorem same13_no_lk (c e t : Int) (ta tb la lb ka kb : Value) (li tr : List UInt8) (lk lk' : List (List UInt8)) (w : World) (h1 : HB w ta tr) (h2 : HB w tb tr) (h3 : HB w la li) (h4 : HB w lb li) (h5 : PA w ka lk) (h6 : PA w kb lk') (hlen : lk.length = lk'.length) (hne : ¬ lk = lk') :
    Calls Tryd.prog 9 #[.agg #[.int .i64 e, .int .i64 t, ta, .int .i64 c, la, ka], .agg #[.int .i64 e, .int .i64 t, tb, .int .i64 c, lb, kb]] w fun x w' => x = .returned (.bool false) ∧ Below w.heap.size w w' := by
  obtain ⟨p1, c1, rfl⟩ := h1.shape
  obtain ⟨p2, c2, rfl⟩ := h2.shape
  obtain ⟨p3, c3, rfl⟩ := h3.shape
  obtain ⟨p4, c4, rfl⟩ := h4.shape
  obtain ⟨p5, c5, rfl⟩ := h5.shape
  obtain ⟨p6, c6, rfl⟩ := h6.shape
  have m1 := h5.len.2
  unfold maxLen at m1
  have m2 := h6.len.2
  unfold maxLen at m2
  have bA := (Below.refl w.heap.size w).alloc (Nat.le_refl _) (.cells #[.int .i64 e, .int .i64 t, .slice p1 tr.length c1, .int .i64 c, .slice p3 li.length c3, .slice p5 lk.length c5] 25)
  have gA := heap_alloc_new w (.cells #[.int .i64 e, .int .i64 t, .slice p1 tr.length c1, .int .i64 c, .slice p3 li.length c3, .slice p5 lk.length c5] 25)
  have sA : (w.alloc (.cells #[.int .i64 e, .int .i64 t, .slice p1 tr.length c1, .int .i64 c, .slice p3 li.length c3, .slice p5 lk.length c5] 25)).heap.size = w.heap.size + 1 := by simp
  obtain ⟨V, hV⟩ : ∃ V, V = w.alloc (.cells #[.int .i64 e, .int .i64 t, .slice p1 tr.length c1, .int .i64 c, .slice p3 li.length c3, .slice p5 lk.length c5] 25) := ⟨_, rfl⟩
  rw [← hV] at bA gA sA
  have bB := (Below.refl V.heap.size V).alloc (Nat.le_refl _) (.cells #[.int .i64 e, .int .i64 t, .slice p2 tr.length c2, .int .i64 c, .slice p4 li.length c4, .slice p6 lk'.length c6] 25)
  have gB := heap_alloc_new V (.cells #[.int .i64 e, .int .i64 t, .slice p2 tr.length c2, .int .i64 c, .slice p4 li.length c4, .slice p6 lk'.length c6] 25)
  have gC := (bB.block _ (by omega)).trans gA
  rw [sA] at gB
  obtain ⟨X, hX⟩ : ∃ X, X = V.alloc (.cells #[.int .i64 e, .int .i64 t, .slice p2 tr.length c2, .int .i64 c, .slice p4 li.length c4, .slice p6 lk'.length c6] 25) := ⟨_, rfl⟩
  rw [← hX] at bB gB gC
  have bX := bA.trans (bB.mono bA.size)
  have hX2 := hX
  rw [hV] at hX2
  have q1 := (h1.later bX).str (P := Tryd.prog) 22 5 9 Tryd.underlying22 Tryd.underlying5 Tryd.underlying9
  have q2 := (h2.later bX).str (P := Tryd.prog) 22 5 9 Tryd.underlying22 Tryd.underlying5 Tryd.underlying9
  have q3 := (h3.later bX).str (P := Tryd.prog) 22 5 9 Tryd.underlying22 Tryd.underlying5 Tryd.underlying9
  have q4 := (h4.later bX).str (P := Tryd.prog) 22 5 9 Tryd.underlying22 Tryd.underlying5 Tryd.underlying9
  have k5 := h5.later bX
  have k6 := h6.later bX
  have x0 : X.cell? ⟨w.heap.size, 0, none⟩ = some (.int .i64 e) := by rw [cell_of_row _ _ _ _ _ _ gC]; rfl
  have x1 : X.cell? ⟨w.heap.size, 1, none⟩ = some (.int .i64 t) := by rw [cell_of_row _ _ _ _ _ _ gC]; rfl
  have x2 : X.cell? ⟨w.heap.size, 2, none⟩ = some (.slice p1 tr.length c1) := by rw [cell_of_row _ _ _ _ _ _ gC]; rfl
  have x3 : X.cell? ⟨w.heap.size, 3, none⟩ = some (.int .i64 c) := by rw [cell_of_row _ _ _ _ _ _ gC]; rfl
  have x4 : X.cell? ⟨w.heap.size, 4, none⟩ = some (.slice p3 li.length c3) := by rw [cell_of_row _ _ _ _ _ _ gC]; rfl
  have x5 : X.cell? ⟨w.heap.size, 5, none⟩ = some (.slice p5 lk.length c5) := by rw [cell_of_row _ _ _ _ _ _ gC]; rfl
  have y0 : X.cell? ⟨w.heap.size + 1, 0, none⟩ = some (.int .i64 e) := by rw [cell_of_row _ _ _ _ _ _ gB]; rfl
  have y1 : X.cell? ⟨w.heap.size + 1, 1, none⟩ = some (.int .i64 t) := by rw [cell_of_row _ _ _ _ _ _ gB]; rfl
  have y2 : X.cell? ⟨w.heap.size + 1, 2, none⟩ = some (.slice p2 tr.length c2) := by rw [cell_of_row _ _ _ _ _ _ gB]; rfl
  have y3 : X.cell? ⟨w.heap.size + 1, 3, none⟩ = some (.int .i64 c) := by rw [cell_of_row _ _ _ _ _ _ gB]; rfl
  have y4 : X.cell? ⟨w.heap.size + 1, 4, none⟩ = some (.slice p4 li.length c4) := by rw [cell_of_row _ _ _ _ _ _ gB]; rfl
  have y5 : X.cell? ⟨w.heap.size + 1, 5, none⟩ = some (.slice p6 lk'.length c6) := by rw [cell_of_row _ _ _ _ _ _ gB]; rfl
  rw [hX2] at q1 q2 q3 q4
  clear h1 h2 h3 h4 h5 h6 bA gA sA bB gB gC hX
  have n0 : ((lk.length : Int) != (lk'.length : Int)) = false := by simp; omega
  have n1 : (lk.length == lk'.length) = true := by simp [hlen]
  have HL : Hid (lk.length = lk'.length) := hlen
  have HN : Hid (¬ lk = lk') := hne
  clear hlen hne
  go_enter Tryd.func9, Tryd.ntmps9
  go_wp2
  rw [← hX2]
  clear q1 q2 q3 q4 hX2 hV x0 x1 x2 x3 x4 y0 y1 y2 y3 y4
  go_loopw [55] (fun j wr => ∃ k : Nat, k ≤ lk.length ∧ j = .int .i64 k ∧ Hid (lk.take k = lk'.take k) ∧ Below X.heap.size X wr) (fun j _ => lk.length - (intOf j).toNat)
  case atStart => exact ⟨0, Nat.zero_le _, rfl, rfl, Below.refl _ _⟩
  case round =>
    obtain ⟨k, hk, rfl, HT, hbe⟩ := hrel
    by_cases hlt : k < lk.length
    · have hlt' : k < lk'.length := by have := HL.out; omega
      obtain ⟨b1, o1, rfl⟩ := k5.addr (by omega)
      obtain ⟨b2, o2, rfl⟩ := k6.addr (by omega)
      obtain ⟨q6, d6, l, gl, ec, hl⟩ := (k5.later hbe).get k hlt
      obtain ⟨q7, d7, l2, gl2, ec2, hl2⟩ := (k6.later hbe).get k hlt'
      have a1 := cell_later hbe x5
      have a2 := cell_later hbe y5
      have hlt2 : (k : Int) < (lk.length : Int) := by omega
      have hlt3 : (k : Int) < (lk'.length : Int) := by omega
      have z3 := hl.str (P := Tryd.prog) 22 5 9 Tryd.underlying22 Tryd.underlying5 Tryd.underlying9
      have z4 := hl2.str (P := Tryd.prog) 22 5 9 Tryd.underlying22 Tryd.underlying5 Tryd.underlying9
      have z1 := (hl.later ((Below.refl _ wr).drew)).str (P := Tryd.prog) 22 5 9 Tryd.underlying22 Tryd.underlying5 Tryd.underlying9
      have z2 := (hl2.later ((Below.refl _ wr).drew)).str (P := Tryd.prog) 22 5 9 Tryd.underlying22 Tryd.underlying5 Tryd.underlying9
      by_cases hll : l = l2
      · have HT2 : Hid (lk.take (k + 1) = lk'.take (k + 1)) := by
          show _ = _
          rw [List.take_add_one, List.take_add_one, HT.out, gl.out, gl2.out, hll]
        subst hll
        clear gl gl2
        go_wp2
        go_region
        all_goals
          go_wp2
          go_roundw
        all_goals first | exact ⟨k + 1, by omega, by go_num, HT2, hbe.drew⟩ | ((repeat apply Exists.intro); exact ⟨⟨k + 1, by omega, by go_num, HT2, hbe.drew⟩, rfl⟩) | (simp [intOf]; omega)
      · have n3 : (l != l2) = true := by simpa using hll
        have n4 : (l == l2) = false := by simpa using hll
        have n5 : decide (l = l2) = false := by simpa using hll
        have hb := bX.trans (hbe.drew.mono bX.size)
        clear gl gl2 HT HN
        go_wp2
        go_region
        all_goals
          go_wp2
          go_ret
          exact ⟨rfl, hb⟩
    · exfalso
      have := HT.out
      rw [List.take_of_length_le (by omega), List.take_of_length_le (by have := HL.out; omega)] at this
      exact HN.out this

theorem same13_any (a b : Rc) (ta tb la lb ka kb : Value) (w : World) (h1 : HB w ta a.tr) (h2 : HB w tb b.tr) (h3 : HB w la a.li) (h4 : HB w lb b.li) (h5 : PA w ka a.lk) (h6 : PA w kb b.lk) :
    Calls Tryd.prog 9 #[.agg #[.int .i64 a.e, .int .i64 a.t, ta, .int .i64 a.c, la, ka], .agg #[.int .i64 b.e, .int .i64 b.t, tb, .int .i64 b.c, lb, kb]] w fun x w' => ∃ B, x = .returned (.bool B) ∧ (B = true ↔ a = b) ∧ Below w.heap.size w w' := by
  obtain ⟨e, t, c, tr, li, lk⟩ := a
  obtain ⟨e', t', c', tr', li', lk'⟩ := b
  simp only at h1 h2 h3 h4 h5 h6 ⊢
  have fin : ∀ {Q : World → Prop} (x : Ending) (w' : World), ¬ (⟨e, t, c, tr, li, lk⟩ : Rc) = ⟨e', t', c', tr', li', lk'⟩ → x = .returned (.bool false) ∧ Q w' → ∃ B, x = .returned (.bool B) ∧ (B = true ↔ (⟨e, t, c, tr, li, lk⟩ : Rc) = ⟨e', t', c', tr', li', lk'⟩) ∧ Q w' := fun x w' hn h => ⟨false, h.1, ⟨fun h => (by cases h), fun h => absurd h hn⟩, h.2⟩
  by_cases g0 : e = e'
  · subst g0
    by_cases g1 : t = t'
    · subst g1
      by_cases g2 : tr = tr'
      · subst g2
        by_cases g3 : c = c'
        · subst g3
          by_cases g4 : li = li'
          · subst g4
            by_cases g5 : lk.length = lk'.length
            · by_cases g6 : lk = lk'
              · subst g6
                exact (same13_true e t c _ _ _ _ _ _ tr li lk w h1 h2 h3 h4 h5 h6).mono fun x w' h => ⟨true, h.1, by simp, h.2⟩
              · exact (same13_no_lk c e t _ _ _ _ _ _ li tr lk lk' w h1 h2 h3 h4 h5 h6 g5 g6).mono fun x w' h => fin x w' (by simpa using g6) h
            · exact (same13_no_len c e t _ _ _ _ _ _ li tr lk lk' w h1 h2 h3 h4 h5 h6 g5).mono fun x w' h => fin x w' (by simp; rintro rfl; exact g5 rfl) h
          · exact (same13_no_li c e t _ _ _ _ _ _ li li' tr lk lk' w h1 h2 h3 h4 h5 h6 g4).mono fun x w' h => fin x w' (by simp [g4]) h
        · exact (same13_no_c c c' e t _ _ _ _ _ _ li li' tr lk lk' w h1 h2 h3 h4 h5 h6 g3).mono fun x w' h => fin x w' (by simp [g3]) h
      · exact (same13_no_tr c c' e t _ _ _ _ _ _ li li' tr tr' lk lk' w h1 h2 h3 h4 h5 h6 g2).mono fun x w' h => fin x w' (by simp [g2]) h
    · exact (same13_no_t c c' e t t' _ _ _ _ _ _ li li' tr tr' lk lk' w h1 h2 h3 h4 h5 h6 g1).mono fun x w' h => fin x w' (by simp [g1]) h
  · exact (same13_no_e c c' e e' t t' _ _ _ _ _ _ li li' tr tr' lk lk' w h1 h2 h3 h4 h5 h6 g0).mono fun x w' h => fin x w' (by simp [g0]) h

end Go.Proofs.YtpndpmkoegmbkaaDoor
