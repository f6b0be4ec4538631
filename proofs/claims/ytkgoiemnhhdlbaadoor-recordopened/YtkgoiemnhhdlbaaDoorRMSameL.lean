/- What this text proves: the walk of the document's Same (annalsref06) over this program, at two signatures that hold the same: true. -/
import Derived.Test.YtkgoiemnhhdlbaaDoorSgBase
import Derived.Test.YtkgoiemnhhdlbaaDoorRcSame
namespace Go.Proofs.YtkgoiemnhhdlbaaDoor
open Go.RowKit

set_option maxHeartbeats 4000000 in
theorem rsame_true (idx : Int) (ca cb pa pb : Value) (ls ps : List (List UInt8)) (w : World) (h1 : PA w ca ls) (h2 : PA w cb ls) (h3 : PA w pa ps) (h4 : PA w pb ps) :
    Calls Tryd.prog 9 #[.agg #[.int .i64 idx, ca, pa], .agg #[.int .i64 idx, cb, pb]] w fun e w' => e = .returned (.bool true) ∧ Below w.heap.size w w' := by
  obtain ⟨p1, c1, rfl⟩ := h1.shape
  obtain ⟨p2, c2, rfl⟩ := h2.shape
  obtain ⟨p3, c3, rfl⟩ := h3.shape
  obtain ⟨p4, c4, rfl⟩ := h4.shape
  go_enter Tryd.func9, Tryd.ntmps9
  have HL : Hid (ls.length = ls.length) := rfl
  obtain ⟨N, hN⟩ : ∃ N, ls.length = N := ⟨_, rfl⟩
  obtain ⟨M, hM⟩ : ∃ M, ps.length = M := ⟨_, rfl⟩
  have HN : Hid (ls.length = N) := hN
  have HM : Hid (ps.length = M) := hM
  have m1 := h1.len.2
  have m3 := h3.len.2
  unfold maxLen at m1 m3
  rw [hN] at h1 h2 m1 ⊢
  rw [hM] at h3 h4 m3 ⊢
  clear hN hM HL
  go_wp2
  have bW := ((Below.refl _ w).alloc (Nat.le_refl _) (.cells #[.int .i64 idx, .slice p1 N c1, .slice p3 M c3] 27)).alloc (by simp) (.cells #[.int .i64 idx, .slice p2 N c2, .slice p4 M c4] 27)
  have g1 : ((w.alloc (.cells #[.int .i64 idx, .slice p1 N c1, .slice p3 M c3] 27)).alloc (.cells #[.int .i64 idx, .slice p2 N c2, .slice p4 M c4] 27)).heap[w.heap.size]? = some (.cells #[.int .i64 idx, .slice p1 N c1, .slice p3 M c3] 27 (0, 0)) := by
    rw [((Below.refl (w.heap.size + 1) (w.alloc (.cells #[.int .i64 idx, .slice p1 N c1, .slice p3 M c3] 27))).alloc (by simp) (.cells #[.int .i64 idx, .slice p2 N c2, .slice p4 M c4] 27)).block w.heap.size (by omega)]
    exact heap_alloc_new w _
  have g2 : ((w.alloc (.cells #[.int .i64 idx, .slice p1 N c1, .slice p3 M c3] 27)).alloc (.cells #[.int .i64 idx, .slice p2 N c2, .slice p4 M c4] 27)).heap[w.heap.size + 1]? = some (.cells #[.int .i64 idx, .slice p2 N c2, .slice p4 M c4] 27 (0, 0)) := by
    have := heap_alloc_new (w.alloc (.cells #[.int .i64 idx, .slice p1 N c1, .slice p3 M c3] 27)) (.cells #[.int .i64 idx, .slice p2 N c2, .slice p4 M c4] 27)
    simpa using this
  generalize (w.alloc (.cells #[.int .i64 idx, .slice p1 N c1, .slice p3 M c3] 27)).alloc (.cells #[.int .i64 idx, .slice p2 N c2, .slice p4 M c4] 27) = W at *
  have s1 := cell_of_row _ w.heap.size 1 _ _ _ g1
  have s3 := cell_of_row _ w.heap.size 2 _ _ _ g1
  have s2 := cell_of_row _ (w.heap.size + 1) 1 _ _ _ g2
  have s4 := cell_of_row _ (w.heap.size + 1) 2 _ _ _ g2
  simp at s1 s2 s3 s4
  clear g1 g2
  go_loopw [33] (fun j wr => ∃ k : Nat, k ≤ N ∧ j = .int .i64 k ∧ Below W.heap.size W wr) (fun j _ => N - (intOf j).toNat)
  case atStart => exact ⟨0, Nat.zero_le _, rfl, Below.refl _ _⟩
  case round =>
    obtain ⟨k, hk, rfl, hbe⟩ := hrel
    have hb0r := bW.trans (hbe.mono bW.size)
    by_cases hlt : k < N
    · obtain ⟨b1, o1, rfl⟩ := h1.addr (by omega)
      obtain ⟨b2, o2, rfl⟩ := h2.addr (by omega)
      obtain ⟨q6, k6, l, gl, ec, hl⟩ := (h1.later hb0r).get k hlt
      obtain ⟨q7, k7, l2, gl2, ec2, hl2⟩ := (h2.later hb0r).get k hlt
      have e12 : l2 = l := by
        have := gl2.out
        rw [gl.out] at this
        exact (Option.some.inj this).symm
      subst e12
      have x1 := cell_later hbe s1
      have x2 := cell_later hbe s2
      have hlt2 : (k : Int) < (N : Int) := by omega
      have y1 := hl.str (P := Tryd.prog) 22 5 9 Tryd.underlying22 Tryd.underlying5 Tryd.underlying9
      have y2 := hl2.str (P := Tryd.prog) 22 5 9 Tryd.underlying22 Tryd.underlying5 Tryd.underlying9
      have z1 := (hl.later ((Below.refl _ wr).drew)).str (P := Tryd.prog) 22 5 9 Tryd.underlying22 Tryd.underlying5 Tryd.underlying9
      have z2 := (hl2.later ((Below.refl _ wr).drew)).str (P := Tryd.prog) 22 5 9 Tryd.underlying22 Tryd.underlying5 Tryd.underlying9
      clear gl gl2
      go_wp2
      go_region
      all_goals
        go_wp2
        go_roundw
      all_goals first | exact ⟨k + 1, by omega, by go_num, hbe.drew⟩ | ((repeat apply Exists.intro); exact ⟨⟨k + 1, by omega, by go_num, hbe.drew⟩, rfl⟩) | (simp [intOf]; omega)
    · have x3 := cell_later hbe s3
      obtain rfl : N = k := by omega
      clear hlt hk hb0r
      go_wp2
      go_loopw [53] (fun j wr => ∃ k : Nat, k ≤ M ∧ j = .int .i64 k ∧ Below W.heap.size W wr) (fun j _ => M - (intOf j).toNat)
      case atStart => exact ⟨0, Nat.zero_le _, rfl, hbe⟩
      case round =>
        clear hbe x3
        obtain ⟨k, hk, rfl, hbe⟩ := hrel
        have hb0r := bW.trans (hbe.mono bW.size)
        by_cases hlt : k < M
        · obtain ⟨b3, o3, rfl⟩ := h3.addr (by omega)
          obtain ⟨b4, o4, rfl⟩ := h4.addr (by omega)
          obtain ⟨q6, k6, l, gl, ec, hl⟩ := (h3.later hb0r).get k hlt
          obtain ⟨q7, k7, l2, gl2, ec2, hl2⟩ := (h4.later hb0r).get k hlt
          have e12 : l2 = l := by
            have := gl2.out
            rw [gl.out] at this
            exact (Option.some.inj this).symm
          subst e12
          have x1 := cell_later hbe s3
          have x2 := cell_later hbe s4
          have hlt2 : (k : Int) < (M : Int) := by omega
          have y1 := hl.str (P := Tryd.prog) 22 5 9 Tryd.underlying22 Tryd.underlying5 Tryd.underlying9
          have y2 := hl2.str (P := Tryd.prog) 22 5 9 Tryd.underlying22 Tryd.underlying5 Tryd.underlying9
          have z1 := (hl.later ((Below.refl _ wr).drew)).str (P := Tryd.prog) 22 5 9 Tryd.underlying22 Tryd.underlying5 Tryd.underlying9
          have z2 := (hl2.later ((Below.refl _ wr).drew)).str (P := Tryd.prog) 22 5 9 Tryd.underlying22 Tryd.underlying5 Tryd.underlying9
          clear gl gl2
          go_wp2
          go_region
          all_goals
            go_wp2
            go_roundw
          all_goals first | exact ⟨k + 1, by omega, by go_num, hbe.drew⟩ | ((repeat apply Exists.intro); exact ⟨⟨k + 1, by omega, by go_num, hbe.drew⟩, rfl⟩) | (simp [intOf]; omega)
        · obtain rfl : M = k := by omega
          go_wp2
          go_ret
          exact ⟨rfl, hb0r⟩

end Go.Proofs.YtkgoiemnhhdlbaaDoor
