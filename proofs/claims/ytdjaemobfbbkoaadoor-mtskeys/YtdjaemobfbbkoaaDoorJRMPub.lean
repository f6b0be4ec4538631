/- What this text proves: the walk of the document's Public (annalsref06) over this program. What this text proves: the walk of the document's Same (annalsref06) over this program, at two signatures that hold the same: true. -/
import Derived.Test.YtdjaemobfbbkoaaDoorJRMNewV
import Derived.Test.YtdjaemobfbbkoaaDoorJRKeys
import Derived.Test.YtdjaemobfbbkoaaDoorJBackP
namespace Go.Proofs.YtdjaemobfbbkoaaDoor
open Go.RowKit

set_option maxRecDepth 100000 in
set_option maxHeartbeats 4000000 in
theorem rpublic_ok (g n h B : Nat) (sv lv : Value) (seed : List UInt8) (w : World) (k : RKO w g n h sv lv) (t : TL w B n h seed lv (h + 1)) (hn : 1 ≤ n) (hn2 : n ≤ 32) (hh : h ≤ 8) :
    Calls Tryd.prog 12 #[.pointer (some ⟨g, 0, none⟩)] w fun e w' => ∃ p c, e = .returned (.slice p (treeS n seed h 0).length c) ∧ HB w' (.slice p (treeS n seed h 0).length c) (treeS n seed h 0) ∧ Below w.heap.size w w' := by
  obtain ⟨gl, cl, rfl, _, hml, hget⟩ := t.get (by omega)
  obtain ⟨gr, cr, e1, r2⟩ := hget h (by omega)
  rw [Nat.sub_self, Nat.pow_zero] at e1 r2
  obtain ⟨g9, cap9, heq, _, _, _, hcell⟩ := r2.addr (by decide)
  cases heq
  obtain ⟨pr, cq, e3, h3, _⟩ := hcell 0 (by decide)
  have hlen := treeS_length n hn2 seed h 0
  have hF0 : 0 < (treeS n seed h 0).length := by omega
  have hF1 : (treeS n seed h 0).length ≤ 32 := by omega
  clear hlen
  obtain ⟨c0, c1, c2, c3⟩ := k.cells
  have hh1 : (h : Int) < (h : Int) + 1 := by omega
  have hh0 : (0 : Int) ≤ (h : Int) := by omega
  generalize hF : treeS n seed h 0 = F at *
  clear hget hcell r2 t
  go_enter Tryd.func12, Tryd.ntmps12
  go_wp2
  have bD : Below w.heap.size w w.drew := (Below.refl _ w).drew
  have bA : Below w.heap.size w (w.drew.alloc (.cells #[] 5)) := bD.alloc (by simp) _
  have oA : (w.drew.alloc (.cells #[] 5)).ownsRow w.heap.size 5 1 (.slice (some ⟨w.heap.size, 0, none⟩) 0 0) 0 [] := owns_none w.drew 5
  have f1 := cell_later bD c1
  have f3 := cell_later bD c3
  have f4 := cell_later bD e1
  have f5 := cell_later bD e3
  have g1 := cell_later bA c1
  have g3 := cell_later bA c3
  have g4 := cell_later bA e1
  have g5 := cell_later bA e3
  have hA := h3.later bA
  have sA := bA.size
  go_region_held3 (fun w' => w'.cell? ⟨g, 1, none⟩ = some (.int .i64 (h : Int)) ∧ w'.cell? ⟨g, 3, none⟩ = some (.slice (some ⟨gl, 0, none⟩) (h + 1) cl) ∧ w'.cell? ⟨gl, h, none⟩ = some (.slice (some ⟨gr, 0, none⟩) 1 cr) ∧ w'.cell? ⟨gr, 0, none⟩ = some (.slice pr F.length cq)) (first | exact ⟨c1, c3, e1, e3⟩ | exact ⟨f1, f3, f4, f5⟩ | exact ⟨g1, g3, g4, g5⟩ | exact ⟨j1, j3, j4, j5⟩) (first
    | (refine step_append_hb (by rfl) _ _ _ (by rfl) w.heap.size 5 Tryd.underlying22 i_u8 _ 0 [] (by rfl) oA _ _ _ F (by rfl) hA hF0 (by omega) sA ?_; intro gg cap w5 o5 hg5; have hb5 : Below w.heap.size w w5 := bA.grown hg5 sA (fun k hk => by cases hk; exact Nat.le_refl _); have j1 := cell_later hb5 c1; have j3 := cell_later hb5 c3; have j4 := cell_later hb5 e1; have j5 := cell_later hb5 e3))
  all_goals
    have h5 := HB.of_owns o5
    go_wp2
    go_ret
    exact ⟨_, _, rfl, by simpa using h5, hb5⟩

end Go.Proofs.YtdjaemobfbbkoaaDoor

namespace Go.Proofs.YtdjaemobfbbkoaaDoor
open Go.RowKit

set_option maxRecDepth 100000 in
set_option maxHeartbeats 4000000 in
theorem rsame_true (idx : Int) (ca cb pa pb : Value) (ls ps : List (List UInt8)) (w : World) (h1 : PA w ca ls) (h2 : PA w cb ls) (h3 : PA w pa ps) (h4 : PA w pb ps) :
    Calls Tryd.prog 13 #[.agg #[.int .i64 idx, ca, pa], .agg #[.int .i64 idx, cb, pb]] w fun e w' => e = .returned (.bool true) ∧ Below w.heap.size w w' := by
  obtain ⟨p1, c1, rfl⟩ := h1.shape
  obtain ⟨p2, c2, rfl⟩ := h2.shape
  obtain ⟨p3, c3, rfl⟩ := h3.shape
  obtain ⟨p4, c4, rfl⟩ := h4.shape
  go_enter Tryd.func13, Tryd.ntmps13
  have HL : Hid (ls.length = ls.length) := rfl
  obtain ⟨N, hN⟩ : ∃ N, ls.length = N := ⟨_, rfl⟩
  obtain ⟨M, hM⟩ : ∃ M, ps.length = M := ⟨_, rfl⟩
  have HN : Hid (ls.length = N) := hN
  have HM : Hid (ps.length = M) := hM
  have m1 := h1.len.2
  have m3 := h3.len.2
  unfold maxLen at m1 m3
  rw [hN] at h1 h2 m1 ⊢
  rw [hM] at h3 h4 m3 ⊢
  clear hN hM HL
  go_wp2
  have bW := ((Below.refl _ w).alloc (Nat.le_refl _) (.cells #[.int .i64 idx, .slice p1 N c1, .slice p3 M c3] 30)).alloc (by simp) (.cells #[.int .i64 idx, .slice p2 N c2, .slice p4 M c4] 30)
  have g1 : ((w.alloc (.cells #[.int .i64 idx, .slice p1 N c1, .slice p3 M c3] 30)).alloc (.cells #[.int .i64 idx, .slice p2 N c2, .slice p4 M c4] 30)).heap[w.heap.size]? = some (.cells #[.int .i64 idx, .slice p1 N c1, .slice p3 M c3] 30 (0, 0)) := by
    rw [((Below.refl (w.heap.size + 1) (w.alloc (.cells #[.int .i64 idx, .slice p1 N c1, .slice p3 M c3] 30))).alloc (by simp) (.cells #[.int .i64 idx, .slice p2 N c2, .slice p4 M c4] 30)).block w.heap.size (by omega)]
    exact heap_alloc_new w _
  have g2 : ((w.alloc (.cells #[.int .i64 idx, .slice p1 N c1, .slice p3 M c3] 30)).alloc (.cells #[.int .i64 idx, .slice p2 N c2, .slice p4 M c4] 30)).heap[w.heap.size + 1]? = some (.cells #[.int .i64 idx, .slice p2 N c2, .slice p4 M c4] 30 (0, 0)) := by
    have := heap_alloc_new (w.alloc (.cells #[.int .i64 idx, .slice p1 N c1, .slice p3 M c3] 30)) (.cells #[.int .i64 idx, .slice p2 N c2, .slice p4 M c4] 30)
    simpa using this
  generalize (w.alloc (.cells #[.int .i64 idx, .slice p1 N c1, .slice p3 M c3] 30)).alloc (.cells #[.int .i64 idx, .slice p2 N c2, .slice p4 M c4] 30) = W at *
  have s1 := cell_of_row _ w.heap.size 1 _ _ _ g1
  have s3 := cell_of_row _ w.heap.size 2 _ _ _ g1
  have s2 := cell_of_row _ (w.heap.size + 1) 1 _ _ _ g2
  have s4 := cell_of_row _ (w.heap.size + 1) 2 _ _ _ g2
  simp at s1 s2 s3 s4
  clear g1 g2
  go_loopw [33] (fun j wr => ∃ k : Nat, k ≤ N ∧ j = .int .i64 k ∧ Below W.heap.size W wr) (fun j _ => N - (intOf j).toNat)
  case atStart => exact ⟨0, Nat.zero_le _, rfl, Below.refl _ _⟩
  case round =>
    obtain ⟨k, hk, rfl, hbe⟩ := hrel
    have hb0r := bW.trans (hbe.mono bW.size)
    by_cases hlt : k < N
    · obtain ⟨b1, o1, rfl⟩ := h1.addr (by omega)
      obtain ⟨b2, o2, rfl⟩ := h2.addr (by omega)
      obtain ⟨q6, k6, l, gl, ec, hl⟩ := (h1.later hb0r).get k hlt
      obtain ⟨q7, k7, l2, gl2, ec2, hl2⟩ := (h2.later hb0r).get k hlt
      have e12 : l2 = l := by
        have := gl2.out
        rw [gl.out] at this
        exact (Option.some.inj this).symm
      subst e12
      have x1 := cell_later hbe s1
      have x2 := cell_later hbe s2
      have hlt2 : (k : Int) < (N : Int) := by omega
      have y1 := hl.str (P := Tryd.prog) 22 5 9 Tryd.underlying22 Tryd.underlying5 Tryd.underlying9
      have y2 := hl2.str (P := Tryd.prog) 22 5 9 Tryd.underlying22 Tryd.underlying5 Tryd.underlying9
      have z1 := (hl.later ((Below.refl _ wr).drew)).str (P := Tryd.prog) 22 5 9 Tryd.underlying22 Tryd.underlying5 Tryd.underlying9
      have z2 := (hl2.later ((Below.refl _ wr).drew)).str (P := Tryd.prog) 22 5 9 Tryd.underlying22 Tryd.underlying5 Tryd.underlying9
      clear gl gl2
      go_wp2
      go_region
      all_goals
        go_wp2
        go_roundw
      all_goals first | exact ⟨k + 1, by omega, by go_num, hbe.drew⟩ | ((repeat apply Exists.intro); exact ⟨⟨k + 1, by omega, by go_num, hbe.drew⟩, rfl⟩) | (simp [intOf]; omega)
    · have x3 := cell_later hbe s3
      obtain rfl : N = k := by omega
      clear hlt hk hb0r
      go_wp2
      go_loopw [53] (fun j wr => ∃ k : Nat, k ≤ M ∧ j = .int .i64 k ∧ Below W.heap.size W wr) (fun j _ => M - (intOf j).toNat)
      case atStart => exact ⟨0, Nat.zero_le _, rfl, hbe⟩
      case round =>
        clear hbe x3
        obtain ⟨k, hk, rfl, hbe⟩ := hrel
        have hb0r := bW.trans (hbe.mono bW.size)
        by_cases hlt : k < M
        · obtain ⟨b3, o3, rfl⟩ := h3.addr (by omega)
          obtain ⟨b4, o4, rfl⟩ := h4.addr (by omega)
          obtain ⟨q6, k6, l, gl, ec, hl⟩ := (h3.later hb0r).get k hlt
          obtain ⟨q7, k7, l2, gl2, ec2, hl2⟩ := (h4.later hb0r).get k hlt
          have e12 : l2 = l := by
            have := gl2.out
            rw [gl.out] at this
            exact (Option.some.inj this).symm
          subst e12
          have x1 := cell_later hbe s3
          have x2 := cell_later hbe s4
          have hlt2 : (k : Int) < (M : Int) := by omega
          have y1 := hl.str (P := Tryd.prog) 22 5 9 Tryd.underlying22 Tryd.underlying5 Tryd.underlying9
          have y2 := hl2.str (P := Tryd.prog) 22 5 9 Tryd.underlying22 Tryd.underlying5 Tryd.underlying9
          have z1 := (hl.later ((Below.refl _ wr).drew)).str (P := Tryd.prog) 22 5 9 Tryd.underlying22 Tryd.underlying5 Tryd.underlying9
          have z2 := (hl2.later ((Below.refl _ wr).drew)).str (P := Tryd.prog) 22 5 9 Tryd.underlying22 Tryd.underlying5 Tryd.underlying9
          clear gl gl2
          go_wp2
          go_region
          all_goals
            go_wp2
            go_roundw
          all_goals first | exact ⟨k + 1, by omega, by go_num, hbe.drew⟩ | ((repeat apply Exists.intro); exact ⟨⟨k + 1, by omega, by go_num, hbe.drew⟩, rfl⟩) | (simp [intOf]; omega)
        · obtain rfl : M = k := by omega
          go_wp2
          go_ret
          exact ⟨rfl, hb0r⟩

end Go.Proofs.YtdjaemobfbbkoaaDoor
