/- What this text proves: the walk of an arena's Hash over this program, at a place where a node stands. -/
import Derived.Test.YtofchcheoanmdaaDoorANodeV
import Derived.Test.YtofchcheoanmdaaDoorCloneO
namespace Go.Proofs.YtofchcheoanmdaaDoor
open Go.RowKit

theorem owns_get {w : World} {base n c : Nat} {e : TypeId} {p : Option Addr} {xs : List Value} (h : w.ownsRow base e 1 (.slice p n c) n xs) {i : Nat} {u : Value} (hu : xs[i]? = some u) : ∃ b, p = some ⟨b, 0, none⟩ ∧ w.cell? ⟨b, i, none⟩ = some u := by
  have hlen := h.1
  have hi : i < xs.length := (List.getElem?_eq_some_iff.1 hu).1
  rcases h.2 with ⟨_, e2⟩ | ⟨g, cap, cur, e1, _, e2, e3, _, _, e4⟩
  · omega
  · simp only [Value.slice.injEq] at e1
    refine ⟨g, e1.1, ?_⟩
    rw [cell_of_row w g i cur e _ e2]
    have : cur.toList[i]? = some u := by
      rw [← e4, List.getElem?_take] at hu
      split at hu
      · exact hu
      · cases hu
    simpa using this

theorem NB.cells {w : World} {b : Nat} {x : NodeS} (h : NB w b x) : ∃ vi vk vp vh, w.cell? ⟨b, 0, none⟩ = some (.bool x.leaf) ∧ w.cell? ⟨b, 1, none⟩ = some vi ∧ w.cell? ⟨b, 2, none⟩ = some vk ∧ w.cell? ⟨b, 3, none⟩ = some (.int .i64 x.since) ∧ w.cell? ⟨b, 4, none⟩ = some (.int .i64 x.depth) ∧ w.cell? ⟨b, 5, none⟩ = some vp ∧ w.cell? ⟨b, 6, none⟩ = some (.int .i64 x.newest) ∧ w.cell? ⟨b, 7, none⟩ = some (.int .i64 x.left) ∧ w.cell? ⟨b, 8, none⟩ = some (.int .i64 x.right) ∧ w.cell? ⟨b, 9, none⟩ = some vh ∧ HT w vi x.id ∧ HT w vk x.key ∧ HT w vp x.pre ∧ HT w vh x.hash := by
  obtain ⟨vi, vk, vp, vh, h0, h1, h2, h3, h4⟩ := h
  refine ⟨vi, vk, vp, vh, ?_, ?_, ?_, ?_, ?_, ?_, ?_, ?_, ?_, ?_, h1, h2, h3, h4⟩ <;> (rw [cell_of_row _ _ _ _ _ _ h0]; rfl)

set_option maxRecDepth 100000 in
set_option maxHeartbeats 1000000 in
theorem hash_at (g n c base i nb : Nat) (s r : Int) (p : Option Addr) (xs : List Value) (x : NodeS) (w : World) (h : AG w g s r p n c) (ho : w.ownsRow base 91 1 (.slice p n c) n xs) (hs : s ≠ 0) (hx : xs[i]? = some (.pointer (some ⟨nb, 0, none⟩))) (hX : NB w nb x) (hl : x.hash.length ≤ 32) :
    Calls Tryd.prog 28 #[.pointer (some ⟨g, 0, none⟩), .int .i64 (i : Int)] w fun e w' => ∃ p' c', e = .returned (.slice p' x.hash.length c') ∧ HB w' (.slice p' x.hash.length c') x.hash ∧ Below w.heap.size w w' := by
  have hM := miss_no g s w h.cells.1 hs
  have hi : i < n := by
    have := ho.1
    have := (List.getElem?_eq_some_iff.1 hx).1
    omega
  obtain ⟨b, rfl, hc⟩ := owns_get ho hx
  have hH := has_in g s r i b n c ⟨nb, 0, none⟩ w h hi hc
  obtain ⟨c0, c1, c2, c3⟩ := h.cells
  obtain ⟨vi, vk, vp, vh, _, _, _, _, _, _, _, _, _, n9, _, _, _, h4⟩ := hX.cells
  obtain ⟨ph, ch, rfl⟩ := h4.1.shape
  have hC := clone_own _ x.hash _ h4.1 (by omega)
  have hi0 : ¬ (i : Int) = -1 := by omega
  have hi3 : (0 : Int) ≤ (i : Int) := by omega
  have hi4 : (i : Int) < (n : Int) := by omega
  generalize x.hash = F at *
  clear h ho hX h4
  go_enter Tryd.func28, Tryd.ntmps28
  go_wp2_with (first | (go_at_call 55; refine hM.mono ?_; rintro e w1 ⟨rfl, hw⟩; have hw2 := hw.symm; clear hw; subst hw2) | (go_at_call 58; refine hH.mono ?_; rintro e w1 ⟨rfl, hw⟩; have hw2 := hw.symm; clear hw; subst hw2) | (go_at_call 60; refine hC.mono ?_; rintro e w2 ⟨p2, d2, rfl, o2, hb2⟩; have k2 := HB.of_owns o2; clear o2))
  go_ret
  exact ⟨_, _, rfl, k2, hb2⟩

end Go.Proofs.YtofchcheoanmdaaDoor
