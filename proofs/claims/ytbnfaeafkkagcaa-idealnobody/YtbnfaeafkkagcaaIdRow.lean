/- What this text holds: a row of bindings under way (as CRead has it, without readers). -/
import Derived.Test.YtbnfaeafkkagcaaBVocab
import Derived.Test.YtbnfaeafkkagcaaTyKeep
namespace Go.Proofs.Ytbnfaeafkkagcaa
open Go.RowKit

theorem i_bind : (Try.prog.info? 57).map (fun i => (i.zero, i.size, i.bytes)) = some (some (.agg #[.slice none 0 0, .slice none 0 0]), 2, 48) := by kernel_rfl

/-- A row of n bindings under way: those of ps are there. -/
def BR (w : World) (g gR n : Nat) (ps : List (List UInt8 × List UInt8)) : Prop :=
  ∃ cs : Array Value, w.heap[gR]? = some (.cells cs 57 (0, 0)) ∧ cs.size = n * 2 ∧ ∀ (j : Nat) x, ps[j]? = some x → ∃ p1 c1 p2 c2, cs[j * 2]? = some (.slice p1 x.1.length c1) ∧ cs[j * 2 + 1]? = some (.slice p2 x.2.length c2) ∧ HBN w g (.slice p1 x.1.length c1) x.1 ∧ HBN w g (.slice p2 x.2.length c2) x.2

theorem BR.tk {T : TypeId} {w w' : World} {g gR n : Nat} {ps : List (List UInt8 × List UInt8)} (h : BR w g gR n ps) (t : TK T w w') (hT : 5 ≠ T) (hB : 57 ≠ T) : BR w' g gR n ps := by
  obtain ⟨cs, h1, h2, h3⟩ := h
  refine ⟨cs, t _ _ _ _ h1 hB, h2, fun j x hx => ?_⟩
  obtain ⟨p1, c1, p2, c2, q1, q2, q3, q4⟩ := h3 j x hx
  exact ⟨p1, c1, p2, c2, q1, q2, q3.tk t hT, q4.tk t hT⟩

theorem BR.ba {w : World} {g gR n : Nat} {ps : List (List UInt8 × List UInt8)} (h : BR w g gR n ps) (hn : ps.length = n) (hm : n ≤ 100) : BA w (.slice (some ⟨gR, 0, none⟩) n n) ps := by
  obtain ⟨cs, h1, h2, h3⟩ := h
  subst hn
  refine ⟨_, ps.length, rfl, Nat.le_refl _, by unfold maxLen; omega, fun _ => ⟨gR, 0, rfl, fun k x hx => ?_⟩⟩
  obtain ⟨p1, c1, p2, c2, q1, q2, q3, q4⟩ := h3 k x hx
  exact ⟨p1, c1, p2, c2, by rw [cell_of_row _ _ _ _ _ _ h1, Nat.zero_add]; exact q1, by rw [cell_of_row _ _ _ _ _ _ h1, Nat.zero_add]; exact q2, q3.1, q4.1⟩

/-- A cell of the row is there, and may be written. -/
theorem BR.cell {w : World} {g gR n : Nat} {ps : List (List UInt8 × List UInt8)} (h : BR w g gR n ps) (i : Nat) (hi : i < n * 2) : (∃ z, w.cell? ⟨gR, i, none⟩ = some z) ∧ w.frozen? ⟨gR, i, none⟩ = false ∧ gR < w.heap.size := by
  obtain ⟨cs, h1, h2, h3⟩ := h
  refine ⟨⟨cs[i]'(by omega), ?_⟩, by simp [World.frozen?, h1], (Array.getElem?_eq_some_iff.1 h1).1⟩
  rw [cell_of_row _ _ _ _ _ _ h1]
  simp [show i < cs.size by omega]

/-- An identity is stored. -/
theorem BR.put1 {w : World} {g gR n : Nat} {ps : List (List UInt8 × List UInt8)} (h : BR w g gR n ps) (u : Value) : TK 57 w (w.setCell ⟨gR, ps.length * 2, none⟩ u) ∧ BR (w.setCell ⟨gR, ps.length * 2, none⟩ u) g gR n ps := by
  obtain ⟨cs, h1, h2, h3⟩ := h
  have ho : Only gR w (w.setCell ⟨gR, ps.length * 2, none⟩ u) := (Only.refl gR w).setCell _ u
  have t : TK 57 w (w.setCell ⟨gR, ps.length * 2, none⟩ u) := TK.of_only ho h1
  refine ⟨t, cs.setIfInBounds (ps.length * 2) u, by rw [heap_setCell_same w gR _ _ _ _ h1], by simp [h2], fun j x hx => ?_⟩
  obtain ⟨p1, c1, p2, c2, q1, q2, q3, q4⟩ := h3 j x hx
  have hj := (List.getElem?_eq_some_iff.1 hx).1
  refine ⟨p1, c1, p2, c2, ?_, ?_, q3.tk t (by decide), q4.tk t (by decide)⟩
  · rw [Array.getElem?_setIfInBounds_ne (by omega)]; exact q1
  · rw [Array.getElem?_setIfInBounds_ne (by omega)]; exact q2

/-- The identity's cell stays while another block is written. -/
def BRU (w : World) (gR k : Nat) (u : Value) : Prop := ∃ cs : Array Value, w.heap[gR]? = some (.cells cs 57 (0, 0)) ∧ cs[k]? = some u
theorem BRU.tk {T : TypeId} {w w' : World} {gR k : Nat} {u : Value} (h : BRU w gR k u) (t : TK T w w') (hB : 57 ≠ T) : BRU w' gR k u := by
  obtain ⟨cs, h1, h2⟩ := h
  exact ⟨cs, t _ _ _ _ h1 hB, h2⟩
theorem BR.bru {w : World} {g gR n : Nat} {ps : List (List UInt8 × List UInt8)} (h : BR w g gR n ps) (u : Value) (hk : ps.length < n) : BRU (w.setCell ⟨gR, ps.length * 2, none⟩ u) gR (ps.length * 2) u := by
  obtain ⟨cs, h1, h2, h3⟩ := h
  refine ⟨cs.setIfInBounds (ps.length * 2) u, by rw [heap_setCell_same w gR _ _ _ _ h1], ?_⟩
  rw [Array.getElem?_setIfInBounds_self_of_lt (by omega)]

/-- A key is stored behind its identity. -/
theorem BR.put2 {w : World} {g gR n p1 c1 p2 c2 : _} {ps : List (List UInt8 × List UInt8)} {a b : List UInt8} (h : BR w g gR n ps) (hu : BRU w gR (ps.length * 2) (.slice p1 a.length c1)) (h1 : HBN w g (.slice p1 a.length c1) a) (h2 : HBN w g (.slice p2 b.length c2) b) (hk : ps.length < n) :
    TK 57 w (w.setCell ⟨gR, ps.length * 2 + 1, none⟩ (.slice p2 b.length c2)) ∧ BR (w.setCell ⟨gR, ps.length * 2 + 1, none⟩ (.slice p2 b.length c2)) g gR n (ps ++ [(a, b)]) := by
  obtain ⟨cs, k1, k2, k3⟩ := h
  obtain ⟨cs', k4, k5⟩ := hu
  rw [k1] at k4
  simp only [Option.some.injEq, Obj.cells.injEq, and_true] at k4
  subst k4
  have ho : Only gR w (w.setCell ⟨gR, ps.length * 2 + 1, none⟩ (.slice p2 b.length c2)) := (Only.refl gR w).setCell _ _
  have t : TK 57 w (w.setCell ⟨gR, ps.length * 2 + 1, none⟩ (.slice p2 b.length c2)) := TK.of_only ho k1
  refine ⟨t, cs.setIfInBounds (ps.length * 2 + 1) (.slice p2 b.length c2), by rw [heap_setCell_same w gR _ _ _ _ k1], by simp [k2], fun j x hx => ?_⟩
  by_cases hj : j < ps.length
  · rw [List.getElem?_append_left hj] at hx
    obtain ⟨p1', c1', p2', c2', q1, q2, q3, q4⟩ := k3 j x hx
    refine ⟨p1', c1', p2', c2', ?_, ?_, q3.tk t (by decide), q4.tk t (by decide)⟩
    · rw [Array.getElem?_setIfInBounds_ne (by omega)]; exact q1
    · rw [Array.getElem?_setIfInBounds_ne (by omega)]; exact q2
  · rw [List.getElem?_append_right (by omega)] at hx
    cases hj2 : j - ps.length with
    | succ i => rw [hj2] at hx; simp at hx
    | zero =>
      rw [hj2] at hx
      simp at hx
      obtain rfl : j = ps.length := by omega
      subst hx
      refine ⟨p1, c1, p2, c2, ?_, ?_, h1.tk t (by decide), h2.tk t (by decide)⟩
      · rw [Array.getElem?_setIfInBounds_ne (by omega)]; exact k5
      · rw [Array.getElem?_setIfInBounds_self_of_lt (by omega)]

end Go.Proofs.Ytbnfaeafkkagcaa
