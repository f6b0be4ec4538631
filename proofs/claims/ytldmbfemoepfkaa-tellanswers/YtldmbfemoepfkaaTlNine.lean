/- What this text holds: an answer's nine cells, and nine stores into them (no walk). -/
import Derived.Test.YtldmbfemoepfkaaFlCells
import Derived.Test.YtldmbfemoepfkaaRcKeep
namespace Go.Proofs.Ytldmbfemoepfkaa
open Go.RowKit

theorem Only.putN {g gp : Nat} {w w' : World} (h : Only g w w') (hg : g ≤ gp) (hs : w.heap.size ≤ gp) (j : Nat) (x : Value) : Only g w (w'.setCell ⟨gp, j, none⟩ x) :=
  ⟨h.1.setCell (p := ⟨gp, j, none⟩) hg x, fun k hk hk2 => by rw [Below.heap_setCell w' ⟨gp, j, none⟩ x k (by show k ≠ gp; omega)]; exact h.2 k hk hk2⟩

theorem nine {w : World} {g : Nat} {c0 c1 c2 c3 c4 c5 c6 c7 c8 : Value} (h : CB 27 w g #[c0, c1, c2, c3, c4, c5, c6, c7, c8]) :
    w.cell? ⟨g, 0, none⟩ = some c0 ∧ w.cell? ⟨g, 1, none⟩ = some c1 ∧ w.cell? ⟨g, 2, none⟩ = some c2 ∧ w.cell? ⟨g, 3, none⟩ = some c3 ∧ w.cell? ⟨g, 4, none⟩ = some c4 ∧ w.cell? ⟨g, 5, none⟩ = some c5 ∧ w.cell? ⟨g, 6, none⟩ = some c6 ∧ w.cell? ⟨g, 7, none⟩ = some c7 ∧ w.cell? ⟨g, 8, none⟩ = some c8 :=
  ⟨h.cell rfl, h.cell rfl, h.cell rfl, h.cell rfl, h.cell rfl, h.cell rfl, h.cell rfl, h.cell rfl, h.cell rfl⟩

/-- Nine stores into an answer's cells. -/
def nineS (w : World) (g : Nat) (n0 n1 n2 n3 n4 n5 n6 n7 n8 : Value) : World := ((((((((w.setCell ⟨g, 0, none⟩ n0).setCell ⟨g, 1, none⟩ n1).setCell ⟨g, 2, none⟩ n2).setCell ⟨g, 3, none⟩ n3).setCell ⟨g, 4, none⟩ n4).setCell ⟨g, 5, none⟩ n5).setCell ⟨g, 6, none⟩ n6).setCell ⟨g, 7, none⟩ n7).setCell ⟨g, 8, none⟩ n8
theorem nine_only {w0 w : World} {g r : Nat} (n0 n1 n2 n3 n4 n5 n6 n7 n8 : Value) (h : Only g w0 w) (h1 : g ≤ r) (h2 : w0.heap.size ≤ r) : Only g w0 (nineS w r n0 n1 n2 n3 n4 n5 n6 n7 n8) :=
  ((((((((h.putN h1 h2 0 n0).putN h1 h2 1 n1).putN h1 h2 2 n2).putN h1 h2 3 n3).putN h1 h2 4 n4).putN h1 h2 5 n5).putN h1 h2 6 n6).putN h1 h2 7 n7).putN h1 h2 8 n8
theorem nine_tk {w : World} {r : Nat} {cs : Array Value} (n0 n1 n2 n3 n4 n5 n6 n7 n8 : Value) (h : CB 27 w r cs) : TK 27 w (nineS w r n0 n1 n2 n3 n4 n5 n6 n7 n8) :=
  TK.of_only ((((((((((Only.refl r w).setCell 0 n0).setCell 1 n1).setCell 2 n2).setCell 3 n3).setCell 4 n4).setCell 5 n5).setCell 6 n6).setCell 7 n7).setCell 8 n8) h
theorem nine_put {w : World} {g : Nat} {c0 c1 c2 c3 c4 c5 c6 c7 c8 : Value} (n0 n1 n2 n3 n4 n5 n6 n7 n8 : Value) (h : CB 27 w g #[c0, c1, c2, c3, c4, c5, c6, c7, c8]) : CB 27 (nineS w g n0 n1 n2 n3 n4 n5 n6 n7 n8) g #[n0, n1, n2, n3, n4, n5, n6, n7, n8] := by
  have h0 := h.set 0 n0 #[n0, c1, c2, c3, c4, c5, c6, c7, c8] rfl
  have h1 := h0.set 1 n1 #[n0, n1, c2, c3, c4, c5, c6, c7, c8] rfl
  have h2 := h1.set 2 n2 #[n0, n1, n2, c3, c4, c5, c6, c7, c8] rfl
  have h3 := h2.set 3 n3 #[n0, n1, n2, n3, c4, c5, c6, c7, c8] rfl
  have h4 := h3.set 4 n4 #[n0, n1, n2, n3, n4, c5, c6, c7, c8] rfl
  have h5 := h4.set 5 n5 #[n0, n1, n2, n3, n4, n5, c6, c7, c8] rfl
  have h6 := h5.set 6 n6 #[n0, n1, n2, n3, n4, n5, n6, c7, c8] rfl
  have h7 := h6.set 7 n7 #[n0, n1, n2, n3, n4, n5, n6, n7, c8] rfl
  have h8 := h7.set 8 n8 #[n0, n1, n2, n3, n4, n5, n6, n7, n8] rfl
  exact h8
theorem nine_other {U : TypeId} {w : World} {g k : Nat} {cs : Array Value} (n0 n1 n2 n3 n4 n5 n6 n7 n8 : Value) (h : CB U w k cs) (hne : k ≠ g) : CB U (nineS w g n0 n1 n2 n3 n4 n5 n6 n7 n8) k cs :=
  ((((((((h.other _ _ hne).other _ _ hne).other _ _ hne).other _ _ hne).other _ _ hne).other _ _ hne).other _ _ hne).other _ _ hne).other _ _ hne
theorem nine_below {b : Nat} {w0 w : World} {g : Nat} (n0 n1 n2 n3 n4 n5 n6 n7 n8 : Value) (h : Below b w0 w) (hg : b ≤ g) : Below b w0 (nineS w g n0 n1 n2 n3 n4 n5 n6 n7 n8) :=
  ((((((((h.setCell (p := ⟨g, 0, none⟩) hg _).setCell (p := ⟨g, 1, none⟩) hg _).setCell (p := ⟨g, 2, none⟩) hg _).setCell (p := ⟨g, 3, none⟩) hg _).setCell (p := ⟨g, 4, none⟩) hg _).setCell (p := ⟨g, 5, none⟩) hg _).setCell (p := ⟨g, 6, none⟩) hg _).setCell (p := ⟨g, 7, none⟩) hg _).setCell (p := ⟨g, 8, none⟩) hg _

end Go.Proofs.Ytldmbfemoepfkaa
