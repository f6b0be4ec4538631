/- What this text holds: a row of N rows of bytes that the call made, the first k of them laid (plain facts). -/
import Derived.Test.YtichffdkihifpaaDoorRSRow
import Derived.Test.YtichffdkihifpaaDoorOwn
namespace Go.Proofs.YtichffdkihifpaaDoor
open Go.RowKit

/-- A made list of N rows of bytes that the call owns, the first k of them told. -/
def RQ (w : World) (base g N k : Nat) (sig : Nat → List UInt8) : Prop :=
  ∃ vs : List Value, w.ownsRow base 25 1 (.slice (some ⟨g, 0, none⟩) N N) N vs ∧ ∀ (j : Nat) u, j < k → vs[j]? = some u → HB w u (sig j) ∧ TB w u

theorem RQ.later {w w' : World} {base g N k : Nat} {sig : Nat → List UInt8} (h : RQ w base g N k sig) (hb : Below w.heap.size w w') : RQ w' base g N k sig := by
  obtain ⟨vs, h1, h3⟩ := h
  exact ⟨vs, owns_later h1 hb, fun j u hj hu => ⟨(h3 j u hj hu).1.later hb, (h3 j u hj hu).2.later hb⟩⟩

theorem RQ.rs {w : World} {base g N : Nat} {sig : Nat → List UInt8} (h : RQ w base g N N sig) : RS w base (.slice (some ⟨g, 0, none⟩) N N) N sig := by
  obtain ⟨vs, h1, h3⟩ := h
  have hl := h1.1
  rw [Nat.mul_one] at hl
  exact ⟨vs, h1, fun j u hu => h3 j u (by have := (List.getElem?_eq_some_iff.1 hu).1; omega) hu⟩

theorem RQ.cell {w : World} {base g N k : Nat} {sig : Nat → List UInt8} (h : RQ w base g N k sig) (i : Nat) (hi : i < N) : ∃ y, w.cell? ⟨g, i, none⟩ = some y ∧ w.frozen? ⟨g, i, none⟩ = false := by
  obtain ⟨vs, q1, _⟩ := h
  have hl := q1.1
  rw [Nat.mul_one] at hl
  have hc := q1.cellAt i (by omega)
  rw [List.getElem?_eq_getElem (by omega)] at hc
  exact ⟨_, hc, q1.frozenAt i⟩

theorem RQ.put {w : World} {base g N k : Nat} {sig : Nat → List UInt8} (h : RQ w base g N k sig) (x : Value) (hx : HB w x (sig k)) (tx : TB w x) : RQ (w.setCell ⟨g, k, none⟩ x) base g N (k + 1) sig := by
  obtain ⟨vs, h1, h3⟩ := h
  obtain ⟨q1, q2⟩ := h1.stored k x
  refine ⟨vs.set k x, q1, fun j u hj hu => ?_⟩
  by_cases hjk : k = j
  · subst hjk
    rw [List.getElem?_set_self'] at hu
    cases hv : vs[k]? with
    | none => rw [hv] at hu; simp at hu
    | some y =>
      rw [hv] at hu
      simp at hu
      subst hu
      exact hb_grown h1 q2 hx tx
  · rw [List.getElem?_set_ne hjk] at hu
    obtain ⟨a, b⟩ := h3 j u (by omega) hu
    exact hb_grown h1 q2 a b

end Go.Proofs.YtichffdkihifpaaDoor
