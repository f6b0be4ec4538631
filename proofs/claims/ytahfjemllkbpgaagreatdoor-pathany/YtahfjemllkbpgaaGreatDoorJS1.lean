/- What this text holds: a row of rows of bytes that the call owns, each in a block of bytes (plain facts): it stays, it grows, it is read. What this text holds: a row of N rows of bytes that the call made, the first k of them laid (plain facts). -/
import Derived.Test.YtahfjemllkbpgaaGreatDoorJB2
import Derived.Test.YtahfjemllkbpgaaGreatDoorOwn
namespace Go.Proofs.YtahfjemllkbpgaaGreatDoor
open Go.RowKit

/-- A row of k rows of bytes that the call owns, made by appends. -/
def RS (w : World) (base : Nat) (v : Value) (k : Nat) (sig : Nat → List UInt8) : Prop :=
  ∃ vs : List Value, w.ownsRow base 22 1 v k vs ∧ ∀ (j : Nat) u, vs[j]? = some u → HB w u (sig j) ∧ TB w u

theorem RS.later {w w' : World} {base k : Nat} {v : Value} {sig : Nat → List UInt8} (h : RS w base v k sig) (hb : Below w.heap.size w w') : RS w' base v k sig := by
  obtain ⟨vs, h1, h2⟩ := h
  exact ⟨vs, owns_later h1 hb, fun j u hu => ⟨(h2 j u hu).1.later hb, (h2 j u hu).2.later hb⟩⟩

/-- Bytes in a block of bytes stay where a row of rows grew. -/
theorem hb_grown {w w' : World} {base n : Nat} {v u : Value} {vs : List Value} {l : List UInt8} (ho : w.ownsRow base 22 1 v n vs) (hg : w.grownBy w' v.ownBlock) (h : HB w u l) (t : TB w u) : HB w' u l ∧ TB w' u := by
  have hne : ∀ b o n c, u = .slice (some ⟨b, o, none⟩) n c → some b ≠ v.ownBlock := by
    intro b o n' c e he
    obtain ⟨cur, fr, hb⟩ := t b o n' c e
    rcases ho.2 with ⟨rfl, _⟩ | ⟨g, cap, cur', rfl, _, hg', _⟩
    · simp [Value.ownBlock] at he
    · simp only [Value.ownBlock, Option.some.injEq] at he
      subst he
      rw [hb] at hg'
      simp only [Option.some.injEq, Obj.cells.injEq] at hg'
      exact absurd hg'.2.1 (by decide)
  constructor
  · obtain ⟨p, c, rfl⟩ := h.shape
    by_cases hn : l = []
    · subst hn
      have := h.len
      exact HB.empty _ p c this.2.2.1 this.2.2.2
    · obtain ⟨b, o, rfl, hc⟩ := h.addr (List.length_pos_iff.2 hn)
      have hl := h.len
      refine ⟨_, c, rfl, hl.2.1, hl.2.2.1, hl.2.2.2, fun _ => ⟨b, o, rfl, fun i x hx => hg.cell (hc i x hx) (hne b o _ _ rfl)⟩⟩
  · intro b o n' c e
    obtain ⟨cur, fr, hb⟩ := t b o n' c e
    exact ⟨cur, fr, by rw [hg.block b (Array.getElem?_eq_some_iff.1 hb).1 (hne b o n' c e)]; exact hb⟩

theorem RS.snoc {w w' : World} {base k : Nat} {v v' x : Value} {vs : List Value} {sig : Nat → List UInt8} (h1 : w.ownsRow base 22 1 v k vs) (h2 : ∀ (j : Nat) u, vs[j]? = some u → HB w u (sig j) ∧ TB w u) (hx : HB w x (sig k)) (tx : TB w x)
    (hg : w.grownBy w' v.ownBlock) (ho : w'.ownsRow base 22 1 v' (k + 1) (vs ++ [x])) : RS w' base v' (k + 1) sig := by
  refine ⟨vs ++ [x], ho, fun j u hu => ?_⟩
  have hl := h1.1
  rw [Nat.mul_one] at hl
  by_cases hj : j < k
  · rw [List.getElem?_append_left (by omega)] at hu
    exact hb_grown h1 hg (h2 j u hu).1 (h2 j u hu).2
  · rw [List.getElem?_append_right (by omega), hl] at hu
    cases hjk : j - k with
    | zero =>
      rw [hjk] at hu
      simp at hu
      subst hu
      obtain rfl : j = k := by omega
      exact hb_grown h1 hg hx tx
    | succ m => rw [hjk] at hu; simp at hu

theorem RS.pa {w : World} {base N : Nat} {v : Value} {sig : Nat → List UInt8} (h : RS w base v N sig) : PA w v ((List.range N).map sig) := by
  obtain ⟨vs, h1, h3⟩ := h
  have hl := h1.1
  rw [Nat.mul_one] at hl
  obtain ⟨_, q⟩ := h1
  have hel : ∀ (i : Nat) x l, vs[i]? = some x → ((List.range N).map sig)[i]? = some l → HB w x l := by
    intro i x l hx hl'
    have hi : i < vs.length := (List.getElem?_eq_some_iff.1 hx).1
    have e2 : l = sig i := by
      rw [List.getElem?_map, List.getElem?_range (by omega)] at hl'
      simpa using hl'.symm
    rw [e2]
    exact (h3 i x hx).1
  rcases q with ⟨rfl, h0⟩ | ⟨g, cap, cur, rfl, hb, hg, hle, hm, hsz, ht⟩
  · subst h0
    exact PA.nil w
  · refine ⟨_, cap, vs, by simp, by simpa using hle, hm, (fun h => by cases h), by simp [hl], fun _ => ⟨g, 0, rfl, fun i x hx => ?_⟩, hel⟩
    rw [Nat.zero_add, cell_of_row w g i cur 22 (0, 0) hg]
    have hi : i < vs.length := (List.getElem?_eq_some_iff.1 hx).1
    rw [← ht, List.getElem?_take, if_pos (by omega)] at hx
    simpa using hx

end Go.Proofs.YtahfjemllkbpgaaGreatDoor

namespace Go.Proofs.YtahfjemllkbpgaaGreatDoor
open Go.RowKit

/-- A made list of N rows of bytes that the call owns, the first k of them told. -/
def RQ (w : World) (base g N k : Nat) (sig : Nat → List UInt8) : Prop :=
  ∃ vs : List Value, w.ownsRow base 22 1 (.slice (some ⟨g, 0, none⟩) N N) N vs ∧ ∀ (j : Nat) u, j < k → vs[j]? = some u → HB w u (sig j) ∧ TB w u

theorem RQ.later {w w' : World} {base g N k : Nat} {sig : Nat → List UInt8} (h : RQ w base g N k sig) (hb : Below w.heap.size w w') : RQ w' base g N k sig := by
  obtain ⟨vs, h1, h3⟩ := h
  exact ⟨vs, owns_later h1 hb, fun j u hj hu => ⟨(h3 j u hj hu).1.later hb, (h3 j u hj hu).2.later hb⟩⟩

theorem RQ.rs {w : World} {base g N : Nat} {sig : Nat → List UInt8} (h : RQ w base g N N sig) : RS w base (.slice (some ⟨g, 0, none⟩) N N) N sig := by
  obtain ⟨vs, h1, h3⟩ := h
  have hl := h1.1
  rw [Nat.mul_one] at hl
  exact ⟨vs, h1, fun j u hu => h3 j u (by have := (List.getElem?_eq_some_iff.1 hu).1; omega) hu⟩

theorem RQ.cell {w : World} {base g N k : Nat} {sig : Nat → List UInt8} (h : RQ w base g N k sig) (i : Nat) (hi : i < N) : ∃ y, w.cell? ⟨g, i, none⟩ = some y ∧ w.frozen? ⟨g, i, none⟩ = false := by
  obtain ⟨vs, q1, _⟩ := h
  have hl := q1.1
  rw [Nat.mul_one] at hl
  have hc := q1.cellAt i (by omega)
  rw [List.getElem?_eq_getElem (by omega)] at hc
  exact ⟨_, hc, q1.frozenAt i⟩

theorem RQ.put {w : World} {base g N k : Nat} {sig : Nat → List UInt8} (h : RQ w base g N k sig) (x : Value) (hx : HB w x (sig k)) (tx : TB w x) : RQ (w.setCell ⟨g, k, none⟩ x) base g N (k + 1) sig := by
  obtain ⟨vs, h1, h3⟩ := h
  obtain ⟨q1, q2⟩ := h1.stored k x
  refine ⟨vs.set k x, q1, fun j u hj hu => ?_⟩
  by_cases hjk : k = j
  · subst hjk
    rw [List.getElem?_set_self'] at hu
    cases hv : vs[k]? with
    | none => rw [hv] at hu; simp at hu
    | some y =>
      rw [hv] at hu
      simp at hu
      subst hu
      exact hb_grown h1 q2 hx tx
  · rw [List.getElem?_set_ne hjk] at hu
    obtain ⟨a, b⟩ := h3 j u (by omega) hu
    exact hb_grown h1 q2 a b

end Go.Proofs.YtahfjemllkbpgaaGreatDoor
