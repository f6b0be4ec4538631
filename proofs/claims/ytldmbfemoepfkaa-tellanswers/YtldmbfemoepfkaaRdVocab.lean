/- What this text holds: plain facts: worlds that part in one block alone; a reader with what is left; what is read of bytes (no program). -/
import Derived.Test.YtldmbfemoepfkaaRdBase
import Derived.Test.YtldmbfemoepfkaaCodecPlain
import Derived.Test.YtldmbfemoepfkaaOnlyT
namespace Go.Proofs.Ytldmbfemoepfkaa
open Go.RowKit

/-- Block k is a block of bytes. -/
def TY (w : World) (k : Nat) : Prop := ∃ cur fr, w.heap[k]? = some (.cells cur 5 fr)
theorem TY.keep {w w' : World} {k : Nat} (h : TY w k) (e : w'.heap[k]? = w.heap[k]?) : TY w' k := by
  obtain ⟨cur, fr, hk⟩ := h
  exact ⟨cur, fr, e.trans hk⟩
theorem TY.lt {w : World} {k : Nat} (h : TY w k) : k < w.heap.size := by
  obtain ⟨cur, fr, hk⟩ := h
  exact (Array.getElem?_eq_some_iff.1 hk).1
theorem TY.later {w w' : World} {k : Nat} (h : TY w k) (hb : Below w.heap.size w w') : TY w' k := h.keep (hb.block k h.lt)
theorem TY.only {w w' : World} {g k : Nat} (h : TY w k) (ho : Only g w w') (hne : k ≠ g) : TY w' k := h.keep (ho.block k hne h.lt)
theorem TY.of_owns {w : World} {base n m c : Nat} {a : Addr} {v : Value} {xs : List Value} (h : w.ownsRow base 5 1 v n xs) (e : v = .slice (some a) m c) : TY w a.block := by
  rcases h.2 with ⟨e1, _⟩ | ⟨g, cap, cur, e1, _, hg, _⟩
  · rw [e1] at e; cases e
  · rw [e1] at e
    simp only [Value.slice.injEq, Option.some.injEq] at e
    rw [← e.1]
    exact ⟨cur, _, hg⟩

/-- Bytes that don't lie in block g, in a block of bytes. -/
def HBN (w : World) (g : Nat) (v : Value) (l : List UInt8) : Prop := HB w v l ∧ ∀ a n c, v = .slice (some a) n c → a.block ≠ g ∧ TY w a.block

theorem HBN.only {w w' : World} {g : Nat} {v : Value} {l : List UInt8} (h : HBN w g v l) (ho : Only g w w') : HBN w' g v l := ⟨h.1.only (fun a n c e => (h.2 a n c e).1) ho, fun a n c e => ⟨(h.2 a n c e).1, (h.2 a n c e).2.only ho (h.2 a n c e).1⟩⟩
theorem HBN.later {w w' : World} {g : Nat} {v : Value} {l : List UInt8} (h : HBN w g v l) (hb : Below w.heap.size w w') : HBN w' g v l := ⟨h.1.later hb, fun a n c e => ⟨(h.2 a n c e).1, (h.2 a n c e).2.later hb⟩⟩
theorem HBN.nil (w : World) (g : Nat) : HBN w g (.slice none 0 0) [] := ⟨HB.nil w, fun _ _ _ h => by cases h⟩
theorem HBN.behind {w : World} {g : Nat} {p : Option Addr} {n c : Nat} {l : List UInt8} (h : HBN w g (.slice p n c) l) (k : Nat) (hk : k ≤ n) : HBN w g (.slice (cutP p c k) (n - k) (c - k)) (l.drop k) := by
  refine ⟨h.1.behind k hk, fun a n' c' e => ?_⟩
  simp only [Value.slice.injEq] at e
  unfold cutP at e
  split at e
  · exact h.2 a n c (by rw [e.1])
  · cases p with
    | none => simp at e
    | some a' =>
      have := e.1
      simp only [Option.map_some, Option.some.injEq] at this
      have h2 := h.2 a' n c rfl
      rw [← this]
      unfold Addr.add
      split <;> exact h2

/-- A reader that Open made: what is left, and the first error. -/
def RR (w : World) (g : Nat) (l : List UInt8) (e : Int) : Prop := ∃ p c, RD w g (.slice p l.length c) e true ∧ HBN w g (.slice p l.length c) l

theorem RR.later {w w' : World} {g : Nat} {l : List UInt8} {e : Int} (h : RR w g l e) (hb : Below w.heap.size w w') : RR w' g l e := by
  obtain ⟨p, c, h1, h2⟩ := h
  exact ⟨p, c, h1.later hb, h2.later hb⟩
/-- What is written elsewhere leaves it as it was, if what is left does not lie there. -/
theorem RD.only {w w' : World} {g g' : Nat} {v : Value} {e : Int} {b : Bool} (h : RD w g v e b) (ho : Only g' w w') (hne : g ≠ g') : RD w' g v e b := by
  unfold RD
  rw [ho.block g hne h.lt]
  exact h

/-- What a number is read as: the error, the number, what is left. -/
def uintF (l : List UInt8) (most : Int) : Int × Nat × List UInt8 :=
  match l with
  | [] => (3, 0, [])
  | c :: r =>
    if 8 < c.toNat then (5, 0, [])
    else if r.length < c.toNat then (3, 0, [])
    else if (r.take c.toNat).head? = some 0 then (5, 0, [])
    else if 4611686018427387904 < valL (r.take c.toNat) then (5, 0, [])
    else if most < (valL (r.take c.toNat) : Int) then (4, 0, [])
    else (0, valL (r.take c.toNat), r.drop c.toNat)

/-- What a text is read as: the error, the text, what is left. -/
def bytesF (l : List UInt8) (most : Int) : Int × List UInt8 × List UInt8 :=
  let u := uintF l most
  if u.1 ≠ 0 then (u.1, [], [])
  else if u.2.2.length < u.2.1 then (3, [], [])
  else (0, u.2.2.take u.2.1, u.2.2.drop u.2.1)

/-- What a yes or no is read as: the error, it, what is left. -/
def flagF (l : List UInt8) : Int × Bool × List UInt8 :=
  match l with
  | [] => (3, false, [])
  | x :: r => if 1 < x.toNat then (5, false, []) else (0, x == 1, r)

end Go.Proofs.Ytldmbfemoepfkaa
