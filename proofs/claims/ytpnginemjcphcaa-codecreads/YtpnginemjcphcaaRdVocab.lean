/- What this text holds: plain facts: worlds that part in one block alone; a reader with what is left; what is read of bytes (no program). -/
import Derived.Test.YtpnginemjcphcaaRdBase
import Derived.Test.YtpnginemjcphcaaCodecPlain
namespace Go.Proofs.Ytpnginemjcphcaa
open Go.RowKit

/-- The second world grew out of the first one, and nothing that was there is changed but block g. -/
def Only (g : Nat) (w w' : World) : Prop := Below g w w' ∧ ∀ k, g < k → k < w.heap.size → w'.heap[k]? = w.heap[k]?

theorem Only.refl (g : Nat) (w : World) : Only g w w := ⟨Below.refl _ _, fun _ _ _ => rfl⟩
theorem Only.trans {g : Nat} {a b c : World} (h1 : Only g a b) (h2 : Only g b c) : Only g a c :=
  ⟨h1.1.trans h2.1, fun k hk hs => (h2.2 k hk (Nat.lt_of_lt_of_le hs h1.1.size)).trans (h1.2 k hk hs)⟩
theorem Only.of_below {g : Nat} {w w' : World} (h : Below w.heap.size w w') (hg : g ≤ w.heap.size) : Only g w w' := ⟨h.mono hg, fun k _ hs => h.block k hs⟩
theorem Only.setCell {g : Nat} {w w' : World} (h : Only g w w') (i : Nat) (u : Value) : Only g w (w'.setCell ⟨g, i, none⟩ u) :=
  ⟨h.1.setCell (Nat.le_refl _) _, fun k hk hs => by rw [heap_setCell_other w' ⟨g, i, none⟩ k u (by simp; omega)]; exact h.2 k hk hs⟩
theorem Only.drewN {g : Nat} {w w' : World} (h : Only g w w') (n : Nat) : Only g w (w'.drewN n) := ⟨below_drewN h.1 n, fun k hk hs => h.2 k hk hs⟩
theorem Only.below {g B : Nat} {w w' : World} (h : Only g w w') (hB : B ≤ g) : Below B w w' := h.1.mono hB
theorem Only.size {g : Nat} {w w' : World} (h : Only g w w') : w.heap.size ≤ w'.heap.size := h.1.size
theorem Only.block {g : Nat} {w w' : World} (h : Only g w w') (k : Nat) (hk : k ≠ g) (hs : k < w.heap.size) : w'.heap[k]? = w.heap[k]? := by
  rcases Nat.lt_or_gt_of_ne hk with h1 | h1
  · exact h.1.block k h1
  · exact h.2 k h1 hs

theorem cell_lt {w : World} {b o : Nat} {v : Value} (h : w.cell? ⟨b, o, none⟩ = some v) : b < w.heap.size := by
  rcases Nat.lt_or_ge b w.heap.size with h1 | h1
  · exact h1
  · exfalso
    have e : w.heap[b]? = none := Array.getElem?_eq_none h1
    simp [World.cell?, e] at h

/-- Bytes that don't lie in block g. -/
def HBN (w : World) (g : Nat) (v : Value) (l : List UInt8) : Prop := HB w v l ∧ ∀ a n c, v = .slice (some a) n c → a.block ≠ g

theorem HB.only {w w' : World} {g : Nat} {v : Value} {l : List UInt8} (h : HB w v l) (hn : ∀ a n c, v = .slice (some a) n c → a.block ≠ g) (ho : Only g w w') : HB w' v l := by
  obtain ⟨p, cap, e, h1, h2, h3, h4⟩ := h
  refine ⟨p, cap, e, h1, h2, h3, fun hne => ?_⟩
  obtain ⟨b, o, e1, e2⟩ := h4 hne
  refine ⟨b, o, e1, fun i x hx => ?_⟩
  have hc := e2 i x hx
  have hb : b ≠ g := hn ⟨b, o, none⟩ l.length cap (by rw [e, e1])
  have hlt : b < w.heap.size := cell_lt hc
  rw [World.cell?_of_block (w := w) (ho.block b hb hlt)]
  exact hc

theorem HBN.only {w w' : World} {g : Nat} {v : Value} {l : List UInt8} (h : HBN w g v l) (ho : Only g w w') : HBN w' g v l := ⟨h.1.only h.2 ho, h.2⟩
theorem HBN.later {w w' : World} {g : Nat} {v : Value} {l : List UInt8} (h : HBN w g v l) (hb : Below w.heap.size w w') : HBN w' g v l := ⟨h.1.later hb, h.2⟩
theorem HBN.nil (w : World) (g : Nat) : HBN w g (.slice none 0 0) [] := ⟨HB.nil w, fun _ _ _ h => by cases h⟩
theorem HBN.behind {w : World} {g : Nat} {p : Option Addr} {n c : Nat} {l : List UInt8} (h : HBN w g (.slice p n c) l) (k : Nat) (hk : k ≤ n) : HBN w g (.slice (cutP p c k) (n - k) (c - k)) (l.drop k) := by
  refine ⟨h.1.behind k hk, fun a n' c' e => ?_⟩
  simp only [Value.slice.injEq] at e
  unfold cutP at e
  split at e
  · exact h.2 a n c (by rw [e.1])
  · cases p with
    | none => simp at e
    | some a' =>
      have := e.1
      simp only [Option.map_some, Option.some.injEq] at this
      have h2 := h.2 a' n c rfl
      rw [← this]
      unfold Addr.add
      split <;> exact h2

/-- A reader that Open made: what is left, and the first error. -/
def RR (w : World) (g : Nat) (l : List UInt8) (e : Int) : Prop := ∃ p c, RD w g (.slice p l.length c) e true ∧ HBN w g (.slice p l.length c) l

theorem RR.later {w w' : World} {g : Nat} {l : List UInt8} {e : Int} (h : RR w g l e) (hb : Below w.heap.size w w') : RR w' g l e := by
  obtain ⟨p, c, h1, h2⟩ := h
  exact ⟨p, c, h1.later hb, h2.later hb⟩
/-- What is written elsewhere leaves it as it was, if what is left does not lie there. -/
theorem RD.only {w w' : World} {g g' : Nat} {v : Value} {e : Int} {b : Bool} (h : RD w g v e b) (ho : Only g' w w') (hne : g ≠ g') : RD w' g v e b := by
  unfold RD
  rw [ho.block g hne h.lt]
  exact h

/-- What a number is read as: the error, the number, what is left. -/
def uintF (l : List UInt8) (most : Int) : Int × Nat × List UInt8 :=
  match l with
  | [] => (3, 0, [])
  | c :: r =>
    if 8 < c.toNat then (5, 0, [])
    else if r.length < c.toNat then (3, 0, [])
    else if (r.take c.toNat).head? = some 0 then (5, 0, [])
    else if 4611686018427387904 < valL (r.take c.toNat) then (5, 0, [])
    else if most < (valL (r.take c.toNat) : Int) then (4, 0, [])
    else (0, valL (r.take c.toNat), r.drop c.toNat)

/-- What a text is read as: the error, the text, what is left. -/
def bytesF (l : List UInt8) (most : Int) : Int × List UInt8 × List UInt8 :=
  let u := uintF l most
  if u.1 ≠ 0 then (u.1, [], [])
  else if u.2.2.length < u.2.1 then (3, [], [])
  else (0, u.2.2.take u.2.1, u.2.2.drop u.2.1)

/-- What a yes or no is read as: the error, it, what is left. -/
def flagF (l : List UInt8) : Int × Bool × List UInt8 :=
  match l with
  | [] => (3, false, [])
  | x :: r => if 1 < x.toNat then (5, false, []) else (0, x == 1, r)

end Go.Proofs.Ytpnginemjcphcaa
