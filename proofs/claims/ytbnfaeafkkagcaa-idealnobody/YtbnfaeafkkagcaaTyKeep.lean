/- What this text holds: blocks of unlike types part what lies apart (plain facts, no walk). -/
import Derived.Test.YtbnfaeafkkagcaaOnlyT
namespace Go.Proofs.Ytbnfaeafkkagcaa
open Go.RowKit

/-- Block k is a block of bytes. -/
def TY (w : World) (k : Nat) : Prop := ∃ cur fr, w.heap[k]? = some (.cells cur 5 fr)
theorem TY.keep {w w' : World} {k : Nat} (h : TY w k) (e : w'.heap[k]? = w.heap[k]?) : TY w' k := by
  obtain ⟨cur, fr, hk⟩ := h
  exact ⟨cur, fr, e.trans hk⟩
theorem TY.lt {w : World} {k : Nat} (h : TY w k) : k < w.heap.size := by
  obtain ⟨cur, fr, hk⟩ := h
  exact (Array.getElem?_eq_some_iff.1 hk).1
theorem TY.later {w w' : World} {k : Nat} (h : TY w k) (hb : Below w.heap.size w w') : TY w' k := h.keep (hb.block k h.lt)
theorem TY.only {w w' : World} {g k : Nat} (h : TY w k) (ho : Only g w w') (hne : k ≠ g) : TY w' k := h.keep (ho.block k hne h.lt)
theorem TY.of_owns {w : World} {base n m c : Nat} {a : Addr} {v : Value} {xs : List Value} (h : w.ownsRow base 5 1 v n xs) (e : v = .slice (some a) m c) : TY w a.block := by
  rcases h.2 with ⟨e1, _⟩ | ⟨g, cap, cur, e1, _, hg, _⟩
  · rw [e1] at e; cases e
  · rw [e1] at e
    simp only [Value.slice.injEq, Option.some.injEq] at e
    rw [← e.1]
    exact ⟨cur, _, hg⟩

/-- Bytes that don't lie in block g, in a block of bytes. -/
def HBN (w : World) (g : Nat) (v : Value) (l : List UInt8) : Prop := HB w v l ∧ ∀ a n c, v = .slice (some a) n c → a.block ≠ g ∧ TY w a.block

theorem HBN.only {w w' : World} {g : Nat} {v : Value} {l : List UInt8} (h : HBN w g v l) (ho : Only g w w') : HBN w' g v l := ⟨h.1.only (fun a n c e => (h.2 a n c e).1) ho, fun a n c e => ⟨(h.2 a n c e).1, (h.2 a n c e).2.only ho (h.2 a n c e).1⟩⟩
theorem HBN.later {w w' : World} {g : Nat} {v : Value} {l : List UInt8} (h : HBN w g v l) (hb : Below w.heap.size w w') : HBN w' g v l := ⟨h.1.later hb, fun a n c e => ⟨(h.2 a n c e).1, (h.2 a n c e).2.later hb⟩⟩
/-- Blocks of another type than T stay. -/
def TK (T : TypeId) (w w' : World) : Prop := ∀ (k : Nat) cur t fr, w.heap[k]? = some (.cells cur t fr) → t ≠ T → w'.heap[k]? = some (.cells cur t fr)

theorem TK.of_only {T : TypeId} {g : Nat} {w w' : World} {cs : Array Value} {f : Nat × Nat} (ho : Only g w w') (hg : w.heap[g]? = some (.cells cs T f)) : TK T w w' := by
  intro k cur t fr hk ht
  have hne : k ≠ g := by
    rintro rfl
    rw [hg] at hk
    simp only [Option.some.injEq, Obj.cells.injEq] at hk
    exact ht hk.2.1.symm
  exact (ho.block k hne (Array.getElem?_eq_some_iff.1 hk).1).trans hk

theorem TK.of_below {T : TypeId} {w w' : World} (hb : Below w.heap.size w w') : TK T w w' := fun k _ _ _ hk _ => (hb.block k (Array.getElem?_eq_some_iff.1 hk).1).trans hk

theorem TK.of_grown {T : TypeId} {w w' : World} {base s n : Nat} {v : Value} {xs : List Value} (h : w.ownsRow base T s v n xs) (hg : w.grownBy w' v.ownBlock) : TK T w w' := by
  intro k cur t fr hk ht
  have hne : some k ≠ v.ownBlock := by
    rcases h.2 with ⟨rfl, _⟩ | ⟨g, cap, cur', rfl, _, hg', _⟩
    · simp [Value.ownBlock]
    · simp only [Value.ownBlock, ne_eq, Option.some.injEq]
      intro e
      subst e
      rw [hg'] at hk
      simp only [Option.some.injEq, Obj.cells.injEq] at hk
      exact ht hk.2.1.symm
  exact (hg.block k (Array.getElem?_eq_some_iff.1 hk).1 hne).trans hk

theorem HBN.tk {T : TypeId} {g : Nat} {w w' : World} {v : Value} {l : List UInt8} (h : HBN w g v l) (t : TK T w w') (hT : 5 ≠ T) : HBN w' g v l := by
  obtain ⟨⟨p, cap, e, h1, h2, h3, h4⟩, h5⟩ := h
  refine ⟨⟨p, cap, e, h1, h2, h3, fun hn => ?_⟩, fun a n c ev => ?_⟩
  · obtain ⟨b, o, rfl, hc⟩ := h4 hn
    refine ⟨b, o, rfl, fun i x hx => ?_⟩
    obtain ⟨cur, fr, hb⟩ := (h5 _ _ _ e).2
    have hk : w'.heap[b]? = w.heap[b]? := (t b cur _ fr hb hT).trans hb.symm
    rw [World.cell?_of_block (w := w) hk]
    exact hc i x hx
  · obtain ⟨hne, cur, fr, hb⟩ := h5 a n c ev
    exact ⟨hne, cur, fr, t _ cur _ fr hb hT⟩

theorem owns_tk {T e : TypeId} {w w' : World} {base n : Nat} {v : Value} {xs : List Value} (h : w.ownsRow base e 1 v n xs) (t : TK T w w') (hT : e ≠ T) : w'.ownsRow base e 1 v n xs := by
  refine ⟨h.1, ?_⟩
  rcases h.2 with hn | ⟨g, cap, cur, rfl, hbg, hg, rest⟩
  · exact .inl hn
  · exact .inr ⟨g, cap, cur, rfl, hbg, t g cur _ _ hg hT, rest⟩

/-- Bytes that a call owns don't lie in a block of another type. -/
theorem hbn_of_owns {T : TypeId} {w : World} {base n g : Nat} {v : Value} {l : List UInt8} {cs : Array Value} {f : Nat × Nat} (h : w.ownsRow base 5 1 v n (bcs l)) (hg : w.heap[g]? = some (.cells cs T f)) (hT : 5 ≠ T) : HBN w g v l := by
  refine ⟨HB.of_owns h, fun a m c e => ⟨?_, TY.of_owns h e⟩⟩
  obtain ⟨cur, fr, ht⟩ := TY.of_owns h e
  rintro rfl
  rw [hg] at ht
  simp only [Option.some.injEq, Obj.cells.injEq] at ht
  exact hT ht.2.1.symm

end Go.Proofs.Ytbnfaeafkkagcaa
