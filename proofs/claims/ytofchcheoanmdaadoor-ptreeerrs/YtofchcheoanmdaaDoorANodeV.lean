/- What this text holds: plain facts: a node in memory, and what stays of it where an arena is changed (no walk). -/
import Derived.Test.YtofchcheoanmdaaDoorAPutW
import Derived.Test.YtofchcheoanmdaaDoorCutR
namespace Go.Proofs.YtofchcheoanmdaaDoor
open Go.RowKit

/-- A node. -/
structure NodeS where
  leaf : Bool
  id : List UInt8
  key : List UInt8
  since : Int
  depth : Int
  pre : List UInt8
  newest : Int
  left : Int
  right : Int
  hash : List UInt8

/-- Bytes in a block of bytes. -/
def HT (w : World) (v : Value) (l : List UInt8) : Prop := HB w v l ∧ TB w v

/-- Block b holds a node. -/
def NB (w : World) (b : Nat) (x : NodeS) : Prop := ∃ vi vk vp vh, w.heap[b]? = some (.cells #[.bool x.leaf, vi, vk, .int .i64 x.since, .int .i64 x.depth, vp, .int .i64 x.newest, .int .i64 x.left, .int .i64 x.right, vh] 43 (0, 0)) ∧ HT w vi x.id ∧ HT w vk x.key ∧ HT w vp x.pre ∧ HT w vh x.hash

theorem HT.later {w w' : World} {v : Value} {l : List UInt8} (h : HT w v l) (hb : Below w.heap.size w w') : HT w' v l := ⟨h.1.later hb, h.2.later hb⟩
theorem HT.nil (w : World) : HT w (.slice none 0 0) [] := ⟨HB.nil w, TB.nil _ _ _⟩
theorem NB.lt {w : World} {b : Nat} {x : NodeS} (h : NB w b x) : b < w.heap.size := by
  obtain ⟨vi, vk, vp, vh, h0, _⟩ := h
  exact (Array.getElem?_eq_some_iff.1 h0).1
theorem NB.later {w w' : World} {b : Nat} {x : NodeS} (h : NB w b x) (hb : Below w.heap.size w w') : NB w' b x := by
  have hl := h.lt
  obtain ⟨vi, vk, vp, vh, h0, h1, h2, h3, h4⟩ := h
  exact ⟨vi, vk, vp, vh, (hb.block b hl).trans h0, h1.later hb, h2.later hb, h3.later hb, h4.later hb⟩

/-- Bytes stay where an arena gets a node. -/
theorem HT.fr {w w' : World} {g : Nat} {s r : Int} {p : Option Addr} {n c base : Nat} {xs : List Value} {v : Value} {l : List UInt8} (h : HT w v l) (ha : AG w g s r p n c) (ho : w.ownsRow base 91 1 (.slice p n c) n xs) (hf : Fr g (Value.slice p n c).ownBlock w w') : HT w' v l := by
  have key : ∀ b o m d, v = .slice (some ⟨b, o, none⟩) m d → w'.heap[b]? = w.heap[b]? := by
    intro b o m d e
    obtain ⟨cur, fr, hb⟩ := h.2 b o m d e
    refine hf.2 b (Array.getElem?_eq_some_iff.1 hb).1 ?_ ?_
    · rintro rfl
      have ha' : w.heap[b]? = some (.cells #[.int .i64 s, .int .i64 r, .slice p n c, .slice none 0 0] 56 (0, 0)) := ha
      rw [hb] at ha'
      simp at ha'
    · intro e2
      rcases ho.2 with ⟨e1, _⟩ | ⟨g', cap, cur', e1, _, e3, _⟩
      · rw [e1] at e2; cases e2
      · rw [e1] at e2
        have e4 : b = g' := by simpa [Value.ownBlock] using e2
        subst e4
        rw [hb] at e3
        simp at e3
  refine ⟨?_, ?_⟩
  · obtain ⟨p', cap, e0, h1, h2, h3, h4⟩ := h.1
    refine ⟨p', cap, e0, h1, h2, h3, fun hne => ?_⟩
    obtain ⟨b, o, hp, hc⟩ := h4 hne
    subst hp
    refine ⟨b, o, rfl, fun i x hx => ?_⟩
    rw [World.cell?_of_block (w := w) (key _ _ _ _ e0)]
    exact hc i x hx
  · intro b o m d e
    obtain ⟨cur, fr, hb⟩ := h.2 b o m d e
    exact ⟨cur, fr, (key _ _ _ _ e).trans hb⟩

theorem NB.fr {w w' : World} {g b : Nat} {s r : Int} {p : Option Addr} {n c base : Nat} {xs : List Value} {x : NodeS} (h : NB w b x) (ha : AG w g s r p n c) (ho : w.ownsRow base 91 1 (.slice p n c) n xs) (hf : Fr g (Value.slice p n c).ownBlock w w') : NB w' b x := by
  have hl := h.lt
  obtain ⟨vi, vk, vp, vh, h0, h1, h2, h3, h4⟩ := h
  refine ⟨vi, vk, vp, vh, (hf.2 b hl ?_ ?_).trans h0, h1.fr ha ho hf, h2.fr ha ho hf, h3.fr ha ho hf, h4.fr ha ho hf⟩
  · rintro rfl
    have ha' : w.heap[b]? = some (.cells #[.int .i64 s, .int .i64 r, .slice p n c, .slice none 0 0] 56 (0, 0)) := ha
    rw [h0] at ha'
    simp at ha'
  · intro e2
    rcases ho.2 with ⟨e1, _⟩ | ⟨g', cap, cur', e1, _, e3, _⟩
    · rw [e1] at e2; cases e2
    · rw [e1] at e2
      have e4 : b = g' := by simpa [Value.ownBlock] using e2
      subst e4
      rw [h0] at e3
      simp at e3

end Go.Proofs.YtofchcheoanmdaaDoor
