/- What this text holds: rows of rows of bytes under way, and what stays of them where one of a call's rows grows (plain facts, no walk). -/
import Derived.Test.YtmikhebbcmniaaaXDVocab
import Derived.Test.YtmikhebbcmniaaaStepApp
namespace Go.Proofs.Ytmikhebbcmniaaa
open Go.RowKit

/-- A row of k rows of bytes that the call owns. -/
def RO (W : World) (base : Nat) (v : Value) (k : Nat) (sig : Nat → List UInt8) : Prop :=
  ∃ vs : List Value, W.ownsRow base 31 1 v k vs ∧ ∀ (j : Nat) u, vs[j]? = some u → HBT W u (sig j)

/-- A row of no bytes, in a block of its own. -/
def EM (W : World) (base : Nat) (v : Value) : Prop := ∃ g, v = .slice (some ⟨g, 0, none⟩) 0 0 ∧ W.heap[g]? = some (.cells #[] 5 (0, 0)) ∧ base ≤ g

theorem EM.owns {W : World} {base : Nat} {v : Value} (h : EM W base v) : W.ownsRow base 5 1 v 0 (bcs []) := by
  obtain ⟨g, rfl, h1, h2⟩ := h
  exact ⟨rfl, .inr ⟨g, 0, #[], rfl, h2, h1, Nat.zero_le _, Nat.zero_le _, rfl, rfl⟩⟩
theorem EM.later {W W' : World} {base : Nat} {v : Value} (h : EM W base v) (hb : Below W.heap.size W W') : EM W' base v := by
  obtain ⟨g, e, h1, h2⟩ := h
  exact ⟨g, e, (hb.block g (Array.getElem?_eq_some_iff.1 h1).1).trans h1, h2⟩
theorem EM.sty {W W' : World} {base : Nat} {v : Value} (h : EM W base v) (t : Sty 5 W W') : EM W' base v := by
  obtain ⟨g, e, h1, h2⟩ := h
  exact ⟨g, e, t _ _ _ h1, h2⟩
theorem EM.grown {W W' : World} {base : Nat} {v u : Value} (h : EM W base v) (hu : EM W base u) (hne : v ≠ u) (hg : W.grownBy W' u.ownBlock) : EM W' base v := by
  obtain ⟨g, rfl, h1, h2⟩ := h
  obtain ⟨g', rfl, h3, h4⟩ := hu
  refine ⟨g, rfl, ?_, h2⟩
  rw [hg.block g (Array.getElem?_eq_some_iff.1 h1).1 (by
    simp only [Value.ownBlock, ne_eq, Option.some.injEq]
    rintro rfl
    exact hne rfl)]
  exact h1
theorem EM.made (W : World) (base : Nat) (hb : base ≤ W.heap.size) : EM (W.alloc (.cells #[] 5)) base (.slice (some ⟨W.heap.size, 0, none⟩) 0 0) := ⟨_, rfl, heap_alloc_new W _, hb⟩
theorem EM.fresh {W : World} {base : Nat} {v : Value} (h : EM W base v) : v ≠ .slice (some ⟨W.heap.size, 0, none⟩) 0 0 := by
  obtain ⟨g, rfl, h1, h2⟩ := h
  have := (Array.getElem?_eq_some_iff.1 h1).1
  intro e
  simp only [Value.slice.injEq, Option.some.injEq, Addr.mk.injEq, and_true] at e
  omega

/-- Bytes that are there lie in no empty block. -/
theorem HBT.em {W W' : World} {base : Nat} {v u : Value} {l : List UInt8} (h : HBT W u l) (hl : l ≠ []) (hv : EM W base v) (hg : W.grownBy W' v.ownBlock) : HBT W' u l := by
  obtain ⟨g, rfl, h1, h2⟩ := hv
  obtain ⟨⟨p, cap, rfl, q1, q2, q3, q4⟩, h5⟩ := h
  obtain ⟨b, o, rfl, hc⟩ := q4 hl
  have hne : b ≠ g := by
    rintro rfl
    have := hc 0 _ (List.getElem?_eq_getElem (List.length_pos_iff.2 hl))
    simp [World.cell?, h1] at this
  have hsame : W'.heap[b]? = W.heap[b]? := by
    obtain ⟨cur, fr, hb⟩ := h5 b o _ _ rfl
    exact hg.block b (Array.getElem?_eq_some_iff.1 hb).1 (by simp only [Value.ownBlock, ne_eq, Option.some.injEq]; exact hne)
  refine ⟨⟨_, cap, rfl, q1, q2, q3, fun _ => ⟨b, o, rfl, fun i x hx => ?_⟩⟩, fun b' o' n' c' e => ?_⟩
  · rw [World.cell?_of_block (w := W) hsame]; exact hc i x hx
  · simp only [Value.slice.injEq, Option.some.injEq, Addr.mk.injEq] at e
    obtain ⟨⟨rfl, _⟩, _⟩ := e
    obtain ⟨cur, fr, hb⟩ := h5 b o _ _ rfl
    exact ⟨cur, fr, hsame.trans hb⟩

/-- Where a row that the call owns grows, blocks of another type stay. -/
theorem Sty.of_grown {T T' : TypeId} {W W' : World} {base s n : Nat} {v : Value} {xs : List Value} (h : W.ownsRow base T' s v n xs) (hg : W.grownBy W' v.ownBlock) (hT : T' ≠ T) : Sty T W W' := by
  intro k cur fr hk
  have hne : some k ≠ v.ownBlock := by
    rcases h.2 with ⟨rfl, _⟩ | ⟨g, cap, cur', rfl, _, hg', _⟩
    · simp [Value.ownBlock]
    · simp only [Value.ownBlock, ne_eq, Option.some.injEq]
      intro e
      subst e
      rw [hg'] at hk
      simp only [Option.some.injEq, Obj.cells.injEq] at hk
      exact hT hk.2.1
  exact (hg.block k (Array.getElem?_eq_some_iff.1 hk).1 hne).trans hk

theorem owns_sty {T : TypeId} {W W' : World} {base n s : Nat} {v : Value} {xs : List Value} (h : W.ownsRow base T s v n xs) (t : Sty T W W') : W'.ownsRow base T s v n xs := by
  refine ⟨h.1, ?_⟩
  rcases h.2 with hn | ⟨g, cap, cur, rfl, hbg, hg, rest⟩
  · exact .inl hn
  · exact .inr ⟨g, cap, cur, rfl, hbg, t g cur _ hg, rest⟩

theorem RO.sty {W W' : World} {base k : Nat} {v : Value} {sig : Nat → List UInt8} (h : RO W base v k sig) (t1 : Sty 31 W W') (t2 : Sty 5 W W') : RO W' base v k sig := by
  obtain ⟨vs, h1, h2⟩ := h
  exact ⟨vs, owns_sty h1 t1, fun j u hu => (h2 j u hu).sty t2⟩
theorem RO.later {W W' : World} {base k : Nat} {v : Value} {sig : Nat → List UInt8} (h : RO W base v k sig) (hb : Below W.heap.size W W') : RO W' base v k sig := h.sty (Sty.of_below hb) (Sty.of_below hb)
theorem RO.em {W W' : World} {base k : Nat} {v u : Value} {sig : Nat → List UInt8} (h : RO W base v k sig) (hs : ∀ j, j < k → sig j ≠ []) (hu : EM W base u) (hg : W.grownBy W' u.ownBlock) : RO W' base v k sig := by
  obtain ⟨vs, h1, h2⟩ := h
  refine ⟨vs, owns_sty h1 (Sty.of_grown hu.owns hg (by decide)), fun j x hx => (h2 j x hx).em (hs j ?_) hu hg⟩
  have := (List.getElem?_eq_some_iff.1 hx).1
  have hl := h1.1
  rw [Nat.mul_one] at hl
  omega
/-- Another row of rows grows. -/
theorem RO.other {W W' : World} {base k n : Nat} {v u : Value} {sig : Nat → List UInt8} {xs : List Value} (h : RO W base v k sig) (hu : W.ownsRow base 31 1 u n xs) (hne : ∀ g, u.ownBlock = some g → v.ownBlock ≠ some g) (hg : W.grownBy W' u.ownBlock) : RO W' base v k sig := by
  obtain ⟨vs, h1, h2⟩ := h
  refine ⟨vs, h1.kept hg ?_, fun j x hx => (h2 j x hx).sty (Sty.of_grown hu hg (by decide))⟩
  cases hv : v.ownBlock with
  | none => exact .inl rfl
  | some g => exact .inr (fun e => hne g e.symm hv)
theorem RO.snoc {W W' : World} {base k : Nat} {v v' x : Value} {vs : List Value} {sig : Nat → List UInt8} (h1 : W.ownsRow base 31 1 v k vs) (h2 : ∀ (j : Nat) u, vs[j]? = some u → HBT W u (sig j)) (hx : HBT W x (sig k))
    (hg : W.grownBy W' v.ownBlock) (ho : W'.ownsRow base 31 1 v' (k + 1) (vs ++ [x])) : RO W' base v' (k + 1) sig := by
  refine ⟨vs ++ [x], ho, fun j u hu => ?_⟩
  have t := Sty.of_grown (T := 5) h1 hg (by decide)
  have hl := h1.1
  rw [Nat.mul_one] at hl
  by_cases hj : j < k
  · rw [List.getElem?_append_left (by omega)] at hu
    exact (h2 j u hu).sty t
  · rw [List.getElem?_append_right (by omega), hl] at hu
    cases hjk : j - k with
    | zero =>
      rw [hjk] at hu
      simp at hu
      subst hu
      obtain rfl : j = k := by omega
      exact hx.sty t
    | succ m => rw [hjk] at hu; simp at hu

/-- A block of one cell. -/
def N1 (W : World) (T : TypeId) (v x : Value) : Prop := ∃ g, v = .slice (some ⟨g, 0, none⟩) 1 1 ∧ W.heap[g]? = some (.cells #[x] T (0, 0))
theorem N1.later {W W' : World} {T : TypeId} {v x : Value} (h : N1 W T v x) (hb : Below W.heap.size W W') : N1 W' T v x := by
  obtain ⟨g, e, h1⟩ := h
  exact ⟨g, e, (hb.block g (Array.getElem?_eq_some_iff.1 h1).1).trans h1⟩
theorem N1.sty {W W' : World} {T : TypeId} {v x : Value} (h : N1 W T v x) (t : Sty T W W') : N1 W' T v x := by
  obtain ⟨g, e, h1⟩ := h
  exact ⟨g, e, t _ _ _ h1⟩
theorem N1.made (W : World) (T : TypeId) (x : Value) : N1 (W.alloc (.cells #[x] T)) T (.slice (some ⟨W.heap.size, 0, none⟩) 1 1) x := ⟨_, rfl, heap_alloc_new W _⟩

/-- What of the new row is known: where it lies. -/
theorem row_ne {W : World} {base n : Nat} {v u : Value} {g : Nat} {xs : List Value} (hu : W.ownsRow base 31 1 u n xs) (hne : ∀ g, v.ownBlock = some g → u.ownBlock ≠ some g) (hat : v.ownBlock = some g ∨ g = W.heap.size) : u.ownBlock ≠ some g := by
  rcases hat with h | rfl
  · exact hne g h
  · rcases hu.2 with ⟨rfl, _⟩ | ⟨g', cap, cur, rfl, _, hg', _⟩
    · simp [Value.ownBlock]
    · have := (Array.getElem?_eq_some_iff.1 hg').1
      simp only [Value.ownBlock, ne_eq, Option.some.injEq]
      omega

end Go.Proofs.Ytmikhebbcmniaaa
