/- What this text holds: a slice of any numbers in memory (plain facts). -/
import Derived.Test.YthkgbgkijdeaoaaInts
namespace Go.Proofs.Ythkgbgkijdeaoaa
open Go.RowKit

/-- The value v is a slice of the numbers l. -/
def IZ (w : World) (v : Value) (l : List Int) : Prop :=
  ∃ (p : Option Addr) (cap : Nat), v = .slice p l.length cap ∧ l.length ≤ cap ∧ cap ≤ maxLen ∧
    (l ≠ [] → ∃ b o, p = some ⟨b, o, none⟩ ∧ ∀ i x, l[i]? = some x → w.cell? ⟨b, o + i, none⟩ = some (.int .i64 x))

theorem IZ.keep {w w' : World} {v : Value} {l : List Int} (h : IZ w v l) (hk : ∀ b, b < w.heap.size → w'.heap[b]? = w.heap[b]?) : IZ w' v l := by
  obtain ⟨p, cap, e, h1, h2, h4⟩ := h
  refine ⟨p, cap, e, h1, h2, fun hn => ?_⟩
  obtain ⟨b, o, e1, e2⟩ := h4 hn
  refine ⟨b, o, e1, fun i x hx => ?_⟩
  have hc := e2 i x hx
  have hlt : b < w.heap.size := by
    rcases Nat.lt_or_ge b w.heap.size with h1 | h1
    · exact h1
    · exfalso
      have e : w.heap[b]? = none := Array.getElem?_eq_none h1
      simp [World.cell?, e] at hc
  rw [World.cell?_of_block (w := w) (hk b hlt)]
  exact hc

theorem IZ.later {w w' : World} {v : Value} {l : List Int} (h : IZ w v l) (hb : Below w.heap.size w w') : IZ w' v l := h.keep fun b hl => hb.block b hl

theorem IZ.shape {w : World} {v : Value} {l : List Int} (h : IZ w v l) : ∃ p c, v = .slice p l.length c := by
  obtain ⟨p', cap, e, _⟩ := h
  exact ⟨p', cap, e⟩

theorem IZ.len_le {w : World} {v : Value} {l : List Int} (h : IZ w v l) : l.length ≤ maxLen := by
  obtain ⟨p, cap, e, h1, h2, h4⟩ := h
  omega

theorem IZ.caps {w : World} {p : Option Addr} {n c : Nat} {l : List Int} (h : IZ w (.slice p n c) l) : n = l.length ∧ n ≤ c ∧ c ≤ maxLen := by
  obtain ⟨p', cap, e, h1, h2, h4⟩ := h
  simp only [Value.slice.injEq] at e
  obtain ⟨rfl, rfl, rfl⟩ := e
  exact ⟨rfl, h1, h2⟩

theorem IZ.addr {w : World} {p : Option Addr} {n c : Nat} {l : List Int} (h : IZ w (.slice p n c) l) (hn : 0 < n) : ∃ b o, p = some ⟨b, o, none⟩ ∧ ∀ (i : Nat) (x : Int), l[i]? = some x → w.cell? ⟨b, o + i, none⟩ = some (.int .i64 x) := by
  obtain ⟨p', cap, e, h1, h2, h4⟩ := h
  simp only [Value.slice.injEq] at e
  obtain ⟨rfl, rfl, rfl⟩ := e
  exact h4 (fun h => by subst h; simp at hn)

/-- A beginning of a slice. -/
theorem IZ.front {w : World} {p : Option Addr} {n c : Nat} {l : List Int} (h : IZ w (.slice p n c) l) (k : Nat) (hk : k ≤ n) : IZ w (.slice p k c) (l.take k) := by
  obtain ⟨p', cap, e, h1, h2, h4⟩ := h
  simp only [Value.slice.injEq] at e
  obtain ⟨rfl, rfl, rfl⟩ := e
  refine ⟨p, c, ?_, ?_, h2, fun hne => ?_⟩
  · rw [List.length_take, Nat.min_eq_left hk]
  · rw [List.length_take]
    omega
  · obtain ⟨b, o, e1, e2⟩ := h4 (fun h => hne (by rw [h]; simp))
    refine ⟨b, o, e1, fun i x hx => e2 i x ?_⟩
    rw [List.getElem?_take] at hx
    split at hx
    · exact hx
    · cases hx

/-- A literal of numbers in a new block. -/
theorem IZ.litF (w : World) (e : TypeId) (l : List Int) (cs : Array Value) (n : Nat) (fr : Nat × Nat) (hc : cs = (l.map (fun x => Value.int .i64 x)).toArray) (hn : n = l.length) (hm : n ≤ maxLen) : IZ (w.alloc (.cells cs e fr)) (.slice (some ⟨w.heap.size, 0, none⟩) n n) l := by
  subst hc; subst hn
  refine ⟨_, l.length, rfl, Nat.le_refl _, hm, fun _ => ⟨_, 0, rfl, fun i x hx => ?_⟩⟩
  rw [Nat.zero_add, cell_of_row _ _ i _ _ _ (heap_alloc_new w _)]
  simp [hx]

end Go.Proofs.Ythkgbgkijdeaoaa
