/- What this text holds: a slice of numbers in memory (plain facts). -/
import Derived.Test.YthkgbgkijdeaoaaOwn
import Derived.Test.YthkgbgkijdeaoaaEqual
import Derived.Test.YthkgbgkijdeaoaaDigPlain
namespace Go.Proofs.Ythkgbgkijdeaoaa
open Go.RowKit

def ic (n : Nat) : Value := .int .i64 (n : Int)
def ics (l : List Nat) : List Value := l.map ic
theorem ics_length (l : List Nat) : (ics l).length = l.length := by simp [ics]
theorem ics_get (l : List Nat) (i : Nat) : (ics l)[i]? = l[i]?.map ic := by simp [ics]

/-- The value v is a slice of the numbers l. -/
def IA (w : World) (v : Value) (l : List Nat) : Prop :=
  ∃ (p : Option Addr) (cap : Nat), v = .slice p l.length cap ∧ l.length ≤ cap ∧ cap ≤ maxLen ∧
    (l ≠ [] → ∃ b o, p = some ⟨b, o, none⟩ ∧ ∀ i x, l[i]? = some x → w.cell? ⟨b, o + i, none⟩ = some (ic x))

theorem IA.later {w w' : World} {v : Value} {l : List Nat} (h : IA w v l) (hb : Below w.heap.size w w') : IA w' v l := by
  obtain ⟨p, cap, e, h1, h2, h4⟩ := h
  refine ⟨p, cap, e, h1, h2, fun hn => ?_⟩
  obtain ⟨b, o, e1, e2⟩ := h4 hn
  exact ⟨b, o, e1, fun i x hx => cell_later hb (e2 i x hx)⟩

theorem IA.shape {w : World} {v : Value} {l : List Nat} (h : IA w v l) : ∃ p c, v = .slice p l.length c := by
  obtain ⟨p', cap, e, _⟩ := h
  exact ⟨p', cap, e⟩

theorem IA.len_le {w : World} {v : Value} {l : List Nat} (h : IA w v l) : l.length ≤ maxLen := by
  obtain ⟨p, cap, e, h1, h2, h4⟩ := h
  omega

theorem IA.addr {w : World} {p : Option Addr} {n c : Nat} {l : List Nat} (h : IA w (.slice p n c) l) (hn : 0 < n) : ∃ b o, p = some ⟨b, o, none⟩ ∧ ∀ (i x : Nat), l[i]? = some x → w.cell? ⟨b, o + i, none⟩ = some (.int .i64 (x : Int)) := by
  obtain ⟨p', cap, e, h1, h2, h4⟩ := h
  simp only [Value.slice.injEq] at e
  obtain ⟨rfl, rfl, rfl⟩ := e
  exact h4 (fun h => by subst h; simp at hn)

theorem IA.of_owns {w : World} {base : Nat} {e : TypeId} {v : Value} {n : Nat} {l : List Nat} (h : w.ownsRow base e 1 v n (ics l)) : IA w v l := by
  obtain ⟨h1, h2⟩ := h
  rw [ics_length, Nat.mul_one] at h1
  subst h1
  rcases h2 with ⟨rfl, h0⟩ | ⟨g, cap, cur, rfl, hb, hg, hl, hm, hs, ht⟩
  · obtain rfl : l = [] := List.eq_nil_of_length_eq_zero h0
    exact ⟨none, 0, rfl, Nat.le_refl _, Nat.zero_le _, fun h => absurd rfl h⟩
  · refine ⟨_, cap, rfl, hl, hm, fun _ => ⟨g, 0, rfl, fun i x hx => ?_⟩⟩
    rw [Nat.zero_add, cell_of_row w g i cur e (0, 0) hg]
    have hi : i < l.length := (List.getElem?_eq_some_iff.1 hx).1
    have e1 : (ics l)[i]? = some (ic x) := by rw [ics_get, hx]; rfl
    rw [← ht, List.getElem?_take, if_pos (by omega)] at e1
    simpa using e1

/-- A literal of numbers in a new block, part of which may be frozen. -/
theorem IA.litF (w : World) (e : TypeId) (l : List Nat) (cs : Array Value) (n : Nat) (fr : Nat × Nat) (hc : cs = (ics l).toArray) (hn : n = l.length) (hm : n ≤ maxLen) : IA (w.alloc (.cells cs e fr)) (.slice (some ⟨w.heap.size, 0, none⟩) n n) l := by
  subst hc; subst hn
  refine ⟨_, l.length, rfl, Nat.le_refl _, hm, fun _ => ⟨_, 0, rfl, fun i x hx => ?_⟩⟩
  rw [Nat.zero_add, cell_of_row _ _ i _ _ _ (heap_alloc_new w _)]
  simp [ics, hx]

end Go.Proofs.Ythkgbgkijdeaoaa
