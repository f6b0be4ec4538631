/- What this text holds: a slice of bindings in memory (plain facts, no program): of each an identity and a key. -/
import Derived.Test.YthkgbgkijdeaoaaFacts
import Derived.Maps.OwnSet
import Derived.Maps.Views
namespace Go.Proofs.Ythkgbgkijdeaoaa
open Go.RowKit

/-- The value v is a slice of bindings: of each its identity and its key. -/
def BA (w : World) (v : Value) (bs : List (List UInt8 × List UInt8)) : Prop :=
  ∃ (p : Option Addr) (cap : Nat), v = .slice p bs.length cap ∧ bs.length ≤ cap ∧ cap ≤ maxLen ∧
    (bs ≠ [] → ∃ b o, p = some ⟨b, o, none⟩ ∧ ∀ (k : Nat) x, bs[k]? = some x → ∃ q c r d, w.cell? ⟨b, o + k * 2, none⟩ = some (.slice q x.1.length c) ∧ w.cell? ⟨b, o + k * 2 + 1, none⟩ = some (.slice r x.2.length d) ∧ HB w (.slice q x.1.length c) x.1 ∧ HB w (.slice r x.2.length d) x.2)

theorem BA.later {w w' : World} {v : Value} {bs : List (List UInt8 × List UInt8)} (h : BA w v bs) (hb : Below w.heap.size w w') : BA w' v bs := by
  obtain ⟨p, cap, e, h1, h2, h3⟩ := h
  refine ⟨p, cap, e, h1, h2, fun hn => ?_⟩
  obtain ⟨b, o, e1, e2⟩ := h3 hn
  refine ⟨b, o, e1, fun k x hx => ?_⟩
  obtain ⟨q, c, r, d, q1, q2, q3, q4⟩ := e2 k x hx
  exact ⟨q, c, r, d, cell_later hb q1, cell_later hb q2, q3.later hb, q4.later hb⟩

theorem BA.shape {w : World} {v : Value} {bs : List (List UInt8 × List UInt8)} (h : BA w v bs) : ∃ p c, v = .slice p bs.length c := by
  obtain ⟨p, cap, e, _⟩ := h
  exact ⟨p, cap, e⟩

theorem BA.len {w : World} {p : Option Addr} {n c : Nat} {bs : List (List UInt8 × List UInt8)} (h : BA w (.slice p n c) bs) : n = bs.length ∧ n ≤ c ∧ c ≤ maxLen := by
  obtain ⟨p', cap, e, h1, h2, _⟩ := h
  simp only [Value.slice.injEq] at e
  obtain ⟨rfl, rfl, rfl⟩ := e
  exact ⟨rfl, h1, h2⟩

theorem BA.addr {w : World} {p : Option Addr} {n c : Nat} {bs : List (List UInt8 × List UInt8)} (h : BA w (.slice p n c) bs) (hn : 0 < n) : ∃ b o, p = some ⟨b, o, none⟩ := by
  obtain ⟨p', cap, e, h1, h2, h3⟩ := h
  simp only [Value.slice.injEq] at e
  obtain ⟨rfl, rfl, rfl⟩ := e
  obtain ⟨b, o, e, _⟩ := h3 (fun h => by subst h; simp at hn)
  exact ⟨b, o, e⟩

/-- One binding: its cells, and what they hold. -/
theorem BA.get {w : World} {b o n c : Nat} {bs : List (List UInt8 × List UInt8)} (h : BA w (.slice (some ⟨b, o, none⟩) n c) bs) (i : Nat) (hi : i < n) :
    ∃ x q k r d, Hid (bs[i]? = some x) ∧ w.cell? ⟨b, o + i * 2, none⟩ = some (.slice q x.1.length k) ∧ w.cell? ⟨b, o + i * 2 + 1, none⟩ = some (.slice r x.2.length d) ∧ HB w (.slice q x.1.length k) x.1 ∧ HB w (.slice r x.2.length d) x.2 := by
  obtain ⟨p', cap, e, h1, h2, h3⟩ := h
  simp only [Value.slice.injEq] at e
  obtain ⟨rfl, rfl, rfl⟩ := e
  obtain ⟨b', o', e', hc⟩ := h3 (fun e => by subst e; simp at hi)
  simp only [Option.some.injEq, Addr.mk.injEq, and_true] at e'
  obtain ⟨rfl, rfl⟩ := e'
  obtain ⟨q, k, r, d, q1, q2, q3, q4⟩ := hc i bs[i] (List.getElem?_eq_getElem hi)
  exact ⟨bs[i], q, k, r, d, List.getElem?_eq_getElem hi, q1, q2, q3, q4⟩

/-- The first ones. -/
theorem BA.take {w : World} {p : Option Addr} {n c : Nat} {bs : List (List UInt8 × List UInt8)} (h : BA w (.slice p n c) bs) (k : Nat) (hk : k ≤ n) : BA w (.slice p k c) (bs.take k) := by
  obtain ⟨p', cap, e, h1, h2, h3⟩ := h
  simp only [Value.slice.injEq] at e
  obtain ⟨rfl, rfl, rfl⟩ := e
  refine ⟨p, c, ?_, by simp; omega, h2, fun hne => ?_⟩
  · congr 1
    simp
    omega
  · obtain ⟨b, o, e, hc⟩ := h3 (fun e => by subst e; simp at hne)
    refine ⟨b, o, e, fun i x hx => hc i x ?_⟩
    rw [List.getElem?_take] at hx
    split at hx
    · exact hx
    · cases hx

theorem s_bind : (Try.prog.info? 92).map (·.size) = some 2 := by kernel_rfl

/-- A key of a map: an identity as text. -/
def kS (l : List UInt8) : Lit := .string l

theorem kLit (l : List UInt8) : WideAt.IsKeyLit (kS l) := True.intro

/-- The map has the identities ahead of k. -/
def hasIds (D : DataW Value) (bs : List (List UInt8 × List UInt8)) (k : Nat) : Prop := ∀ l : List UInt8, Maps.has D (kS l) = true ↔ ∃ i, ∃ x : List UInt8 × List UInt8, i < k ∧ bs[i]? = some x ∧ x.1 = l

/-- Two of the first k have one identity. -/
def two (bs : List (List UInt8 × List UInt8)) (k : Nat) : Prop := ∃ i j, ∃ x y : List UInt8 × List UInt8, i < j ∧ j < k ∧ bs[i]? = some x ∧ bs[j]? = some y ∧ x.1 = y.1

theorem hasIds_none (bs : List (List UInt8 × List UInt8)) : hasIds (.map []) bs 0 := by
  intro l
  simp [Maps.has]

theorem hasIds_put {D : DataW Value} {bs : List (List UInt8 × List UInt8)} {k : Nat} {x : List UInt8 × List UInt8} {d : DataW Value} (hm : Maps.IsMap D) (h : hasIds D bs k) (hx : bs[k]? = some x) : hasIds (D.put (kS x.1) d) bs (k + 1) := by
  intro l
  by_cases hl : l = x.1
  · subst hl
    rw [Maps.has_put_same hm (kLit _)]
    simp only [true_iff]
    exact ⟨k, x, by omega, hx, rfl⟩
  · rw [Maps.has_put_other (by simpa [kS] using hl), h l]
    constructor
    · rintro ⟨i, y, h1, h2, h3⟩
      exact ⟨i, y, by omega, h2, h3⟩
    · rintro ⟨i, y, h1, h2, h3⟩
      refine ⟨i, y, ?_, h2, h3⟩
      rcases Nat.lt_or_ge i k with hi | hi
      · exact hi
      · obtain rfl : i = k := by omega
        rw [hx] at h2
        simp only [Option.some.injEq] at h2
        subst h2
        exact absurd h3.symm hl

theorem two_hit {D : DataW Value} {bs : List (List UInt8 × List UInt8)} {k n : Nat} {x : List UInt8 × List UInt8} (h : hasIds D bs k) (hx : bs[k]? = some x) (hk : k < n) (hh : Maps.has D (kS x.1) = true) : two bs n := by
  obtain ⟨i, y, h1, h2, h3⟩ := (h x.1).1 hh
  exact ⟨i, k, y, x, h1, hk, h2, hx, h3⟩

theorem two_miss {D : DataW Value} {bs : List (List UInt8 × List UInt8)} {k : Nat} {x : List UInt8 × List UInt8} (h : hasIds D bs k) (hx : bs[k]? = some x) (hn : ¬ two bs k) (hh : Maps.has D (kS x.1) = false) : ¬ two bs (k + 1) := by
  rintro ⟨i, j, a, b, h1, h2, h3, h4, h5⟩
  rcases Nat.lt_or_ge j k with hj | hj
  · exact hn ⟨i, j, a, b, h1, hj, h3, h4, h5⟩
  · obtain rfl : j = k := by omega
    rw [hx] at h4
    simp only [Option.some.injEq] at h4
    subst h4
    have := (h x.1).2 ⟨i, a, h1, h3, h5⟩
    rw [hh] at this
    cases this

end Go.Proofs.Ythkgbgkijdeaoaa
