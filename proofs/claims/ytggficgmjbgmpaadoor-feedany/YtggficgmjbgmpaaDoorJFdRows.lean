/- What this text holds: slices of slices in memory, of any kind of rows (plain facts); rows of rows of bytes that stay where blocks of another type grow. -/
import Derived.Test.YtggficgmjbgmpaaDoorBVocab
import Derived.Test.YtggficgmjbgmpaaDoorJKr
import Derived.RangeFuncBox
namespace Go.Proofs.YtggficgmjbgmpaaDoor
open Go.RowKit

/-- The value v is a slice of slices, each of which is told by R. -/
def GA {α : Type} (R : World → Value → α → Prop) (w : World) (v : Value) (xs : List α) : Prop :=
  ∃ (p : Option Addr) (cap : Nat), v = .slice p xs.length cap ∧ xs.length ≤ cap ∧ cap ≤ maxLen ∧
    (xs ≠ [] → ∃ b o, p = some ⟨b, o, none⟩ ∧ ∀ (i : Nat) x, xs[i]? = some x → ∃ u, w.cell? ⟨b, o + i, none⟩ = some u ∧ R w u x)

theorem GA.later {α : Type} {R : World → Value → α → Prop} {w w' : World} {v : Value} {xs : List α} (h : GA R w v xs) (hb : Below w.heap.size w w') (hR : ∀ u x, R w u x → R w' u x) : GA R w' v xs := by
  obtain ⟨p, cap, e, h1, h2, h4⟩ := h
  refine ⟨p, cap, e, h1, h2, fun hn => ?_⟩
  obtain ⟨b, o, e1, e2⟩ := h4 hn
  refine ⟨b, o, e1, fun i s hs => ?_⟩
  obtain ⟨u, g1, g2⟩ := e2 i s hs
  exact ⟨u, cell_later hb g1, hR _ _ g2⟩

theorem GA.shape {α : Type} {R : World → Value → α → Prop} {w : World} {v : Value} {xs : List α} (h : GA R w v xs) : ∃ p c, v = .slice p xs.length c := by
  obtain ⟨p', cap, e, _⟩ := h
  exact ⟨p', cap, e⟩

theorem GA.len {α : Type} {R : World → Value → α → Prop} {w : World} {p : Option Addr} {n c : Nat} {xs : List α} (h : GA R w (.slice p n c) xs) : n = xs.length ∧ n ≤ c ∧ c ≤ maxLen := by
  obtain ⟨p', cap, e, h1, h2, h4⟩ := h
  simp only [Value.slice.injEq] at e
  obtain ⟨rfl, rfl, rfl⟩ := e
  exact ⟨rfl, h1, h2⟩

theorem GA.addr {α : Type} {R : World → Value → α → Prop} {w : World} {p : Option Addr} {n c : Nat} {xs : List α} (h : GA R w (.slice p n c) xs) (hn : 0 < n) : ∃ b o, p = some ⟨b, o, none⟩ := by
  obtain ⟨p', cap, e, h1, h2, h4⟩ := h
  simp only [Value.slice.injEq] at e
  obtain ⟨rfl, rfl, rfl⟩ := e
  obtain ⟨b, o, e, _⟩ := h4 (fun h => by subst h; simp at hn)
  exact ⟨b, o, e⟩

theorem GA.get {α : Type} {R : World → Value → α → Prop} {w : World} {b o n c : Nat} {xs : List α} (h : GA R w (.slice (some ⟨b, o, none⟩) n c) xs) (i : Nat) (hi : i < n) :
    ∃ x u, Hid (xs[i]? = some x) ∧ w.cell? ⟨b, o + i, none⟩ = some u ∧ R w u x := by
  obtain ⟨p', cap, e, h1, h2, h3⟩ := h
  simp only [Value.slice.injEq] at e
  obtain ⟨rfl, rfl, rfl⟩ := e
  obtain ⟨b', o', e', hc⟩ := h3 (fun e => by subst e; simp at hi)
  simp only [Option.some.injEq, Addr.mk.injEq, and_true] at e'
  obtain ⟨rfl, rfl⟩ := e'
  obtain ⟨u, q1, q2⟩ := hc i xs[i] (List.getElem?_eq_getElem hi)
  exact ⟨xs[i], u, List.getElem?_eq_getElem hi, q1, q2⟩

/-- The first ones. -/
theorem GA.take {α : Type} {R : World → Value → α → Prop} {w : World} {p : Option Addr} {n c : Nat} {xs : List α} (h : GA R w (.slice p n c) xs) (k : Nat) (hk : k ≤ n) : GA R w (.slice p k c) (xs.take k) := by
  obtain ⟨p', cap, e, h1, h2, h3⟩ := h
  simp only [Value.slice.injEq] at e
  obtain ⟨rfl, rfl, rfl⟩ := e
  refine ⟨p, c, ?_, by simp; omega, h2, fun hne => ?_⟩
  · congr 1
    simp
    omega
  · obtain ⟨b, o, e, hc⟩ := h3 (fun e => by subst e; simp at hne)
    refine ⟨b, o, e, fun i x hx => hc i x ?_⟩
    rw [List.getElem?_take] at hx
    split at hx
    · exact hx
    · cases hx

theorem GA.imp {α : Type} {R S : World → Value → α → Prop} {w w' : World} {v : Value} {xs : List α} (h : GA R w v xs) (hb : Below w.heap.size w w') (hR : ∀ u x, R w u x → S w' u x) : GA S w' v xs := by
  obtain ⟨p, cap, e, h1, h2, h4⟩ := h
  refine ⟨p, cap, e, h1, h2, fun hn => ?_⟩
  obtain ⟨b, o, e1, e2⟩ := h4 hn
  refine ⟨b, o, e1, fun i s hs => ?_⟩
  obtain ⟨u, g1, g2⟩ := e2 i s hs
  exact ⟨u, cell_later hb g1, hR _ _ g2⟩

/-- A row of slices that the call owns, made by appends. -/
def GL {α : Type} (R : World → Value → α → Prop) (w : World) (base : Nat) (e : TypeId) (v : Value) (xs : List α) : Prop :=
  ∃ vs : List Value, w.ownsRow base e 1 v xs.length vs ∧ ∀ (j : Nat) u x, vs[j]? = some u → xs[j]? = some x → R w u x

theorem GL.nil {α : Type} (R : World → Value → α → Prop) (w : World) (base : Nat) (e : TypeId) : GL R w base e (.slice none 0 0) [] := ⟨[], World.ownsRow_nil _ _ _ _, fun j u x h => by simp at h⟩

theorem GL.later {α : Type} {R : World → Value → α → Prop} {w w' : World} {base : Nat} {e : TypeId} {v : Value} {xs : List α} (h : GL R w base e v xs) (hb : Below w.heap.size w w') (hR : ∀ u x, R w u x → R w' u x) : GL R w' base e v xs := by
  obtain ⟨vs, h1, h2⟩ := h
  exact ⟨vs, owns_later h1 hb, fun j u x hu hx => hR _ _ (h2 j u x hu hx)⟩

theorem GL.ga {α : Type} {R : World → Value → α → Prop} {w : World} {base : Nat} {e : TypeId} {v : Value} {xs : List α} (h : GL R w base e v xs) : GA R w v xs := by
  obtain ⟨vs, ⟨hl, h1⟩, h3⟩ := h
  rw [Nat.mul_one] at hl
  rcases h1 with ⟨rfl, h0⟩ | ⟨g, cap, cur, rfl, hb, hg, hc, hm, hs, ht⟩
  · obtain rfl : xs = [] := List.eq_nil_of_length_eq_zero h0
    exact ⟨none, 0, rfl, Nat.le_refl _, Nat.zero_le _, fun h => absurd rfl h⟩
  · refine ⟨_, cap, rfl, hc, hm, fun _ => ⟨g, 0, rfl, fun i x hx => ?_⟩⟩
    have hi : i < xs.length := (List.getElem?_eq_some_iff.1 hx).1
    obtain ⟨y, e1⟩ : ∃ y, vs[i]? = some y := ⟨_, List.getElem?_eq_getElem (by omega)⟩
    refine ⟨y, ?_, h3 i _ x e1 hx⟩
    rw [Nat.zero_add, cell_of_row w g _ cur e (0, 0) hg]
    rw [← ht, List.getElem?_take, if_pos (by omega)] at e1
    simpa using e1

theorem GL.snoc {α : Type} {R : World → Value → α → Prop} {w w' : World} {base : Nat} {e : TypeId} {v v' x : Value} {vs : List Value} {xs : List α} {a : α} (h1 : w.ownsRow base e 1 v xs.length vs) (h2 : ∀ (j : Nat) u y, vs[j]? = some u → xs[j]? = some y → R w u y) (hx : R w x a)
    (ho : w'.ownsRow base e 1 v' (xs.length + 1) (vs ++ [x])) (hR : ∀ u y, R w u y → R w' u y) : GL R w' base e v' (xs ++ [a]) := by
  have hl := h1.1
  rw [Nat.mul_one] at hl
  refine ⟨vs ++ [x], by rw [List.length_append]; exact ho, fun j u y hu hy => ?_⟩
  by_cases hj : j < xs.length
  · rw [List.getElem?_append_left (by omega)] at hu hy
    exact hR _ _ (h2 j u y hu hy)
  · rw [List.getElem?_append_right (by omega)] at hu hy
    rw [hl] at hu
    cases hjk : j - xs.length with
    | zero =>
      rw [hjk] at hu hy
      simp at hu hy
      subst hu
      subst hy
      exact hR _ _ hx
    | succ m => rw [hjk] at hu; simp at hu

theorem GL.shape {α : Type} {R : World → Value → α → Prop} {w : World} {base : Nat} {e : TypeId} {v : Value} {xs : List α} (h : GL R w base e v xs) : ∃ p c, v = .slice p xs.length c := h.ga.shape

/-- A block that is none of bytes and none of rows of bytes. -/
def Odd (w : World) (row : Option Nat) : Prop := ∀ r, row = some r → ∃ o : Obj, w.heap[r]? = some o ∧ ∀ cs t fr, o = .cells cs t fr → t ≠ 5 ∧ t ≠ 39

/-- Rows of bytes stay where other blocks grow. -/
theorem RL.grown {w w' : World} {base : Nat} {v : Value} {ls : List (List UInt8)} {row : Option Nat} (h : RL w base v ls) (hg : w.grownBy w' row) (hrow : Odd w row) : RL w' base v ls := by
  obtain ⟨vs, o, q⟩ := h
  refine ⟨vs, o.kept hg ?_, fun j u hu => ?_⟩
  · rcases o.2 with ⟨rfl, _⟩ | ⟨b, cap, cur, rfl, hb, hc, rest⟩
    · exact .inl rfl
    · refine .inr fun e => ?_
      simp only [Value.ownBlock] at e
      obtain ⟨o', ho', hn⟩ := hrow b e.symm
      rw [hc] at ho'
      exact (hn cur _ _ (Option.some.inj ho').symm).2 rfl
  · obtain ⟨k1, k2⟩ := q j u hu
    have hne : ∀ b o n c, u = .slice (some ⟨b, o, none⟩) n c → some b ≠ row := by
      intro b o' n c e he
      obtain ⟨cur, fr, hb⟩ := k2 b o' n c e
      obtain ⟨o2, ho2, hn⟩ := hrow b he.symm
      rw [hb] at ho2
      exact (hn cur _ _ (Option.some.inj ho2).symm).1 rfl
    constructor
    · dsimp only at k1 ⊢
      generalize ls.getD j [] = l at *
      obtain ⟨p, c, rfl⟩ := k1.shape
      by_cases hn : l = []
      · subst hn
        have := k1.len
        exact HB.empty _ p c this.2.2.1 this.2.2.2
      · obtain ⟨b, o', rfl, hc⟩ := k1.addr (List.length_pos_iff.2 hn)
        have hl := k1.len
        exact ⟨_, c, rfl, hl.2.1, hl.2.2.1, hl.2.2.2, fun _ => ⟨b, o', rfl, fun i x hx => hg.cell (hc i x hx) (hne b o' _ _ rfl)⟩⟩
    · intro b o' n' c e
      obtain ⟨cur, fr, hb⟩ := k2 b o' n' c e
      exact ⟨cur, fr, by rw [hg.block b (Array.getElem?_eq_some_iff.1 hb).1 (hne b o' n' c e)]; exact hb⟩

/-- The block of an owned row of other things. -/
theorem odd_row {w : World} {base n : Nat} {e : TypeId} {v : Value} {vs : List Value} (ho : w.ownsRow base e 1 v n vs) (h1 : e ≠ 5) (h2 : e ≠ 39) : Odd w v.ownBlock := by
  intro r hr
  rcases ho.2 with ⟨rfl, _⟩ | ⟨g, cap, cur, rfl, _, hg, _⟩
  · simp [Value.ownBlock] at hr
  · simp only [Value.ownBlock, Option.some.injEq] at hr
    subst hr
    refine ⟨_, hg, fun cs t fr e => ?_⟩
    simp only [Obj.cells.injEq] at e
    obtain ⟨_, rfl, _⟩ := e
    exact ⟨h1, h2⟩

/-- A block that is no cells. -/
theorem odd_other {w : World} {row : Option Nat} (h : ∀ r, row = some r → ∃ o : Obj, w.heap[r]? = some o ∧ o.isCells = false) : Odd w row := by
  intro r hr
  obtain ⟨o, ho, hc⟩ := h r hr
  refine ⟨o, ho, fun cs t fr e => ?_⟩
  subst e
  cases hc

/-- A row of digests' lists: each in memory of the calls. -/
def LR (w : World) (u : Value) (ls : List (List UInt8)) : Prop := ∃ b, RL w b u ls

theorem LR.later {w w' : World} {u : Value} {ls : List (List UInt8)} (h : LR w u ls) (hb : Below w.heap.size w w') : LR w' u ls := by
  obtain ⟨b, h⟩ := h
  exact ⟨b, h.later hb⟩

theorem LR.grown {w w' : World} {u : Value} {ls : List (List UInt8)} {row : Option Nat} (h : LR w u ls) (hg : w.grownBy w' row) (hrow : Odd w row) : LR w' u ls := by
  obtain ⟨b, h⟩ := h
  exact ⟨b, h.grown hg hrow⟩

end Go.Proofs.YtggficgmjbgmpaaDoor
