/- What this text holds: a slice of bindings in memory (plain facts, no program): of each an identity and a key. What this text holds: blocks of unlike types part what lies apart (plain facts, no walk). What this text holds: a row of bindings under way (as CRead has it, without readers). What this text proves: the walk of ideal.copied over this program: a batch in memory of its own. What this text proves: the walk of change.twice over this program: whether two bindings have one identity. What this text proves: the walk of change.Check over this program: what is wrong with a batch. -/
import Derived.Test.YtcgpgnajmfemhaaGreatDoorJOw
import Derived.Maps.OwnSet
import Derived.Maps.Views
import Derived.Test.YtcgpgnajmfemhaaGreatDoorJQ2
import Derived.Test.YtcgpgnajmfemhaaGreatDoorJQ7
import Derived.Test.YtcgpgnajmfemhaaGreatDoorJQ1
import Derived.WalkArith
namespace Go.Proofs.YtcgpgnajmfemhaaGreatDoor
open Go.RowKit

/-- The value v is a slice of bindings: of each its identity and its key. -/
def BA (w : World) (v : Value) (bs : List (List UInt8 × List UInt8)) : Prop :=
  ∃ (p : Option Addr) (cap : Nat), v = .slice p bs.length cap ∧ bs.length ≤ cap ∧ cap ≤ maxLen ∧
    (bs ≠ [] → ∃ b o, p = some ⟨b, o, none⟩ ∧ ∀ (k : Nat) x, bs[k]? = some x → ∃ q c r d, w.cell? ⟨b, o + k * 2, none⟩ = some (.slice q x.1.length c) ∧ w.cell? ⟨b, o + k * 2 + 1, none⟩ = some (.slice r x.2.length d) ∧ HB w (.slice q x.1.length c) x.1 ∧ HB w (.slice r x.2.length d) x.2)

theorem BA.later {w w' : World} {v : Value} {bs : List (List UInt8 × List UInt8)} (h : BA w v bs) (hb : Below w.heap.size w w') : BA w' v bs := by
  obtain ⟨p, cap, e, h1, h2, h3⟩ := h
  refine ⟨p, cap, e, h1, h2, fun hn => ?_⟩
  obtain ⟨b, o, e1, e2⟩ := h3 hn
  refine ⟨b, o, e1, fun k x hx => ?_⟩
  obtain ⟨q, c, r, d, q1, q2, q3, q4⟩ := e2 k x hx
  exact ⟨q, c, r, d, cell_later hb q1, cell_later hb q2, q3.later hb, q4.later hb⟩

theorem BA.shape {w : World} {v : Value} {bs : List (List UInt8 × List UInt8)} (h : BA w v bs) : ∃ p c, v = .slice p bs.length c := by
  obtain ⟨p, cap, e, _⟩ := h
  exact ⟨p, cap, e⟩

theorem BA.len {w : World} {p : Option Addr} {n c : Nat} {bs : List (List UInt8 × List UInt8)} (h : BA w (.slice p n c) bs) : n = bs.length ∧ n ≤ c ∧ c ≤ maxLen := by
  obtain ⟨p', cap, e, h1, h2, _⟩ := h
  simp only [Value.slice.injEq] at e
  obtain ⟨rfl, rfl, rfl⟩ := e
  exact ⟨rfl, h1, h2⟩

theorem BA.addr {w : World} {p : Option Addr} {n c : Nat} {bs : List (List UInt8 × List UInt8)} (h : BA w (.slice p n c) bs) (hn : 0 < n) : ∃ b o, p = some ⟨b, o, none⟩ := by
  obtain ⟨p', cap, e, h1, h2, h3⟩ := h
  simp only [Value.slice.injEq] at e
  obtain ⟨rfl, rfl, rfl⟩ := e
  obtain ⟨b, o, e, _⟩ := h3 (fun h => by subst h; simp at hn)
  exact ⟨b, o, e⟩

/-- One binding: its cells, and what they hold. -/
theorem BA.get {w : World} {b o n c : Nat} {bs : List (List UInt8 × List UInt8)} (h : BA w (.slice (some ⟨b, o, none⟩) n c) bs) (i : Nat) (hi : i < n) :
    ∃ x q k r d, Hid (bs[i]? = some x) ∧ w.cell? ⟨b, o + i * 2, none⟩ = some (.slice q x.1.length k) ∧ w.cell? ⟨b, o + i * 2 + 1, none⟩ = some (.slice r x.2.length d) ∧ HB w (.slice q x.1.length k) x.1 ∧ HB w (.slice r x.2.length d) x.2 := by
  obtain ⟨p', cap, e, h1, h2, h3⟩ := h
  simp only [Value.slice.injEq] at e
  obtain ⟨rfl, rfl, rfl⟩ := e
  obtain ⟨b', o', e', hc⟩ := h3 (fun e => by subst e; simp at hi)
  simp only [Option.some.injEq, Addr.mk.injEq, and_true] at e'
  obtain ⟨rfl, rfl⟩ := e'
  obtain ⟨q, k, r, d, q1, q2, q3, q4⟩ := hc i bs[i] (List.getElem?_eq_getElem hi)
  exact ⟨bs[i], q, k, r, d, List.getElem?_eq_getElem hi, q1, q2, q3, q4⟩

/-- The first ones. -/
theorem BA.take {w : World} {p : Option Addr} {n c : Nat} {bs : List (List UInt8 × List UInt8)} (h : BA w (.slice p n c) bs) (k : Nat) (hk : k ≤ n) : BA w (.slice p k c) (bs.take k) := by
  obtain ⟨p', cap, e, h1, h2, h3⟩ := h
  simp only [Value.slice.injEq] at e
  obtain ⟨rfl, rfl, rfl⟩ := e
  refine ⟨p, c, ?_, by simp; omega, h2, fun hne => ?_⟩
  · congr 1
    simp
    omega
  · obtain ⟨b, o, e, hc⟩ := h3 (fun e => by subst e; simp at hne)
    refine ⟨b, o, e, fun i x hx => hc i x ?_⟩
    rw [List.getElem?_take] at hx
    split at hx
    · exact hx
    · cases hx

theorem s_bind : (Tryz.prog.info? 90).map (·.size) = some 2 := by kernel_rfl

/-- A key of a map: an identity as text. -/
def kS (l : List UInt8) : Lit := .string l

theorem kLit (l : List UInt8) : WideAt.IsKeyLit (kS l) := True.intro

/-- The map has the identities ahead of k. -/
def hasIds (D : DataW Value) (bs : List (List UInt8 × List UInt8)) (k : Nat) : Prop := ∀ l : List UInt8, Maps.has D (kS l) = true ↔ ∃ i, ∃ x : List UInt8 × List UInt8, i < k ∧ bs[i]? = some x ∧ x.1 = l

/-- Two of the first k have one identity. -/
def two (bs : List (List UInt8 × List UInt8)) (k : Nat) : Prop := ∃ i j, ∃ x y : List UInt8 × List UInt8, i < j ∧ j < k ∧ bs[i]? = some x ∧ bs[j]? = some y ∧ x.1 = y.1

theorem hasIds_none (bs : List (List UInt8 × List UInt8)) : hasIds (.map []) bs 0 := by
  intro l
  simp [Maps.has]

theorem hasIds_put {D : DataW Value} {bs : List (List UInt8 × List UInt8)} {k : Nat} {x : List UInt8 × List UInt8} {d : DataW Value} (hm : Maps.IsMap D) (h : hasIds D bs k) (hx : bs[k]? = some x) : hasIds (D.put (kS x.1) d) bs (k + 1) := by
  intro l
  by_cases hl : l = x.1
  · subst hl
    rw [Maps.has_put_same hm (kLit _)]
    simp only [true_iff]
    exact ⟨k, x, by omega, hx, rfl⟩
  · rw [Maps.has_put_other (by simpa [kS] using hl), h l]
    constructor
    · rintro ⟨i, y, h1, h2, h3⟩
      exact ⟨i, y, by omega, h2, h3⟩
    · rintro ⟨i, y, h1, h2, h3⟩
      refine ⟨i, y, ?_, h2, h3⟩
      rcases Nat.lt_or_ge i k with hi | hi
      · exact hi
      · obtain rfl : i = k := by omega
        rw [hx] at h2
        simp only [Option.some.injEq] at h2
        subst h2
        exact absurd h3.symm hl

theorem two_hit {D : DataW Value} {bs : List (List UInt8 × List UInt8)} {k n : Nat} {x : List UInt8 × List UInt8} (h : hasIds D bs k) (hx : bs[k]? = some x) (hk : k < n) (hh : Maps.has D (kS x.1) = true) : two bs n := by
  obtain ⟨i, y, h1, h2, h3⟩ := (h x.1).1 hh
  exact ⟨i, k, y, x, h1, hk, h2, hx, h3⟩

theorem two_miss {D : DataW Value} {bs : List (List UInt8 × List UInt8)} {k : Nat} {x : List UInt8 × List UInt8} (h : hasIds D bs k) (hx : bs[k]? = some x) (hn : ¬ two bs k) (hh : Maps.has D (kS x.1) = false) : ¬ two bs (k + 1) := by
  rintro ⟨i, j, a, b, h1, h2, h3, h4, h5⟩
  rcases Nat.lt_or_ge j k with hj | hj
  · exact hn ⟨i, j, a, b, h1, hj, h3, h4, h5⟩
  · obtain rfl : j = k := by omega
    rw [hx] at h4
    simp only [Option.some.injEq] at h4
    subst h4
    have := (h x.1).2 ⟨i, a, h1, h3, h5⟩
    rw [hh] at this
    cases this

end Go.Proofs.YtcgpgnajmfemhaaGreatDoor

namespace Go.Proofs.YtcgpgnajmfemhaaGreatDoor.Vf
open Go.RowKit

/-- Block k is a block of bytes. -/
def TY (w : World) (k : Nat) : Prop := ∃ cur fr, w.heap[k]? = some (.cells cur 5 fr)
theorem TY.keep {w w' : World} {k : Nat} (h : TY w k) (e : w'.heap[k]? = w.heap[k]?) : TY w' k := by
  obtain ⟨cur, fr, hk⟩ := h
  exact ⟨cur, fr, e.trans hk⟩
theorem TY.lt {w : World} {k : Nat} (h : TY w k) : k < w.heap.size := by
  obtain ⟨cur, fr, hk⟩ := h
  exact (Array.getElem?_eq_some_iff.1 hk).1
theorem TY.later {w w' : World} {k : Nat} (h : TY w k) (hb : Below w.heap.size w w') : TY w' k := h.keep (hb.block k h.lt)
theorem TY.only {w w' : World} {g k : Nat} (h : TY w k) (ho : Only g w w') (hne : k ≠ g) : TY w' k := h.keep (ho.block k hne h.lt)
theorem TY.of_owns {w : World} {base n m c : Nat} {a : Addr} {v : Value} {xs : List Value} (h : w.ownsRow base 5 1 v n xs) (e : v = .slice (some a) m c) : TY w a.block := by
  rcases h.2 with ⟨e1, _⟩ | ⟨g, cap, cur, e1, _, hg, _⟩
  · rw [e1] at e; cases e
  · rw [e1] at e
    simp only [Value.slice.injEq, Option.some.injEq] at e
    rw [← e.1]
    exact ⟨cur, _, hg⟩

/-- Bytes that don't lie in block g, in a block of bytes. -/
def HBN (w : World) (g : Nat) (v : Value) (l : List UInt8) : Prop := HB w v l ∧ ∀ a n c, v = .slice (some a) n c → a.block ≠ g ∧ TY w a.block

theorem HBN.only {w w' : World} {g : Nat} {v : Value} {l : List UInt8} (h : HBN w g v l) (ho : Only g w w') : HBN w' g v l := ⟨h.1.only (fun a n c e => (h.2 a n c e).1) ho, fun a n c e => ⟨(h.2 a n c e).1, (h.2 a n c e).2.only ho (h.2 a n c e).1⟩⟩
theorem HBN.later {w w' : World} {g : Nat} {v : Value} {l : List UInt8} (h : HBN w g v l) (hb : Below w.heap.size w w') : HBN w' g v l := ⟨h.1.later hb, fun a n c e => ⟨(h.2 a n c e).1, (h.2 a n c e).2.later hb⟩⟩
/-- Blocks of another type than T stay. -/
def TK (T : TypeId) (w w' : World) : Prop := ∀ (k : Nat) cur t fr, w.heap[k]? = some (.cells cur t fr) → t ≠ T → w'.heap[k]? = some (.cells cur t fr)

theorem TK.of_only {T : TypeId} {g : Nat} {w w' : World} {cs : Array Value} {f : Nat × Nat} (ho : Only g w w') (hg : w.heap[g]? = some (.cells cs T f)) : TK T w w' := by
  intro k cur t fr hk ht
  have hne : k ≠ g := by
    rintro rfl
    rw [hg] at hk
    simp only [Option.some.injEq, Obj.cells.injEq] at hk
    exact ht hk.2.1.symm
  exact (ho.block k hne (Array.getElem?_eq_some_iff.1 hk).1).trans hk

theorem TK.of_below {T : TypeId} {w w' : World} (hb : Below w.heap.size w w') : TK T w w' := fun k _ _ _ hk _ => (hb.block k (Array.getElem?_eq_some_iff.1 hk).1).trans hk

theorem TK.of_grown {T : TypeId} {w w' : World} {base s n : Nat} {v : Value} {xs : List Value} (h : w.ownsRow base T s v n xs) (hg : w.grownBy w' v.ownBlock) : TK T w w' := by
  intro k cur t fr hk ht
  have hne : some k ≠ v.ownBlock := by
    rcases h.2 with ⟨rfl, _⟩ | ⟨g, cap, cur', rfl, _, hg', _⟩
    · simp [Value.ownBlock]
    · simp only [Value.ownBlock, ne_eq, Option.some.injEq]
      intro e
      subst e
      rw [hg'] at hk
      simp only [Option.some.injEq, Obj.cells.injEq] at hk
      exact ht hk.2.1.symm
  exact (hg.block k (Array.getElem?_eq_some_iff.1 hk).1 hne).trans hk

theorem HBN.tk {T : TypeId} {g : Nat} {w w' : World} {v : Value} {l : List UInt8} (h : HBN w g v l) (t : TK T w w') (hT : 5 ≠ T) : HBN w' g v l := by
  obtain ⟨⟨p, cap, e, h1, h2, h3, h4⟩, h5⟩ := h
  refine ⟨⟨p, cap, e, h1, h2, h3, fun hn => ?_⟩, fun a n c ev => ?_⟩
  · obtain ⟨b, o, rfl, hc⟩ := h4 hn
    refine ⟨b, o, rfl, fun i x hx => ?_⟩
    obtain ⟨cur, fr, hb⟩ := (h5 _ _ _ e).2
    have hk : w'.heap[b]? = w.heap[b]? := (t b cur _ fr hb hT).trans hb.symm
    rw [World.cell?_of_block (w := w) hk]
    exact hc i x hx
  · obtain ⟨hne, cur, fr, hb⟩ := h5 a n c ev
    exact ⟨hne, cur, fr, t _ cur _ fr hb hT⟩

theorem owns_tk {T e : TypeId} {w w' : World} {base n : Nat} {v : Value} {xs : List Value} (h : w.ownsRow base e 1 v n xs) (t : TK T w w') (hT : e ≠ T) : w'.ownsRow base e 1 v n xs := by
  refine ⟨h.1, ?_⟩
  rcases h.2 with hn | ⟨g, cap, cur, rfl, hbg, hg, rest⟩
  · exact .inl hn
  · exact .inr ⟨g, cap, cur, rfl, hbg, t g cur _ _ hg hT, rest⟩

/-- Bytes that a call owns don't lie in a block of another type. -/
theorem hbn_of_owns {T : TypeId} {w : World} {base n g : Nat} {v : Value} {l : List UInt8} {cs : Array Value} {f : Nat × Nat} (h : w.ownsRow base 5 1 v n (bcs l)) (hg : w.heap[g]? = some (.cells cs T f)) (hT : 5 ≠ T) : HBN w g v l := by
  refine ⟨HB.of_owns h, fun a m c e => ⟨?_, TY.of_owns h e⟩⟩
  obtain ⟨cur, fr, ht⟩ := TY.of_owns h e
  rintro rfl
  rw [hg] at ht
  simp only [Option.some.injEq, Obj.cells.injEq] at ht
  exact hT ht.2.1.symm

end Go.Proofs.YtcgpgnajmfemhaaGreatDoor.Vf

namespace Go.Proofs.YtcgpgnajmfemhaaGreatDoor.Vf
open Go.RowKit

theorem i_bind : (Tryz.prog.info? 90).map (fun i => (i.zero, i.size, i.bytes)) = some (some (.agg #[.slice none 0 0, .slice none 0 0]), 2, 48) := by kernel_rfl

/-- A row of n bindings under way: those of ps are there. -/
def BR (w : World) (g gR n : Nat) (ps : List (List UInt8 × List UInt8)) : Prop :=
  ∃ cs : Array Value, w.heap[gR]? = some (.cells cs 90 (0, 0)) ∧ cs.size = n * 2 ∧ ∀ (j : Nat) x, ps[j]? = some x → ∃ p1 c1 p2 c2, cs[j * 2]? = some (.slice p1 x.1.length c1) ∧ cs[j * 2 + 1]? = some (.slice p2 x.2.length c2) ∧ HBN w g (.slice p1 x.1.length c1) x.1 ∧ HBN w g (.slice p2 x.2.length c2) x.2

theorem BR.tk {T : TypeId} {w w' : World} {g gR n : Nat} {ps : List (List UInt8 × List UInt8)} (h : BR w g gR n ps) (t : TK T w w') (hT : 5 ≠ T) (hB : 90 ≠ T) : BR w' g gR n ps := by
  obtain ⟨cs, h1, h2, h3⟩ := h
  refine ⟨cs, t _ _ _ _ h1 hB, h2, fun j x hx => ?_⟩
  obtain ⟨p1, c1, p2, c2, q1, q2, q3, q4⟩ := h3 j x hx
  exact ⟨p1, c1, p2, c2, q1, q2, q3.tk t hT, q4.tk t hT⟩

theorem BR.ba {w : World} {g gR n : Nat} {ps : List (List UInt8 × List UInt8)} (h : BR w g gR n ps) (hn : ps.length = n) (hm : n ≤ 100) : BA w (.slice (some ⟨gR, 0, none⟩) n n) ps := by
  obtain ⟨cs, h1, h2, h3⟩ := h
  subst hn
  refine ⟨_, ps.length, rfl, Nat.le_refl _, by unfold maxLen; omega, fun _ => ⟨gR, 0, rfl, fun k x hx => ?_⟩⟩
  obtain ⟨p1, c1, p2, c2, q1, q2, q3, q4⟩ := h3 k x hx
  exact ⟨p1, c1, p2, c2, by rw [cell_of_row _ _ _ _ _ _ h1, Nat.zero_add]; exact q1, by rw [cell_of_row _ _ _ _ _ _ h1, Nat.zero_add]; exact q2, q3.1, q4.1⟩

/-- A cell of the row is there, and may be written. -/
theorem BR.cell {w : World} {g gR n : Nat} {ps : List (List UInt8 × List UInt8)} (h : BR w g gR n ps) (i : Nat) (hi : i < n * 2) : (∃ z, w.cell? ⟨gR, i, none⟩ = some z) ∧ w.frozen? ⟨gR, i, none⟩ = false ∧ gR < w.heap.size := by
  obtain ⟨cs, h1, h2, h3⟩ := h
  refine ⟨⟨cs[i]'(by omega), ?_⟩, by simp [World.frozen?, h1], (Array.getElem?_eq_some_iff.1 h1).1⟩
  rw [cell_of_row _ _ _ _ _ _ h1]
  simp [show i < cs.size by omega]

/-- An identity is stored. -/
theorem BR.put1 {w : World} {g gR n : Nat} {ps : List (List UInt8 × List UInt8)} (h : BR w g gR n ps) (u : Value) : TK 90 w (w.setCell ⟨gR, ps.length * 2, none⟩ u) ∧ BR (w.setCell ⟨gR, ps.length * 2, none⟩ u) g gR n ps := by
  obtain ⟨cs, h1, h2, h3⟩ := h
  have ho : Only gR w (w.setCell ⟨gR, ps.length * 2, none⟩ u) := (Only.refl gR w).setCell _ u
  have t : TK 90 w (w.setCell ⟨gR, ps.length * 2, none⟩ u) := TK.of_only ho h1
  refine ⟨t, cs.setIfInBounds (ps.length * 2) u, by rw [heap_setCell_same w gR _ _ _ _ h1], by simp [h2], fun j x hx => ?_⟩
  obtain ⟨p1, c1, p2, c2, q1, q2, q3, q4⟩ := h3 j x hx
  have hj := (List.getElem?_eq_some_iff.1 hx).1
  refine ⟨p1, c1, p2, c2, ?_, ?_, q3.tk t (by decide), q4.tk t (by decide)⟩
  · rw [Array.getElem?_setIfInBounds_ne (by omega)]; exact q1
  · rw [Array.getElem?_setIfInBounds_ne (by omega)]; exact q2

/-- The identity's cell stays while another block is written. -/
def BRU (w : World) (gR k : Nat) (u : Value) : Prop := ∃ cs : Array Value, w.heap[gR]? = some (.cells cs 90 (0, 0)) ∧ cs[k]? = some u
theorem BRU.tk {T : TypeId} {w w' : World} {gR k : Nat} {u : Value} (h : BRU w gR k u) (t : TK T w w') (hB : 90 ≠ T) : BRU w' gR k u := by
  obtain ⟨cs, h1, h2⟩ := h
  exact ⟨cs, t _ _ _ _ h1 hB, h2⟩
theorem BR.bru {w : World} {g gR n : Nat} {ps : List (List UInt8 × List UInt8)} (h : BR w g gR n ps) (u : Value) (hk : ps.length < n) : BRU (w.setCell ⟨gR, ps.length * 2, none⟩ u) gR (ps.length * 2) u := by
  obtain ⟨cs, h1, h2, h3⟩ := h
  refine ⟨cs.setIfInBounds (ps.length * 2) u, by rw [heap_setCell_same w gR _ _ _ _ h1], ?_⟩
  rw [Array.getElem?_setIfInBounds_self_of_lt (by omega)]

/-- A key is stored behind its identity. -/
theorem BR.put2 {w : World} {g gR n p1 c1 p2 c2 : _} {ps : List (List UInt8 × List UInt8)} {a b : List UInt8} (h : BR w g gR n ps) (hu : BRU w gR (ps.length * 2) (.slice p1 a.length c1)) (h1 : HBN w g (.slice p1 a.length c1) a) (h2 : HBN w g (.slice p2 b.length c2) b) (hk : ps.length < n) :
    TK 90 w (w.setCell ⟨gR, ps.length * 2 + 1, none⟩ (.slice p2 b.length c2)) ∧ BR (w.setCell ⟨gR, ps.length * 2 + 1, none⟩ (.slice p2 b.length c2)) g gR n (ps ++ [(a, b)]) := by
  obtain ⟨cs, k1, k2, k3⟩ := h
  obtain ⟨cs', k4, k5⟩ := hu
  rw [k1] at k4
  simp only [Option.some.injEq, Obj.cells.injEq, and_true] at k4
  subst k4
  have ho : Only gR w (w.setCell ⟨gR, ps.length * 2 + 1, none⟩ (.slice p2 b.length c2)) := (Only.refl gR w).setCell _ _
  have t : TK 90 w (w.setCell ⟨gR, ps.length * 2 + 1, none⟩ (.slice p2 b.length c2)) := TK.of_only ho k1
  refine ⟨t, cs.setIfInBounds (ps.length * 2 + 1) (.slice p2 b.length c2), by rw [heap_setCell_same w gR _ _ _ _ k1], by simp [k2], fun j x hx => ?_⟩
  by_cases hj : j < ps.length
  · rw [List.getElem?_append_left hj] at hx
    obtain ⟨p1', c1', p2', c2', q1, q2, q3, q4⟩ := k3 j x hx
    refine ⟨p1', c1', p2', c2', ?_, ?_, q3.tk t (by decide), q4.tk t (by decide)⟩
    · rw [Array.getElem?_setIfInBounds_ne (by omega)]; exact q1
    · rw [Array.getElem?_setIfInBounds_ne (by omega)]; exact q2
  · rw [List.getElem?_append_right (by omega)] at hx
    cases hj2 : j - ps.length with
    | succ i => rw [hj2] at hx; simp at hx
    | zero =>
      rw [hj2] at hx
      simp at hx
      obtain rfl : j = ps.length := by omega
      subst hx
      refine ⟨p1, c1, p2, c2, ?_, ?_, h1.tk t (by decide), h2.tk t (by decide)⟩
      · rw [Array.getElem?_setIfInBounds_ne (by omega)]; exact k5
      · rw [Array.getElem?_setIfInBounds_self_of_lt (by omega)]

end Go.Proofs.YtcgpgnajmfemhaaGreatDoor.Vf

namespace Go.Proofs.YtcgpgnajmfemhaaGreatDoor.Vf
open Go.RowKit

theorem drewC {w : World} {a : Addr} {v : Value} (h : w.cell? a = some v) : w.drew.cell? a = some v := h

theorem cell_onyA {g b i : Nat} {w w' : World} {v : Value} (ho : Only g w w') (h : w.cell? ⟨b, i, none⟩ = some v) (hne : b ≠ g) : w'.cell? ⟨b, i, none⟩ = some v := by
  rw [World.cell?_of_block (w := w) (ho.block b hne (cell_lt h))]
  exact h

set_option maxRecDepth 100000 in
set_option maxHeartbeats 1600000 in
theorem copiedB_any (v : Value) (bs : List (List UInt8 × List UInt8)) (w : World) (h : BA w v bs) (hn : bs.length ≤ 100) (hl : ∀ x ∈ bs, x.1.length ≤ 140737488355328 ∧ x.2.length ≤ 140737488355328) :
    Calls Tryz.prog 23 #[v] w fun e w' => ∃ gR, e = .returned (.slice (some ⟨gR, 0, none⟩) bs.length bs.length) ∧ w.heap.size ≤ gR ∧ BR w' gR gR bs.length bs ∧ Below w.heap.size w w' := by
  obtain ⟨p, c, rfl⟩ := h.shape
  obtain ⟨i0, hi, hz0, hz1, hz2⟩ := info_parts i_bind
  go_enter Tryz.func23, Tryz.ntmps23
  go_wp2_with (first | (at_make; refine wpList_make_full _ rfl _ _ 22 rfl w.heap.size 90 i0 _ 2 Tryz.underlying22 hi hz0 hz1 .i64 .i64 _ _ bs.length rfl rfl ?qa ?qb ?qc ?qd ?qe ?_))
  case qa => rfl
  case qb => rfl
  case qc => rw [hz2]; omega
  case qd => unfold maxLen; omega
  case qe => exact Nat.le_refl _
  intro w4 hown4 hgrow4
  have hb4 : Below w.heap.size w w4 := (Below.refl _ w).grown hgrow4 (Nat.le_refl _) (by intro k hk; cases hk)
  have br4 : BR w4 w.heap.size w.heap.size bs.length [] := by
    rcases hown4.2 with ⟨e, _⟩ | ⟨g', cap, cur, e, _, hg', hl, _, hcs, _⟩
    · cases e
    · simp only [Value.slice.injEq, Option.some.injEq, Addr.mk.injEq, and_true, true_and] at e
      obtain ⟨rfl, rfl⟩ := e
      exact ⟨cur, hg', hcs, fun j x hx => by simp at hx⟩
  have hgR : w.heap.size ≤ w.heap.size := Nat.le_refl _
  obtain ⟨gR, hgg⟩ : ∃ gR, w.heap.size = gR := ⟨_, rfl⟩
  rw [hgg] at br4 ⊢
  rw [hgg] at hb4
  clear hown4 hgrow4 hgR
  go_wp2
  go_loopw [11] (fun i wr => ∃ k : Nat, k ≤ bs.length ∧ i = .int .i64 (k : Int) ∧ BR wr gR gR bs.length (bs.take k) ∧ Below gR w wr) (fun i _ => bs.length - (intOf i).toNat)
  case atStart => exact ⟨0, Nat.zero_le _, rfl, by simpa using br4, hb4⟩
  case round =>
    clear br4 hb4
    obtain ⟨k, hk, rfl, br, hbe⟩ := hrel
    by_cases hlt : k < bs.length
    · have hlt2 : (k : Int) < (bs.length : Int) := by omega
      obtain ⟨bl, o, rfl⟩ := h.addr (by omega)
      obtain ⟨x, q, kc, r, d, hx, c1, c2, h1, h2⟩ := h.get k hlt
      have hbw : Below w.heap.size w wr := by rw [hgg]; exact hbe
      have e1 := cell_later hbw c1
      have e2 := cell_later hbw c2
      have hxl := hl x (List.mem_of_getElem? hx.out)
      obtain ⟨⟨gcs, gty⟩⟩ : Nonempty (∃ cs, wr.heap[gR]? = some (.cells cs 90 (0, 0))) := ⟨br.choose, br.choose_spec.1⟩
      have hgl : gR < wr.heap.size := (Array.getElem?_eq_some_iff.1 gty).1
      have bA := (Below.refl wr.heap.size wr).alloc (Nat.le_refl _) (.cells #[.slice q x.1.length kc, .slice r x.2.length d] 90)
      have gA := heap_alloc_new wr (.cells #[.slice q x.1.length kc, .slice r x.2.length d] 90)
      obtain ⟨V, hV⟩ : ∃ V, wr.alloc (.cells #[.slice q x.1.length kc, .slice r x.2.length d] 90) = V := ⟨_, rfl⟩
      rw [hV] at bA gA
      have bV := hbw.trans (bA.mono hbw.size)
      have bD : Below V.heap.size V V.drew := (Below.refl _ _).drew
      have bVD := bV.trans (bD.mono bV.size)
      obtain ⟨gb, hgb⟩ : ∃ gb, wr.heap.size = gb := ⟨_, rfl⟩
      have hne : gb ≠ gR := by omega
      have k0 : V.cell? ⟨gb, 0, none⟩ = some (.slice q x.1.length kc) := by rw [← hgb, cell_of_row _ _ 0 _ _ _ gA]; rfl
      have k1 : V.cell? ⟨gb, 1, none⟩ = some (.slice r x.2.length d) := by rw [← hgb, cell_of_row _ _ 1 _ _ _ gA]; rfl
      have hQ : V.cell? ⟨gb, 0, none⟩ = some (.slice q x.1.length kc) ∧ V.cell? ⟨gb, 1, none⟩ = some (.slice r x.2.length d) := ⟨k0, k1⟩
      have hQd : V.drew.cell? ⟨gb, 0, none⟩ = some (.slice q x.1.length kc) ∧ V.drew.cell? ⟨gb, 1, none⟩ = some (.slice r x.2.length d) := ⟨drewC k0, drewC k1⟩
      have hC1 := clone_own _ x.1 V.drew (h1.later bVD) hxl.1
      have hC2 := fun W hb => clone_own _ x.2 W (h2.later hb) hxl.2
      have gV := (bA.block _ hgl).trans gty
      have brV := br.tk (TK.of_below (T := 3) bA) (by decide) (by decide)
      have gD := (bD.block _ (Array.getElem?_eq_some_iff.1 gV).1).trans gV
      have brD := brV.tk (TK.of_below (T := 3) bD) (by decide) (by decide)
      have htl : (bs.take k).length = k := by simp; omega
      have HX : Hid (bs.take (k + 1) = bs.take k ++ [x]) := by show _ = _; rw [List.take_add_one, hx.out]; rfl
      clear br hbe hbw bA gA bV brV gV gty h1 h2 hl hxl c1 c2
      go_wp2
      go_region_held3 (fun w' => w'.cell? ⟨gb, 0, none⟩ = some (.slice q x.1.length kc) ∧ w'.cell? ⟨gb, 1, none⟩ = some (.slice r x.2.length d)) (first | with_reducible exact hQ | with_reducible exact hQd | with_reducible exact hD1 | with_reducible exact hD2 | with_reducible exact hF) (first
        | (go_at_call 44; have hz := hD1; refine (hC2 _ b5w).mono ?_; rintro e w6 ⟨p6, c6, rfl, o6, b6⟩; have b6w := b5w.trans (b6.mono b5w.size); have hD2 : w6.cell? ⟨gb, 0, none⟩ = some (.slice q x.1.length kc) ∧ w6.cell? ⟨gb, 1, none⟩ = some (.slice r x.2.length d) := ⟨cell_later b6 hD1.1, cell_later b6 hD1.2⟩; have br6 := br5.tk (TK.of_below (T := 3) b6) (by decide) (by decide); have g6 := (b6.block _ (Array.getElem?_eq_some_iff.1 g5).1).trans g5; obtain ⟨⟨z1, y1⟩, f1, _⟩ := br6.cell (k * 2) (by omega); obtain ⟨⟨z2, y2⟩, f2, _⟩ := br6.cell (k * 2 + 1) (by omega); have hon : Only gR w6 ((w6.setCell ⟨gR, k * 2, none⟩ (.slice p5 x.1.length c5)).setCell ⟨gR, k * 2 + 1, none⟩ (.slice p6 x.2.length c6)) := ((Only.refl gR w6).setCell _ _).setCell _ _; have hF : ((w6.setCell ⟨gR, k * 2, none⟩ (.slice p5 x.1.length c5)).setCell ⟨gR, k * 2 + 1, none⟩ (.slice p6 x.2.length c6)).cell? ⟨gb, 0, none⟩ = some (.slice q x.1.length kc) ∧ ((w6.setCell ⟨gR, k * 2, none⟩ (.slice p5 x.1.length c5)).setCell ⟨gR, k * 2 + 1, none⟩ (.slice p6 x.2.length c6)).cell? ⟨gb, 1, none⟩ = some (.slice r x.2.length d) := ⟨cell_onyA hon hD2.1 hne, cell_onyA hon hD2.2 hne⟩; have n5 := (hbn_of_owns (g := gR) o5 g5 (by decide)).later b6; have n6 := hbn_of_owns (g := gR) o6 g6 (by decide))
        | (go_at_call 44; refine hC1.mono ?_; rintro e w5 ⟨p5, c5, rfl, o5, b5⟩; have b5w := bVD.trans (b5.mono bVD.size); have hD1 : w5.cell? ⟨gb, 0, none⟩ = some (.slice q x.1.length kc) ∧ w5.cell? ⟨gb, 1, none⟩ = some (.slice r x.2.length d) := ⟨cell_later b5 hQd.1, cell_later b5 hQd.2⟩; have br5 := brD.tk (TK.of_below (T := 3) b5) (by decide) (by decide); have g5 := (b5.block _ (Array.getElem?_eq_some_iff.1 gD).1).trans gD))
      have t7 := br6.put1 (.slice p5 x.1.length c5)
      have bu7 := br6.bru (.slice p5 x.1.length c5) (by omega)
      rw [htl] at t7 bu7
      obtain ⟨t7, br7⟩ := t7
      have t8 := br7.put2 (by rw [htl]; exact bu7) (n5.tk t7 (by decide)) (n6.tk t7 (by decide)) (by omega)
      rw [htl, ← HX.out] at t8
      have br8 := t8.2
      have b8w := b6w.trans (hon.below (by rw [hgg]; exact Nat.le_refl _))
      rw [hgg] at b8w
      clear hQ hQd hD1 hD2 hF br5 br6 br7 bu7 t7 t8 n5 n6 o5 o6 b5 b6 g5 g6 hC1 hC2 gD brD hon b5w b6w bD bVD k0 k1 hV y1 y2 f1 f2 e1 e2
      go_wp2
      go_roundw
      case rel => first | exact ⟨k + 1, by omega, by go_num, br8, b8w⟩ | ((repeat apply Exists.intro); exact ⟨⟨k + 1, by omega, by go_num, br8, b8w⟩, rfl⟩)
      case measure => simp [intOf]; omega
    · obtain rfl : k = bs.length := by omega
      have hnk : ¬ (bs.length : Int) < (bs.length : Int) := by omega
      rw [List.take_length] at br
      go_wp2
      go_ret
      exact ⟨gR, rfl, Nat.le_refl _, br, hbe⟩

end Go.Proofs.YtcgpgnajmfemhaaGreatDoor.Vf

namespace Go.Proofs.YtcgpgnajmfemhaaGreatDoor
open Go.RowKit

set_option maxRecDepth 100000 in
set_option maxHeartbeats 2000000 in
theorem twice_any (v : Value) (bs : List (List UInt8 × List UInt8)) (w : World) (h : BA w v bs) (hbig : bs.length ≤ 1048576) :
    Calls Tryz.prog 43 #[v] w fun x w' => ∃ B : Bool, x = .returned (.bool B) ∧ (B = true ↔ two bs bs.length) ∧ Below w.heap.size w w' := by
  obtain ⟨p, c, rfl⟩ := h.shape
  have K := Maps.string_keyed (P := Tryz.prog) Tryz.underlying9
  have hmk : (w.alloc (.map #[] 0)).ownsMap (H := Value) Tryz.prog 9 (plainElem Tryz.prog 3) w.heap.size 0 (.map []) := World.ownsMap_made w _ _ _
  have hmm := @run_makeMap Tryz.prog
  go_enter Tryz.func43, Tryz.ntmps43
  go_wp2
  go_loopw [11] (fun i wr => ∃ (k : Nat) (D : DataW Value), k ≤ bs.length ∧ i = .int .i64 (k : Int) ∧ wr.ownsMap Tryz.prog 9 (plainElem Tryz.prog 3) w.heap.size k D ∧ Hid (hasIds D bs k ∧ ¬ two bs k) ∧ Below w.heap.size w wr) (fun i _ => bs.length - (intOf i).toNat)
  case atStart => exact ⟨0, .map [], Nat.zero_le _, rfl, hmk, ⟨hasIds_none bs, fun ⟨i, j, _, _, h1, h2, _⟩ => by omega⟩, (Below.refl _ _).alloc (Nat.le_refl _) _⟩
  case round =>
    clear hmk
    obtain ⟨k, D, hk, rfl, ho, hH, hb⟩ := hrel
    have hsz := hb.size
    by_cases hlt : k < bs.length
    · obtain ⟨bl, o, rfl⟩ := h.addr (by omega)
      obtain ⟨x, q, kc, r, d, hx, c1, c2, h1, h2⟩ := h.get k hlt
      have hlt2 : (k : Int) < (bs.length : Int) := by omega
      have e1 := cell_later hb c1
      have e2 := cell_later hb c2
      have bA := (Below.refl wr.heap.size wr).alloc (Nat.le_refl _) (.cells #[.slice q x.1.length kc, .slice r x.2.length d] 90)
      have oA := ho.alloc (.cells #[.slice q x.1.length kc, .slice r x.2.length d] 90)
      have hS := ((h1.later hb).later bA).str (P := Tryz.prog) 37 5 9 Tryz.underlying37 Tryz.underlying5 Tryz.underlying9
      have hxl : x.1.length ≤ maxLen := h1.len_le
      have hkey : keyOf Tryz.prog 9 (.string ⟨x.1.toArray⟩) = some (kS x.1) := by
        rw [WideMaps.keyOf_string_mk Tryz.underlying9 (show (ByteArray.mk x.1.toArray).size ≤ maxLen from hxl)]
        rfl
      obtain ⟨va, pa, hrun, _⟩ := oA.look_ok K Tryz.underlying152 (z := .int .i64 0) (by rfl) (plainElem_int Tryz.underlying3 (by decide)) hkey
      cases hh : Maps.has D (kS x.1) with
      | true =>
        rw [hh] at hrun
        have HT : Hid (two bs bs.length) := two_hit hH.out.1 hx hlt hh
        have HB1 : Hid (Below w.heap.size w (wr.alloc (.cells #[.slice q x.1.length kc, .slice r x.2.length d] 90))) := hb.alloc hsz _
        clear hH hx h1 h2 bA oA hkey c1 c2 hh ho
        go_wp2
        go_ret
        exact ⟨true, rfl, by simpa using HT.out, HB1.out⟩
      | false =>
        rw [hh] at hrun
        have HN : Hid (¬ two bs (k + 1)) := two_miss hH.out.1 hx hH.out.2 hh
        have HI : Hid (hasIds (D.put (kS x.1) (.lit (.int .i64 (k : Int)))) bs (k + 1)) := hasIds_put ho.isMap hH.out.1 hx
        have hwf : (Lit.int .i64 (k : Int)).wf = true := Go.WalkArith.wf_i64 (by omega)
        have hb1 := hb.alloc hsz (.cells #[.slice q x.1.length kc, .slice r x.2.length d] 90)
        clear hH hx h1 h2 bA c1 c2 hh ho
        go_wp2_with (first | (at_mapUpdate; refine wpList_mapUpdate_own _ rfl _ _ _ 152 rfl 9 3 K Tryz.underlying152 _ w.heap.size k D rfl oA (by unfold maxLen; omega) _ _ (kS x.1) rfl rfl hkey (.lit (.int .i64 (k : Int))) [] (plainElem_int Tryz.underlying3 hwf) ?_) | go_in)
        intro w3 o3 g3
        have b3 : Below w.heap.size w w3 := hb1.grown g3 (by simp; omega) (fun j hj => by cases hj; exact Nat.le_refl _)
        clear oA g3 hb1 hrun hS e1 e2
        go_wp2
        go_roundw
        case rel => exact ⟨k + 1, _, by omega, by go_num, o3, ⟨HI.out, HN.out⟩, b3⟩
        case measure => simp [intOf]; omega
    · obtain rfl : k = bs.length := by omega
      have HN : Hid (¬ two bs bs.length) := hH.out.2
      clear hH ho
      go_wp2
      go_ret
      exact ⟨false, rfl, by simpa using HN.out, hb⟩

end Go.Proofs.YtcgpgnajmfemhaaGreatDoor

namespace Go.Proofs.YtcgpgnajmfemhaaGreatDoor
open Go.RowKit

/-- Whether an identity or a key is too long. -/
def longB (mi mk : Int) (bs : List (List UInt8 × List UInt8)) : Prop := ∃ x ∈ bs, mi < (x.1.length : Int) ∨ mk < (x.2.length : Int)

/-- What is wrong with a batch. -/
def ChkIs (mi mk : Int) (bs : List (List UInt8 × List UInt8)) (e : Int) : Prop :=
  (bs = [] ∧ e = 82) ∨ (32 < bs.length ∧ e = 4) ∨ (bs ≠ [] ∧ bs.length ≤ 32 ∧ longB mi mk bs ∧ e = 1) ∨ (bs ≠ [] ∧ bs.length ≤ 32 ∧ ¬ longB mi mk bs ∧ two bs bs.length ∧ e = 80) ∨ (bs ≠ [] ∧ bs.length ≤ 32 ∧ ¬ longB mi mk bs ∧ ¬ two bs bs.length ∧ e = 0)

theorem chk_one {mi mk : Int} {bs : List (List UInt8 × List UInt8)} {e f : Int} (h1 : ChkIs mi mk bs e) (h2 : ChkIs mi mk bs f) : e = f := by
  rcases h1 with ⟨a, rfl⟩ | ⟨a, rfl⟩ | ⟨a, b, c, rfl⟩ | ⟨a, b, c, d, rfl⟩ | ⟨a, b, c, d, rfl⟩ <;>
  rcases h2 with ⟨a', rfl⟩ | ⟨a', rfl⟩ | ⟨a', b', c', rfl⟩ | ⟨a', b', c', d', rfl⟩ | ⟨a', b', c', d', rfl⟩ <;>
  first | rfl | (exfalso; first | contradiction | omega | (subst_vars; simp at *))

/-- The parameters as they are handed in. -/
def parV (a b mi mk c d e f : Int) : Value := .agg #[.int .i64 a, .int .i64 b, .int .i64 mi, .int .i64 mk, .int .i64 c, .int .i64 d, .int .i64 e, .int .i64 f]

set_option maxRecDepth 100000 in
set_option maxHeartbeats 2000000 in
theorem check_any (a b mi mk c' d' e' f' : Int) (v : Value) (bs : List (List UInt8 × List UInt8)) (w : World) (h : BA w v bs) :
    Calls Tryz.prog 22 #[.agg #[.int .i64 a, .int .i64 b, .int .i64 mi, .int .i64 mk, .int .i64 c', .int .i64 d', .int .i64 e', .int .i64 f'], v] w fun x w' => ∃ e, x = .returned (.int .i64 e) ∧ ChkIs mi mk bs e ∧ Below w.heap.size w w' := by
  obtain ⟨p, c, rfl⟩ := h.shape
  have hlen := h.len.2
  unfold maxLen at hlen
  have b0 := (Below.refl w.heap.size w).alloc (Nat.le_refl _) (.cells #[.int .i64 a, .int .i64 b, .int .i64 mi, .int .i64 mk, .int .i64 c', .int .i64 d', .int .i64 e', .int .i64 f'] 25)
  have g0 := heap_alloc_new w (.cells #[.int .i64 a, .int .i64 b, .int .i64 mi, .int .i64 mk, .int .i64 c', .int .i64 d', .int .i64 e', .int .i64 f'] 25)
  have s0 : (w.alloc (.cells #[.int .i64 a, .int .i64 b, .int .i64 mi, .int .i64 mk, .int .i64 c', .int .i64 d', .int .i64 e', .int .i64 f'] 25)).heap.size = w.heap.size + 1 := by simp
  obtain ⟨V, hV⟩ : ∃ V, V = w.alloc (.cells #[.int .i64 a, .int .i64 b, .int .i64 mi, .int .i64 mk, .int .i64 c', .int .i64 d', .int .i64 e', .int .i64 f'] 25) := ⟨_, rfl⟩
  rw [← hV] at b0 g0 s0
  have hV1 := h.later b0
  have hTw := fun W (hB : Below V.heap.size V W) (hbig : bs.length ≤ 1048576) => twice_any (.slice p bs.length c) bs W (hV1.later hB) hbig
  clear h
  by_cases hz : bs.length = 0
  · have H : Hid (ChkIs mi mk bs 82) := .inl ⟨List.eq_nil_of_length_eq_zero hz, rfl⟩
    have n0 : ((bs.length : Int) == 0) = true := beq_iff_eq.2 (by omega)
    clear hTw hV1 g0
    go_enter Tryz.func22, Tryz.ntmps22
    go_wp2
    rw [← hV]
    go_ret
    exact ⟨_, rfl, H.out, b0⟩
  · have n0 : ((bs.length : Int) == 0) = false := beq_eq_false_iff_ne.2 (by omega)
    by_cases h32 : 32 < bs.length
    · have H : Hid (ChkIs mi mk bs 4) := .inr (.inl ⟨h32, rfl⟩)
      have n1 : (32 : Int) < (bs.length : Int) := by omega
      clear hTw hV1 g0 hz
      go_enter Tryz.func22, Tryz.ntmps22
      go_wp2
      rw [← hV]
      go_ret
      exact ⟨_, rfl, H.out, b0⟩
    · have n1 : decide ((32 : Int) < (bs.length : Int)) = false := by simp; omega
      have hne : Hid (bs ≠ []) := fun e => hz (by rw [e]; rfl)
      clear hz
      go_enter Tryz.func22, Tryz.ntmps22
      go_wp2
      rw [← hV]
      clear hV
      go_loopw [15] (fun i wr => ∃ k : Nat, k ≤ bs.length ∧ i = .int .i64 (k : Int) ∧ Hid (¬ longB mi mk (bs.take k)) ∧ Below V.heap.size V wr) (fun i _ => bs.length - (intOf i).toNat)
      case atStart => exact ⟨0, Nat.zero_le _, rfl, (by rintro ⟨x, hx, _⟩; simp at hx), Below.refl _ _⟩
      case round =>
        obtain ⟨k, hk, rfl, hH, hb⟩ := hrel
        have hsz := hb.size
        by_cases hlt : k < bs.length
        · obtain ⟨bl, o, rfl⟩ := hV1.addr (by omega)
          obtain ⟨x, q, kc, r, d, hx, c1, c2, h1, h2⟩ := hV1.get k hlt
          have hlt2 : (k : Int) < (bs.length : Int) := by omega
          have e1 := cell_later hb c1
          have e2 := cell_later hb c2
          have gW : wr.heap[w.heap.size]? = some (.cells #[.int .i64 a, .int .i64 b, .int .i64 mi, .int .i64 mk, .int .i64 c', .int .i64 d', .int .i64 e', .int .i64 f'] 25 (0, 0)) := (hb.block _ (by omega)).trans g0
          have bA := (Below.refl wr.heap.size wr).alloc (Nat.le_refl _) (.cells #[.slice q x.1.length kc, .slice r x.2.length d] 90)
          have gA : (wr.alloc (.cells #[.slice q x.1.length kc, .slice r x.2.length d] 90)).heap[w.heap.size]? = some (.cells #[.int .i64 a, .int .i64 b, .int .i64 mi, .int .i64 mk, .int .i64 c', .int .i64 d', .int .i64 e', .int .i64 f'] 25 (0, 0)) := (bA.block _ (by omega)).trans gW
          have p2 : (wr.alloc (.cells #[.slice q x.1.length kc, .slice r x.2.length d] 90)).cell? ⟨w.heap.size, 2, none⟩ = some (.int .i64 mi) := by rw [cell_of_row _ _ 2 _ _ _ gA]; rfl
          have p3 : (wr.alloc (.cells #[.slice q x.1.length kc, .slice r x.2.length d] 90)).cell? ⟨w.heap.size, 3, none⟩ = some (.int .i64 mk) := by rw [cell_of_row _ _ 3 _ _ _ gA]; rfl
          have hb1 := hb.alloc hsz (.cells #[.slice q x.1.length kc, .slice r x.2.length d] 90)
          have htk : bs.take (k + 1) = bs.take k ++ [x] := by rw [List.take_add_one, hx]; rfl
          have hmem : x ∈ bs := List.mem_of_getElem? hx
          by_cases l1 : mi < (x.1.length : Int)
          · have H : Hid (ChkIs mi mk bs 1) := .inr (.inr (.inl ⟨hne.out, by omega, ⟨x, hmem, .inl l1⟩, rfl⟩))
            have HB0 : Hid (Below w.heap.size w (wr.alloc (.cells #[.slice q x.1.length kc, .slice r x.2.length d] 90))) := b0.trans (hb1.mono (by omega))
            clear hH hx h1 h2 bA c1 c2 htk hmem gA gW g0 hTw hV1 hne hb hb1
            go_wp2
            go_ret
            exact ⟨_, rfl, H.out, HB0.out⟩
          · have d1 : decide (mi < (x.1.length : Int)) = false := by simpa using l1
            by_cases l2 : mk < (x.2.length : Int)
            · have H : Hid (ChkIs mi mk bs 1) := .inr (.inr (.inl ⟨hne.out, by omega, ⟨x, hmem, .inr l2⟩, rfl⟩))
              have HB0 : Hid (Below w.heap.size w (wr.alloc (.cells #[.slice q x.1.length kc, .slice r x.2.length d] 90))) := b0.trans (hb1.mono (by omega))
              clear hH hx h1 h2 bA c1 c2 htk hmem gA gW g0 hTw hV1 hne hb hb1
              go_wp2
              go_ret
              exact ⟨_, rfl, H.out, HB0.out⟩
            · have d2 : decide (mk < (x.2.length : Int)) = false := by simpa using l2
              have HL : Hid (¬ longB mi mk (bs.take (k + 1))) := by
                rintro ⟨y, hy, hl⟩
                rw [htk] at hy
                rcases List.mem_append.1 hy with hy | hy
                · exact hH.out ⟨y, hy, hl⟩
                · simp at hy
                  subst hy
                  omega
              clear hH hx h1 h2 bA c1 c2 htk hmem gA gW g0 hTw hV1 hne hb
              go_wp2
              go_roundw
              case rel => exact ⟨k + 1, by omega, by go_num, HL.out, hb1⟩
              case measure => simp [intOf]; omega
        · obtain rfl : k = bs.length := by omega
          have HL := hH.out
          rw [List.take_length] at HL
          have HL' : Hid (¬ longB mi mk bs) := HL
          have hTw' := hTw wr hb (by omega)
          clear hTw hH HL hV1 g0
          go_wp2_with fail
          refine hTw'.mono ?_
          rintro r w2 ⟨B, rfl, hB, hb2⟩
          clear hTw'
          have hb3 := (b0.trans (hb.mono (by omega))).trans (hb2.mono (by omega))
          cases B with
          | true =>
            have H : Hid (ChkIs mi mk bs 80) := .inr (.inr (.inr (.inl ⟨hne.out, by omega, HL'.out, hB.1 rfl, rfl⟩)))
            clear hB HL' hne
            go_wp2
            go_ret
            exact ⟨_, rfl, H.out, hb3⟩
          | false =>
            have H : Hid (ChkIs mi mk bs 0) := .inr (.inr (.inr (.inr ⟨hne.out, by omega, HL'.out, (fun h => absurd (hB.2 h) (by decide)), rfl⟩)))
            clear hB HL' hne
            go_wp2
            go_ret
            exact ⟨_, rfl, H.out, hb3⟩

end Go.Proofs.YtcgpgnajmfemhaaGreatDoor
