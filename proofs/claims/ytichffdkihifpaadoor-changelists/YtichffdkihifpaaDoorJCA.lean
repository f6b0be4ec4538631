/- What this text holds: a slice of bindings in memory (plain facts, no program): of each an identity and a key. What this text proves: an argument that is a directory's parameters, a binding, or a slice of bindings, as the claim's reading has it, holds these in memory. What this text proves: the walk of change.twice over this program: whether two bindings have one identity. What this text proves: the walk of change.Check over this program: what is wrong with a batch. What this text proves: the walks of annalslaw12's few and awake over this program. -/
import Derived.Test.YtichffdkihifpaaDoorFacts
import Derived.Maps.OwnSet
import Derived.Maps.Views
import Derived.Test.YtichffdkihifpaaDoorOpenD
import Derived.Deep.Strs
import Derived.Lib.SmallJoins
import Derived.WalkArith
import Derived.Lib.SlBytesConst
namespace Go.Proofs.YtichffdkihifpaaDoor
open Go.RowKit

/-- The value v is a slice of bindings: of each its identity and its key. -/
def BA (w : World) (v : Value) (bs : List (List UInt8 × List UInt8)) : Prop :=
  ∃ (p : Option Addr) (cap : Nat), v = .slice p bs.length cap ∧ bs.length ≤ cap ∧ cap ≤ maxLen ∧
    (bs ≠ [] → ∃ b o, p = some ⟨b, o, none⟩ ∧ ∀ (k : Nat) x, bs[k]? = some x → ∃ q c r d, w.cell? ⟨b, o + k * 2, none⟩ = some (.slice q x.1.length c) ∧ w.cell? ⟨b, o + k * 2 + 1, none⟩ = some (.slice r x.2.length d) ∧ HB w (.slice q x.1.length c) x.1 ∧ HB w (.slice r x.2.length d) x.2)

theorem BA.later {w w' : World} {v : Value} {bs : List (List UInt8 × List UInt8)} (h : BA w v bs) (hb : Below w.heap.size w w') : BA w' v bs := by
  obtain ⟨p, cap, e, h1, h2, h3⟩ := h
  refine ⟨p, cap, e, h1, h2, fun hn => ?_⟩
  obtain ⟨b, o, e1, e2⟩ := h3 hn
  refine ⟨b, o, e1, fun k x hx => ?_⟩
  obtain ⟨q, c, r, d, q1, q2, q3, q4⟩ := e2 k x hx
  exact ⟨q, c, r, d, cell_later hb q1, cell_later hb q2, q3.later hb, q4.later hb⟩

theorem BA.shape {w : World} {v : Value} {bs : List (List UInt8 × List UInt8)} (h : BA w v bs) : ∃ p c, v = .slice p bs.length c := by
  obtain ⟨p, cap, e, _⟩ := h
  exact ⟨p, cap, e⟩

theorem BA.len {w : World} {p : Option Addr} {n c : Nat} {bs : List (List UInt8 × List UInt8)} (h : BA w (.slice p n c) bs) : n = bs.length ∧ n ≤ c ∧ c ≤ maxLen := by
  obtain ⟨p', cap, e, h1, h2, _⟩ := h
  simp only [Value.slice.injEq] at e
  obtain ⟨rfl, rfl, rfl⟩ := e
  exact ⟨rfl, h1, h2⟩

theorem BA.addr {w : World} {p : Option Addr} {n c : Nat} {bs : List (List UInt8 × List UInt8)} (h : BA w (.slice p n c) bs) (hn : 0 < n) : ∃ b o, p = some ⟨b, o, none⟩ := by
  obtain ⟨p', cap, e, h1, h2, h3⟩ := h
  simp only [Value.slice.injEq] at e
  obtain ⟨rfl, rfl, rfl⟩ := e
  obtain ⟨b, o, e, _⟩ := h3 (fun h => by subst h; simp at hn)
  exact ⟨b, o, e⟩

/-- One binding: its cells, and what they hold. -/
theorem BA.get {w : World} {b o n c : Nat} {bs : List (List UInt8 × List UInt8)} (h : BA w (.slice (some ⟨b, o, none⟩) n c) bs) (i : Nat) (hi : i < n) :
    ∃ x q k r d, Hid (bs[i]? = some x) ∧ w.cell? ⟨b, o + i * 2, none⟩ = some (.slice q x.1.length k) ∧ w.cell? ⟨b, o + i * 2 + 1, none⟩ = some (.slice r x.2.length d) ∧ HB w (.slice q x.1.length k) x.1 ∧ HB w (.slice r x.2.length d) x.2 := by
  obtain ⟨p', cap, e, h1, h2, h3⟩ := h
  simp only [Value.slice.injEq] at e
  obtain ⟨rfl, rfl, rfl⟩ := e
  obtain ⟨b', o', e', hc⟩ := h3 (fun e => by subst e; simp at hi)
  simp only [Option.some.injEq, Addr.mk.injEq, and_true] at e'
  obtain ⟨rfl, rfl⟩ := e'
  obtain ⟨q, k, r, d, q1, q2, q3, q4⟩ := hc i bs[i] (List.getElem?_eq_getElem hi)
  exact ⟨bs[i], q, k, r, d, List.getElem?_eq_getElem hi, q1, q2, q3, q4⟩

/-- The first ones. -/
theorem BA.take {w : World} {p : Option Addr} {n c : Nat} {bs : List (List UInt8 × List UInt8)} (h : BA w (.slice p n c) bs) (k : Nat) (hk : k ≤ n) : BA w (.slice p k c) (bs.take k) := by
  obtain ⟨p', cap, e, h1, h2, h3⟩ := h
  simp only [Value.slice.injEq] at e
  obtain ⟨rfl, rfl, rfl⟩ := e
  refine ⟨p, c, ?_, by simp; omega, h2, fun hne => ?_⟩
  · congr 1
    simp
    omega
  · obtain ⟨b, o, e, hc⟩ := h3 (fun e => by subst e; simp at hne)
    refine ⟨b, o, e, fun i x hx => hc i x ?_⟩
    rw [List.getElem?_take] at hx
    split at hx
    · exact hx
    · cases hx

theorem s_bind : (Tryd.prog.info? 41).map (·.size) = some 2 := by kernel_rfl

/-- A key of a map: an identity as text. -/
def kS (l : List UInt8) : Lit := .string l

theorem kLit (l : List UInt8) : WideAt.IsKeyLit (kS l) := True.intro

/-- The map has the identities ahead of k. -/
def hasIds (D : DataW Value) (bs : List (List UInt8 × List UInt8)) (k : Nat) : Prop := ∀ l : List UInt8, Maps.has D (kS l) = true ↔ ∃ i, ∃ x : List UInt8 × List UInt8, i < k ∧ bs[i]? = some x ∧ x.1 = l

/-- Two of the first k have one identity. -/
def two (bs : List (List UInt8 × List UInt8)) (k : Nat) : Prop := ∃ i j, ∃ x y : List UInt8 × List UInt8, i < j ∧ j < k ∧ bs[i]? = some x ∧ bs[j]? = some y ∧ x.1 = y.1

theorem hasIds_none (bs : List (List UInt8 × List UInt8)) : hasIds (.map []) bs 0 := by
  intro l
  simp [Maps.has]

theorem hasIds_put {D : DataW Value} {bs : List (List UInt8 × List UInt8)} {k : Nat} {x : List UInt8 × List UInt8} {d : DataW Value} (hm : Maps.IsMap D) (h : hasIds D bs k) (hx : bs[k]? = some x) : hasIds (D.put (kS x.1) d) bs (k + 1) := by
  intro l
  by_cases hl : l = x.1
  · subst hl
    rw [Maps.has_put_same hm (kLit _)]
    simp only [true_iff]
    exact ⟨k, x, by omega, hx, rfl⟩
  · rw [Maps.has_put_other (by simpa [kS] using hl), h l]
    constructor
    · rintro ⟨i, y, h1, h2, h3⟩
      exact ⟨i, y, by omega, h2, h3⟩
    · rintro ⟨i, y, h1, h2, h3⟩
      refine ⟨i, y, ?_, h2, h3⟩
      rcases Nat.lt_or_ge i k with hi | hi
      · exact hi
      · obtain rfl : i = k := by omega
        rw [hx] at h2
        simp only [Option.some.injEq] at h2
        subst h2
        exact absurd h3.symm hl

theorem two_hit {D : DataW Value} {bs : List (List UInt8 × List UInt8)} {k n : Nat} {x : List UInt8 × List UInt8} (h : hasIds D bs k) (hx : bs[k]? = some x) (hk : k < n) (hh : Maps.has D (kS x.1) = true) : two bs n := by
  obtain ⟨i, y, h1, h2, h3⟩ := (h x.1).1 hh
  exact ⟨i, k, y, x, h1, hk, h2, hx, h3⟩

theorem two_miss {D : DataW Value} {bs : List (List UInt8 × List UInt8)} {k : Nat} {x : List UInt8 × List UInt8} (h : hasIds D bs k) (hx : bs[k]? = some x) (hn : ¬ two bs k) (hh : Maps.has D (kS x.1) = false) : ¬ two bs (k + 1) := by
  rintro ⟨i, j, a, b, h1, h2, h3, h4, h5⟩
  rcases Nat.lt_or_ge j k with hj | hj
  · exact hn ⟨i, j, a, b, h1, hj, h3, h4, h5⟩
  · obtain rfl : j = k := by omega
    rw [hx] at h4
    simp only [Option.some.injEq] at h4
    subst h4
    have := (h x.1).2 ⟨i, a, h1, h3, h5⟩
    rw [hh] at this
    cases this

end Go.Proofs.YtichffdkihifpaaDoor

namespace Go.Proofs.YtichffdkihifpaaDoor
open Go.ChangeShapes Go.WideShapes Go.ChangeAt Go.RowKit

section
variable {H : Type} {enc : TypeId × Value → H} {P : Program} {w : World} {base : Nat} {spare : Nat → Bool} {held : Bool}

theorem array8 {α : Type} {cs : Array α} (h : cs.size = 8) : ∃ c0 c1 c2 c3 c4 c5 c6 c7, cs = #[c0, c1, c2, c3, c4, c5, c6, c7] := by
  obtain ⟨l⟩ := cs
  match l, h with
  | [c0, c1, c2, c3, c4, c5, c6, c7], _ => exact ⟨c0, c1, c2, c3, c4, c5, c6, c7, rfl⟩

/-- A struct of eight fields of one cell each, opened. -/
theorem open_agg8 {r : Reach} {b0 : Nat} {t : TypeId} {f0 f1 f2 f3 f4 f5 f6 f7 : Field} {v : Value} {d : DataW H} {p : List MemPlace} (hs : P.underlying t = some (.struct #[f0, f1, f2, f3, f4, f5, f6, f7])) (hone : Go.Deep.oneCellFields P #[f0, f1, f2, f3, f4, f5, f6, f7] = true) (hC : P.cellsOf t = 8)
    (hv : Value.okWide P w r b0 t v) (h : DataW.Trod enc P w base spare held t v d p) :
    ∃ (c0 c1 c2 c3 c4 c5 c6 c7 : Value) (y0 y1 y2 y3 y4 y5 y6 y7 : DataW H × List MemPlace) (n : Nat), v = .agg #[c0, c1, c2, c3, c4, c5, c6, c7] ∧ DataW.trod enc P w base spare held n f0.type [c0] = some y0 ∧ DataW.trod enc P w base spare held n f1.type [c1] = some y1 ∧ DataW.trod enc P w base spare held n f2.type [c2] = some y2 ∧ DataW.trod enc P w base spare held n f3.type [c3] = some y3 ∧ DataW.trod enc P w base spare held n f4.type [c4] = some y4 ∧ DataW.trod enc P w base spare held n f5.type [c5] = some y5 ∧ DataW.trod enc P w base spare held n f6.type [c6] = some y6 ∧ DataW.trod enc P w base spare held n f7.type [c7] = some y7 := by
  obtain ⟨cs, rfl, hsz⟩ := okWide_struct hs hv
  obtain ⟨c0, c1, c2, c3, c4, c5, c6, c7, rfl⟩ := array8 (hsz.trans hC)
  obtain ⟨fuel, hf⟩ := h
  obtain ⟨xs, n, _, _, _, hlen, hg⟩ := DataW.trod_struct hs hf
  obtain ⟨o0, k0⟩ := Go.Deep.hone_of hone 0 f0 rfl
  obtain ⟨o1, k1⟩ := Go.Deep.hone_of hone 1 f1 rfl
  obtain ⟨o2, k2⟩ := Go.Deep.hone_of hone 2 f2 rfl
  obtain ⟨o3, k3⟩ := Go.Deep.hone_of hone 3 f3 rfl
  obtain ⟨o4, k4⟩ := Go.Deep.hone_of hone 4 f4 rfl
  obtain ⟨o5, k5⟩ := Go.Deep.hone_of hone 5 f5 rfl
  obtain ⟨o6, k6⟩ := Go.Deep.hone_of hone 6 f6 rfl
  obtain ⟨o7, k7⟩ := Go.Deep.hone_of hone 7 f7 rfl
  match xs, hlen with
  | [y0, y1, y2, y3, y4, y5, y6, y7], _ =>
    have g0 := hg 0 f0 rfl
    have g1 := hg 1 f1 rfl
    have g2 := hg 2 f2 rfl
    have g3 := hg 3 f3 rfl
    have g4 := hg 4 f4 rfl
    have g5 := hg 5 f5 rfl
    have g6 := hg 6 f6 rfl
    have g7 := hg 7 f7 rfl
    exact ⟨c0, c1, c2, c3, c4, c5, c6, c7, y0, y1, y2, y3, y4, y5, y6, y7, n, rfl, by simpa [Value.cells, o0, k0] using g0, by simpa [Value.cells, o1, k1] using g1, by simpa [Value.cells, o2, k2] using g2, by simpa [Value.cells, o3, k3] using g3, by simpa [Value.cells, o4, k4] using g4, by simpa [Value.cells, o5, k5] using g5, by simpa [Value.cells, o6, k6] using g6, by simpa [Value.cells, o7, k7] using g7⟩
end

set_option maxRecDepth 100000 in
theorem open_params {H : Type} {enc : TypeId × Value → H} {W : World} {base : Nat} {v0 : Value} {d0 : DataW H} {p0 : List MemPlace}
    (hval : Value.okWide Tryd.prog W .any base 61 v0) (h0 : DataW.Trod enc Tryd.prog W 0 (fun _ => true) true 61 v0 d0 p0) :
    ∃ (a b mi mk c d e f : Int), v0 = .agg #[.int .i64 a, .int .i64 b, .int .i64 mi, .int .i64 mk, .int .i64 c, .int .i64 d, .int .i64 e, .int .i64 f] ∧ (Lit.int .i64 mi).wf = true ∧ (Lit.int .i64 mk).wf = true := by
  obtain ⟨c0, c1, c2, c3, c4, c5, c6, c7, y0, y1, y2, y3, y4, y5, y6, y7, n, rfl, t0, t1, t2, t3, t4, t5, t6, t7⟩ := open_agg8 Tryd.underlying61 (by kernel_rfl) (by kernel_rfl) hval h0
  obtain ⟨a0, e0, _, w0⟩ := DataW.trod_int Tryd.underlying3 t0
  obtain ⟨a1, e1, _, w1⟩ := DataW.trod_int Tryd.underlying3 t1
  obtain ⟨a2, e2, _, w2⟩ := DataW.trod_int Tryd.underlying3 t2
  obtain ⟨a3, e3, _, w3⟩ := DataW.trod_int Tryd.underlying3 t3
  obtain ⟨a4, e4, _, w4⟩ := DataW.trod_int Tryd.underlying3 t4
  obtain ⟨a5, e5, _, w5⟩ := DataW.trod_int Tryd.underlying3 t5
  obtain ⟨a6, e6, _, w6⟩ := DataW.trod_int Tryd.underlying3 t6
  obtain ⟨a7, e7, _, w7⟩ := DataW.trod_int Tryd.underlying3 t7
  obtain rfl : c0 = .int .i64 a0 := by simpa using e0
  obtain rfl : c1 = .int .i64 a1 := by simpa using e1
  obtain rfl : c2 = .int .i64 a2 := by simpa using e2
  obtain rfl : c3 = .int .i64 a3 := by simpa using e3
  obtain rfl : c4 = .int .i64 a4 := by simpa using e4
  obtain rfl : c5 = .int .i64 a5 := by simpa using e5
  obtain rfl : c6 = .int .i64 a6 := by simpa using e6
  obtain rfl : c7 = .int .i64 a7 := by simpa using e7
  exact ⟨a0, a1, a2, a3, a4, a5, a6, a7, rfl, w2, w3⟩

set_option maxRecDepth 100000 in
theorem open_bytesB {H : Type} {enc : TypeId × Value → H} {W : World} {v0 : Value} {y : DataW H × List MemPlace} {fuel : Nat}
    (hf : DataW.trod enc Tryd.prog W 0 (fun _ => true) true fuel 25 [v0] = some y) : ∃ l : List UInt8, HB W v0 l ∧ (l = [] ∨ ∃ elems spare, y.1 = .slice elems spare ∧ elems.length = l.length) := by
  rcases open_ints Tryd.underlying25 Tryd.underlying5 (by kernel_rfl) hf with ⟨hcs, _⟩ | ⟨x, l, c, zs, hcs, hy, hl, hm, hz, hx, hcell, hwz⟩
  · simp only [List.cons.injEq, and_true] at hcs
    subst hcs
    exact ⟨[], HB.nil W, .inl rfl⟩
  · simp only [List.cons.injEq, and_true] at hcs
    subst hcs
    have hzc : zs.length = c := by simpa using hz
    subst hx
    exact ⟨bytesOf (zs.take l), hb_cells hl hm hzc hcell hwz, .inr ⟨_, _, rfl, by simp [lits, bytesOf]⟩⟩

/-- What was read of bytes is as long as they are. -/
def AsLong {H : Type} (d : DataW H) (l : List UInt8) : Prop := l = [] ∨ ∃ elems spare, d = .slice elems spare ∧ elems.length = l.length

set_option maxRecDepth 100000 in
theorem open_cells2 {H : Type} {enc : TypeId × Value → H} {W : World} {cs : List Value} {y : DataW H × List MemPlace} {fuel : Nat} (hlen : cs.length = 2)
    (hf : DataW.trod enc Tryd.prog W 0 (fun _ => true) true fuel 41 cs = some y) : ∃ (u t : Value) (l m : List UInt8) (d e : DataW H), cs = [u, t] ∧ HB W u l ∧ HB W t m ∧ y.1 = .agg [d, e] ∧ AsLong d l ∧ AsLong e m := by
  match cs, hlen with
  | [c0, c1], _ =>
    obtain ⟨y0, y1, n, hy, _, h0, h1⟩ := trod_struct2 Tryd.underlying41 hf
    have k2 : Tryd.prog.cellsOf 25 = 1 := by kernel_rfl
    simp only [k2, List.drop_zero, List.take_succ_cons, List.take_zero] at h0
    simp only [k2, List.drop_succ_cons, List.drop_zero, List.take_succ_cons, List.take_zero] at h1
    obtain ⟨l, hl, el⟩ := open_bytesB h0
    obtain ⟨m, hm, em⟩ := open_bytesB h1
    exact ⟨c0, c1, l, m, y0.1, y1.1, rfl, hl, hm, by rw [hy], el, em⟩

set_option maxRecDepth 100000 in
theorem open_bind {H : Type} {enc : TypeId × Value → H} {W : World} {base : Nat} {v0 : Value} {d0 : DataW H} {p0 : List MemPlace}
    (hval : Value.okWide Tryd.prog W .any base 41 v0) (h0 : DataW.Trod enc Tryd.prog W 0 (fun _ => true) true 41 v0 d0 p0) :
    ∃ (u t : Value) (l m : List UInt8), v0 = .agg #[u, t] ∧ HB W u l ∧ HB W t m := by
  obtain ⟨v1, v2, y1, y2, n, rfl, _, _, t1, t2⟩ := Go.Joins.open_agg2 Tryd.underlying41 (by kernel_rfl) (by kernel_rfl) hval h0
  obtain ⟨l, hl, _⟩ := open_bytesB t1
  obtain ⟨m, hm, _⟩ := open_bytesB t2
  exact ⟨v1, v2, l, m, rfl, hl, hm⟩

set_option maxRecDepth 100000 in
theorem open_binds {H : Type} {enc : TypeId × Value → H} {W : World} {base : Nat} {v0 : Value} {d0 : DataW H} {p0 : List MemPlace}
    (hval : Value.okWide Tryd.prog W .any base 39 v0) (h0 : DataW.Trod enc Tryd.prog W 0 (fun _ => true) true 39 v0 d0 p0) :
    ∃ bs : List (List UInt8 × List UInt8), BA W v0 bs ∧ (bs = [] ∨ ∃ elems spare, d0 = .slice elems spare ∧ elems.length = bs.length ∧ ∀ (i : Nat) x y, bs[i]? = some x → elems[i]? = some y → ∃ d e, y = .agg [d, e] ∧ AsLong d x.1 ∧ AsLong e x.2) := by
  obtain ⟨a0, len0, cap0, rfl⟩ := okWide_slice Tryd.underlying39 hval
  obtain ⟨fuel, hf⟩ := h0
  rcases Go.Deep.open_slice Tryd.underlying39 hf with ⟨hcs, _⟩ | ⟨a, len, cap, m, n, D, Pl, hcs, _, hl, hm, hmm, hy, hx⟩
  · simp [Value.cells] at hcs
    obtain ⟨rfl, rfl, rfl⟩ := hcs
    exact ⟨[], ⟨none, 0, rfl, Nat.le_refl _, Nat.zero_le _, fun h => absurd rfl h⟩, .inl rfl⟩
  · simp [Value.cells] at hcs
    obtain ⟨rfl, rfl, rfl⟩ := hcs
    simp only [if_true] at hmm
    subst hmm
    have ce : Tryd.prog.cellsOf 41 = 2 := by kernel_rfl
    rw [ce] at hx
    have each : ∀ i, i < m → ∃ q : List UInt8 × List UInt8, ∃ u t d e, W.cell? (a.add (i * 2)) = some u ∧ W.cell? (a.add (i * 2 + 1)) = some t ∧ HB W u q.1 ∧ HB W t q.2 ∧ D i = .agg [d, e] ∧ AsLong d q.1 ∧ AsLong e q.2 := by
      intro i hi
      obtain ⟨cs', h1, h2⟩ := hx i hi
      obtain ⟨_, hlen, hcell⟩ := World.cells?_some h1
      obtain ⟨u, t, l, k, d, e, rfl, hu, ht, hd, el, ek⟩ := open_cells2 hlen h2
      have e0 := hcell 0 (by omega)
      have e1 := hcell 1 (by omega)
      rw [Go.Deep.add_add] at e0 e1
      exact ⟨(l, k), u, t, d, e, by simpa using e0, by simpa using e1, hu, ht, hd, el, ek⟩
    obtain ⟨q, hq⟩ := Go.Deep.choose_lt each
    refine ⟨(List.range len0).map q, ⟨some a, m, by simp, by simpa using hl, hm, fun hne => ?_⟩, .inr ⟨_, _, congrArg Prod.fst hy, by simp, fun i x y hxi hyi => ?_⟩⟩
    · have hlen : 0 < len0 := by
        rcases Nat.eq_zero_or_pos len0 with h | h
        · subst h
          exact absurd rfl hne
        · exact h
      obtain ⟨_, _, _, _, hc0, _⟩ := hq 0 (by omega)
      obtain ⟨b, o, spot⟩ := a
      have hs : spot = none := by simpa [Addr.add] using World.cell?_spot hc0
      subst hs
      refine ⟨b, o, rfl, fun i x hxi => ?_⟩
      have hi : i < len0 := by
        have := (List.getElem?_eq_some_iff.1 hxi).1
        simpa using this
      rw [List.getElem?_map, List.getElem?_range hi] at hxi
      simp only [Option.map_some, Option.some.injEq] at hxi
      subst hxi
      obtain ⟨u, t, _, _, c0, c1, hu, ht, _⟩ := hq i (by omega)
      rw [add_lit] at c0 c1
      obtain ⟨p1, k1, rfl⟩ := hu.shape
      obtain ⟨p2, k2, rfl⟩ := ht.shape
      exact ⟨p1, k1, p2, k2, c0, by rw [Nat.add_assoc]; exact c1, hu, ht⟩
    · have hi : i < len0 := by
        have := (List.getElem?_eq_some_iff.1 hxi).1
        simpa using this
      rw [List.getElem?_map, List.getElem?_range hi] at hxi hyi
      simp only [Option.map_some, Option.some.injEq] at hxi hyi
      subst hxi
      subst hyi
      obtain ⟨_, _, d, e, _, _, _, _, hd, e1, e2⟩ := hq i (by omega)
      exact ⟨d, e, hd, e1, e2⟩

end Go.Proofs.YtichffdkihifpaaDoor

namespace Go.Proofs.YtichffdkihifpaaDoor
open Go.RowKit

set_option maxRecDepth 100000 in
set_option maxHeartbeats 2000000 in
theorem twice_any (v : Value) (bs : List (List UInt8 × List UInt8)) (w : World) (h : BA w v bs) (hbig : bs.length ≤ 1048576) :
    Calls Tryd.prog 52 #[v] w fun x w' => ∃ B : Bool, x = .returned (.bool B) ∧ (B = true ↔ two bs bs.length) ∧ Below w.heap.size w w' := by
  obtain ⟨p, c, rfl⟩ := h.shape
  have K := Maps.string_keyed (P := Tryd.prog) Tryd.underlying9
  have hmk : (w.alloc (.map #[] 0)).ownsMap (H := Value) Tryd.prog 9 (plainElem Tryd.prog 3) w.heap.size 0 (.map []) := World.ownsMap_made w _ _ _
  have hmm := @run_makeMap Tryd.prog
  go_enter Tryd.func52, Tryd.ntmps52
  go_wp2
  go_loopw [11] (fun i wr => ∃ (k : Nat) (D : DataW Value), k ≤ bs.length ∧ i = .int .i64 (k : Int) ∧ wr.ownsMap Tryd.prog 9 (plainElem Tryd.prog 3) w.heap.size k D ∧ Hid (hasIds D bs k ∧ ¬ two bs k) ∧ Below w.heap.size w wr) (fun i _ => bs.length - (intOf i).toNat)
  case atStart => exact ⟨0, .map [], Nat.zero_le _, rfl, hmk, ⟨hasIds_none bs, fun ⟨i, j, _, _, h1, h2, _⟩ => by omega⟩, (Below.refl _ _).alloc (Nat.le_refl _) _⟩
  case round =>
    clear hmk
    obtain ⟨k, D, hk, rfl, ho, hH, hb⟩ := hrel
    have hsz := hb.size
    by_cases hlt : k < bs.length
    · obtain ⟨bl, o, rfl⟩ := h.addr (by omega)
      obtain ⟨x, q, kc, r, d, hx, c1, c2, h1, h2⟩ := h.get k hlt
      have hlt2 : (k : Int) < (bs.length : Int) := by omega
      have e1 := cell_later hb c1
      have e2 := cell_later hb c2
      have bA := (Below.refl wr.heap.size wr).alloc (Nat.le_refl _) (.cells #[.slice q x.1.length kc, .slice r x.2.length d] 41)
      have oA := ho.alloc (.cells #[.slice q x.1.length kc, .slice r x.2.length d] 41)
      have hS := ((h1.later hb).later bA).str (P := Tryd.prog) 25 5 9 Tryd.underlying25 Tryd.underlying5 Tryd.underlying9
      have hxl : x.1.length ≤ maxLen := h1.len_le
      have hkey : keyOf Tryd.prog 9 (.string ⟨x.1.toArray⟩) = some (kS x.1) := by
        rw [WideMaps.keyOf_string_mk Tryd.underlying9 (show (ByteArray.mk x.1.toArray).size ≤ maxLen from hxl)]
        rfl
      obtain ⟨va, pa, hrun, _⟩ := oA.look_ok K Tryd.underlying69 (z := .int .i64 0) (by rfl) (plainElem_int Tryd.underlying3 (by decide)) hkey
      cases hh : Maps.has D (kS x.1) with
      | true =>
        rw [hh] at hrun
        have HT : Hid (two bs bs.length) := two_hit hH.out.1 hx hlt hh
        have HB1 : Hid (Below w.heap.size w (wr.alloc (.cells #[.slice q x.1.length kc, .slice r x.2.length d] 41))) := hb.alloc hsz _
        clear hH hx h1 h2 bA oA hkey c1 c2 hh ho
        go_wp2
        go_ret
        exact ⟨true, rfl, by simpa using HT.out, HB1.out⟩
      | false =>
        rw [hh] at hrun
        have HN : Hid (¬ two bs (k + 1)) := two_miss hH.out.1 hx hH.out.2 hh
        have HI : Hid (hasIds (D.put (kS x.1) (.lit (.int .i64 (k : Int)))) bs (k + 1)) := hasIds_put ho.isMap hH.out.1 hx
        have hwf : (Lit.int .i64 (k : Int)).wf = true := Go.WalkArith.wf_i64 (by omega)
        have hb1 := hb.alloc hsz (.cells #[.slice q x.1.length kc, .slice r x.2.length d] 41)
        clear hH hx h1 h2 bA c1 c2 hh ho
        go_wp2_with (first | (at_mapUpdate; refine wpList_mapUpdate_own _ rfl _ _ _ 69 rfl 9 3 K Tryd.underlying69 _ w.heap.size k D rfl oA (by unfold maxLen; omega) _ _ (kS x.1) rfl rfl hkey (.lit (.int .i64 (k : Int))) [] (plainElem_int Tryd.underlying3 hwf) ?_) | go_in)
        intro w3 o3 g3
        have b3 : Below w.heap.size w w3 := hb1.grown g3 (by simp; omega) (fun j hj => by cases hj; exact Nat.le_refl _)
        clear oA g3 hb1 hrun hS e1 e2
        go_wp2
        go_roundw
        case rel => exact ⟨k + 1, _, by omega, by go_num, o3, ⟨HI.out, HN.out⟩, b3⟩
        case measure => simp [intOf]; omega
    · obtain rfl : k = bs.length := by omega
      have HN : Hid (¬ two bs bs.length) := hH.out.2
      clear hH ho
      go_wp2
      go_ret
      exact ⟨false, rfl, by simpa using HN.out, hb⟩

end Go.Proofs.YtichffdkihifpaaDoor

namespace Go.Proofs.YtichffdkihifpaaDoor
open Go.RowKit

/-- Whether an identity or a key is too long. -/
def longB (mi mk : Int) (bs : List (List UInt8 × List UInt8)) : Prop := ∃ x ∈ bs, mi < (x.1.length : Int) ∨ mk < (x.2.length : Int)

/-- What is wrong with a batch. -/
def ChkIs (mi mk : Int) (bs : List (List UInt8 × List UInt8)) (e : Int) : Prop :=
  (bs = [] ∧ e = 82) ∨ (32 < bs.length ∧ e = 4) ∨ (bs ≠ [] ∧ bs.length ≤ 32 ∧ longB mi mk bs ∧ e = 1) ∨ (bs ≠ [] ∧ bs.length ≤ 32 ∧ ¬ longB mi mk bs ∧ two bs bs.length ∧ e = 80) ∨ (bs ≠ [] ∧ bs.length ≤ 32 ∧ ¬ longB mi mk bs ∧ ¬ two bs bs.length ∧ e = 0)

theorem chk_one {mi mk : Int} {bs : List (List UInt8 × List UInt8)} {e f : Int} (h1 : ChkIs mi mk bs e) (h2 : ChkIs mi mk bs f) : e = f := by
  rcases h1 with ⟨a, rfl⟩ | ⟨a, rfl⟩ | ⟨a, b, c, rfl⟩ | ⟨a, b, c, d, rfl⟩ | ⟨a, b, c, d, rfl⟩ <;>
  rcases h2 with ⟨a', rfl⟩ | ⟨a', rfl⟩ | ⟨a', b', c', rfl⟩ | ⟨a', b', c', d', rfl⟩ | ⟨a', b', c', d', rfl⟩ <;>
  first | rfl | (exfalso; first | contradiction | omega | (subst_vars; simp at *))

/-- The parameters as they are handed in. -/
def parV (a b mi mk c d e f : Int) : Value := .agg #[.int .i64 a, .int .i64 b, .int .i64 mi, .int .i64 mk, .int .i64 c, .int .i64 d, .int .i64 e, .int .i64 f]

set_option maxRecDepth 100000 in
set_option maxHeartbeats 2000000 in
theorem check_any (a b mi mk c' d' e' f' : Int) (v : Value) (bs : List (List UInt8 × List UInt8)) (w : World) (h : BA w v bs) :
    Calls Tryd.prog 46 #[.agg #[.int .i64 a, .int .i64 b, .int .i64 mi, .int .i64 mk, .int .i64 c', .int .i64 d', .int .i64 e', .int .i64 f'], v] w fun x w' => ∃ e, x = .returned (.int .i64 e) ∧ ChkIs mi mk bs e ∧ Below w.heap.size w w' := by
  obtain ⟨p, c, rfl⟩ := h.shape
  have hlen := h.len.2
  unfold maxLen at hlen
  have b0 := (Below.refl w.heap.size w).alloc (Nat.le_refl _) (.cells #[.int .i64 a, .int .i64 b, .int .i64 mi, .int .i64 mk, .int .i64 c', .int .i64 d', .int .i64 e', .int .i64 f'] 61)
  have g0 := heap_alloc_new w (.cells #[.int .i64 a, .int .i64 b, .int .i64 mi, .int .i64 mk, .int .i64 c', .int .i64 d', .int .i64 e', .int .i64 f'] 61)
  have s0 : (w.alloc (.cells #[.int .i64 a, .int .i64 b, .int .i64 mi, .int .i64 mk, .int .i64 c', .int .i64 d', .int .i64 e', .int .i64 f'] 61)).heap.size = w.heap.size + 1 := by simp
  obtain ⟨V, hV⟩ : ∃ V, V = w.alloc (.cells #[.int .i64 a, .int .i64 b, .int .i64 mi, .int .i64 mk, .int .i64 c', .int .i64 d', .int .i64 e', .int .i64 f'] 61) := ⟨_, rfl⟩
  rw [← hV] at b0 g0 s0
  have hV1 := h.later b0
  have hTw := fun W (hB : Below V.heap.size V W) (hbig : bs.length ≤ 1048576) => twice_any (.slice p bs.length c) bs W (hV1.later hB) hbig
  clear h
  by_cases hz : bs.length = 0
  · have H : Hid (ChkIs mi mk bs 82) := .inl ⟨List.eq_nil_of_length_eq_zero hz, rfl⟩
    have n0 : ((bs.length : Int) == 0) = true := beq_iff_eq.2 (by omega)
    clear hTw hV1 g0
    go_enter Tryd.func46, Tryd.ntmps46
    go_wp2
    rw [← hV]
    go_ret
    exact ⟨_, rfl, H.out, b0⟩
  · have n0 : ((bs.length : Int) == 0) = false := beq_eq_false_iff_ne.2 (by omega)
    by_cases h32 : 32 < bs.length
    · have H : Hid (ChkIs mi mk bs 4) := .inr (.inl ⟨h32, rfl⟩)
      have n1 : (32 : Int) < (bs.length : Int) := by omega
      clear hTw hV1 g0 hz
      go_enter Tryd.func46, Tryd.ntmps46
      go_wp2
      rw [← hV]
      go_ret
      exact ⟨_, rfl, H.out, b0⟩
    · have n1 : decide ((32 : Int) < (bs.length : Int)) = false := by simp; omega
      have hne : Hid (bs ≠ []) := fun e => hz (by rw [e]; rfl)
      clear hz
      go_enter Tryd.func46, Tryd.ntmps46
      go_wp2
      rw [← hV]
      clear hV
      go_loopw [15] (fun i wr => ∃ k : Nat, k ≤ bs.length ∧ i = .int .i64 (k : Int) ∧ Hid (¬ longB mi mk (bs.take k)) ∧ Below V.heap.size V wr) (fun i _ => bs.length - (intOf i).toNat)
      case atStart => exact ⟨0, Nat.zero_le _, rfl, (by rintro ⟨x, hx, _⟩; simp at hx), Below.refl _ _⟩
      case round =>
        obtain ⟨k, hk, rfl, hH, hb⟩ := hrel
        have hsz := hb.size
        by_cases hlt : k < bs.length
        · obtain ⟨bl, o, rfl⟩ := hV1.addr (by omega)
          obtain ⟨x, q, kc, r, d, hx, c1, c2, h1, h2⟩ := hV1.get k hlt
          have hlt2 : (k : Int) < (bs.length : Int) := by omega
          have e1 := cell_later hb c1
          have e2 := cell_later hb c2
          have gW : wr.heap[w.heap.size]? = some (.cells #[.int .i64 a, .int .i64 b, .int .i64 mi, .int .i64 mk, .int .i64 c', .int .i64 d', .int .i64 e', .int .i64 f'] 61 (0, 0)) := (hb.block _ (by omega)).trans g0
          have bA := (Below.refl wr.heap.size wr).alloc (Nat.le_refl _) (.cells #[.slice q x.1.length kc, .slice r x.2.length d] 41)
          have gA : (wr.alloc (.cells #[.slice q x.1.length kc, .slice r x.2.length d] 41)).heap[w.heap.size]? = some (.cells #[.int .i64 a, .int .i64 b, .int .i64 mi, .int .i64 mk, .int .i64 c', .int .i64 d', .int .i64 e', .int .i64 f'] 61 (0, 0)) := (bA.block _ (by omega)).trans gW
          have p2 : (wr.alloc (.cells #[.slice q x.1.length kc, .slice r x.2.length d] 41)).cell? ⟨w.heap.size, 2, none⟩ = some (.int .i64 mi) := by rw [cell_of_row _ _ 2 _ _ _ gA]; rfl
          have p3 : (wr.alloc (.cells #[.slice q x.1.length kc, .slice r x.2.length d] 41)).cell? ⟨w.heap.size, 3, none⟩ = some (.int .i64 mk) := by rw [cell_of_row _ _ 3 _ _ _ gA]; rfl
          have hb1 := hb.alloc hsz (.cells #[.slice q x.1.length kc, .slice r x.2.length d] 41)
          have htk : bs.take (k + 1) = bs.take k ++ [x] := by rw [List.take_add_one, hx]; rfl
          have hmem : x ∈ bs := List.mem_of_getElem? hx
          by_cases l1 : mi < (x.1.length : Int)
          · have H : Hid (ChkIs mi mk bs 1) := .inr (.inr (.inl ⟨hne.out, by omega, ⟨x, hmem, .inl l1⟩, rfl⟩))
            have HB0 : Hid (Below w.heap.size w (wr.alloc (.cells #[.slice q x.1.length kc, .slice r x.2.length d] 41))) := b0.trans (hb1.mono (by omega))
            clear hH hx h1 h2 bA c1 c2 htk hmem gA gW g0 hTw hV1 hne hb hb1
            go_wp2
            go_ret
            exact ⟨_, rfl, H.out, HB0.out⟩
          · have d1 : decide (mi < (x.1.length : Int)) = false := by simpa using l1
            by_cases l2 : mk < (x.2.length : Int)
            · have H : Hid (ChkIs mi mk bs 1) := .inr (.inr (.inl ⟨hne.out, by omega, ⟨x, hmem, .inr l2⟩, rfl⟩))
              have HB0 : Hid (Below w.heap.size w (wr.alloc (.cells #[.slice q x.1.length kc, .slice r x.2.length d] 41))) := b0.trans (hb1.mono (by omega))
              clear hH hx h1 h2 bA c1 c2 htk hmem gA gW g0 hTw hV1 hne hb hb1
              go_wp2
              go_ret
              exact ⟨_, rfl, H.out, HB0.out⟩
            · have d2 : decide (mk < (x.2.length : Int)) = false := by simpa using l2
              have HL : Hid (¬ longB mi mk (bs.take (k + 1))) := by
                rintro ⟨y, hy, hl⟩
                rw [htk] at hy
                rcases List.mem_append.1 hy with hy | hy
                · exact hH.out ⟨y, hy, hl⟩
                · simp at hy
                  subst hy
                  omega
              clear hH hx h1 h2 bA c1 c2 htk hmem gA gW g0 hTw hV1 hne hb
              go_wp2
              go_roundw
              case rel => exact ⟨k + 1, by omega, by go_num, HL.out, hb1⟩
              case measure => simp [intOf]; omega
        · obtain rfl : k = bs.length := by omega
          have HL := hH.out
          rw [List.take_length] at HL
          have HL' : Hid (¬ longB mi mk bs) := HL
          have hTw' := hTw wr hb (by omega)
          clear hTw hH HL hV1 g0
          go_wp2_with fail
          refine hTw'.mono ?_
          rintro r w2 ⟨B, rfl, hB, hb2⟩
          clear hTw'
          have hb3 := (b0.trans (hb.mono (by omega))).trans (hb2.mono (by omega))
          cases B with
          | true =>
            have H : Hid (ChkIs mi mk bs 80) := .inr (.inr (.inr (.inl ⟨hne.out, by omega, HL'.out, hB.1 rfl, rfl⟩)))
            clear hB HL' hne
            go_wp2
            go_ret
            exact ⟨_, rfl, H.out, hb3⟩
          | false =>
            have H : Hid (ChkIs mi mk bs 0) := .inr (.inr (.inr (.inr ⟨hne.out, by omega, HL'.out, (fun h => absurd (hB.2 h) (by decide)), rfl⟩)))
            clear hB HL' hne
            go_wp2
            go_ret
            exact ⟨_, rfl, H.out, hb3⟩

end Go.Proofs.YtichffdkihifpaaDoor

namespace Go.Proofs.YtichffdkihifpaaDoor
open Go.RowKit

theorem run_bfew {P : Program} {t e : TypeId} (ht : P.underlying t = some (.slice e)) (hsz : (P.info? e).map (·.size) = some 2) (p : Option Addr) (n c h : Nat) (y : Int) (hy : y = (h : Int)) (hh : h ≤ c) (w : World) :
    (Instr.slice t (.slice p n c) none (some (.int .i64 y)) none).run P w = .ok (.slice p h c) w := by
  subst hy
  obtain ⟨i, hi, hs⟩ := Option.map_eq_some_iff.1 hsz
  have he : P.elem t = e := by simp [Program.elem, ht]
  rw [run_slice_h w t p n c (by rw [he]; exact ht) .i64 (h : Int) (by omega) (by omega), he]
  cases p <;> simp [Go.sizeOf, typeInfo, hi, hs, sliced, Result.andThen, Addr.add]

set_option maxRecDepth 100000 in
set_option maxHeartbeats 400000 in
theorem bfew_any (v : Value) (bs : List (List UInt8 × List UInt8)) (w : World) (h : BA w v bs) :
    Calls Tryd.prog 21 #[v] w fun e w' => ∃ p c, e = .returned (.slice p (bs.take 40).length c) ∧ BA w (.slice p (bs.take 40).length c) (bs.take 40) ∧ w' = w := by
  obtain ⟨p, c, rfl⟩ := h.shape
  have hl := h.len.2
  unfold maxLen at hl
  by_cases h10 : bs.length ≤ 40
  · have k1 := fun w => run_bfew (P := Tryd.prog) Tryd.underlying39 s_bind p bs.length c bs.length (bs.length : Int) rfl hl.1 w
    have e : bs.take 40 = bs := List.take_of_length_le h10
    rw [e]
    have H : Hid (BA w (.slice p bs.length c) bs) := h
    clear h e
    have hm : min (bs.length : Int) 40 = (bs.length : Int) := by omega
    go_enter Tryd.func21, Tryd.ntmps21
    go_wp2
    go_ret
    exact ⟨_, _, rfl, H.out, rfl⟩
  · have k1 := fun w => run_bfew (P := Tryd.prog) Tryd.underlying39 s_bind p bs.length c 40 40 rfl (by omega) w
    have hp : BA w (.slice p 40 c) (bs.take 40) := h.take 40 (by omega)
    rw [show (bs.take 40).length = 40 by simp; omega]
    have H : Hid (BA w (.slice p 40 c) (bs.take 40)) := hp
    clear h hp
    have hm : min (bs.length : Int) 40 = 40 := by omega
    go_enter Tryd.func21, Tryd.ntmps21
    go_wp2
    go_ret
    exact ⟨_, _, rfl, H.out, rfl⟩

theorem BA.nil (w : World) : BA w (.slice none 0 0) [] := ⟨none, 0, rfl, Nat.le_refl _, Nat.zero_le _, fun h => absurd rfl h⟩

theorem BA.lit2 (w : World) (u1 t1 u2 t2 : Value) (a b a' b' : List UInt8) (h1 : HB w u1 a) (h2 : HB w t1 b) (h3 : HB w u2 a') (h4 : HB w t2 b') : BA (w.alloc (.cells #[u1, t1, u2, t2] 41)) (.slice (some ⟨w.heap.size, 0, none⟩) 2 2) [(a, b), (a', b')] := by
  have bA := (Below.refl w.heap.size w).alloc (Nat.le_refl _) (.cells #[u1, t1, u2, t2] 41)
  obtain ⟨p1, c1, rfl⟩ := h1.shape
  obtain ⟨p2, c2, rfl⟩ := h2.shape
  obtain ⟨p3, c3, rfl⟩ := h3.shape
  obtain ⟨p4, c4, rfl⟩ := h4.shape
  have g := heap_alloc_new w (.cells #[.slice p1 a.length c1, .slice p2 b.length c2, .slice p3 a'.length c3, .slice p4 b'.length c4] 41)
  refine ⟨_, 2, rfl, Nat.le_refl _, by decide, fun _ => ⟨_, 0, rfl, fun k x hx => ?_⟩⟩
  match k with
  | 0 =>
    simp at hx
    subst hx
    exact ⟨p1, c1, p2, c2, by rw [cell_of_row _ _ _ _ _ _ g]; rfl, by rw [cell_of_row _ _ _ _ _ _ g]; rfl, h1.later bA, h2.later bA⟩
  | 1 =>
    simp at hx
    subst hx
    exact ⟨p3, c3, p4, c4, by rw [cell_of_row _ _ _ _ _ _ g]; rfl, by rw [cell_of_row _ _ _ _ _ _ g]; rfl, h3.later bA, h4.later bA⟩
  | n + 2 => simp at hx

theorem HB.litB (w : World) (e : TypeId) (l : List UInt8) (cs : Array Value) (n : Nat) (fr : Nat × Nat) (hc : cs = (bcs l).toArray) (hn : n = l.length) (hm : n ≤ maxLen) : HB (w.alloc (.cells cs e fr)) (.slice (some ⟨w.heap.size, 0, none⟩) n n) l := by
  subst hc; subst hn
  refine ⟨_, l.length, rfl, Nat.le_refl _, hm, (fun h => by cases h), fun _ => ⟨_, 0, rfl, fun i x hx => ?_⟩⟩
  rw [Nat.zero_add, cell_of_row _ _ i _ _ _ (heap_alloc_new w _)]
  simp [bcs, hx]

theorem chk_nil (mi mk : Int) : ChkIs mi mk [] 82 := .inl ⟨rfl, rfl⟩
theorem chk_aa : ChkIs 2 2 [([97], []), ([97], [])] 80 := by
  refine .inr (.inr (.inr (.inl ⟨by simp, by simp, ?_, ⟨0, 1, _, _, by omega, by simp, rfl, rfl, rfl⟩, rfl⟩)))
  rintro ⟨x, hx, h⟩
  simp at hx
  subst hx
  simp at h

set_option maxRecDepth 100000 in
set_option maxHeartbeats 2000000 in
theorem bawake_any (w : World) :
    Calls Tryd.prog 28 #[] w fun e w' => e = .returned (.bool true) ∧ Below w.heap.size w w' := by
  have cN : ∀ W, Calls Tryd.prog 46 #[.agg #[.int .i64 0, .int .i64 0, .int .i64 2, .int .i64 2, .int .i64 0, .int .i64 0, .int .i64 0, .int .i64 0], .slice none 0 0] W fun x w' => x = .returned (.int .i64 82) ∧ Below W.heap.size W w' := fun W => (check_any 0 0 2 2 0 0 0 0 _ [] W (BA.nil W)).mono fun x w' ⟨e, h1, h2, h3⟩ => ⟨by rw [h1, chk_one h2 (chk_nil 2 2)], h3⟩
  have cA : ∀ W v, BA W v [([97], []), ([97], [])] → Calls Tryd.prog 46 #[.agg #[.int .i64 0, .int .i64 0, .int .i64 2, .int .i64 2, .int .i64 0, .int .i64 0, .int .i64 0, .int .i64 0], v] W fun x w' => x = .returned (.int .i64 80) ∧ Below W.heap.size W w' := fun W v h => (check_any 0 0 2 2 0 0 0 0 _ _ W h).mono fun x w' ⟨e, h1, h2, h3⟩ => ⟨by rw [h1, chk_one h2 chk_aa], h3⟩
  have b0 := (Below.refl w.heap.size w).alloc (Nat.le_refl _) (.cells #[.int .i64 0, .int .i64 0, .int .i64 2, .int .i64 2, .int .i64 0, .int .i64 0, .int .i64 0, .int .i64 0] 61)
  have g0 := heap_alloc_new w (.cells #[.int .i64 0, .int .i64 0, .int .i64 2, .int .i64 2, .int .i64 0, .int .i64 0, .int .i64 0, .int .i64 0] 61)
  have kc := fun (w : World) (C : Array Value) (n c : Nat) => Lib.run_convert_bytes_const (P := Tryd.prog) w 25 5 C n c Tryd.underlying25 Tryd.underlying5
  have kc2 : ∀ (w1 : World), (convert 25 25 (.slice (some ⟨w1.heap.size + 1, 0, none⟩) 1 1)).run Tryd.prog ((w1.alloc (.cells #[.int .u8 97] 5 (1, 2))).alloc (.cells #[.int .u8 97] 5)) = .ok (.slice (some ⟨w1.heap.size + 1, 0, none⟩) 1 1) ((w1.alloc (.cells #[.int .u8 97] 5 (1, 2))).alloc (.cells #[.int .u8 97] 5 (1, 2))) := fun w1 => by
    simpa using kc (w1.alloc (.cells #[.int .u8 97] 5 (1, 2))) #[.int .u8 97] 1 1
  go_enter Tryd.func28, Tryd.ntmps28
  go_wp2_with fail
  generalize w.alloc (.cells #[.int .i64 0, .int .i64 0, .int .i64 2, .int .i64 2, .int .i64 0, .int .i64 0, .int .i64 0, .int .i64 0] 61) = V at *
  have hg : w.heap.size < V.heap.size := (Array.getElem?_eq_some_iff.1 g0).1
  refine (cN _).mono ?_
  rintro e w1 ⟨rfl, hb1⟩
  have g1 := (hb1.block _ hg).trans g0
  have b01 := b0.trans (hb1.mono b0.size)
  have l0 : w1.cell? ⟨w.heap.size, 0, none⟩ = some (.int .i64 0) := by rw [cell_of_row _ _ _ _ _ _ g1]; rfl
  have l1 : w1.cell? ⟨w.heap.size, 1, none⟩ = some (.int .i64 0) := by rw [cell_of_row _ _ _ _ _ _ g1]; rfl
  have l2 : w1.cell? ⟨w.heap.size, 2, none⟩ = some (.int .i64 2) := by rw [cell_of_row _ _ _ _ _ _ g1]; rfl
  have l3 : w1.cell? ⟨w.heap.size, 3, none⟩ = some (.int .i64 2) := by rw [cell_of_row _ _ _ _ _ _ g1]; rfl
  have l4 : w1.cell? ⟨w.heap.size, 4, none⟩ = some (.int .i64 0) := by rw [cell_of_row _ _ _ _ _ _ g1]; rfl
  have l5 : w1.cell? ⟨w.heap.size, 5, none⟩ = some (.int .i64 0) := by rw [cell_of_row _ _ _ _ _ _ g1]; rfl
  have l6 : w1.cell? ⟨w.heap.size, 6, none⟩ = some (.int .i64 0) := by rw [cell_of_row _ _ _ _ _ _ g1]; rfl
  have l7 : w1.cell? ⟨w.heap.size, 7, none⟩ = some (.int .i64 0) := by rw [cell_of_row _ _ _ _ _ _ g1]; rfl
  clear cN g0 g1 b0 hb1 hg
  have bL := (Below.refl _ w1).alloc (Nat.le_refl _) (.cells #[.int .u8 97] 5 (1, 2))
  have bLL := bL.alloc bL.size (.cells #[.int .u8 97] 5 (1, 2))
  have bL2 : Below (w1.alloc (.cells #[.int .u8 97] 5 (1, 2))).heap.size (w1.alloc (.cells #[.int .u8 97] 5 (1, 2))) ((w1.alloc (.cells #[.int .u8 97] 5 (1, 2))).alloc (.cells #[.int .u8 97] 5 (1, 2))) := (Below.refl _ _).alloc (Nat.le_refl _) _
  have ha : HB ((w1.alloc (.cells #[.int .u8 97] 5 (1, 2))).alloc (.cells #[.int .u8 97] 5 (1, 2))) (.slice (some ⟨w1.heap.size, 0, none⟩) 1 1) [97] := (HB.litB w1 5 _ _ 1 _ rfl rfl (by unfold maxLen; omega)).later bL2
  have hk : HB ((w1.alloc (.cells #[.int .u8 97] 5 (1, 2))).alloc (.cells #[.int .u8 97] 5 (1, 2))) (.slice (some ⟨w1.heap.size + 1, 0, none⟩) 1 1) [97] := by
    have := HB.litB (w1.alloc (.cells #[.int .u8 97] 5 (1, 2))) 5 [97] #[.int .u8 97] 1 (1, 2) rfl rfl (by unfold maxLen; omega)
    simpa using this
  have hBA := BA.lit2 _ _ _ _ _ _ _ _ _ ha (HB.nil _) hk (HB.nil _)
  have sL : ((w1.alloc (.cells #[.int .u8 97] 5 (1, 2))).alloc (.cells #[.int .u8 97] 5 (1, 2))).heap.size = w1.heap.size + 1 + 1 := by simp
  rw [sL] at hBA
  have hA := cA _ _ hBA
  have bF := b01.trans (bLL.mono b01.size)
  have HF : Hid (Below w.heap.size w (((w1.alloc (.cells #[.int .u8 97] 5 (1, 2))).alloc (.cells #[.int .u8 97] 5 (1, 2))).alloc (.cells #[.slice (some ⟨w1.heap.size, 0, none⟩) 1 1, .slice none 0 0, .slice (some ⟨w1.heap.size + 1, 0, none⟩) 1 1, .slice none 0 0] 41))) := bF.alloc bF.size _
  clear cA ha hk hBA sL bL bLL bL2 bF b01
  go_wp2_with fail
  refine hA.mono ?_
  rintro e w2 ⟨rfl, hb2⟩
  have hb := HF.out.trans (hb2.mono HF.out.size)
  clear hA HF hb2 l0 l1 l2 l3 l4 l5 l6 l7
  go_wp2
  go_ret
  exact ⟨rfl, hb⟩

end Go.Proofs.YtichffdkihifpaaDoor
