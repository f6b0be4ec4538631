/- What this text proves: an argument that is a request (api.Ask), as the claim's reading has it, is a struct of ten cells. What this text proves: an argument that is a directory's parameters, a binding, or a slice of bindings, as the claim's reading has it, holds these in memory. What this text proves: an argument that is a request (api.Ask), as the claim's reading has it, holds an identity's bytes and a slice of bindings in memory. -/
import Derived.Test.YthkgbgkijdeaoaaOpenB
import Derived.Deep.Strs
import Derived.Lib.SmallJoins
import Derived.Test.YthkgbgkijdeaoaaBVocab
namespace Go.Proofs.Ythkgbgkijdeaoaa
open Go.ChangeShapes Go.WideShapes Go.ChangeAt Go.RowKit

section
variable {H : Type} {enc : TypeId × Value → H} {P : Program} {w : World} {base : Nat} {spare : Nat → Bool} {held : Bool}

theorem array10 {α : Type} {cs : Array α} (h : cs.size = 10) : ∃ c0 c1 c2 c3 c4 c5 c6 c7 c8 c9, cs = #[c0, c1, c2, c3, c4, c5, c6, c7, c8, c9] := by
  obtain ⟨l⟩ := cs
  match l, h with
  | [c0, c1, c2, c3, c4, c5, c6, c7, c8, c9], _ => exact ⟨c0, c1, c2, c3, c4, c5, c6, c7, c8, c9, rfl⟩

/-- A struct of ten fields of one cell each, opened. -/
theorem open_agg10 {r : Reach} {b0 : Nat} {t : TypeId} {f0 f1 f2 f3 f4 f5 f6 f7 f8 f9 : Field} {v : Value} {d : DataW H} {p : List MemPlace} (hs : P.underlying t = some (.struct #[f0, f1, f2, f3, f4, f5, f6, f7, f8, f9])) (hone : Go.Deep.oneCellFields P #[f0, f1, f2, f3, f4, f5, f6, f7, f8, f9] = true) (hC : P.cellsOf t = 10)
    (hv : Value.okWide P w r b0 t v) (h : DataW.Trod enc P w base spare held t v d p) :
    ∃ (c0 c1 c2 c3 c4 c5 c6 c7 c8 c9 : Value) (y0 y1 y2 y3 y4 y5 y6 y7 y8 y9 : DataW H × List MemPlace) (n : Nat), v = .agg #[c0, c1, c2, c3, c4, c5, c6, c7, c8, c9] ∧ DataW.trod enc P w base spare held n f0.type [c0] = some y0 ∧ DataW.trod enc P w base spare held n f1.type [c1] = some y1 ∧ DataW.trod enc P w base spare held n f2.type [c2] = some y2 ∧ DataW.trod enc P w base spare held n f3.type [c3] = some y3 ∧ DataW.trod enc P w base spare held n f4.type [c4] = some y4 ∧ DataW.trod enc P w base spare held n f5.type [c5] = some y5 ∧ DataW.trod enc P w base spare held n f6.type [c6] = some y6 ∧ DataW.trod enc P w base spare held n f7.type [c7] = some y7 ∧ DataW.trod enc P w base spare held n f8.type [c8] = some y8 ∧ DataW.trod enc P w base spare held n f9.type [c9] = some y9 := by
  obtain ⟨cs, rfl, hsz⟩ := okWide_struct hs hv
  obtain ⟨c0, c1, c2, c3, c4, c5, c6, c7, c8, c9, rfl⟩ := array10 (hsz.trans hC)
  obtain ⟨fuel, hf⟩ := h
  obtain ⟨xs, n, _, _, _, hlen, hg⟩ := DataW.trod_struct hs hf
  obtain ⟨o0, k0⟩ := Go.Deep.hone_of hone 0 f0 rfl
  obtain ⟨o1, k1⟩ := Go.Deep.hone_of hone 1 f1 rfl
  obtain ⟨o2, k2⟩ := Go.Deep.hone_of hone 2 f2 rfl
  obtain ⟨o3, k3⟩ := Go.Deep.hone_of hone 3 f3 rfl
  obtain ⟨o4, k4⟩ := Go.Deep.hone_of hone 4 f4 rfl
  obtain ⟨o5, k5⟩ := Go.Deep.hone_of hone 5 f5 rfl
  obtain ⟨o6, k6⟩ := Go.Deep.hone_of hone 6 f6 rfl
  obtain ⟨o7, k7⟩ := Go.Deep.hone_of hone 7 f7 rfl
  obtain ⟨o8, k8⟩ := Go.Deep.hone_of hone 8 f8 rfl
  obtain ⟨o9, k9⟩ := Go.Deep.hone_of hone 9 f9 rfl
  match xs, hlen with
  | [y0, y1, y2, y3, y4, y5, y6, y7, y8, y9], _ =>
    have g0 := hg 0 f0 rfl
    have g1 := hg 1 f1 rfl
    have g2 := hg 2 f2 rfl
    have g3 := hg 3 f3 rfl
    have g4 := hg 4 f4 rfl
    have g5 := hg 5 f5 rfl
    have g6 := hg 6 f6 rfl
    have g7 := hg 7 f7 rfl
    have g8 := hg 8 f8 rfl
    have g9 := hg 9 f9 rfl
    exact ⟨c0, c1, c2, c3, c4, c5, c6, c7, c8, c9, y0, y1, y2, y3, y4, y5, y6, y7, y8, y9, n, rfl, by simpa [Value.cells, o0, k0] using g0, by simpa [Value.cells, o1, k1] using g1, by simpa [Value.cells, o2, k2] using g2, by simpa [Value.cells, o3, k3] using g3, by simpa [Value.cells, o4, k4] using g4, by simpa [Value.cells, o5, k5] using g5, by simpa [Value.cells, o6, k6] using g6, by simpa [Value.cells, o7, k7] using g7, by simpa [Value.cells, o8, k8] using g8, by simpa [Value.cells, o9, k9] using g9⟩
end

set_option maxRecDepth 100000 in
theorem open_ask {H : Type} {enc : TypeId × Value → H} {W : World} {base : Nat} {v0 : Value} {d0 : DataW H} {p0 : List MemPlace}
    (hval : Value.okWide Try.prog W .any base 25 v0) (h0 : DataW.Trod enc Try.prog W 0 (fun _ => true) true 25 v0 d0 p0) :
    ∃ (k fr to ti ep ix li : Int) (so : Bool) (id ba : Value), v0 = .agg #[.int .i64 k, id, .int .i64 fr, .int .i64 to, .int .i64 ti, .bool so, .int .i64 ep, .int .i64 ix, .int .i64 li, ba] := by
  obtain ⟨c0, c1, c2, c3, c4, c5, c6, c7, c8, c9, y0, y1, y2, y3, y4, y5, y6, y7, y8, y9, n, rfl, t0, t1, t2, t3, t4, t5, t6, t7, t8, t9⟩ := open_agg10 Try.underlying25 (by kernel_rfl) (by kernel_rfl) hval h0
  obtain ⟨a0, e0, _, _⟩ := DataW.trod_int Try.underlying3 t0
  obtain ⟨a2, e2, _, _⟩ := DataW.trod_int Try.underlying3 t2
  obtain ⟨a3, e3, _, _⟩ := DataW.trod_int Try.underlying3 t3
  obtain ⟨a4, e4, _, _⟩ := DataW.trod_int Try.underlying3 t4
  obtain ⟨a6, e6, _, _⟩ := DataW.trod_int Try.underlying3 t6
  obtain ⟨a7, e7, _, _⟩ := DataW.trod_int Try.underlying3 t7
  obtain ⟨a8, e8, _, _⟩ := DataW.trod_int Try.underlying3 t8
  obtain ⟨a5, e5, _⟩ := DataW.trod_bool Try.underlying4 t5
  obtain rfl : c0 = .int .i64 a0 := by simpa using e0
  obtain rfl : c2 = .int .i64 a2 := by simpa using e2
  obtain rfl : c3 = .int .i64 a3 := by simpa using e3
  obtain rfl : c4 = .int .i64 a4 := by simpa using e4
  obtain rfl : c6 = .int .i64 a6 := by simpa using e6
  obtain rfl : c7 = .int .i64 a7 := by simpa using e7
  obtain rfl : c8 = .int .i64 a8 := by simpa using e8
  obtain rfl : c5 = .bool a5 := by simpa using e5
  exact ⟨a0, a2, a3, a4, a6, a7, a8, a5, c1, c9, rfl⟩

end Go.Proofs.Ythkgbgkijdeaoaa

namespace Go.Proofs.Ythkgbgkijdeaoaa
open Go.ChangeShapes Go.WideShapes Go.ChangeAt Go.RowKit

section
variable {H : Type} {enc : TypeId × Value → H} {P : Program} {w : World} {base : Nat} {spare : Nat → Bool} {held : Bool}

theorem array8 {α : Type} {cs : Array α} (h : cs.size = 8) : ∃ c0 c1 c2 c3 c4 c5 c6 c7, cs = #[c0, c1, c2, c3, c4, c5, c6, c7] := by
  obtain ⟨l⟩ := cs
  match l, h with
  | [c0, c1, c2, c3, c4, c5, c6, c7], _ => exact ⟨c0, c1, c2, c3, c4, c5, c6, c7, rfl⟩

/-- A struct of eight fields of one cell each, opened. -/
theorem open_agg8 {r : Reach} {b0 : Nat} {t : TypeId} {f0 f1 f2 f3 f4 f5 f6 f7 : Field} {v : Value} {d : DataW H} {p : List MemPlace} (hs : P.underlying t = some (.struct #[f0, f1, f2, f3, f4, f5, f6, f7])) (hone : Go.Deep.oneCellFields P #[f0, f1, f2, f3, f4, f5, f6, f7] = true) (hC : P.cellsOf t = 8)
    (hv : Value.okWide P w r b0 t v) (h : DataW.Trod enc P w base spare held t v d p) :
    ∃ (c0 c1 c2 c3 c4 c5 c6 c7 : Value) (y0 y1 y2 y3 y4 y5 y6 y7 : DataW H × List MemPlace) (n : Nat), v = .agg #[c0, c1, c2, c3, c4, c5, c6, c7] ∧ DataW.trod enc P w base spare held n f0.type [c0] = some y0 ∧ DataW.trod enc P w base spare held n f1.type [c1] = some y1 ∧ DataW.trod enc P w base spare held n f2.type [c2] = some y2 ∧ DataW.trod enc P w base spare held n f3.type [c3] = some y3 ∧ DataW.trod enc P w base spare held n f4.type [c4] = some y4 ∧ DataW.trod enc P w base spare held n f5.type [c5] = some y5 ∧ DataW.trod enc P w base spare held n f6.type [c6] = some y6 ∧ DataW.trod enc P w base spare held n f7.type [c7] = some y7 := by
  obtain ⟨cs, rfl, hsz⟩ := okWide_struct hs hv
  obtain ⟨c0, c1, c2, c3, c4, c5, c6, c7, rfl⟩ := array8 (hsz.trans hC)
  obtain ⟨fuel, hf⟩ := h
  obtain ⟨xs, n, _, _, _, hlen, hg⟩ := DataW.trod_struct hs hf
  obtain ⟨o0, k0⟩ := Go.Deep.hone_of hone 0 f0 rfl
  obtain ⟨o1, k1⟩ := Go.Deep.hone_of hone 1 f1 rfl
  obtain ⟨o2, k2⟩ := Go.Deep.hone_of hone 2 f2 rfl
  obtain ⟨o3, k3⟩ := Go.Deep.hone_of hone 3 f3 rfl
  obtain ⟨o4, k4⟩ := Go.Deep.hone_of hone 4 f4 rfl
  obtain ⟨o5, k5⟩ := Go.Deep.hone_of hone 5 f5 rfl
  obtain ⟨o6, k6⟩ := Go.Deep.hone_of hone 6 f6 rfl
  obtain ⟨o7, k7⟩ := Go.Deep.hone_of hone 7 f7 rfl
  match xs, hlen with
  | [y0, y1, y2, y3, y4, y5, y6, y7], _ =>
    have g0 := hg 0 f0 rfl
    have g1 := hg 1 f1 rfl
    have g2 := hg 2 f2 rfl
    have g3 := hg 3 f3 rfl
    have g4 := hg 4 f4 rfl
    have g5 := hg 5 f5 rfl
    have g6 := hg 6 f6 rfl
    have g7 := hg 7 f7 rfl
    exact ⟨c0, c1, c2, c3, c4, c5, c6, c7, y0, y1, y2, y3, y4, y5, y6, y7, n, rfl, by simpa [Value.cells, o0, k0] using g0, by simpa [Value.cells, o1, k1] using g1, by simpa [Value.cells, o2, k2] using g2, by simpa [Value.cells, o3, k3] using g3, by simpa [Value.cells, o4, k4] using g4, by simpa [Value.cells, o5, k5] using g5, by simpa [Value.cells, o6, k6] using g6, by simpa [Value.cells, o7, k7] using g7⟩
end

set_option maxRecDepth 100000 in
theorem open_params {H : Type} {enc : TypeId × Value → H} {W : World} {base : Nat} {v0 : Value} {d0 : DataW H} {p0 : List MemPlace}
    (hval : Value.okWide Try.prog W .any base 73 v0) (h0 : DataW.Trod enc Try.prog W 0 (fun _ => true) true 73 v0 d0 p0) :
    ∃ (a b mi mk c d e f : Int), v0 = .agg #[.int .i64 a, .int .i64 b, .int .i64 mi, .int .i64 mk, .int .i64 c, .int .i64 d, .int .i64 e, .int .i64 f] ∧ (Lit.int .i64 mi).wf = true ∧ (Lit.int .i64 mk).wf = true := by
  obtain ⟨c0, c1, c2, c3, c4, c5, c6, c7, y0, y1, y2, y3, y4, y5, y6, y7, n, rfl, t0, t1, t2, t3, t4, t5, t6, t7⟩ := open_agg8 Try.underlying73 (by kernel_rfl) (by kernel_rfl) hval h0
  obtain ⟨a0, e0, _, w0⟩ := DataW.trod_int Try.underlying3 t0
  obtain ⟨a1, e1, _, w1⟩ := DataW.trod_int Try.underlying3 t1
  obtain ⟨a2, e2, _, w2⟩ := DataW.trod_int Try.underlying3 t2
  obtain ⟨a3, e3, _, w3⟩ := DataW.trod_int Try.underlying3 t3
  obtain ⟨a4, e4, _, w4⟩ := DataW.trod_int Try.underlying3 t4
  obtain ⟨a5, e5, _, w5⟩ := DataW.trod_int Try.underlying3 t5
  obtain ⟨a6, e6, _, w6⟩ := DataW.trod_int Try.underlying3 t6
  obtain ⟨a7, e7, _, w7⟩ := DataW.trod_int Try.underlying3 t7
  obtain rfl : c0 = .int .i64 a0 := by simpa using e0
  obtain rfl : c1 = .int .i64 a1 := by simpa using e1
  obtain rfl : c2 = .int .i64 a2 := by simpa using e2
  obtain rfl : c3 = .int .i64 a3 := by simpa using e3
  obtain rfl : c4 = .int .i64 a4 := by simpa using e4
  obtain rfl : c5 = .int .i64 a5 := by simpa using e5
  obtain rfl : c6 = .int .i64 a6 := by simpa using e6
  obtain rfl : c7 = .int .i64 a7 := by simpa using e7
  exact ⟨a0, a1, a2, a3, a4, a5, a6, a7, rfl, w2, w3⟩

set_option maxRecDepth 100000 in
theorem open_bytesB {H : Type} {enc : TypeId × Value → H} {W : World} {v0 : Value} {y : DataW H × List MemPlace} {fuel : Nat}
    (hf : DataW.trod enc Try.prog W 0 (fun _ => true) true fuel 22 [v0] = some y) : ∃ l : List UInt8, HB W v0 l ∧ (l = [] ∨ ∃ elems spare, y.1 = .slice elems spare ∧ elems.length = l.length) := by
  rcases open_ints Try.underlying22 Try.underlying5 (by kernel_rfl) hf with ⟨hcs, _⟩ | ⟨x, l, c, zs, hcs, hy, hl, hm, hz, hx, hcell, hwz⟩
  · simp only [List.cons.injEq, and_true] at hcs
    subst hcs
    exact ⟨[], HB.nil W, .inl rfl⟩
  · simp only [List.cons.injEq, and_true] at hcs
    subst hcs
    have hzc : zs.length = c := by simpa using hz
    subst hx
    exact ⟨bytesOf (zs.take l), hb_cells hl hm hzc hcell hwz, .inr ⟨_, _, rfl, by simp [lits, bytesOf]⟩⟩

/-- What was read of bytes is as long as they are. -/
def AsLong {H : Type} (d : DataW H) (l : List UInt8) : Prop := l = [] ∨ ∃ elems spare, d = .slice elems spare ∧ elems.length = l.length

set_option maxRecDepth 100000 in
theorem open_cells2 {H : Type} {enc : TypeId × Value → H} {W : World} {cs : List Value} {y : DataW H × List MemPlace} {fuel : Nat} (hlen : cs.length = 2)
    (hf : DataW.trod enc Try.prog W 0 (fun _ => true) true fuel 92 cs = some y) : ∃ (u t : Value) (l m : List UInt8) (d e : DataW H), cs = [u, t] ∧ HB W u l ∧ HB W t m ∧ y.1 = .agg [d, e] ∧ AsLong d l ∧ AsLong e m := by
  match cs, hlen with
  | [c0, c1], _ =>
    obtain ⟨y0, y1, n, hy, _, h0, h1⟩ := trod_struct2 Try.underlying92 hf
    have k2 : Try.prog.cellsOf 22 = 1 := by kernel_rfl
    simp only [k2, List.drop_zero, List.take_succ_cons, List.take_zero] at h0
    simp only [k2, List.drop_succ_cons, List.drop_zero, List.take_succ_cons, List.take_zero] at h1
    obtain ⟨l, hl, el⟩ := open_bytesB h0
    obtain ⟨m, hm, em⟩ := open_bytesB h1
    exact ⟨c0, c1, l, m, y0.1, y1.1, rfl, hl, hm, by rw [hy], el, em⟩

set_option maxRecDepth 100000 in
theorem open_bind {H : Type} {enc : TypeId × Value → H} {W : World} {base : Nat} {v0 : Value} {d0 : DataW H} {p0 : List MemPlace}
    (hval : Value.okWide Try.prog W .any base 92 v0) (h0 : DataW.Trod enc Try.prog W 0 (fun _ => true) true 92 v0 d0 p0) :
    ∃ (u t : Value) (l m : List UInt8), v0 = .agg #[u, t] ∧ HB W u l ∧ HB W t m := by
  obtain ⟨v1, v2, y1, y2, n, rfl, _, _, t1, t2⟩ := Go.Joins.open_agg2 Try.underlying92 (by kernel_rfl) (by kernel_rfl) hval h0
  obtain ⟨l, hl, _⟩ := open_bytesB t1
  obtain ⟨m, hm, _⟩ := open_bytesB t2
  exact ⟨v1, v2, l, m, rfl, hl, hm⟩

set_option maxRecDepth 100000 in
theorem open_bindsS {H : Type} {enc : TypeId × Value → H} {W : World} {a0 : Option Addr} {len0 cap0 : Nat} {d0 : DataW H} {p0 : List MemPlace}
    (h0 : DataW.Trod enc Try.prog W 0 (fun _ => true) true 23 (.slice a0 len0 cap0) d0 p0) :
    ∃ bs : List (List UInt8 × List UInt8), BA W (.slice a0 len0 cap0) bs ∧ (bs = [] ∨ ∃ elems spare, d0 = .slice elems spare ∧ elems.length = bs.length ∧ ∀ (i : Nat) x y, bs[i]? = some x → elems[i]? = some y → ∃ d e, y = .agg [d, e] ∧ AsLong d x.1 ∧ AsLong e x.2) := by
  obtain ⟨fuel, hf⟩ := h0
  rcases Go.Deep.open_slice Try.underlying23 hf with ⟨hcs, _⟩ | ⟨a, len, cap, m, n, D, Pl, hcs, _, hl, hm, hmm, hy, hx⟩
  · simp [Value.cells] at hcs
    obtain ⟨rfl, rfl, rfl⟩ := hcs
    exact ⟨[], ⟨none, 0, rfl, Nat.le_refl _, Nat.zero_le _, fun h => absurd rfl h⟩, .inl rfl⟩
  · simp [Value.cells] at hcs
    obtain ⟨rfl, rfl, rfl⟩ := hcs
    simp only [if_true] at hmm
    subst hmm
    have ce : Try.prog.cellsOf 92 = 2 := by kernel_rfl
    rw [ce] at hx
    have each : ∀ i, i < m → ∃ q : List UInt8 × List UInt8, ∃ u t d e, W.cell? (a.add (i * 2)) = some u ∧ W.cell? (a.add (i * 2 + 1)) = some t ∧ HB W u q.1 ∧ HB W t q.2 ∧ D i = .agg [d, e] ∧ AsLong d q.1 ∧ AsLong e q.2 := by
      intro i hi
      obtain ⟨cs', h1, h2⟩ := hx i hi
      obtain ⟨_, hlen, hcell⟩ := World.cells?_some h1
      obtain ⟨u, t, l, k, d, e, rfl, hu, ht, hd, el, ek⟩ := open_cells2 hlen h2
      have e0 := hcell 0 (by omega)
      have e1 := hcell 1 (by omega)
      rw [Go.Deep.add_add] at e0 e1
      exact ⟨(l, k), u, t, d, e, by simpa using e0, by simpa using e1, hu, ht, hd, el, ek⟩
    obtain ⟨q, hq⟩ := Go.Deep.choose_lt each
    refine ⟨(List.range len0).map q, ⟨some a, m, by simp, by simpa using hl, hm, fun hne => ?_⟩, .inr ⟨_, _, congrArg Prod.fst hy, by simp, fun i x y hxi hyi => ?_⟩⟩
    · have hlen : 0 < len0 := by
        rcases Nat.eq_zero_or_pos len0 with h | h
        · subst h
          exact absurd rfl hne
        · exact h
      obtain ⟨_, _, _, _, hc0, _⟩ := hq 0 (by omega)
      obtain ⟨b, o, spot⟩ := a
      have hs : spot = none := by simpa [Addr.add] using World.cell?_spot hc0
      subst hs
      refine ⟨b, o, rfl, fun i x hxi => ?_⟩
      have hi : i < len0 := by
        have := (List.getElem?_eq_some_iff.1 hxi).1
        simpa using this
      rw [List.getElem?_map, List.getElem?_range hi] at hxi
      simp only [Option.map_some, Option.some.injEq] at hxi
      subst hxi
      obtain ⟨u, t, _, _, c0, c1, hu, ht, _⟩ := hq i (by omega)
      rw [add_lit] at c0 c1
      obtain ⟨p1, k1, rfl⟩ := hu.shape
      obtain ⟨p2, k2, rfl⟩ := ht.shape
      exact ⟨p1, k1, p2, k2, c0, by rw [Nat.add_assoc]; exact c1, hu, ht⟩
    · have hi : i < len0 := by
        have := (List.getElem?_eq_some_iff.1 hxi).1
        simpa using this
      rw [List.getElem?_map, List.getElem?_range hi] at hxi hyi
      simp only [Option.map_some, Option.some.injEq] at hxi hyi
      subst hxi
      subst hyi
      obtain ⟨_, _, d, e, _, _, _, _, hd, e1, e2⟩ := hq i (by omega)
      exact ⟨d, e, hd, e1, e2⟩

set_option maxRecDepth 100000 in
theorem open_binds {H : Type} {enc : TypeId × Value → H} {W : World} {base : Nat} {v0 : Value} {d0 : DataW H} {p0 : List MemPlace}
    (hval : Value.okWide Try.prog W .any base 23 v0) (h0 : DataW.Trod enc Try.prog W 0 (fun _ => true) true 23 v0 d0 p0) :
    ∃ bs : List (List UInt8 × List UInt8), BA W v0 bs ∧ (bs = [] ∨ ∃ elems spare, d0 = .slice elems spare ∧ elems.length = bs.length ∧ ∀ (i : Nat) x y, bs[i]? = some x → elems[i]? = some y → ∃ d e, y = .agg [d, e] ∧ AsLong d x.1 ∧ AsLong e x.2) := by
  obtain ⟨a0, len0, cap0, rfl⟩ := okWide_slice Try.underlying23 hval
  exact open_bindsS h0

end Go.Proofs.Ythkgbgkijdeaoaa

namespace Go.Proofs.Ythkgbgkijdeaoaa
open Go.ChangeShapes Go.WideShapes Go.ChangeAt Go.RowKit

set_option maxRecDepth 100000 in
theorem open_askF {H : Type} {enc : TypeId × Value → H} {W : World} {base : Nat} {v0 : Value} {d0 : DataW H} {p0 : List MemPlace}
    (hval : Value.okWide Try.prog W .any base 25 v0) (h0 : DataW.Trod enc Try.prog W 0 (fun _ => true) true 25 v0 d0 p0) :
    ∃ (k fr to ti ep ix li : Int) (so : Bool) (id ba : Value) (l : List UInt8) (bs : List (List UInt8 × List UInt8)), v0 = .agg #[.int .i64 k, id, .int .i64 fr, .int .i64 to, .int .i64 ti, .bool so, .int .i64 ep, .int .i64 ix, .int .i64 li, ba] ∧ HB W id l ∧ BA W ba bs := by
  obtain ⟨c0, c1, c2, c3, c4, c5, c6, c7, c8, c9, y0, y1, y2, y3, y4, y5, y6, y7, y8, y9, n, rfl, t0, t1, t2, t3, t4, t5, t6, t7, t8, t9⟩ := open_agg10 Try.underlying25 (by kernel_rfl) (by kernel_rfl) hval h0
  obtain ⟨a0, e0, _, _⟩ := DataW.trod_int Try.underlying3 t0
  obtain ⟨a2, e2, _, _⟩ := DataW.trod_int Try.underlying3 t2
  obtain ⟨a3, e3, _, _⟩ := DataW.trod_int Try.underlying3 t3
  obtain ⟨a4, e4, _, _⟩ := DataW.trod_int Try.underlying3 t4
  obtain ⟨a6, e6, _, _⟩ := DataW.trod_int Try.underlying3 t6
  obtain ⟨a7, e7, _, _⟩ := DataW.trod_int Try.underlying3 t7
  obtain ⟨a8, e8, _, _⟩ := DataW.trod_int Try.underlying3 t8
  obtain ⟨a5, e5, _⟩ := DataW.trod_bool Try.underlying4 t5
  obtain rfl : c0 = .int .i64 a0 := by simpa using e0
  obtain rfl : c2 = .int .i64 a2 := by simpa using e2
  obtain rfl : c3 = .int .i64 a3 := by simpa using e3
  obtain rfl : c4 = .int .i64 a4 := by simpa using e4
  obtain rfl : c6 = .int .i64 a6 := by simpa using e6
  obtain rfl : c7 = .int .i64 a7 := by simpa using e7
  obtain rfl : c8 = .int .i64 a8 := by simpa using e8
  obtain rfl : c5 = .bool a5 := by simpa using e5
  obtain ⟨l, hl, _⟩ := open_bytesB t1
  obtain ⟨d9, p9⟩ := y9
  have hs : ∃ a len cap, c9 = .slice a len cap := by
    rcases Go.Deep.open_slice Try.underlying23 t9 with ⟨hcs, _⟩ | ⟨a, len, cap, m, n', D, Pl, hcs, _⟩
    · exact ⟨none, 0, 0, by simpa using hcs⟩
    · exact ⟨some a, len, cap, by simpa using hcs⟩
  obtain ⟨a9, len9, cap9, rfl⟩ := hs
  obtain ⟨bs, hb, _⟩ := open_bindsS (a0 := a9) (len0 := len9) (cap0 := cap9) (d0 := d9) (p0 := p9) ⟨n, t9⟩
  exact ⟨a0, a2, a3, a4, a6, a7, a8, a5, c1, _, l, bs, rfl, hl, hb⟩

end Go.Proofs.Ythkgbgkijdeaoaa
