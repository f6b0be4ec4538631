/- What this text proves: an argument that is a directory's parameters, a binding, or a slice of bindings, as the claim's reading has it, holds these in memory. What this text proves: a slice of bindings, as the claim's reading has it, holds no more bytes than the reading's bulk. What this text proves: an argument that is an entry (a number, a slice of bindings), as the claim's reading has it, holds these in memory, and its bindings no more bytes than the reading's bulk. Proved here: Rows.LedgerBytesUptoCardSaid: for all parameters, entries and bytes that hold together at most 1048576 values and letters the Go function annalslaw23.LedgerBytes returns true (any entry as bytes, any bytes as an entry, or the error, are the document's; there and back). -/
import Derived.Test.YtcdikkgkjjopmaaGreatDoorOpenD
import Derived.Test.YtcdikkgkjjopmaaGreatDoorJB1
import Derived.Deep.Strs
import Derived.Lib.SmallJoins
import Derived.Test.YtcdikkgkjjopmaaGreatDoorJC2
import Derived.Test.YtcdikkgkjjopmaaGreatDoorJQ3
namespace Go.Proofs.YtcdikkgkjjopmaaGreatDoor
open Go.ChangeShapes Go.WideShapes Go.ChangeAt Go.RowKit

section
variable {H : Type} {enc : TypeId × Value → H} {P : Program} {w : World} {base : Nat} {spare : Nat → Bool} {held : Bool}

theorem array8 {α : Type} {cs : Array α} (h : cs.size = 8) : ∃ c0 c1 c2 c3 c4 c5 c6 c7, cs = #[c0, c1, c2, c3, c4, c5, c6, c7] := by
  obtain ⟨l⟩ := cs
  match l, h with
  | [c0, c1, c2, c3, c4, c5, c6, c7], _ => exact ⟨c0, c1, c2, c3, c4, c5, c6, c7, rfl⟩

/-- A struct of eight fields of one cell each, opened. -/
theorem open_agg8 {r : Reach} {b0 : Nat} {t : TypeId} {f0 f1 f2 f3 f4 f5 f6 f7 : Field} {v : Value} {d : DataW H} {p : List MemPlace} (hs : P.underlying t = some (.struct #[f0, f1, f2, f3, f4, f5, f6, f7])) (hone : Go.Deep.oneCellFields P #[f0, f1, f2, f3, f4, f5, f6, f7] = true) (hC : P.cellsOf t = 8)
    (hv : Value.okWide P w r b0 t v) (h : DataW.Trod enc P w base spare held t v d p) :
    ∃ (c0 c1 c2 c3 c4 c5 c6 c7 : Value) (y0 y1 y2 y3 y4 y5 y6 y7 : DataW H × List MemPlace) (n : Nat), v = .agg #[c0, c1, c2, c3, c4, c5, c6, c7] ∧ DataW.trod enc P w base spare held n f0.type [c0] = some y0 ∧ DataW.trod enc P w base spare held n f1.type [c1] = some y1 ∧ DataW.trod enc P w base spare held n f2.type [c2] = some y2 ∧ DataW.trod enc P w base spare held n f3.type [c3] = some y3 ∧ DataW.trod enc P w base spare held n f4.type [c4] = some y4 ∧ DataW.trod enc P w base spare held n f5.type [c5] = some y5 ∧ DataW.trod enc P w base spare held n f6.type [c6] = some y6 ∧ DataW.trod enc P w base spare held n f7.type [c7] = some y7 := by
  obtain ⟨cs, rfl, hsz⟩ := okWide_struct hs hv
  obtain ⟨c0, c1, c2, c3, c4, c5, c6, c7, rfl⟩ := array8 (hsz.trans hC)
  obtain ⟨fuel, hf⟩ := h
  obtain ⟨xs, n, _, _, _, hlen, hg⟩ := DataW.trod_struct hs hf
  obtain ⟨o0, k0⟩ := Go.Deep.hone_of hone 0 f0 rfl
  obtain ⟨o1, k1⟩ := Go.Deep.hone_of hone 1 f1 rfl
  obtain ⟨o2, k2⟩ := Go.Deep.hone_of hone 2 f2 rfl
  obtain ⟨o3, k3⟩ := Go.Deep.hone_of hone 3 f3 rfl
  obtain ⟨o4, k4⟩ := Go.Deep.hone_of hone 4 f4 rfl
  obtain ⟨o5, k5⟩ := Go.Deep.hone_of hone 5 f5 rfl
  obtain ⟨o6, k6⟩ := Go.Deep.hone_of hone 6 f6 rfl
  obtain ⟨o7, k7⟩ := Go.Deep.hone_of hone 7 f7 rfl
  match xs, hlen with
  | [y0, y1, y2, y3, y4, y5, y6, y7], _ =>
    have g0 := hg 0 f0 rfl
    have g1 := hg 1 f1 rfl
    have g2 := hg 2 f2 rfl
    have g3 := hg 3 f3 rfl
    have g4 := hg 4 f4 rfl
    have g5 := hg 5 f5 rfl
    have g6 := hg 6 f6 rfl
    have g7 := hg 7 f7 rfl
    exact ⟨c0, c1, c2, c3, c4, c5, c6, c7, y0, y1, y2, y3, y4, y5, y6, y7, n, rfl, by simpa [Value.cells, o0, k0] using g0, by simpa [Value.cells, o1, k1] using g1, by simpa [Value.cells, o2, k2] using g2, by simpa [Value.cells, o3, k3] using g3, by simpa [Value.cells, o4, k4] using g4, by simpa [Value.cells, o5, k5] using g5, by simpa [Value.cells, o6, k6] using g6, by simpa [Value.cells, o7, k7] using g7⟩
end

set_option maxRecDepth 100000 in
theorem open_params {H : Type} {enc : TypeId × Value → H} {W : World} {base : Nat} {v0 : Value} {d0 : DataW H} {p0 : List MemPlace}
    (hval : Value.okWide Tryz.prog W .any base 23 v0) (h0 : DataW.Trod enc Tryz.prog W 0 (fun _ => true) true 23 v0 d0 p0) :
    ∃ (a b mi mk c d e f : Int), v0 = .agg #[.int .i64 a, .int .i64 b, .int .i64 mi, .int .i64 mk, .int .i64 c, .int .i64 d, .int .i64 e, .int .i64 f] ∧ (Lit.int .i64 mi).wf = true ∧ (Lit.int .i64 mk).wf = true := by
  obtain ⟨c0, c1, c2, c3, c4, c5, c6, c7, y0, y1, y2, y3, y4, y5, y6, y7, n, rfl, t0, t1, t2, t3, t4, t5, t6, t7⟩ := open_agg8 Tryz.underlying23 (by kernel_rfl) (by kernel_rfl) hval h0
  obtain ⟨a0, e0, _, w0⟩ := DataW.trod_int Tryz.underlying3 t0
  obtain ⟨a1, e1, _, w1⟩ := DataW.trod_int Tryz.underlying3 t1
  obtain ⟨a2, e2, _, w2⟩ := DataW.trod_int Tryz.underlying3 t2
  obtain ⟨a3, e3, _, w3⟩ := DataW.trod_int Tryz.underlying3 t3
  obtain ⟨a4, e4, _, w4⟩ := DataW.trod_int Tryz.underlying3 t4
  obtain ⟨a5, e5, _, w5⟩ := DataW.trod_int Tryz.underlying3 t5
  obtain ⟨a6, e6, _, w6⟩ := DataW.trod_int Tryz.underlying3 t6
  obtain ⟨a7, e7, _, w7⟩ := DataW.trod_int Tryz.underlying3 t7
  obtain rfl : c0 = .int .i64 a0 := by simpa using e0
  obtain rfl : c1 = .int .i64 a1 := by simpa using e1
  obtain rfl : c2 = .int .i64 a2 := by simpa using e2
  obtain rfl : c3 = .int .i64 a3 := by simpa using e3
  obtain rfl : c4 = .int .i64 a4 := by simpa using e4
  obtain rfl : c5 = .int .i64 a5 := by simpa using e5
  obtain rfl : c6 = .int .i64 a6 := by simpa using e6
  obtain rfl : c7 = .int .i64 a7 := by simpa using e7
  exact ⟨a0, a1, a2, a3, a4, a5, a6, a7, rfl, w2, w3⟩

set_option maxRecDepth 100000 in
theorem open_bytesB {H : Type} {enc : TypeId × Value → H} {W : World} {v0 : Value} {y : DataW H × List MemPlace} {fuel : Nat}
    (hf : DataW.trod enc Tryz.prog W 0 (fun _ => true) true fuel 27 [v0] = some y) : ∃ l : List UInt8, HB W v0 l ∧ (l = [] ∨ ∃ elems spare, y.1 = .slice elems spare ∧ elems.length = l.length) := by
  rcases open_ints Tryz.underlying27 Tryz.underlying5 (by kernel_rfl) hf with ⟨hcs, _⟩ | ⟨x, l, c, zs, hcs, hy, hl, hm, hz, hx, hcell, hwz⟩
  · simp only [List.cons.injEq, and_true] at hcs
    subst hcs
    exact ⟨[], HB.nil W, .inl rfl⟩
  · simp only [List.cons.injEq, and_true] at hcs
    subst hcs
    have hzc : zs.length = c := by simpa using hz
    subst hx
    exact ⟨bytesOf (zs.take l), hb_cells hl hm hzc hcell hwz, .inr ⟨_, _, rfl, by simp [lits, bytesOf]⟩⟩

/-- What was read of bytes is as long as they are. -/
def AsLong {H : Type} (d : DataW H) (l : List UInt8) : Prop := l = [] ∨ ∃ elems spare, d = .slice elems spare ∧ elems.length = l.length

set_option maxRecDepth 100000 in
theorem open_cells2 {H : Type} {enc : TypeId × Value → H} {W : World} {cs : List Value} {y : DataW H × List MemPlace} {fuel : Nat} (hlen : cs.length = 2)
    (hf : DataW.trod enc Tryz.prog W 0 (fun _ => true) true fuel 62 cs = some y) : ∃ (u t : Value) (l m : List UInt8) (d e : DataW H), cs = [u, t] ∧ HB W u l ∧ HB W t m ∧ y.1 = .agg [d, e] ∧ AsLong d l ∧ AsLong e m := by
  match cs, hlen with
  | [c0, c1], _ =>
    obtain ⟨y0, y1, n, hy, _, h0, h1⟩ := trod_struct2 Tryz.underlying62 hf
    have k2 : Tryz.prog.cellsOf 27 = 1 := by kernel_rfl
    simp only [k2, List.drop_zero, List.take_succ_cons, List.take_zero] at h0
    simp only [k2, List.drop_succ_cons, List.drop_zero, List.take_succ_cons, List.take_zero] at h1
    obtain ⟨l, hl, el⟩ := open_bytesB h0
    obtain ⟨m, hm, em⟩ := open_bytesB h1
    exact ⟨c0, c1, l, m, y0.1, y1.1, rfl, hl, hm, by rw [hy], el, em⟩

set_option maxRecDepth 100000 in
theorem open_bind {H : Type} {enc : TypeId × Value → H} {W : World} {base : Nat} {v0 : Value} {d0 : DataW H} {p0 : List MemPlace}
    (hval : Value.okWide Tryz.prog W .any base 62 v0) (h0 : DataW.Trod enc Tryz.prog W 0 (fun _ => true) true 62 v0 d0 p0) :
    ∃ (u t : Value) (l m : List UInt8), v0 = .agg #[u, t] ∧ HB W u l ∧ HB W t m := by
  obtain ⟨v1, v2, y1, y2, n, rfl, _, _, t1, t2⟩ := Go.Joins.open_agg2 Tryz.underlying62 (by kernel_rfl) (by kernel_rfl) hval h0
  obtain ⟨l, hl, _⟩ := open_bytesB t1
  obtain ⟨m, hm, _⟩ := open_bytesB t2
  exact ⟨v1, v2, l, m, rfl, hl, hm⟩

set_option maxRecDepth 100000 in
theorem open_bindsS {H : Type} {enc : TypeId × Value → H} {W : World} {a0 : Option Addr} {len0 cap0 : Nat} {d0 : DataW H} {p0 : List MemPlace}
    (h0 : DataW.Trod enc Tryz.prog W 0 (fun _ => true) true 24 (.slice a0 len0 cap0) d0 p0) :
    ∃ bs : List (List UInt8 × List UInt8), BA W (.slice a0 len0 cap0) bs ∧ (bs = [] ∨ ∃ elems spare, d0 = .slice elems spare ∧ elems.length = bs.length ∧ ∀ (i : Nat) x y, bs[i]? = some x → elems[i]? = some y → ∃ d e, y = .agg [d, e] ∧ AsLong d x.1 ∧ AsLong e x.2) := by
  obtain ⟨fuel, hf⟩ := h0
  rcases Go.Deep.open_slice Tryz.underlying24 hf with ⟨hcs, _⟩ | ⟨a, len, cap, m, n, D, Pl, hcs, _, hl, hm, hmm, hy, hx⟩
  · simp [Value.cells] at hcs
    obtain ⟨rfl, rfl, rfl⟩ := hcs
    exact ⟨[], ⟨none, 0, rfl, Nat.le_refl _, Nat.zero_le _, fun h => absurd rfl h⟩, .inl rfl⟩
  · simp [Value.cells] at hcs
    obtain ⟨rfl, rfl, rfl⟩ := hcs
    simp only [if_true] at hmm
    subst hmm
    have ce : Tryz.prog.cellsOf 62 = 2 := by kernel_rfl
    rw [ce] at hx
    have each : ∀ i, i < m → ∃ q : List UInt8 × List UInt8, ∃ u t d e, W.cell? (a.add (i * 2)) = some u ∧ W.cell? (a.add (i * 2 + 1)) = some t ∧ HB W u q.1 ∧ HB W t q.2 ∧ D i = .agg [d, e] ∧ AsLong d q.1 ∧ AsLong e q.2 := by
      intro i hi
      obtain ⟨cs', h1, h2⟩ := hx i hi
      obtain ⟨_, hlen, hcell⟩ := World.cells?_some h1
      obtain ⟨u, t, l, k, d, e, rfl, hu, ht, hd, el, ek⟩ := open_cells2 hlen h2
      have e0 := hcell 0 (by omega)
      have e1 := hcell 1 (by omega)
      rw [Go.Deep.add_add] at e0 e1
      exact ⟨(l, k), u, t, d, e, by simpa using e0, by simpa using e1, hu, ht, hd, el, ek⟩
    obtain ⟨q, hq⟩ := Go.Deep.choose_lt each
    refine ⟨(List.range len0).map q, ⟨some a, m, by simp, by simpa using hl, hm, fun hne => ?_⟩, .inr ⟨_, _, congrArg Prod.fst hy, by simp, fun i x y hxi hyi => ?_⟩⟩
    · have hlen : 0 < len0 := by
        rcases Nat.eq_zero_or_pos len0 with h | h
        · subst h
          exact absurd rfl hne
        · exact h
      obtain ⟨_, _, _, _, hc0, _⟩ := hq 0 (by omega)
      obtain ⟨b, o, spot⟩ := a
      have hs : spot = none := by simpa [Addr.add] using World.cell?_spot hc0
      subst hs
      refine ⟨b, o, rfl, fun i x hxi => ?_⟩
      have hi : i < len0 := by
        have := (List.getElem?_eq_some_iff.1 hxi).1
        simpa using this
      rw [List.getElem?_map, List.getElem?_range hi] at hxi
      simp only [Option.map_some, Option.some.injEq] at hxi
      subst hxi
      obtain ⟨u, t, _, _, c0, c1, hu, ht, _⟩ := hq i (by omega)
      rw [add_lit] at c0 c1
      obtain ⟨p1, k1, rfl⟩ := hu.shape
      obtain ⟨p2, k2, rfl⟩ := ht.shape
      exact ⟨p1, k1, p2, k2, c0, by rw [Nat.add_assoc]; exact c1, hu, ht⟩
    · have hi : i < len0 := by
        have := (List.getElem?_eq_some_iff.1 hxi).1
        simpa using this
      rw [List.getElem?_map, List.getElem?_range hi] at hxi hyi
      simp only [Option.map_some, Option.some.injEq] at hxi hyi
      subst hxi
      subst hyi
      obtain ⟨_, _, d, e, _, _, _, _, hd, e1, e2⟩ := hq i (by omega)
      exact ⟨d, e, hd, e1, e2⟩

set_option maxRecDepth 100000 in
theorem open_binds {H : Type} {enc : TypeId × Value → H} {W : World} {base : Nat} {v0 : Value} {d0 : DataW H} {p0 : List MemPlace}
    (hval : Value.okWide Tryz.prog W .any base 24 v0) (h0 : DataW.Trod enc Tryz.prog W 0 (fun _ => true) true 24 v0 d0 p0) :
    ∃ bs : List (List UInt8 × List UInt8), BA W v0 bs ∧ (bs = [] ∨ ∃ elems spare, d0 = .slice elems spare ∧ elems.length = bs.length ∧ ∀ (i : Nat) x y, bs[i]? = some x → elems[i]? = some y → ∃ d e, y = .agg [d, e] ∧ AsLong d x.1 ∧ AsLong e x.2) := by
  obtain ⟨a0, len0, cap0, rfl⟩ := okWide_slice Tryz.underlying24 hval
  exact open_bindsS h0

end Go.Proofs.YtcdikkgkjjopmaaGreatDoor

namespace Go.Proofs.YtcdikkgkjjopmaaGreatDoor
open Go.ChangeShapes Go.WideShapes Go.ChangeAt Go.RowKit

theorem bulk_allV {H : Type} : ∀ elems : List (DataW H), elems.length ≤ Rows.uptoBulkAll elems
  | [] => by simp
  | d :: r => by
    have := bulk_allV r
    have h1 : 1 ≤ Rows.uptoBulk d := by unfold Rows.uptoBulk; split <;> omega
    simp only [Rows.uptoBulkAll, List.length_cons]
    omega

theorem hb_bulkV {H : Type} {d0 : DataW H} {l : List UInt8} (hl : l = [] ∨ ∃ elems spare, d0 = .slice elems spare ∧ elems.length = l.length) : l.length ≤ Rows.uptoBulk d0 := by
  rcases hl with rfl | ⟨elems, spare, rfl, e⟩
  · simp
  · have := bulk_allV elems
    simp only [Rows.uptoBulk]
    omega

theorem all_bulk {H : Type} : ∀ (bs : List (List UInt8 × List UInt8)) (elems : List (DataW H)), elems.length = bs.length → (∀ (i : Nat) x y, bs[i]? = some x → elems[i]? = some y → ∃ d e, y = .agg [d, e] ∧ AsLong d x.1 ∧ AsLong e x.2) → bulkB bs ≤ Rows.uptoBulkAll elems
  | [], _, _, _ => by simp [bulkB]
  | x :: t, [], h, _ => by simp at h
  | x :: t, y :: r, h, hz => by
    obtain ⟨d, e, rfl, h1, h2⟩ := hz 0 x y rfl rfl
    have b1 := hb_bulkV h1
    have b2 := hb_bulkV h2
    have ih := all_bulk t r (by simpa using h) (fun i x y hx hy => hz (i + 1) x y (by simpa using hx) (by simpa using hy))
    have e1 : bulkB (x :: t) = (x.1.length + x.2.length) + bulkB t := by simp [bulkB]
    rw [e1]
    simp only [Rows.uptoBulkAll, Rows.uptoBulk]
    omega

theorem binds_bulk {H : Type} {d0 : DataW H} {bs : List (List UInt8 × List UInt8)} (h : bs = [] ∨ ∃ elems spare, d0 = .slice elems spare ∧ elems.length = bs.length ∧ ∀ (i : Nat) x y, bs[i]? = some x → elems[i]? = some y → ∃ d e, y = .agg [d, e] ∧ AsLong d x.1 ∧ AsLong e x.2) : bulkB bs ≤ Rows.uptoBulk d0 := by
  rcases h with rfl | ⟨elems, spare, rfl, h1, h2⟩
  · simp [bulkB]
  · have := all_bulk bs elems h1 h2
    simp only [Rows.uptoBulk]
    omega

end Go.Proofs.YtcdikkgkjjopmaaGreatDoor

namespace Go.Proofs.YtcdikkgkjjopmaaGreatDoor
open Go.ChangeShapes Go.WideShapes Go.ChangeAt Go.RowKit

set_option maxRecDepth 100000 in
theorem open_entU {H : Type} {enc : TypeId × Value → H} {W : World} {base : Nat} {v0 : Value} {d0 : DataW H} {p0 : List MemPlace}
    (hval : Value.okWide Tryz.prog W .any base 26 v0) (h0 : DataW.Trod enc Tryz.prog W 0 (fun _ => true) true 26 v0 d0 p0) :
    ∃ (t : Int) (v : Value) (bs : List (List UInt8 × List UInt8)), v0 = .agg #[.int .i64 t, v] ∧ BA W v bs ∧ bulkB bs ≤ Rows.uptoBulk d0 := by
  obtain ⟨v1, v2, y1, y2, n, rfl, hd, _, t1, t2⟩ := Go.Joins.open_agg2 Tryz.underlying26 (by kernel_rfl) (by kernel_rfl) hval h0
  obtain ⟨t, e1, _, _⟩ := DataW.trod_int Tryz.underlying3 t1
  obtain ⟨pl, nl, cl, e2⟩ := Go.Joins.slice_form Tryz.underlying24 t2
  obtain rfl : v1 = .int .i64 t := by simpa using e1
  obtain rfl : v2 = .slice pl nl cl := by simpa using e2
  obtain ⟨bs, hb, hz⟩ := open_bindsS (d0 := y2.1) (p0 := y2.2) ⟨n, by simpa [Value.cells] using t2⟩
  have hq := binds_bulk hz
  refine ⟨t, _, bs, rfl, hb, ?_⟩
  rw [hd]
  simp only [Rows.uptoBulk, Rows.uptoBulkAll]
  omega

end Go.Proofs.YtcdikkgkjjopmaaGreatDoor

namespace Go.Proofs.YtcdikkgkjjopmaaGreatDoor
open Go.ChangeShapes Go.WideShapes Go.ChangeAt Go.RowKit

set_option maxRecDepth 100000 in
theorem ledgerBytesContract (H : Type) (enc : TypeId × Value → H) (W : World) (base : Nat) (args : Array Value) (ds gs : List (DataW H)) (before : List MemPlace)
    (hval : ∀ (j : Nat) t v, Tryz.f3.params[j]? = some t → args[j]? = some v → Value.okWide Tryz.prog W .any base t v)
    (hW : DataW.Whole enc Tryz.prog Tryz.f3.params.toList Rows.ledgerBytesSpec.vars false W args.toList ds gs before) (hk : Rows.uptoSmall H (ds ++ gs) = true) (hL : laidMetH Tryz.prog Rows.ledgerBytesUptoRow.laid W) :
    Calls Tryz.prog 3 args W fun e W' => ∃ v, e = .returned v ∧ Rows.ledgerBytesSpec.post enc Tryz.prog Tryz.f3 false true false false W args v W' := by
  have hT : Tabs W := tabs_of hL
  have hW' := hW
  obtain ⟨p, q, hA0, hV, rfl, hfz, hnd⟩ := hW
  have hA : DataW.TrodAll enc Tryz.prog W 0 (fun _ => true) true Tryz.f3.params.toList args.toList ds p := hA0
  rw [Tryz.params3] at hA hval
  obtain ⟨v0, vs0, d0, ds0, p0, q0, hargs, rfl, rfl, h0, r0⟩ := trodAll_cons hA
  obtain ⟨v1, vs1, d1, ds1, p1, q1, rfl, rfl, rfl, h1, r1⟩ := trodAll_cons r0
  obtain ⟨v2, vs2, d2, ds2, p2, q2, rfl, rfl, rfl, h2, r2⟩ := trodAll_cons r1
  obtain ⟨rfl, rfl, rfl⟩ := trodAll_nil r2
  obtain rfl : args = #[v0, v1, v2] := by cases args; simp_all
  obtain ⟨rfl, rfl⟩ := trodVars_none hV
  have k0 := h0
  have lt0 : ∀ x ∈ p0, x.block < W.heap.size := by obtain ⟨m, hm⟩ := k0; exact DataW.trod_lt m _ _ _ hm
  obtain ⟨pa0, pb0, pi0, pk0, pc0, pd0, pe0, pf0, rfl, wi0, wk0⟩ := open_params (hval 0 23 v0 rfl rfl) h0
  have k1 := h1
  have lt1 : ∀ x ∈ p1, x.block < W.heap.size := by obtain ⟨m, hm⟩ := k1; exact DataW.trod_lt m _ _ _ hm
  obtain ⟨en1, ve1, bs1, rfl, hl1, hz1⟩ := open_entU (hval 1 26 v1 rfl rfl) h1
  have k2 := h2
  have lt2 : ∀ x ∈ p2, x.block < W.heap.size := by obtain ⟨m, hm⟩ := k2; exact DataW.trod_lt m _ _ _ hm
  obtain ⟨l2, hl2, he2⟩ := open_hb (hval 2 27 v2 rfl rfl) h2
  have hu2 := hb_bulkV he2
  have hsum : bulkB bs1 + l2.length ≤ 1048576 := by
    have h := of_decide_eq_true hk
    simp only [List.append_nil, Rows.uptoBulkAll] at h
    omega
  clear hA0
  simp only [List.append_nil] at hW'
  refine (lbWalk pa0 pb0 pi0 pk0 pc0 pd0 pe0 pf0 en1 ve1 v2 bs1 l2 W hl1 hl2 (by omega) (by omega) hT).mono fun e W' ⟨he, bel⟩ => ?_
  subst he
  exact ⟨_, rfl, _, _, _, [], _, [], hW', trodAll_mk1 (shut_bool Tryz.underlying4 _), (trodAll_cons_mk (Below.trod laidOut (by kernel_rfl) (of_decide_eq_true (by kernel_rfl)) k0 bel lt0) (trodAll_cons_mk (Below.trod laidOut (by kernel_rfl) (of_decide_eq_true (by kernel_rfl)) k1 bel lt1) (trodAll_cons_mk (Below.trod laidOut (by kernel_rfl) (of_decide_eq_true (by kernel_rfl)) k2 bel lt2) trodAll_mk0))), rfl, bel.frame _, fun h => by cases h⟩

theorem ledgerBytesMet (os : Os) : laidMet Tryz.prog Rows.ledgerBytesUptoRow.laid (({ World.holding Tryz.prog os ⟨#[], #[], []⟩ with heap := ((World.holding Tryz.prog os ⟨#[], #[], []⟩).heap.modify 0 fun | .cells _ t frozen => .cells startCells t frozen | o => o).modify 1 fun | .cells _ t frozen => .cells roundsCells t frozen | o => o } : World).forCall (fun _ _ => 0) ⟨#[], #[.agg #[.int .i64 0, .int .i64 0, .int .i64 0, .int .i64 0, .int .i64 0, .int .i64 0, .int .i64 0, .int .i64 0], .agg #[.int .i64 0, .slice none 0 0], .slice none 0 0], []⟩).memory :=
  laidMet_of_run' 8 (by kernel_rfl) (by kernel_rfl)
theorem ledgerBytesReads (os : Os) {H : Type} (enc : TypeId × Value → H) : ∃ places, DataW.whole enc Tryz.prog (({ World.holding Tryz.prog os ⟨#[], #[], []⟩ with heap := ((World.holding Tryz.prog os ⟨#[], #[], []⟩).heap.modify 0 fun | .cells _ t frozen => .cells startCells t frozen | o => o).modify 1 fun | .cells _ t frozen => .cells roundsCells t frozen | o => o } : World).forCall (fun _ _ => 0) ⟨#[], #[.agg #[.int .i64 0, .int .i64 0, .int .i64 0, .int .i64 0, .int .i64 0, .int .i64 0, .int .i64 0, .int .i64 0], .agg #[.int .i64 0, .slice none 0 0], .slice none 0 0], []⟩).memory Tryz.f3.params.toList Rows.ledgerBytesSpec.vars false (#[.agg #[.int .i64 0, .int .i64 0, .int .i64 0, .int .i64 0, .int .i64 0, .int .i64 0, .int .i64 0, .int .i64 0], .agg #[.int .i64 0, .slice none 0 0], .slice none 0 0] : Array Value).toList 8 = some ([.agg [.lit (.int .i64 0), .lit (.int .i64 0), .lit (.int .i64 0), .lit (.int .i64 0), .lit (.int .i64 0), .lit (.int .i64 0), .lit (.int .i64 0), .lit (.int .i64 0)], .agg [.lit (.int .i64 0), .nil], .nil], [], places) :=
  ⟨[], by kernel_rfl⟩

set_option maxRecDepth 100000 in
theorem ledgerBytesLifted (os : Os) (started : os.Started) (H : Type) (enc : TypeId × Value → H) (F : Stop.Interp) :
    ReturnsInHanded {} Tryz.checked os 3 .any ((Rows.OpenSpec.upto Rows.ledgerBytesSpec).preRow enc Tryz.prog Tryz.f3 Rows.ledgerBytesUptoRow.domain false Rows.ledgerBytesUptoRow.laid) (((Rows.OpenSpec.upto Rows.ledgerBytesSpec).at F).post enc Tryz.prog Tryz.f3 false true false false) := by
  obtain ⟨places, hx⟩ := ledgerBytesReads os enc
  refine returnsInHanded_of_row (C := Tryz.checked) (s := Rows.OpenSpec.upto Rows.ledgerBytesSpec) own started (by kernel_rfl) Tryz.func3
    (witness_row_at (enc := enc) (C := Tryz.checked) false ({ World.holding Tryz.prog os ⟨#[], #[], []⟩ with heap := ((World.holding Tryz.prog os ⟨#[], #[], []⟩).heap.modify 0 fun | .cells _ t frozen => .cells startCells t frozen | o => o).modify 1 fun | .cells _ t frozen => .cells roundsCells t frozen | o => o } : World) #[.agg #[.int .i64 0, .int .i64 0, .int .i64 0, .int .i64 0, .int .i64 0, .int .i64 0, .int .i64 0, .int .i64 0], .agg #[.int .i64 0, .slice none 0 0], .slice none 0 0] rfl (by kernel_rfl) (by kernel_rfl) (by kernel_rfl)
      (OpenSpec.preRow_of_cond 8 hx (by kernel_rfl) (fun k hk => by cases hk; kernel_rfl) (by kernel_rfl) (ledgerBytesMet os))) ?_
  intro W base args ds gs before hval hW _ hcond _ hL _ _
  exact ledgerBytesContract H enc W base args ds gs before hval hW (hcond _ rfl) hL

theorem ledgerBytesSaid_holds : Rows.LedgerBytesUptoSaid :=
  OpenClaim.holds_of_cond 3 Tryz.f3 rfl rfl rfl rfl rfl rfl rfl ⟨rfl, rfl, rfl, rfl, rfl⟩ rfl rfl rfl rfl rfl (by kernel_rfl) Tryz.func3 (by kernel_rfl)
    (of_decide_eq_true (by kernel_rfl)) (by unfold Func.isWrapper; first | (rw [if_pos (by decide +kernel)]; kernel_rfl) | (rw [if_neg (by decide +kernel)]; exact ⟨rfl, rfl⟩))
    (fun os started H enc _ F => by rw [OpenClaim.pre_eq_preRow]; exact ledgerBytesLifted os started H enc F)

theorem ledgerBytesPlain (f : FuncId) (fn : Func) (hf : Tryz.pinned.checked.prog.funcNamed "annals/annalslaw23.LedgerBytes" = some f) (hfn : Tryz.pinned.checked.prog.funcs[f]? = some fn) :
    false = Tryz.pinned.checked.prog.looks [] ∧ ∀ (j : Nat) t, fn.params[j]? = some t → Tryz.pinned.checked.prog.wantsStandIn t = false := by
  obtain rfl : f = 3 := Option.some.inj ((show Tryz.prog.funcNamed "annals/annalslaw23.LedgerBytes" = some 3 by kernel_rfl).symm.trans hf) |>.symm
  obtain rfl : fn = Tryz.f3 := (Option.some.inj (Tryz.func3.symm.trans hfn)).symm
  refine ⟨by kernel_rfl, fun j t ht => ?_⟩
  rw [Tryz.params3] at ht
  have hm : t = 23 ∨ t = 26 ∨ t = 27 := by simpa using Array.mem_of_getElem? ht
  rcases hm with rfl | rfl | rfl
  · exact (show Tryz.prog.wantsStandIn 23 = false by kernel_rfl)
  · exact (show Tryz.prog.wantsStandIn 26 = false by kernel_rfl)
  · exact (show Tryz.prog.wantsStandIn 27 = false by kernel_rfl)

theorem ledgerBytes_holds : Rows.LedgerBytesUptoCardSaid :=
  Claim7.holds_tied_plain_at .later [] _ _ _ _ ledgerBytesSaid_holds (fun _ h => by cases h) (by kernel_rfl) (fun _ h => by cases h) ledgerBytesUpto_row_tie rfl ⟨rfl, rfl⟩ (by kernel_rfl) rfl ledgerBytesPlain (by kernel_rfl)

#print axioms ledgerBytes_holds
end Go.Proofs.YtcdikkgkjjopmaaGreatDoor
