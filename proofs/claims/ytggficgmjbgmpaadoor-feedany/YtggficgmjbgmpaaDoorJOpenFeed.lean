/- What this text proves: arguments that are slices of records, of events, of lists of digests, as the claim's reading has them, hold these in memory. -/
import Derived.Test.YtggficgmjbgmpaaDoorOpenD
import Derived.Test.YtggficgmjbgmpaaDoorJFdVoc
import Derived.Deep.Strs
import Derived.Lib.SmallJoins
namespace Go.Proofs.YtggficgmjbgmpaaDoor
open Go.ChangeShapes Go.WideShapes Go.ChangeAt Go.RowKit

section
variable {H : Type} {enc : TypeId × Value → H} {P : Program} {w : World} {base : Nat} {spare : Nat → Bool} {held : Bool}

/-- Six cells of a struct of six fields of one cell each, opened. -/
theorem open_list6 {t : TypeId} {f0 f1 f2 f3 f4 f5 : Field} {cs : List Value} {y : DataW H × List MemPlace} {fuel : Nat} (hs : P.underlying t = some (.struct #[f0, f1, f2, f3, f4, f5])) (hone : Go.Deep.oneCellFields P #[f0, f1, f2, f3, f4, f5] = true) (hl : cs.length = 6)
    (hf : DataW.trod enc P w base spare held fuel t cs = some y) :
    ∃ (c0 c1 c2 c3 c4 c5 : Value) (y0 y1 y2 y3 y4 y5 : DataW H × List MemPlace) (n : Nat), cs = [c0, c1, c2, c3, c4, c5] ∧ DataW.trod enc P w base spare held n f0.type [c0] = some y0 ∧ DataW.trod enc P w base spare held n f1.type [c1] = some y1 ∧ DataW.trod enc P w base spare held n f2.type [c2] = some y2 ∧ DataW.trod enc P w base spare held n f3.type [c3] = some y3 ∧ DataW.trod enc P w base spare held n f4.type [c4] = some y4 ∧ DataW.trod enc P w base spare held n f5.type [c5] = some y5 := by
  match cs, hl with
  | [c0, c1, c2, c3, c4, c5], _ =>
    obtain ⟨xs, n, _, _, _, hlen, hg⟩ := DataW.trod_struct hs hf
    obtain ⟨o0, k0⟩ := Go.Deep.hone_of hone 0 f0 rfl
    obtain ⟨o1, k1⟩ := Go.Deep.hone_of hone 1 f1 rfl
    obtain ⟨o2, k2⟩ := Go.Deep.hone_of hone 2 f2 rfl
    obtain ⟨o3, k3⟩ := Go.Deep.hone_of hone 3 f3 rfl
    obtain ⟨o4, k4⟩ := Go.Deep.hone_of hone 4 f4 rfl
    obtain ⟨o5, k5⟩ := Go.Deep.hone_of hone 5 f5 rfl
    match xs, hlen with
    | [y0, y1, y2, y3, y4, y5], _ =>
      have g0 := hg 0 f0 rfl
      have g1 := hg 1 f1 rfl
      have g2 := hg 2 f2 rfl
      have g3 := hg 3 f3 rfl
      have g4 := hg 4 f4 rfl
      have g5 := hg 5 f5 rfl
      exact ⟨c0, c1, c2, c3, c4, c5, y0, y1, y2, y3, y4, y5, n, rfl, by simpa [Value.cells, o0, k0] using g0, by simpa [Value.cells, o1, k1] using g1, by simpa [Value.cells, o2, k2] using g2, by simpa [Value.cells, o3, k3] using g3, by simpa [Value.cells, o4, k4] using g4, by simpa [Value.cells, o5, k5] using g5⟩
/-- Four cells of a struct of four fields of one cell each, opened. -/
theorem open_list4 {t : TypeId} {f0 f1 f2 f3 : Field} {cs : List Value} {y : DataW H × List MemPlace} {fuel : Nat} (hs : P.underlying t = some (.struct #[f0, f1, f2, f3])) (hone : Go.Deep.oneCellFields P #[f0, f1, f2, f3] = true) (hl : cs.length = 4)
    (hf : DataW.trod enc P w base spare held fuel t cs = some y) :
    ∃ (c0 c1 c2 c3 : Value) (y0 y1 y2 y3 : DataW H × List MemPlace) (n : Nat), cs = [c0, c1, c2, c3] ∧ DataW.trod enc P w base spare held n f0.type [c0] = some y0 ∧ DataW.trod enc P w base spare held n f1.type [c1] = some y1 ∧ DataW.trod enc P w base spare held n f2.type [c2] = some y2 ∧ DataW.trod enc P w base spare held n f3.type [c3] = some y3 := by
  match cs, hl with
  | [c0, c1, c2, c3], _ =>
    obtain ⟨xs, n, _, _, _, hlen, hg⟩ := DataW.trod_struct hs hf
    obtain ⟨o0, k0⟩ := Go.Deep.hone_of hone 0 f0 rfl
    obtain ⟨o1, k1⟩ := Go.Deep.hone_of hone 1 f1 rfl
    obtain ⟨o2, k2⟩ := Go.Deep.hone_of hone 2 f2 rfl
    obtain ⟨o3, k3⟩ := Go.Deep.hone_of hone 3 f3 rfl
    match xs, hlen with
    | [y0, y1, y2, y3], _ =>
      have g0 := hg 0 f0 rfl
      have g1 := hg 1 f1 rfl
      have g2 := hg 2 f2 rfl
      have g3 := hg 3 f3 rfl
      exact ⟨c0, c1, c2, c3, y0, y1, y2, y3, n, rfl, by simpa [Value.cells, o0, k0] using g0, by simpa [Value.cells, o1, k1] using g1, by simpa [Value.cells, o2, k2] using g2, by simpa [Value.cells, o3, k3] using g3⟩
end

set_option maxRecDepth 100000 in
theorem open_bytesR {H : Type} {enc : TypeId × Value → H} {W : World} {v0 : Value} {y : DataW H × List MemPlace} {fuel : Nat}
    (hf : DataW.trod enc Tryd.prog W 0 (fun _ => true) true fuel 39 [v0] = some y) : ∃ l : List UInt8, HB W v0 l := by
  rcases open_ints Tryd.underlying39 Tryd.underlying5 (by kernel_rfl) hf with ⟨hcs, _⟩ | ⟨x, l, c, zs, hcs, hy, hl, hm, hz, hx, hcell, hwz⟩
  · simp only [List.cons.injEq, and_true] at hcs
    subst hcs
    exact ⟨[], HB.nil W⟩
  · simp only [List.cons.injEq, and_true] at hcs
    subst hcs
    have hzc : zs.length = c := by simpa using hz
    exact ⟨bytesOf (zs.take l), hb_cells hl hm hzc hcell hwz⟩

set_option maxRecDepth 100000 in
set_option maxHeartbeats 400000 in
theorem open_rowsR {H : Type} {enc : TypeId × Value → H} {W : World} {v0 : Value} {y : DataW H × List MemPlace} {fuel : Nat}
    (hf : DataW.trod enc Tryd.prog W 0 (fun _ => true) true fuel 33 [v0] = some y) :
    ∃ ls : List (List UInt8), PA W v0 ls := by
  rcases Go.Deep.open_int_rows Tryd.underlying33 Tryd.underlying39 Tryd.underlying5 (by kernel_rfl) (by kernel_rfl) hf with ⟨hcs, _⟩ | ⟨a, len, cap, A, L, C, Z, hcs, _, hl, hm, _, hx⟩
  · simp only [List.cons.injEq, and_true] at hcs
    subst hcs
    exact ⟨[], PA.nil W⟩
  · simp only [List.cons.injEq, and_true] at hcs
    subst hcs
    refine ⟨(List.range len).map fun r => bytesOf ((Z r).take (L r)), some a, cap, (List.range len).map fun r => .slice (A r) (L r) (C r), by simp, by simpa using hl, hm, (fun h => by cases h), by simp, fun hne => ?_, fun i x l hxi hli => ?_⟩
    · have hlen : 0 < len := by
        rcases Nat.eq_zero_or_pos len with h | h
        · subst h
          exact absurd rfl hne
        · exact h
      have hc0 := (hx 0 (by omega)).1
      obtain ⟨b, o, spot⟩ := a
      have hs : spot = none := by simpa [Addr.add] using World.cell?_spot hc0
      subst hs
      refine ⟨b, o, rfl, fun i x hxi => ?_⟩
      have hi : i < len := by
        have := (List.getElem?_eq_some_iff.1 hxi).1
        simpa using this
      have hc := (hx i (by omega)).1
      have ha : (⟨b, o, none⟩ : Addr).add i = ⟨b, o + i, none⟩ := by unfold Addr.add; split <;> simp_all
      rw [ha] at hc
      rw [hc]
      simp [hi] at hxi
      rw [hxi]
    · have hi : i < len := by
        have := (List.getElem?_eq_some_iff.1 hxi).1
        simpa using this
      simp [hi] at hxi hli
      subst hxi; subst hli
      obtain ⟨_, h1, h2, h3, h4, h5, h6⟩ := hx i (by omega)
      cases hA : A i with
      | none =>
        have hc := h5 hA
        have hL : L i = 0 := by omega
        rw [hL, hc]
        simp only [List.take_zero, bytesOf, List.map_nil]
        exact HB.nil W
      | some a' =>
        exact hb_cells h1 h2 h3 (fun j hj => (h6 a' hA).2 j (by omega)) h4

set_option maxRecDepth 100000 in
theorem open_cells6 {H : Type} {enc : TypeId × Value → H} {W : World} {cs : List Value} {y : DataW H × List MemPlace} {fuel : Nat} (hlen : cs.length = 6)
    (hf : DataW.trod enc Tryd.prog W 0 (fun _ => true) true fuel 41 cs = some y) : ∃ (r : Rk) (t : Int) (tr : List UInt8) (lk : List (List UInt8)) (tv lv kv : Value), cs = [.int .i64 r.e, .int .i64 t, tv, .int .i64 r.c, lv, kv] ∧ HB W tv tr ∧ HB W lv r.li ∧ PA W kv lk ∧ (-9223372036854775808 ≤ r.c ∧ r.c ≤ 9223372036854775807) := by
  obtain ⟨c0, c1, c2, c3, c4, c5, y0, y1, y2, y3, y4, y5, n, rfl, t0, t1, t2, t3, t4, t5⟩ := open_list6 Tryd.underlying41 (by kernel_rfl) hlen hf
  obtain ⟨a0, e0, _, w0⟩ := DataW.trod_int Tryd.underlying3 t0
  obtain ⟨a1, e1, _, w1⟩ := DataW.trod_int Tryd.underlying3 t1
  obtain ⟨a3, e3, _, w3⟩ := DataW.trod_int Tryd.underlying3 t3
  obtain ⟨tr, h2⟩ := open_bytesR t2
  obtain ⟨li, h4⟩ := open_bytesR t4
  obtain ⟨lk, h5⟩ := open_rowsR t5
  obtain rfl : c0 = .int .i64 a0 := by simpa using e0
  obtain rfl : c1 = .int .i64 a1 := by simpa using e1
  obtain rfl : c3 = .int .i64 a3 := by simpa using e3
  exact ⟨⟨a0, a3, li⟩, a1, tr, lk, c2, c4, c5, rfl, h2, h4, h5, bounds_i64 w3⟩

set_option maxRecDepth 100000 in
theorem open_recsK {H : Type} {enc : TypeId × Value → H} {W : World} {base : Nat} {v0 : Value} {d0 : DataW H} {p0 : List MemPlace}
    (hval : Value.okWide Tryd.prog W .any base 37 v0) (h0 : DataW.Trod enc Tryd.prog W 0 (fun _ => true) true 37 v0 d0 p0) :
    ∃ rs : List Rk, KA W v0 rs ∧ ∀ r ∈ rs, -9223372036854775808 ≤ r.c ∧ r.c ≤ 9223372036854775807 := by
  haveI : Inhabited Rk := ⟨⟨0, 0, []⟩⟩
  obtain ⟨a0, len0, cap0, rfl⟩ := okWide_slice Tryd.underlying37 hval
  obtain ⟨fuel, hf⟩ := h0
  rcases Go.Deep.open_slice Tryd.underlying37 hf with ⟨hcs, _⟩ | ⟨a, len, cap, m, n, D, Pl, hcs, _, hl, hm, hmm, hy, hx⟩
  · simp [Value.cells] at hcs
    obtain ⟨rfl, rfl, rfl⟩ := hcs
    exact ⟨[], ⟨none, 0, rfl, Nat.le_refl _, Nat.zero_le _, fun h => absurd rfl h⟩, fun x hx => by cases hx⟩
  · simp [Value.cells] at hcs
    obtain ⟨rfl, rfl, rfl⟩ := hcs
    simp only [if_true] at hmm
    subst hmm
    have ce : Tryd.prog.cellsOf 41 = 6 := by kernel_rfl
    rw [ce] at hx
    have each : ∀ i, i < m → ∃ q : Rk, ∃ (t : Int) (tr : List UInt8) (lk : List (List UInt8)) (tv lv kv : Value), (W.cell? (a.add (i * 6)) = some (.int .i64 q.e) ∧ W.cell? (a.add (i * 6 + 1)) = some (.int .i64 t) ∧ W.cell? (a.add (i * 6 + 2)) = some tv ∧ W.cell? (a.add (i * 6 + 3)) = some (.int .i64 q.c) ∧ W.cell? (a.add (i * 6 + 4)) = some lv ∧ W.cell? (a.add (i * 6 + 5)) = some kv) ∧ HB W tv tr ∧ HB W lv q.li ∧ PA W kv lk ∧ (-9223372036854775808 ≤ q.c ∧ q.c ≤ 9223372036854775807) := by
      intro i hi
      obtain ⟨cs', h1, h2⟩ := hx i hi
      obtain ⟨_, hlen, hcell⟩ := World.cells?_some h1
      obtain ⟨r, t, tr, lk, tv, lv, kv, rfl, q1, q2, q3⟩ := open_cells6 hlen h2
      have e0 := hcell 0 (by omega)
      have e1 := hcell 1 (by omega)
      have e2 := hcell 2 (by omega)
      have e3 := hcell 3 (by omega)
      have e4 := hcell 4 (by omega)
      have e5 := hcell 5 (by omega)
      rw [Go.Deep.add_add] at e0 e1 e2 e3 e4 e5
      exact ⟨r, t, tr, lk, tv, lv, kv, ⟨by simpa using e0, by simpa using e1, by simpa using e2, by simpa using e3, by simpa using e4, by simpa using e5⟩, q1, q2, q3⟩
    obtain ⟨q, hq⟩ := Go.Deep.choose_lt each
    refine ⟨(List.range len0).map q, ⟨some a, m, by simp, by simpa using hl, hm, fun hne => ?_⟩, fun r hr => ?_⟩
    rotate_left
    · obtain ⟨i, hi, rfl⟩ := List.mem_map.1 hr
      obtain ⟨_, _, _, _, _, _, _, _, _, _, hb⟩ := hq i (by have := List.mem_range.1 hi; omega)
      exact hb
    have hlen : 0 < len0 := by
      rcases Nat.eq_zero_or_pos len0 with h | h
      · subst h
        exact absurd rfl hne
      · exact h
    obtain ⟨_, _, _, _, _, _, ⟨hc0, _⟩, _⟩ := hq 0 (by omega)
    obtain ⟨b, o, spot⟩ := a
    have hs : spot = none := by simpa [Addr.add] using World.cell?_spot hc0
    subst hs
    refine ⟨b, o, rfl, fun i x hxi => ?_⟩
    have hi : i < len0 := by
      have := (List.getElem?_eq_some_iff.1 hxi).1
      simpa using this
    rw [List.getElem?_map, List.getElem?_range hi] at hxi
    simp only [Option.map_some, Option.some.injEq] at hxi
    subst hxi
    obtain ⟨t, tr, lk, tv, lv, kv, ⟨c0, c1, c2, c3, c4, c5⟩, h1, h2, h3, _⟩ := hq i (by omega)
    rw [add_lit] at c0 c1 c2 c3 c4 c5
    obtain ⟨p1, k1, rfl⟩ := h1.shape
    obtain ⟨p2, k2, rfl⟩ := h2.shape
    obtain ⟨p3, k3, rfl⟩ := h3.shape
    exact ⟨t, p1, _, k1, p2, k2, p3, _, k3, ⟨c0, by rw [Nat.add_assoc]; exact c1, by rw [Nat.add_assoc]; exact c2, by rw [Nat.add_assoc]; exact c3, by rw [Nat.add_assoc]; exact c4, by rw [Nat.add_assoc]; exact c5⟩, h2⟩

set_option maxRecDepth 100000 in
theorem open_cells4 {H : Type} {enc : TypeId × Value → H} {W : World} {cs : List Value} {y : DataW H × List MemPlace} {fuel : Nat} (hlen : cs.length = 4)
    (hf : DataW.trod enc Tryd.prog W 0 (fun _ => true) true fuel 53 cs = some y) : ∃ (x : Ev) (u t : Value), cs = [.int .i64 x.e, .int .i64 x.i, u, t] ∧ HB W u x.id ∧ HB W t x.key := by
  obtain ⟨c0, c1, c2, c3, y0, y1, y2, y3, n, rfl, t0, t1, t2, t3⟩ := open_list4 Tryd.underlying53 (by kernel_rfl) hlen hf
  obtain ⟨a0, e0, _, w0⟩ := DataW.trod_int Tryd.underlying3 t0
  obtain ⟨a1, e1, _, w1⟩ := DataW.trod_int Tryd.underlying3 t1
  obtain ⟨l, h2⟩ := open_bytesR t2
  obtain ⟨k, h3⟩ := open_bytesR t3
  obtain rfl : c0 = .int .i64 a0 := by simpa using e0
  obtain rfl : c1 = .int .i64 a1 := by simpa using e1
  exact ⟨⟨a0, a1, l, k⟩, c2, c3, rfl, h2, h3⟩

set_option maxRecDepth 100000 in
theorem open_events {H : Type} {enc : TypeId × Value → H} {W : World} {base : Nat} {v0 : Value} {d0 : DataW H} {p0 : List MemPlace}
    (hval : Value.okWide Tryd.prog W .any base 38 v0) (h0 : DataW.Trod enc Tryd.prog W 0 (fun _ => true) true 38 v0 d0 p0) :
    ∃ l : List Ev, EA W v0 l := by
  haveI : Inhabited Ev := ⟨⟨0, 0, [], []⟩⟩
  obtain ⟨a0, len0, cap0, rfl⟩ := okWide_slice Tryd.underlying38 hval
  obtain ⟨fuel, hf⟩ := h0
  rcases Go.Deep.open_slice Tryd.underlying38 hf with ⟨hcs, _⟩ | ⟨a, len, cap, m, n, D, Pl, hcs, _, hl, hm, hmm, hy, hx⟩
  · simp [Value.cells] at hcs
    obtain ⟨rfl, rfl, rfl⟩ := hcs
    exact ⟨[], ⟨none, 0, rfl, Nat.le_refl _, Nat.zero_le _, fun h => absurd rfl h⟩⟩
  · simp [Value.cells] at hcs
    obtain ⟨rfl, rfl, rfl⟩ := hcs
    simp only [if_true] at hmm
    subst hmm
    have ce : Tryd.prog.cellsOf 53 = 4 := by kernel_rfl
    rw [ce] at hx
    have each : ∀ i, i < m → ∃ q : Ev, ∃ (u t : Value), (W.cell? (a.add (i * 4)) = some (.int .i64 q.e) ∧ W.cell? (a.add (i * 4 + 1)) = some (.int .i64 q.i) ∧ W.cell? (a.add (i * 4 + 2)) = some u ∧ W.cell? (a.add (i * 4 + 3)) = some t) ∧ HB W u q.id ∧ HB W t q.key := by
      intro i hi
      obtain ⟨cs', h1, h2⟩ := hx i hi
      obtain ⟨_, hlen, hcell⟩ := World.cells?_some h1
      obtain ⟨r, u, t, rfl, q1, q2⟩ := open_cells4 hlen h2
      have e0 := hcell 0 (by omega)
      have e1 := hcell 1 (by omega)
      have e2 := hcell 2 (by omega)
      have e3 := hcell 3 (by omega)
      rw [Go.Deep.add_add] at e0 e1 e2 e3
      exact ⟨r, u, t, ⟨by simpa using e0, by simpa using e1, by simpa using e2, by simpa using e3⟩, q1, q2⟩
    obtain ⟨q, hq⟩ := Go.Deep.choose_lt each
    refine ⟨(List.range len0).map q, ⟨some a, m, by simp, by simpa using hl, hm, fun hne => ?_⟩⟩
    have hlen : 0 < len0 := by
      rcases Nat.eq_zero_or_pos len0 with h | h
      · subst h
        exact absurd rfl hne
      · exact h
    obtain ⟨_, _, ⟨hc0, _⟩, _⟩ := hq 0 (by omega)
    obtain ⟨b, o, spot⟩ := a
    have hs : spot = none := by simpa [Addr.add] using World.cell?_spot hc0
    subst hs
    refine ⟨b, o, rfl, fun i x hxi => ?_⟩
    have hi : i < len0 := by
      have := (List.getElem?_eq_some_iff.1 hxi).1
      simpa using this
    rw [List.getElem?_map, List.getElem?_range hi] at hxi
    simp only [Option.map_some, Option.some.injEq] at hxi
    subst hxi
    obtain ⟨u, t, ⟨c0, c1, c2, c3⟩, h1, h2⟩ := hq i (by omega)
    rw [add_lit] at c0 c1 c2 c3
    obtain ⟨p1, k1, rfl⟩ := h1.shape
    obtain ⟨p2, k2, rfl⟩ := h2.shape
    exact ⟨p1, k1, p2, k2, ⟨c0, by rw [Nat.add_assoc]; exact c1, by rw [Nat.add_assoc]; exact c2, by rw [Nat.add_assoc]; exact c3⟩, h1, h2⟩

set_option maxRecDepth 100000 in
theorem open_rowss {H : Type} {enc : TypeId × Value → H} {W : World} {base : Nat} {v0 : Value} {d0 : DataW H} {p0 : List MemPlace}
    (hval : Value.okWide Tryd.prog W .any base 25 v0) (h0 : DataW.Trod enc Tryd.prog W 0 (fun _ => true) true 25 v0 d0 p0) :
    ∃ bss : List (List (List UInt8)), GA PA W v0 bss := by
  obtain ⟨a0, len0, cap0, rfl⟩ := okWide_slice Tryd.underlying25 hval
  obtain ⟨fuel, hf⟩ := h0
  rcases Go.Deep.open_slice Tryd.underlying25 hf with ⟨hcs, _⟩ | ⟨a, len, cap, m, n, D, Pl, hcs, _, hl, hm, hmm, hy, hx⟩
  · simp [Value.cells] at hcs
    obtain ⟨rfl, rfl, rfl⟩ := hcs
    exact ⟨[], ⟨none, 0, rfl, Nat.le_refl _, Nat.zero_le _, fun h => absurd rfl h⟩⟩
  · simp [Value.cells] at hcs
    obtain ⟨rfl, rfl, rfl⟩ := hcs
    simp only [if_true] at hmm
    subst hmm
    have ce : Tryd.prog.cellsOf 33 = 1 := by kernel_rfl
    rw [ce] at hx
    have each : ∀ i, i < m → ∃ q : List (List UInt8), ∃ v, W.cell? (a.add (i * 1)) = some v ∧ PA W v q := by
      intro i hi
      obtain ⟨cs', h1, h2⟩ := hx i hi
      obtain ⟨_, hlen, hcell⟩ := World.cells?_some h1
      match cs', hlen with
      | [c], _ =>
        obtain ⟨rs, hr⟩ := open_rowsR h2
        have e0 := hcell 0 (by omega)
        rw [Go.Deep.add_add] at e0
        exact ⟨rs, c, by simpa using e0, hr⟩
    obtain ⟨q, hq⟩ := Go.Deep.choose_lt each
    refine ⟨(List.range len0).map q, ⟨some a, m, by simp, by simpa using hl, hm, fun hne => ?_⟩⟩
    have hlen : 0 < len0 := by
      rcases Nat.eq_zero_or_pos len0 with h | h
      · subst h
        exact absurd rfl hne
      · exact h
    obtain ⟨_, hc0, _⟩ := hq 0 (by omega)
    obtain ⟨b, o, spot⟩ := a
    have hs : spot = none := by simpa [Addr.add] using World.cell?_spot hc0
    subst hs
    refine ⟨b, o, rfl, fun i x hxi => ?_⟩
    have hi : i < len0 := by
      have := (List.getElem?_eq_some_iff.1 hxi).1
      simpa using this
    rw [List.getElem?_map, List.getElem?_range hi] at hxi
    simp only [Option.map_some, Option.some.injEq] at hxi
    subst hxi
    obtain ⟨v, c0, h1⟩ := hq i (by omega)
    rw [add_lit, Nat.mul_one] at c0
    exact ⟨v, c0, h1⟩

end Go.Proofs.YtggficgmjbgmpaaDoor
