/- What this text proves: an argument that is a way (hops and an end), as the claim's reading has it, holds these in memory. -/
import Derived.Test.YtahfjemllkbpgaaGreatDoorJO1
import Derived.Test.YtahfjemllkbpgaaGreatDoorJP1
import Derived.Deep.Strs
import Derived.Deep.SlicePairs
import Derived.Lib.SmallJoins
namespace Go.Proofs.YtahfjemllkbpgaaGreatDoor
open Go.ChangeShapes Go.WideShapes Go.ChangeAt Go.RowKit

theorem array11 {α : Type} {cs : Array α} (h : cs.size = 11) : ∃ c0 c1 c2 c3 c4 c5 c6 c7 c8 c9 c10, cs = #[c0, c1, c2, c3, c4, c5, c6, c7, c8, c9, c10] := by
  obtain ⟨l⟩ := cs
  match l, h with
  | [c0, c1, c2, c3, c4, c5, c6, c7, c8, c9, c10], _ => exact ⟨c0, c1, c2, c3, c4, c5, c6, c7, c8, c9, c10, rfl⟩

theorem cells_pathT : Tryz.prog.cellsOf 28 = 11 := by kernel_rfl
theorem cells_partT : Tryz.prog.cellsOf 26 = 10 := by kernel_rfl
theorem cells_hopT : Tryz.prog.cellsOf 57 = 3 := by kernel_rfl
theorem cells_hopsT : Tryz.prog.cellsOf 23 = 1 := by kernel_rfl
theorem cells_ptsT : Tryz.prog.cellsOf 24 = 1 := by kernel_rfl
theorem cells_intT : Tryz.prog.cellsOf 3 = 1 := by kernel_rfl
theorem cells_bytesT : Tryz.prog.cellsOf 22 = 1 := by kernel_rfl

set_option maxRecDepth 100000 in
theorem open_bytesP {H : Type} {enc : TypeId × Value → H} {W : World} {v0 : Value} {y : DataW H × List MemPlace} {fuel : Nat}
    (hf : DataW.trod enc Tryz.prog W 0 (fun _ => true) true fuel 22 [v0] = some y) : ∃ l : List UInt8, HB W v0 l := by
  rcases open_ints Tryz.underlying22 Tryz.underlying5 (by kernel_rfl) hf with ⟨hcs, _⟩ | ⟨x, l, c, zs, hcs, hy, hl, hm, hz, hx, hcell, hwz⟩
  · simp only [List.cons.injEq, and_true] at hcs
    subst hcs
    exact ⟨[], HB.nil W⟩
  · simp only [List.cons.injEq, and_true] at hcs
    subst hcs
    have hzc : zs.length = c := by simpa using hz
    exact ⟨bytesOf (zs.take l), hb_cells hl hm hzc hcell hwz⟩

set_option maxRecDepth 100000 in
theorem trod_part {H : Type} {enc : TypeId × Value → H} {W : World} {c0 c1 c2 c3 c4 c5 c6 c7 c8 c9 : Value} {y : DataW H × List MemPlace} {fuel : Nat}
    (hf : DataW.trod enc Tryz.prog W 0 (fun _ => true) true fuel 26 [c0, c1, c2, c3, c4, c5, c6, c7, c8, c9] = some y) :
    ∃ (x : Pt) (cq : Nat) (pq : Option Addr), c0 = .int .i64 x.k ∧ HB W c1 x.id ∧ HB W c2 x.key ∧ c3 = .int .i64 x.si ∧ c4 = .int .i64 x.d ∧ HB W c5 x.pre ∧ c6 = .int .i64 x.nw ∧ HB W c7 x.l ∧ HB W c8 x.r ∧ c9 = .slice pq x.kids cq := by
  obtain ⟨xs, n, _, _, _, hlen, hg⟩ := DataW.trod_struct Tryz.underlying26 hf
  match xs, hlen with
  | [y0, y1, y2, y3, y4, y5, y6, y7, y8, y9], _ =>
    have t0 := hg 0 _ rfl
    have t1 := hg 1 _ rfl
    have t2 := hg 2 _ rfl
    have t3 := hg 3 _ rfl
    have t4 := hg 4 _ rfl
    have t5 := hg 5 _ rfl
    have t6 := hg 6 _ rfl
    have t7 := hg 7 _ rfl
    have t8 := hg 8 _ rfl
    have t9 := hg 9 _ rfl
    simp [cells_intT, cells_bytesT, cells_ptsT] at t0 t1 t2 t3 t4 t5 t6 t7 t8 t9
    obtain ⟨a0, e0, _, w0⟩ := DataW.trod_int Tryz.underlying3 t0
    obtain ⟨l1, h1⟩ := open_bytesP t1
    obtain ⟨l2, h2⟩ := open_bytesP t2
    obtain ⟨a3, e3, _, w3⟩ := DataW.trod_int Tryz.underlying3 t3
    obtain ⟨a4, e4, _, w4⟩ := DataW.trod_int Tryz.underlying3 t4
    obtain ⟨l5, h5⟩ := open_bytesP t5
    obtain ⟨a6, e6, _, w6⟩ := DataW.trod_int Tryz.underlying3 t6
    obtain ⟨l7, h7⟩ := open_bytesP t7
    obtain ⟨l8, h8⟩ := open_bytesP t8
    rcases Go.Deep.open_slice Tryz.underlying24 t9 with ⟨hcs, _⟩ | ⟨a, len, cap, m, n', D, Pl, hcs, _⟩
    · exact ⟨⟨a0, l1, l2, a3, a4, l5, a6, l7, l8, 0⟩, 0, none, by simpa using e0, h1, h2, by simpa using e3, by simpa using e4, h5, by simpa using e6, h7, h8, by simpa using hcs⟩
    · exact ⟨⟨a0, l1, l2, a3, a4, l5, a6, l7, l8, len⟩, cap, some a, by simpa using e0, h1, h2, by simpa using e3, by simpa using e4, h5, by simpa using e6, h7, h8, by simpa using hcs⟩

set_option maxRecDepth 100000 in
theorem trod_hop {H : Type} {enc : TypeId × Value → H} {W : World} {cs : List Value} {y : DataW H × List MemPlace} {fuel : Nat} (hlen : cs.length = 3)
    (hf : DataW.trod enc Tryz.prog W 0 (fun _ => true) true fuel 57 cs = some y) : ∃ (h : Hp) (v : Value), cs = [.int .i64 h.d, .int .i64 h.n, v] ∧ HB W v h.s := by
  match cs, hlen with
  | [c0, c1, c2], _ =>
    obtain ⟨xs, n, _, _, _, hlen, hg⟩ := DataW.trod_struct Tryz.underlying57 hf
    match xs, hlen with
    | [y0, y1, y2], _ =>
      have t0 := hg 0 _ rfl
      have t1 := hg 1 _ rfl
      have t2 := hg 2 _ rfl
      simp [cells_intT, cells_bytesT] at t0 t1 t2
      obtain ⟨a0, e0, _, w0⟩ := DataW.trod_int Tryz.underlying3 t0
      obtain ⟨a1, e1, _, w1⟩ := DataW.trod_int Tryz.underlying3 t1
      obtain ⟨l2, h2⟩ := open_bytesP t2
      obtain rfl : c0 = .int .i64 a0 := by simpa using e0
      obtain rfl : c1 = .int .i64 a1 := by simpa using e1
      exact ⟨⟨a0, a1, l2⟩, c2, rfl, h2⟩

set_option maxRecDepth 100000 in
theorem open_hopsP {H : Type} {enc : TypeId × Value → H} {W : World} {v0 : Value} {y : DataW H × List MemPlace} {fuel : Nat}
    (hf : DataW.trod enc Tryz.prog W 0 (fun _ => true) true fuel 23 [v0] = some y) : ∃ hs : List Hp, HA W v0 hs := by
  haveI : Inhabited Hp := ⟨⟨0, 0, []⟩⟩
  rcases Go.Deep.open_slice Tryz.underlying23 hf with ⟨hcs, _⟩ | ⟨a, len, cap, m, n, D, Pl, hcs, _, hl, hm, hmm, hy, hx⟩
  · simp only [List.cons.injEq, and_true] at hcs
    subst hcs
    exact ⟨[], ⟨none, 0, rfl, Nat.le_refl _, Nat.zero_le _, fun h => absurd rfl h⟩⟩
  · simp only [List.cons.injEq, and_true] at hcs
    subst hcs
    simp only [if_true] at hmm
    subst hmm
    rw [cells_hopT] at hx
    have each : ∀ i, i < m → ∃ q : Hp, ∃ v, (W.cell? (a.add (i * 3)) = some (.int .i64 q.d) ∧ W.cell? (a.add (i * 3 + 1)) = some (.int .i64 q.n) ∧ W.cell? (a.add (i * 3 + 2)) = some v) ∧ HB W v q.s := by
      intro i hi
      obtain ⟨cs', h1, h2⟩ := hx i hi
      obtain ⟨_, hlen, hcell⟩ := World.cells?_some h1
      obtain ⟨h, v, rfl, q1⟩ := trod_hop hlen h2
      have e0 := hcell 0 (by omega)
      have e1 := hcell 1 (by omega)
      have e2 := hcell 2 (by omega)
      rw [Go.Deep.add_add] at e0 e1 e2
      exact ⟨h, v, ⟨by simpa using e0, by simpa using e1, by simpa using e2⟩, q1⟩
    obtain ⟨q, hq⟩ := Go.Deep.choose_lt each
    refine ⟨(List.range len).map q, ⟨some a, m, by simp, by simpa using hl, hm, fun hne => ?_⟩⟩
    have hlen : 0 < len := by
      rcases Nat.eq_zero_or_pos len with h | h
      · subst h
        exact absurd rfl hne
      · exact h
    obtain ⟨_, ⟨hc0, _⟩, _⟩ := hq 0 (by omega)
    obtain ⟨b, o, spot⟩ := a
    have hs : spot = none := by simpa [Addr.add] using World.cell?_spot hc0
    subst hs
    refine ⟨b, o, rfl, fun i x hxi => ?_⟩
    have hi : i < len := by
      have := (List.getElem?_eq_some_iff.1 hxi).1
      simpa using this
    rw [List.getElem?_map, List.getElem?_range hi] at hxi
    simp only [Option.map_some, Option.some.injEq] at hxi
    subst hxi
    obtain ⟨v, ⟨c0, c1, c2⟩, h1⟩ := hq i (by omega)
    rw [add_lit] at c0 c1 c2
    obtain ⟨p1, k1, rfl⟩ := h1.shape
    exact ⟨p1, k1, c0, by rw [Nat.add_assoc]; exact c1, by rw [Nat.add_assoc]; exact c2, h1⟩

set_option maxRecDepth 100000 in
theorem open_path {H : Type} {enc : TypeId × Value → H} {W : World} {base : Nat} {v0 : Value} {d0 : DataW H} {p0 : List MemPlace}
    (hval : Value.okWide Tryz.prog W .any base 28 v0) (h0 : DataW.Trod enc Tryz.prog W 0 (fun _ => true) true 28 v0 d0 p0) :
    ∃ (hs : List Hp) (x : Pt) (hv : Value) (pi pk pp pl pr pq : Option Addr) (ci ck cp cl cr cq : Nat), v0 = .agg #[hv, .int .i64 x.k, .slice pi x.id.length ci, .slice pk x.key.length ck, .int .i64 x.si, .int .i64 x.d, .slice pp x.pre.length cp, .int .i64 x.nw, .slice pl x.l.length cl, .slice pr x.r.length cr, .slice pq x.kids cq] ∧
      HA W hv hs ∧ HB W (.slice pi x.id.length ci) x.id ∧ HB W (.slice pk x.key.length ck) x.key ∧ HB W (.slice pp x.pre.length cp) x.pre ∧ HB W (.slice pl x.l.length cl) x.l ∧ HB W (.slice pr x.r.length cr) x.r := by
  obtain ⟨cs, rfl, hsz⟩ := okWide_struct Tryz.underlying28 hval
  obtain ⟨c0, c1, c2, c3, c4, c5, c6, c7, c8, c9, c10, rfl⟩ := array11 (hsz.trans cells_pathT)
  obtain ⟨fuel, hf⟩ := h0
  obtain ⟨y0, y1, n, _, _, t0, t1⟩ := trod_struct2 Tryz.underlying28 hf
  simp [Value.cells, cells_hopsT, cells_partT] at t0 t1
  obtain ⟨hs, h0⟩ := open_hopsP t0
  obtain ⟨x, cq, pq, rfl, h1, h2, rfl, rfl, h3, rfl, h4, h5, rfl⟩ := trod_part t1
  obtain ⟨pi, ci, rfl⟩ := h1.shape
  obtain ⟨pk, ck, rfl⟩ := h2.shape
  obtain ⟨pp, cp, rfl⟩ := h3.shape
  obtain ⟨pl, cl, rfl⟩ := h4.shape
  obtain ⟨pr, cr, rfl⟩ := h5.shape
  exact ⟨hs, x, c0, pi, pk, pp, pl, pr, pq, ci, ck, cp, cl, cr, cq, rfl, h0, h1, h2, h3, h4, h5⟩

end Go.Proofs.YtahfjemllkbpgaaGreatDoor
