/- What this text proves: an argument that is a step, or a slice of steps, as the claim's reading has it, holds the steps in memory. -/
import Derived.Test.YtmikhebbcmniaaaOpenB
import Derived.Test.YtmikhebbcmniaaaDStep
import Derived.Deep.Strs
import Derived.Lib.SmallJoins
namespace Go.Proofs.Ytmikhebbcmniaaa
open Go.ChangeShapes Go.WideShapes Go.ChangeAt Go.RowKit

set_option maxRecDepth 100000 in
theorem open_bytes1 {H : Type} {enc : TypeId × Value → H} {W : World} {v0 : Value} {y : DataW H × List MemPlace} {fuel : Nat}
    (hf : DataW.trod enc Try.prog W 0 (fun _ => true) true fuel 31 [v0] = some y) : ∃ l : List UInt8, HB W v0 l := by
  rcases open_ints Try.underlying31 Try.underlying5 (by kernel_rfl) hf with ⟨hcs, _⟩ | ⟨x, l, c, zs, hcs, _, hl, hm, hz, hx, hcell, hwz⟩
  · simp only [List.cons.injEq, and_true] at hcs
    subst hcs
    exact ⟨[], HB.nil W⟩
  · simp only [List.cons.injEq, and_true] at hcs
    subst hcs
    exact ⟨_, hb_cells hl hm (by simpa using hz) hcell hwz⟩

set_option maxRecDepth 100000 in
theorem open_cells3 {H : Type} {enc : TypeId × Value → H} {W : World} {cs : List Value} {y : DataW H × List MemPlace} {fuel : Nat} (hlen : cs.length = 3)
    (hf : DataW.trod enc Try.prog W 0 (fun _ => true) true fuel 33 cs = some y) : ∃ (a b : Int) (u : Value) (l : List UInt8), cs = [.int .i64 a, .int .i64 b, u] ∧ (Lit.int .i64 a).wf = true ∧ (Lit.int .i64 b).wf = true ∧ HB W u l := by
  match cs, hlen with
  | [c0, c1, c2], _ =>
    obtain ⟨y0, y1, y2, n, _, _, h0, h1, h2⟩ := Go.Deep.trod_struct3 Try.underlying33 hf
    obtain ⟨a, e0, _, w0⟩ := DataW.trod_int Try.underlying3 h0
    obtain ⟨b, e1, _, w1⟩ := DataW.trod_int Try.underlying3 h1
    have k0 : Try.prog.cellsOf 3 = 1 := by kernel_rfl
    have k2 : Try.prog.cellsOf 31 = 1 := by kernel_rfl
    simp only [k0, List.drop_zero, List.take_succ_cons, List.take_zero, List.cons.injEq, and_true] at e0
    simp only [k0, List.drop_succ_cons, List.drop_zero, List.take_succ_cons, List.take_zero, List.cons.injEq, and_true] at e1
    simp only [k2, List.drop_succ_cons, List.drop_zero, List.take_succ_cons, List.take_zero] at h2
    obtain ⟨l, hl⟩ := open_bytes1 h2
    exact ⟨a, b, c2, l, by rw [e0, e1], w0, w1, hl⟩

set_option maxRecDepth 100000 in
theorem open_step {H : Type} {enc : TypeId × Value → H} {W : World} {base : Nat} {v0 : Value} {d0 : DataW H} {p0 : List MemPlace}
    (hval : Value.okWide Try.prog W .any base 33 v0) (h0 : DataW.Trod enc Try.prog W 0 (fun _ => true) true 33 v0 d0 p0) :
    ∃ (a b : Int) (u : Value) (l : List UInt8), v0 = .agg #[.int .i64 a, .int .i64 b, u] ∧ (Lit.int .i64 a).wf = true ∧ (Lit.int .i64 b).wf = true ∧ HB W u l := by
  obtain ⟨v1, v2, v3, y1, y2, y3, n, rfl, _, _, t1, t2, t3⟩ := Go.Joins.open_agg3 Try.underlying33 (by kernel_rfl) (by kernel_rfl) hval h0
  obtain ⟨a, e1, _, w1⟩ := DataW.trod_int Try.underlying3 t1
  obtain ⟨b, e2, _, w2⟩ := DataW.trod_int Try.underlying3 t2
  obtain ⟨l, h3⟩ := open_bytes1 t3
  obtain rfl : v1 = .int .i64 a := by simpa using e1
  obtain rfl : v2 = .int .i64 b := by simpa using e2
  exact ⟨a, b, v3, l, rfl, w1, w2, h3⟩

set_option maxRecDepth 100000 in
theorem open_steps {H : Type} {enc : TypeId × Value → H} {W : World} {base : Nat} {v0 : Value} {d0 : DataW H} {p0 : List MemPlace}
    (hval : Value.okWide Try.prog W .any base 22 v0) (h0 : DataW.Trod enc Try.prog W 0 (fun _ => true) true 22 v0 d0 p0) :
    ∃ ss : List (Int × Int × List UInt8), SA W v0 ss := by
  obtain ⟨a0, len0, cap0, rfl⟩ := okWide_slice Try.underlying22 hval
  obtain ⟨fuel, hf⟩ := h0
  rcases Go.Deep.open_slice Try.underlying22 hf with ⟨hcs, _⟩ | ⟨a, len, cap, m, n, D, Pl, hcs, _, hl, hm, hmm, _, hx⟩
  · simp [Value.cells] at hcs
    obtain ⟨rfl, rfl, rfl⟩ := hcs
    exact ⟨[], none, 0, rfl, Nat.zero_le _, fun h => absurd rfl h⟩
  · simp [Value.cells] at hcs
    obtain ⟨rfl, rfl, rfl⟩ := hcs
    simp only [if_true] at hmm
    subst hmm
    have ce : Try.prog.cellsOf 33 = 3 := by kernel_rfl
    rw [ce] at hx
    have each : ∀ i, i < m → ∃ q : Int × Int × List UInt8, ∃ u, W.cell? (a.add (i * 3)) = some (.int .i64 q.1) ∧ W.cell? (a.add (i * 3 + 1)) = some (.int .i64 q.2.1) ∧ (Lit.int .i64 q.1).wf = true ∧ (Lit.int .i64 q.2.1).wf = true ∧ W.cell? (a.add (i * 3 + 2)) = some u ∧ HB W u q.2.2 := by
      intro i hi
      obtain ⟨cs', h1, h2⟩ := hx i hi
      obtain ⟨_, hlen, hcell⟩ := World.cells?_some h1
      obtain ⟨x, y, u, l, rfl, w0, w1, hb⟩ := open_cells3 hlen h2
      have e0 := hcell 0 (by omega)
      have e1 := hcell 1 (by omega)
      have e2 := hcell 2 (by omega)
      rw [Go.Deep.add_add] at e0 e1 e2
      exact ⟨(x, y, l), u, by simpa using e0, by simpa using e1, w0, w1, by simpa using e2, hb⟩
    obtain ⟨q, hq⟩ := Go.Deep.choose_lt each
    refine ⟨(List.range len0).map q, some a, m, by simp, by simp; omega, fun hne => ?_⟩
    have hlen : 0 < len0 := by
      rcases Nat.eq_zero_or_pos len0 with h | h
      · subst h
        exact absurd rfl hne
      · exact h
    obtain ⟨_, hc0, _⟩ := hq 0 (by omega)
    obtain ⟨b, o, spot⟩ := a
    have hs : spot = none := by simpa [Addr.add] using World.cell?_spot hc0
    subst hs
    refine ⟨b, o, rfl, fun i x hxi => ?_⟩
    have hi : i < len0 := by
      have := (List.getElem?_eq_some_iff.1 hxi).1
      simpa using this
    rw [List.getElem?_map, List.getElem?_range hi] at hxi
    simp only [Option.map_some, Option.some.injEq] at hxi
    subst hxi
    obtain ⟨u, c0, c1, w0, w1, c2, hb⟩ := hq i (by omega)
    rw [add_lit] at c0 c1 c2
    have b0 := bounds_i64 w0
    have b1 := bounds_i64 w1
    exact ⟨c0, by rw [Nat.add_assoc]; exact c1, by omega, by omega, u, by rw [Nat.add_assoc]; exact c2, hb⟩

end Go.Proofs.Ytmikhebbcmniaaa
