/- What this text proves: arguments that are a slice of numbers, or a slice of batches, as the claim's reading has them, hold these in memory. -/
import Derived.Test.YtggficgmjbgmpaaDoorOpenBind
import Derived.Test.YtggficgmjbgmpaaDoorJIn
import Derived.Test.YtggficgmjbgmpaaDoorJFr
namespace Go.Proofs.YtggficgmjbgmpaaDoor
open Go.ChangeShapes Go.WideShapes Go.ChangeAt Go.RowKit

theorem iz_cells {W : World} {x : Addr} {len cap : Nat} {zs : List Int} (hl : len ≤ cap) (hm : cap ≤ maxLen) (hz : zs.length = cap) (hcell : ∀ i, i < zs.length → W.cell? (x.add i) = some (.int .i64 (zs.getD i 0))) :
    IZ W (.slice (some x) len cap) (zs.take len) := by
  refine ⟨some x, cap, ?_, ?_, hm, fun hne => ?_⟩
  · congr 1
    simp
    omega
  · simp
    omega
  · have h0 : 0 < zs.length := by
      rcases Nat.eq_zero_or_pos zs.length with h | h
      · have : zs = [] := List.eq_nil_of_length_eq_zero h
        subst this
        exact absurd (by simp) hne
      · exact h
    obtain ⟨b, o, spot⟩ := x
    have hs : spot = none := by simpa [Addr.add] using World.cell?_spot (hcell 0 h0)
    subst hs
    refine ⟨b, o, rfl, fun i y hy => ?_⟩
    have hi : i < (zs.take len).length := (List.getElem?_eq_some_iff.1 hy).1
    have hi2 : i < zs.length := by simp at hi; omega
    have hc := hcell i hi2
    have ha : (⟨b, o, none⟩ : Addr).add i = ⟨b, o + i, none⟩ := by unfold Addr.add; split <;> simp_all
    rw [ha] at hc
    rw [hc]
    have hil : i < len := by simp at hi; omega
    rw [List.getElem?_take, if_pos hil] at hy
    simp [List.getD, hy]

set_option maxRecDepth 100000 in
theorem open_izD {H : Type} {enc : TypeId × Value → H} {W : World} {base : Nat} {v0 : Value} {d0 : DataW H} {p0 : List MemPlace}
    (hval : Value.okWide Tryd.prog W .any base 22 v0) (h0 : DataW.Trod enc Tryd.prog W 0 (fun _ => true) true 22 v0 d0 p0) :
    ∃ l : List Int, IZ W v0 l ∧ ∀ x ∈ l, (Lit.int .i64 x).wf = true := by
  obtain ⟨a0, len0, cap0, rfl⟩ := okWide_slice Tryd.underlying22 hval
  obtain ⟨fuel, hf⟩ := h0
  rcases open_ints Tryd.underlying22 Tryd.underlying3 (by kernel_rfl) hf with ⟨hcs, _⟩ | ⟨x, l, c, zs, hcs, _, hl, hm, hz, hx, hcell, hwz⟩
  · simp [Value.cells] at hcs
    obtain ⟨rfl, rfl, rfl⟩ := hcs
    exact ⟨[], ⟨none, 0, rfl, Nat.le_refl _, Nat.zero_le _, fun h => absurd rfl h⟩, fun x hx => by cases hx⟩
  · simp [Value.cells] at hcs
    obtain ⟨rfl, rfl, rfl⟩ := hcs
    have hzc : zs.length = cap0 := by simpa using hz
    exact ⟨zs.take len0, iz_cells hl hm hzc hcell, fun x hx => hwz x (List.mem_of_mem_take hx)⟩

set_option maxRecDepth 100000 in
theorem open_bindsR {H : Type} {enc : TypeId × Value → H} {W : World} {v0 : Value} {y : DataW H × List MemPlace} {fuel : Nat}
    (hf : DataW.trod enc Tryd.prog W 0 (fun _ => true) true fuel 47 [v0] = some y) :
    ∃ bs : List (List UInt8 × List UInt8), BA W v0 bs := by
  rcases Go.Deep.open_slice Tryd.underlying47 hf with ⟨hcs, _⟩ | ⟨a, len, cap, m, n, D, Pl, hcs, _, hl, hm, hmm, hy, hx⟩
  · simp only [List.cons.injEq, and_true] at hcs
    subst hcs
    exact ⟨[], ⟨none, 0, rfl, Nat.le_refl _, Nat.zero_le _, fun h => absurd rfl h⟩⟩
  · simp only [List.cons.injEq, and_true] at hcs
    subst hcs
    simp only [if_true] at hmm
    subst hmm
    have ce : Tryd.prog.cellsOf 51 = 2 := by kernel_rfl
    rw [ce] at hx
    have each : ∀ i, i < m → ∃ q : List UInt8 × List UInt8, ∃ u t, W.cell? (a.add (i * 2)) = some u ∧ W.cell? (a.add (i * 2 + 1)) = some t ∧ HB W u q.1 ∧ HB W t q.2 := by
      intro i hi
      obtain ⟨cs', h1, h2⟩ := hx i hi
      obtain ⟨_, hlen, hcell⟩ := World.cells?_some h1
      obtain ⟨u, t, l, k, d, e, rfl, hu, ht, hd, el, ek⟩ := open_cells2 hlen h2
      have e0 := hcell 0 (by omega)
      have e1 := hcell 1 (by omega)
      rw [Go.Deep.add_add] at e0 e1
      exact ⟨(l, k), u, t, by simpa using e0, by simpa using e1, hu, ht⟩
    obtain ⟨q, hq⟩ := Go.Deep.choose_lt each
    refine ⟨(List.range len).map q, ⟨some a, m, by simp, by simpa using hl, hm, fun hne => ?_⟩⟩
    have hlen : 0 < len := by
      rcases Nat.eq_zero_or_pos len with h | h
      · subst h
        exact absurd rfl hne
      · exact h
    obtain ⟨_, _, hc0, _⟩ := hq 0 (by omega)
    obtain ⟨b, o, spot⟩ := a
    have hs : spot = none := by simpa [Addr.add] using World.cell?_spot hc0
    subst hs
    refine ⟨b, o, rfl, fun i x hxi => ?_⟩
    have hi : i < len := by
      have := (List.getElem?_eq_some_iff.1 hxi).1
      simpa using this
    rw [List.getElem?_map, List.getElem?_range hi] at hxi
    simp only [Option.map_some, Option.some.injEq] at hxi
    subst hxi
    obtain ⟨u, t, c0, c1, h1, h2⟩ := hq i (by omega)
    rw [add_lit] at c0 c1
    obtain ⟨p1, k1, rfl⟩ := h1.shape
    obtain ⟨p2, k2, rfl⟩ := h2.shape
    exact ⟨p1, k1, p2, k2, c0, by rw [Nat.add_assoc]; exact c1, h1, h2⟩

set_option maxRecDepth 100000 in
theorem open_bindss {H : Type} {enc : TypeId × Value → H} {W : World} {base : Nat} {v0 : Value} {d0 : DataW H} {p0 : List MemPlace}
    (hval : Value.okWide Tryd.prog W .any base 23 v0) (h0 : DataW.Trod enc Tryd.prog W 0 (fun _ => true) true 23 v0 d0 p0) :
    ∃ bss : List (List (List UInt8 × List UInt8)), GA BA W v0 bss := by
  obtain ⟨a0, len0, cap0, rfl⟩ := okWide_slice Tryd.underlying23 hval
  obtain ⟨fuel, hf⟩ := h0
  rcases Go.Deep.open_slice Tryd.underlying23 hf with ⟨hcs, _⟩ | ⟨a, len, cap, m, n, D, Pl, hcs, _, hl, hm, hmm, hy, hx⟩
  · simp [Value.cells] at hcs
    obtain ⟨rfl, rfl, rfl⟩ := hcs
    exact ⟨[], ⟨none, 0, rfl, Nat.le_refl _, Nat.zero_le _, fun h => absurd rfl h⟩⟩
  · simp [Value.cells] at hcs
    obtain ⟨rfl, rfl, rfl⟩ := hcs
    simp only [if_true] at hmm
    subst hmm
    have ce : Tryd.prog.cellsOf 47 = 1 := by kernel_rfl
    rw [ce] at hx
    have each : ∀ i, i < m → ∃ q : List (List UInt8 × List UInt8), ∃ v, W.cell? (a.add (i * 1)) = some v ∧ BA W v q := by
      intro i hi
      obtain ⟨cs', h1, h2⟩ := hx i hi
      obtain ⟨_, hlen, hcell⟩ := World.cells?_some h1
      match cs', hlen with
      | [c], _ =>
        obtain ⟨rs, hr⟩ := open_bindsR h2
        have e0 := hcell 0 (by omega)
        rw [Go.Deep.add_add] at e0
        exact ⟨rs, c, by simpa using e0, hr⟩
    obtain ⟨q, hq⟩ := Go.Deep.choose_lt each
    refine ⟨(List.range len0).map q, ⟨some a, m, by simp, by simpa using hl, hm, fun hne => ?_⟩⟩
    have hlen : 0 < len0 := by
      rcases Nat.eq_zero_or_pos len0 with h | h
      · subst h
        exact absurd rfl hne
      · exact h
    obtain ⟨_, hc0, _⟩ := hq 0 (by omega)
    obtain ⟨b, o, spot⟩ := a
    have hs : spot = none := by simpa [Addr.add] using World.cell?_spot hc0
    subst hs
    refine ⟨b, o, rfl, fun i x hxi => ?_⟩
    have hi : i < len0 := by
      have := (List.getElem?_eq_some_iff.1 hxi).1
      simpa using this
    rw [List.getElem?_map, List.getElem?_range hi] at hxi
    simp only [Option.map_some, Option.some.injEq] at hxi
    subst hxi
    obtain ⟨v, c0, h1⟩ := hq i (by omega)
    rw [add_lit, Nat.mul_one] at c0
    exact ⟨v, c0, h1⟩

end Go.Proofs.YtggficgmjbgmpaaDoor
