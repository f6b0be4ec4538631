/- What this text proves: a reading of a slice of pairs of numbers opens into the pairs that lie in memory. -/
import Derived.Test.YtpnginemjcphcaaOpenB
import Derived.Test.YtpnginemjcphcaaReadsLaw
import Derived.Deep.SlicePairs
namespace Go.Proofs.Ytpnginemjcphcaa
open Go.ChangeShapes Go.WideShapes Go.ChangeAt Go.RowKit

theorem open_do {H : Type} {enc : TypeId × Value → H} {W : World} {base : Nat} {v0 : Value} {d0 : DataW H} {p0 : List MemPlace}
    (hval : Value.okWide Try.prog W .any base 23 v0) (h0 : DataW.Trod enc Try.prog W 0 (fun _ => true) true 23 v0 d0 p0) :
    ∃ ds : List (Int × Int), DA W v0 ds := by
  obtain ⟨a0, len0, cap0, rfl⟩ := okWide_slice Try.underlying23 hval
  obtain ⟨fuel, hf⟩ := h0
  rcases Go.Deep.open_slice_pairs Try.underlying23 Try.underlying32 (by kernel_rfl) rfl rfl (by kernel_rfl) (by kernel_rfl) hf with ⟨hcs, _⟩ | ⟨a, len, cap, m, n, V0, V1, D0, D1, P0, P1, hcs, _, hl, hm, hmm, _, hx⟩
  · simp [Value.cells] at hcs
    obtain ⟨rfl, rfl, rfl⟩ := hcs
    exact ⟨[], none, 0, rfl, Nat.zero_le _, fun h => absurd rfl h⟩
  · simp [Value.cells] at hcs
    obtain ⟨rfl, rfl, rfl⟩ := hcs
    simp only [if_true] at hmm
    subst hmm
    refine ⟨(List.range len0).map fun i => (intOf (V0 i), intOf (V1 i)), some a, m, by simp, by simp; omega, fun hne => ?_⟩
    have hlen : 0 < len0 := by
      rcases Nat.eq_zero_or_pos len0 with h | h
      · subst h
        exact absurd rfl hne
      · exact h
    have hc0 := (hx 0 (by omega)).1
    obtain ⟨b, o, spot⟩ := a
    have hs : spot = none := by simpa [Addr.add] using World.cell?_spot hc0
    subst hs
    refine ⟨b, o, rfl, fun i x hxi => ?_⟩
    have hi : i < len0 := by
      have := (List.getElem?_eq_some_iff.1 hxi).1
      simpa using this
    obtain ⟨c0, c1, t0, t1⟩ := hx i (by omega)
    obtain ⟨n0, e0, _⟩ := DataW.trod_int Try.underlying3 t0
    obtain ⟨n1, e1, _⟩ := DataW.trod_int Try.underlying3 t1
    have ha : ∀ j, (⟨b, o, none⟩ : Addr).add j = ⟨b, o + j, none⟩ := fun j => by unfold Addr.add; split <;> simp_all
    rw [ha] at c0 c1
    simp only [List.cons.injEq, and_true] at e0 e1
    rw [List.getElem?_map, List.getElem?_range hi] at hxi
    simp only [Option.map_some, Option.some.injEq] at hxi
    subst hxi
    rw [c0, e0, Nat.add_assoc, c1, e1]
    exact ⟨rfl, rfl⟩

end Go.Proofs.Ytpnginemjcphcaa
