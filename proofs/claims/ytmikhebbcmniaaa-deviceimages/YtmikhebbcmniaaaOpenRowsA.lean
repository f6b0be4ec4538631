/- What this text proves: an argument that is a slice of slices of bytes, as the claim's reading has it, holds bytes in memory. -/
import Derived.Test.YtmikhebbcmniaaaOpenB
import Derived.Deep.Matrix
namespace Go.Proofs.Ytmikhebbcmniaaa
open Go.ChangeShapes Go.WideShapes Go.ChangeAt Go.RowKit

set_option maxRecDepth 100000 in
set_option maxHeartbeats 400000 in
theorem open_rowsA {H : Type} {enc : TypeId × Value → H} {W : World} {base : Nat} {v0 : Value} {d0 : DataW H} {p0 : List MemPlace}
    (hval : Value.okWide Try.prog W .any base 36 v0) (h0 : DataW.Trod enc Try.prog W 0 (fun _ => true) true 36 v0 d0 p0) :
    ∃ ls : List (List UInt8), PA W v0 ls := by
  obtain ⟨a0, len0, cap0, rfl⟩ := okWide_slice Try.underlying36 hval
  obtain ⟨fuel, hf⟩ := h0
  rcases Go.Deep.open_int_rows Try.underlying36 Try.underlying31 Try.underlying5 (by kernel_rfl) (by kernel_rfl) hf with ⟨hcs, _⟩ | ⟨a, len, cap, A, L, C, Z, hcs, _, hl, hm, _, hx⟩
  · simp [Value.cells] at hcs
    obtain ⟨rfl, rfl, rfl⟩ := hcs
    exact ⟨[], PA.nil W⟩
  · simp [Value.cells] at hcs
    obtain ⟨rfl, rfl, rfl⟩ := hcs
    refine ⟨(List.range len0).map fun r => bytesOf ((Z r).take (L r)), some a, cap0, (List.range len0).map fun r => .slice (A r) (L r) (C r), by simp, by simpa using hl, hm, (fun h => by cases h), by simp, fun hne => ?_, fun i x l hxi hli => ?_⟩
    · have hlen : 0 < len0 := by
        rcases Nat.eq_zero_or_pos len0 with h | h
        · subst h
          exact absurd rfl hne
        · exact h
      have hc0 := (hx 0 (by omega)).1
      obtain ⟨b, o, spot⟩ := a
      have hs : spot = none := by simpa [Addr.add] using World.cell?_spot hc0
      subst hs
      refine ⟨b, o, rfl, fun i x hxi => ?_⟩
      have hi : i < len0 := by
        have := (List.getElem?_eq_some_iff.1 hxi).1
        simpa using this
      have hc := (hx i (by omega)).1
      have ha : (⟨b, o, none⟩ : Addr).add i = ⟨b, o + i, none⟩ := by unfold Addr.add; split <;> simp_all
      rw [ha] at hc
      rw [hc]
      simp [hi] at hxi
      rw [hxi]
    · have hi : i < len0 := by
        have := (List.getElem?_eq_some_iff.1 hxi).1
        simpa using this
      simp [hi] at hxi hli
      subst hxi; subst hli
      obtain ⟨_, h1, h2, h3, h4, h5, h6⟩ := hx i (by omega)
      cases hA : A i with
      | none =>
        have hc := h5 hA
        have hL : L i = 0 := by omega
        rw [hL, hc]
        simp only [List.take_zero, bytesOf, List.map_nil]
        exact HB.nil W
      | some a' =>
        exact hb_cells h1 h2 h3 (fun j hj => (h6 a' hA).2 j (by omega)) h4

end Go.Proofs.Ytmikhebbcmniaaa
