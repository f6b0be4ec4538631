/- What this text proves: an argument that is a slice of bytes, as the claim's reading has it, holds bytes in memory; and its length is within the reading's reach, and no more than the reading's bulk. -/
import Derived.Test.YtldmbfemoepfkaaRows
import Derived.Test.YtldmbfemoepfkaaVocab
import Derived.SizedLaws
import Derived.ProofKit
import Derived.OpenShut
import Derived.ChangeOld
import Derived.JoinedCond
namespace Go.Proofs.Ytldmbfemoepfkaa
open Go.ChangeShapes Go.WideShapes Go.ChangeAt Go.RowKit

theorem own : ownKnob Try.prog.godebug = none := by kernel_rfl
theorem laidOut : laidOutB Try.prog = true := by kernel_rfl

/-- The bytes of numbers. -/
def bytesOf (zs : List Int) : List UInt8 := zs.map fun z => UInt8.ofNat z.toNat

theorem u8_wf {z : Int} (h : (Lit.int .u8 z).wf = true) : 0 ≤ z ∧ z ≤ 255 := bounds_u8 h

theorem bc_ofNat {z : Int} (h : (Lit.int .u8 z).wf = true) : bc (UInt8.ofNat z.toNat) = .int .u8 z := by
  have := u8_wf h
  simp [bc]
  omega

theorem hb_cells {W : World} {x : Addr} {len cap : Nat} {zs : List Int} (hl : len ≤ cap) (hm : cap ≤ maxLen) (hz : zs.length = cap) (hcell : ∀ i, i < zs.length → W.cell? (x.add i) = some (.int .u8 (zs.getD i 0))) (hwz : ∀ n ∈ zs, (Lit.int .u8 n).wf = true) :
    HB W (.slice (some x) len cap) (bytesOf (zs.take len)) := by
  refine ⟨some x, cap, ?_, ?_, hm, (fun h => by cases h), fun hne => ?_⟩
  · congr 1
    simp [bytesOf]
    omega
  · simp [bytesOf]
    omega
  · have h0 : 0 < zs.length := by
      rcases Nat.eq_zero_or_pos zs.length with h | h
      · have : zs = [] := List.eq_nil_of_length_eq_zero h
        subst this
        exact absurd (by simp [bytesOf]) hne
      · exact h
    obtain ⟨b, o, spot⟩ := x
    have hs : spot = none := by simpa [Addr.add] using World.cell?_spot (hcell 0 h0)
    subst hs
    refine ⟨b, o, rfl, fun i y hy => ?_⟩
    have hi : i < (zs.take len).length := by
      have := (List.getElem?_eq_some_iff.1 hy).1
      simpa [bytesOf] using this
    have hi2 : i < zs.length := by simp at hi; omega
    have hc := hcell i hi2
    have ha : (⟨b, o, none⟩ : Addr).add i = ⟨b, o + i, none⟩ := by unfold Addr.add; split <;> simp_all
    rw [ha] at hc
    rw [hc]
    have hil : i < len := by simp at hi; omega
    have e : y = UInt8.ofNat (zs.getD i 0).toNat := by
      have : (bytesOf (zs.take len))[i]? = some (UInt8.ofNat (zs.getD i 0).toNat) := by
        simp [bytesOf, hil, hi2, List.getD]
      rw [this] at hy
      simpa using hy.symm
    rw [e, bc_ofNat (hwz _ (by simp [List.getD, hi2]))]

set_option maxRecDepth 100000 in
theorem open_hb {H : Type} {enc : TypeId × Value → H} {W : World} {base : Nat} {v0 : Value} {d0 : DataW H} {p0 : List MemPlace}
    (hval : Value.okWide Try.prog W .any base 22 v0) (h0 : DataW.Trod enc Try.prog W 0 (fun _ => true) true 22 v0 d0 p0) :
    ∃ l : List UInt8, HB W v0 l ∧ (l = [] ∨ ∃ elems spare, d0 = .slice elems spare ∧ elems.length = l.length) := by
  obtain ⟨a0, len0, cap0, rfl⟩ := okWide_slice Try.underlying22 hval
  obtain ⟨fuel, hf⟩ := h0
  rcases open_ints Try.underlying22 Try.underlying5 (by kernel_rfl) hf with ⟨hcs, _⟩ | ⟨x, l, c, zs, hcs, _, hl, hm, hz, hx, hcell, hwz⟩
  · simp [Value.cells] at hcs
    obtain ⟨rfl, rfl, rfl⟩ := hcs
    exact ⟨[], HB.nil W, .inl rfl⟩
  · simp [Value.cells] at hcs
    obtain ⟨rfl, rfl, rfl⟩ := hcs
    have hzc : zs.length = cap0 := by simpa using hz
    simp only [Prod.mk.injEq] at hx
    exact ⟨bytesOf (zs.take len0), hb_cells hl hm hzc hcell hwz, .inr ⟨_, _, hx.1, by simp [lits, bytesOf]⟩⟩

theorem bytes_u8 : Try.prog.bytesOf 5 = 1 := by kernel_rfl
theorem hb_reach {H : Type} {ts : List TypeId} {ds : List (DataW H)} {d0 : DataW H} {l : List UInt8} (h : (DataW.weightsEach Try.prog ts ds).all (· ≤ reachBytes) = true) (j : Nat) (ht : ts[j]? = some 22) (hd : ds[j]? = some d0) (hl : l = [] ∨ ∃ elems spare, d0 = .slice elems spare ∧ elems.length = l.length) : l.length ≤ 140737488351232 := by
  rcases hl with rfl | ⟨elems, spare, rfl, e⟩
  · simp
  · have := sized_slice h ht hd Try.underlying22
    rw [bytes_u8] at this
    unfold reachBytes at this
    omega

theorem bulk_all {H : Type} : ∀ elems : List (DataW H), elems.length ≤ Rows.uptoBulkAll elems
  | [] => by simp
  | d :: r => by
    have := bulk_all r
    have h1 : 1 ≤ Rows.uptoBulk d := by unfold Rows.uptoBulk; split <;> omega
    simp only [Rows.uptoBulkAll, List.length_cons]
    omega

theorem hb_bulk {H : Type} {d0 : DataW H} {l : List UInt8} (hl : l = [] ∨ ∃ elems spare, d0 = .slice elems spare ∧ elems.length = l.length) : l.length ≤ Rows.uptoBulk d0 := by
  rcases hl with rfl | ⟨elems, spare, rfl, e⟩
  · simp
  · have := bulk_all elems
    simp only [Rows.uptoBulk]
    omega

end Go.Proofs.Ytldmbfemoepfkaa
