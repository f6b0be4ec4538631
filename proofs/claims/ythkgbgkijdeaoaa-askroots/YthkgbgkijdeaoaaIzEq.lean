/- What this text proves: the walk of slices.Equal of two slices of the same whole numbers over this program. -/
import Derived.Test.YthkgbgkijdeaoaaIntsZ
namespace Go.Proofs.Ythkgbgkijdeaoaa
open Go.RowKit

set_option maxRecDepth 100000 in
set_option maxHeartbeats 1000000 in
theorem slequal_z (v u : Value) (l : List Int) (w : World) (h : IZ w v l) (h' : IZ w u l) :
    Calls Try.prog 16 #[v, u] w fun e w' => e = .returned (.bool true) ∧ Below w.heap.size w w' := by
  obtain ⟨p, c, rfl⟩ := h.shape
  obtain ⟨p', c', rfl⟩ := h'.shape
  have hm := h.len_le
  unfold maxLen at hm
  go_enter Try.func16, Try.ntmps16
  go_wp2
  go_loopw [13] (fun i wr => ∃ k : Nat, k ≤ l.length ∧ i = .int .i64 k ∧ Below w.heap.size w wr) (fun i _ => l.length - (intOf i).toNat)
  case atStart => exact ⟨0, Nat.zero_le _, rfl, Below.refl _ w⟩
  case round =>
    obtain ⟨k, hk, rfl, hbe⟩ := hrel
    by_cases hlt : k < l.length
    · obtain ⟨b, o, rfl, f1⟩ := (h.later hbe).addr (by omega)
      obtain ⟨b', o', rfl, f2⟩ := (h'.later hbe).addr (by omega)
      have c1 := f1 k l[k] (List.getElem?_eq_getElem hlt)
      have c2 := f2 k l[k] (List.getElem?_eq_getElem hlt)
      generalize l[k] = x at *
      clear f1 f2
      have hlt2 : (k : Int) < (l.length : Int) := by omega
      go_wp2
      go_region
      go_wp2
      go_roundw
      case rel => first | exact ⟨k + 1, by omega, by go_num, hbe.drew⟩ | ((repeat apply Exists.intro); exact ⟨⟨k + 1, by omega, by go_num, hbe.drew⟩, rfl⟩)
      case measure => simp [intOf]; omega
    · go_wp2
      go_ret
      exact ⟨rfl, hbe⟩

end Go.Proofs.Ythkgbgkijdeaoaa
