/- What this text proves: the walk of codec.Uint over this program, and that the statement's own look finds it awake. -/
import Derived.Test.YtldmbfemoepfkaaCNumber
namespace Go.Proofs.Ytldmbfemoepfkaa
open Go.RowKit

set_option maxHeartbeats 400000 in
theorem cuint_any (v : Value) (l : List UInt8) (n : Int) (w : World) (h : HB w v l) (hbig : l.length ≤ 140737488355300) :
    Calls Try.prog 72 #[v, .int .i64 n] w fun e w' => ∃ p c, e = .returned (.slice p (l ++ numL (clampN n)).length c) ∧ w'.ownsRow w.heap.size 5 1 (.slice p (l ++ numL (clampN n)).length c) (l ++ numL (clampN n)).length (bcs (l ++ numL (clampN n))) ∧ Below w.heap.size w w' := by
  obtain ⟨p, c, rfl⟩ := h.shape
  have hg := grown_any _ l 9 w h (by omega) (by omega)
  generalize hR : l ++ numL (clampN n) = R
  have HR : Hid (l ++ numL (clampN n) = R) := hR
  clear hR h
  go_enter Try.func72, Try.ntmps72
  go_wp2_with fail
  refine hg.mono ?_
  rintro e w1 ⟨p1, c1, rfl, hown1, hb1⟩
  have hc := cnum_any p1 c1 l w.heap.size n w1 hown1 hb1.size hbig
  rw [HR.out] at hc
  clear hg hown1
  go_wp2_with fail
  refine hc.mono ?_
  rintro e w2 ⟨p2, c2, rfl, hown2, hb2⟩
  have hb02 := hb1.trans hb2
  clear hc hb1 hb2
  go_wp2
  go_ret
  exact ⟨_, _, rfl, hown2, hb02⟩

theorem clampN_nat (n : Nat) (h : n ≤ 4611686018427387904) : clampN (n : Int) = n := by unfold clampN; omega

theorem num258 : ([] : List UInt8) ++ numL (clampN 258) = [2, 1, 2] := by decide +kernel

end Go.Proofs.Ytldmbfemoepfkaa
