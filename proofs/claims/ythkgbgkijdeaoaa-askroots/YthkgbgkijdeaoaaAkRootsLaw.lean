/- What this text proves: the walk of annalslaw25.AskRoots over this program: it answers true of any request. -/
import Derived.Test.YthkgbgkijdeaoaaAkRoots
import Derived.Test.YthkgbgkijdeaoaaAkAwake
namespace Go.Proofs.Ythkgbgkijdeaoaa
open Go.RowKit

set_option maxRecDepth 100000 in
set_option maxHeartbeats 4000000 in
theorem askRoots_walk (k fr to ti ep ix li : Int) (so : Bool) (id ba : Value) (w : World) :
    Calls Try.prog 5 #[.agg #[.int .i64 k, id, .int .i64 fr, .int .i64 to, .int .i64 ti, .bool so, .int .i64 ep, .int .i64 ix, .int .i64 li, ba]] w fun e w' => e = .returned (.bool true) ∧ Below w.heap.size w w' := by
  have a0 := heap_alloc_new w (.cells #[.int .i64 k, id, .int .i64 fr, .int .i64 to, .int .i64 ti, .bool so, .int .i64 ep, .int .i64 ix, .int .i64 li, ba] 25)
  have bA := (Below.refl w.heap.size w).alloc (Nat.le_refl _) (.cells #[.int .i64 k, id, .int .i64 fr, .int .i64 to, .int .i64 ti, .bool so, .int .i64 ep, .int .i64 ix, .int .i64 li, ba] 25)
  obtain ⟨wA, hWA⟩ : ∃ x, x = w.alloc (.cells #[.int .i64 k, id, .int .i64 fr, .int .i64 to, .int .i64 ti, .bool so, .int .i64 ep, .int .i64 ix, .int .i64 li, ba] 25) := ⟨_, rfl⟩
  rw [← hWA] at a0 bA
  have hR := roots_any k fr to ti ep ix li so id ba wA
  have hQ := fun w => rroots_any k fr to ti ep ix li so id ba w
  have HWA : Hid (wA = w.alloc (.cells #[.int .i64 k, id, .int .i64 fr, .int .i64 to, .int .i64 ti, .bool so, .int .i64 ep, .int .i64 ix, .int .i64 li, ba] 25)) := hWA
  rw [hWA] at hR
  clear hWA
  go_enter Try.func5, Try.ntmps5
  go_wp2_with fail
  refine hR.mono ?_
  rintro e w1 ⟨v1, rfl, h1, b1⟩
  rw [← HWA.out] at b1
  have a1 := (b1.block _ (Array.getElem?_eq_some_iff.1 a0).1).trans a0
  have bB := bA.trans (b1.mono bA.size)
  clear hR HWA b1 a0 bA
  obtain ⟨d0, d1, d2, d3, d4, d5, d6, d7, d8, d9⟩ := ask_cells a1
  obtain ⟨p1, c1, rfl⟩ := h1.shape
  have hQ1 := hQ w1
  clear hQ
  go_wp2_with fail
  refine hQ1.mono ?_
  rintro e w2 ⟨v2, rfl, h2, b2⟩
  have h1' := h1.later b2
  have bC := bB.trans (b2.mono bB.size)
  clear hQ1 b2 bB d0 d1 d2 d3 d4 d5 d6 d7 d8 d9 a1 h1
  have hE := slequal_z _ _ (rootsL k fr to) w2 h1' h2
  obtain ⟨p2, c2, rfl⟩ := h2.shape
  generalize (rootsL k fr to).length = N at *
  generalize rootsB k = B at *
  clear h1' h2
  have hA := fun w => akAwake_any w
  go_wp2_with fail
  refine hE.mono ?_
  rintro e w3 ⟨rfl, b3⟩
  have bD := bC.trans (b3.mono bC.size)
  clear hE bC b3
  have hA3 := hA w3
  clear hA
  cases B <;>
  · go_wp2_with fail
    go_at_call 6
    refine hA3.mono ?_
    rintro e w4 ⟨rfl, b4⟩
    have bE := bD.trans (b4.mono bD.size)
    clear hA3 bD b4
    go_wp2
    go_ret
    exact ⟨rfl, bE⟩

end Go.Proofs.Ythkgbgkijdeaoaa
