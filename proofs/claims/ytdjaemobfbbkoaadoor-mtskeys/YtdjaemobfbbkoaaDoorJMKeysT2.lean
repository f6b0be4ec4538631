/- What this text proves: the walk of the law's own helper (annalslaw06, keys) over this program: both keys, or none. -/
import Derived.Test.YtdjaemobfbbkoaaDoorJRMNew
import Derived.Test.YtdjaemobfbbkoaaDoorJRMSignE
namespace Go.Proofs.YtdjaemobfbbkoaaDoor
open Go.RowKit

set_option maxRecDepth 100000 in
set_option maxHeartbeats 4000000 in
theorem lkeys_ok (size height : Int) (U H : Nat) (hU : IntKind.u64.wrap size = (U : Int)) (hH : IntKind.u64.wrap height = (H : Int)) (v : Value) (seed : List UInt8) (w : World) (hv : HB w v seed) (hsl : seed.length ≤ 64) :
    Calls Tryd.prog 6 #[.int .i64 size, v, .int .i64 height] w fun e w' => ∃ g g' B p c lv, e = .returned (.tuple #[.pointer (some ⟨g, 0, none⟩), .pointer (some ⟨g', 0, none⟩), .bool true]) ∧ w.heap.size ≤ g ∧ g < g' ∧ g' < B ∧ B ≤ w'.heap.size ∧ KW w' g (1 + U % 4) (H % 4) seed 0 (.slice none 0 0) ∧ RKO w' g' ((1 + U % 4 : Nat) : Int) ((H % 4 : Nat) : Int) (.slice p seed.length c) lv ∧ HB w' (.slice p seed.length c) seed ∧ TB w' (.slice p seed.length c) ∧ TL w' B (1 + U % 4) (H % 4) seed lv (H % 4 + 1) ∧ Below w.heap.size w w' := by
  obtain ⟨p, c, rfl⟩ := hv.shape
  have hn1 : 1 ≤ 1 + U % 4 := by omega
  have hn2 : 1 + U % 4 ≤ 32 := by omega
  have hh : H % 4 ≤ 8 := by omega
  have hN := new_ok (1 + U % 4) (H % 4) (.slice p seed.length c) seed w hv hsl hn1 hn2 hh
  have hR := fun w' h' => rmnew_ok (1 + U % 4) (H % 4) (.slice p seed.length c) seed w' h' hsl hn1 hn2 hh
  have hN3 : ((1 + U % 4 : Nat) : Int) = 1 + (U : Int) % 4 := by omega
  have hH3 : ((H % 4 : Nat) : Int) = (H : Int) % 4 := by omega
  rw [hN3, hH3] at hN
  rw [hN3, hH3] at hR
  rw [hN3, hH3]
  go_enter Tryd.func6, Tryd.ntmps6
  go_wp2_with fail
  refine hN.mono ?_
  rintro e w1 ⟨g, rfl, hg, k1, hb1⟩
  clear hN
  go_wp2_with fail
  refine (hR _ (hv.later hb1)).mono ?_
  rintro e w2 ⟨g', B, p2, c2, lv, rfl, hg', hgB, hB, k2, h2, t2, tl, hb2⟩
  have hgl : g < w1.heap.size := by
    obtain ⟨p1, c1, ko, hs, ts⟩ := k1
    exact ko.lt
  have hb02 := hb1.trans (hb2.mono hb1.size)
  have k1' := k1.later hb2
  clear hR k1 hb2 hv
  go_wp2
  go_ret3
  exact ⟨g, g', B, p2, c2, lv, rfl, hg, by omega, hgB, hB, k1', k2, h2, t2, tl, hb02⟩

set_option maxRecDepth 100000 in
set_option maxHeartbeats 4000000 in
theorem lkeys_none (size height : Int) (U H : Nat) (hU : IntKind.u64.wrap size = (U : Int)) (hH : IntKind.u64.wrap height = (H : Int)) (v : Value) (seed : List UInt8) (w : World) (hv : HB w v seed) (hsl : 64 < seed.length) :
    Calls Tryd.prog 6 #[.int .i64 size, v, .int .i64 height] w fun e w' => e = .returned (.tuple #[.pointer none, .pointer none, .bool true]) ∧ w' = w := by
  obtain ⟨p, c, rfl⟩ := hv.shape
  have hN := new_err (1 + (U : Int) % 4) ((H : Int) % 4) (.slice p seed.length c) seed w hv (.inr hsl)
  have hR := rnew_seed (1 + (U : Int) % 4) ((H : Int) % 4) (.slice p seed.length c) seed w hv hsl
  clear hsl
  go_enter Tryd.func6, Tryd.ntmps6
  go_wp2_with fail
  refine hN.mono ?_
  rintro e w1 ⟨rfl, hw1⟩
  have hw2 := hw1.symm
  clear hw1
  subst hw2
  clear hN
  go_wp2_with fail
  refine hR.mono ?_
  rintro e w1 ⟨rfl, hw1⟩
  have hw2 := hw1.symm
  clear hw1
  subst hw2
  go_wp2
  go_ret3
  exact ⟨rfl, rfl⟩

end Go.Proofs.YtdjaemobfbbkoaaDoor
