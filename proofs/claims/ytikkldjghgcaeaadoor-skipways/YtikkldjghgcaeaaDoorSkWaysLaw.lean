/- What this text proves: the walk of the statement SkipWays over this program: it answers true for any numbers. -/
import Derived.Test.YtikkldjghgcaeaaDoorSkAwake
import Derived.Test.YtikkldjghgcaeaaDoorSkMost
namespace Go.Proofs.YtikkldjghgcaeaaDoor
open Go.RowKit

set_option maxHeartbeats 2000000 in
theorem skWaysWalk (a b d : Int) (w : World) (ha : a < 9223372036854775808) (hd : d < 9223372036854775808) (hT : TD w) :
    Calls Tryd.prog 3 #[.int .i64 a, .int .i64 b, .int .i64 d] w fun x w' => x = .returned (.bool true) ∧ Below w.heap.size w w' := by
  have h1 := links_any a w ha hT
  have h2 := fun w => rlinks_any a w ha
  have h3 := fun w (h : TD w) => next_any a b w ha h
  have h4 := fun w => rnext_any a b w ha
  have h5 := fun w (h : TD w) => way_any a b w h
  have h6 := fun w => rway_any a b w
  have h7 := fun w => most_any d w hd
  have h8 := fun w => rmost_any d w hd
  generalize linksL a.toNat = L at *
  generalize nextI a b = N at *
  generalize wayI a b = W at *
  generalize mostI d = M at *
  go_enter Tryd.func3, Tryd.ntmps3
  go_wp2_with fail
  refine h1.mono ?_
  rintro x w1 ⟨v1, rfl, o1, b1⟩
  have i1 := IA.of_owns o1
  have bA := b1
  have tA := hT.later b1
  clear h1 o1 b1 hT
  go_wp2_with fail
  refine (h2 _).mono ?_
  rintro x w2 ⟨v2, rfl, o2, b2⟩
  have hE := slequal_same _ _ L _ (i1.later b2) (IA.of_owns o2)
  have bB := bA.trans (b2.mono bA.size)
  have tB := tA.later b2
  clear h2 o2 b2 i1 bA tA
  go_wp2_with fail
  refine hE.mono ?_
  rintro x w3 ⟨rfl, b3⟩
  have bC := bB.trans (b3.mono bB.size)
  have tC := tB.later b3
  clear hE b3 bB tB
  go_wp2_with fail
  refine (h3 _ tC).mono ?_
  rintro x w4 ⟨rfl, b4⟩
  have bD := bC.trans (b4.mono bC.size)
  have tD := tC.later b4
  clear h3 b4 bC tC
  go_wp2_with fail
  refine (h4 _).mono ?_
  rintro x w5 ⟨rfl, b5⟩
  have bE := bD.trans (b5.mono bD.size)
  have tE := tD.later b5
  clear h4 b5 bD tD
  go_wp2_with fail
  refine (h5 _ tE).mono ?_
  rintro x w6 ⟨v6, rfl, o6, b6⟩
  have i6 := IA.of_owns o6
  have bF := bE.trans (b6.mono bE.size)
  have tF := tE.later b6
  clear h5 b6 bE tE o6
  go_wp2_with fail
  refine (h6 _).mono ?_
  rintro x w7 ⟨v7, rfl, o7, b7⟩
  have hE := slequal_same _ _ W _ (i6.later b7) (IA.of_owns o7)
  have bG := bF.trans (b7.mono bF.size)
  have tG := tF.later b7
  clear h6 b7 bF tF o7 i6
  go_wp2_with fail
  refine hE.mono ?_
  rintro x w8 ⟨rfl, b8⟩
  have bH := bG.trans (b8.mono bG.size)
  have tH := tG.later b8
  clear hE b8 bG tG
  go_wp2_with fail
  refine (h7 _).mono ?_
  rintro x w9 ⟨rfl, hw⟩
  subst hw
  clear h7
  go_wp2_with fail
  refine (h8 _).mono ?_
  rintro x w10 ⟨rfl, hw⟩
  subst hw
  clear h8
  go_wp2_with fail
  refine (skAwake_any _ tH).mono ?_
  rintro x w11 ⟨rfl, b11⟩
  have bI := bH.trans (b11.mono bH.size)
  go_wp2
  go_ret
  exact ⟨rfl, bI⟩

end Go.Proofs.YtikkldjghgcaeaaDoor
