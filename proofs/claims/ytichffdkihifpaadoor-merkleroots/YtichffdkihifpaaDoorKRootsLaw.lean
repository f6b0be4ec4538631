/- What this text proves: the walk of the statement MerkleRoots over this program: it answers true for any arguments, and writes nothing that was there. -/
import Derived.Test.YtichffdkihifpaaDoorKRRange
import Derived.Test.YtichffdkihifpaaDoorKAwake
import Derived.Test.YtichffdkihifpaaDoorSame
namespace Go.Proofs.YtichffdkihifpaaDoor
open Go.RowKit

set_option maxRecDepth 100000 in
set_option maxHeartbeats 4000000 in
theorem krootsWalk (size lo hi n : Int) (v : Value) (l0 : List (List UInt8)) (w : World) (hp0 : PA w v l0) (hT : Tabs w) (hl0 : ∀ l ∈ l0, l.length ≤ 140737488351232) :
    Calls Tryd.prog 3 #[.int .i64 size, v, .int .i64 lo, .int .i64 hi, .int .i64 n] w fun e w' => e = .returned (.bool true) ∧ Below w.heap.size w w' := by
  have hF := kfew_any v l0 w hp0
  have hlen : (l0.take 40).length ≤ 40 := by simp; omega
  have hls : ∀ l ∈ l0.take 40, l.length ≤ 140737488355328 := fun l hl => Nat.le_trans (hl0 l (List.mem_of_mem_take hl)) (by decide)
  generalize l0.take 40 = ls at *
  clear hp0 hl0
  have hrl := rootF_len size 140737488355328 (by decide) ls (by omega) hls
  have cR := fun v W (hp : PA W v ls) (hT : Tabs W) => root_any size v ls W hp hT (by omega) hrl
  have dR := fun v W (hp : PA W v ls) => rroot_any size 20 v ls W hp (by omega) (by omega) hls
  have cG := fun v W (hp : PA W v ls) (hT : Tabs W) => range_any size v ls lo hi W hT hp (by omega) hls
  have dG := fun v W (hp : PA W v ls) => rrange_any size v ls lo hi W hp (by omega) hls
  clear hrl hls
  generalize rngF size ls lo hi = X at *
  generalize rootF size ls = F at *
  obtain ⟨N, hN⟩ : ∃ N : Int, (if n < 1048576 then (if 2000 < n then 2000 else n) else n) = N := ⟨_, rfl⟩
  have cC := fun W => count_any N lo hi W
  have dC := fun W => rcount_any N lo hi W
  generalize cntF N lo hi = C at *
  by_cases hn : n < 1048576
  · rw [if_pos hn] at hN
    go_enter Tryd.func3, Tryd.ntmps3
    go_wp2_with fail
    refine hF.mono ?_
    rintro e w1 ⟨p1, c1, rfl, hp, hw⟩
    have hw2 := hw.symm
    clear hw hF
    subst hw2
    go_wp2_with fail
    refine (cR _ _ hp hT).mono ?_
    rintro e w2 ⟨p2, c2, rfl, k2, hb2, _⟩
    have p12 := hp.later hb2
    have T2 := hT.later hb2
    clear cR hp hT
    go_wp2_with fail
    refine (dR _ _ p12).mono ?_
    rintro e w3 ⟨p3, c3, rfl, k3, hb3, _⟩
    have p13 := p12.later hb3
    have T3 := T2.later hb3
    have b03 := hb2.trans (hb3.mono hb2.size)
    have E1 := equal_t _ _ F F w3 (k2.later hb3) k3 rfl
    clear dR p12 T2 k2 k3 hb2 hb3
    go_wp2_with fail
    refine E1.mono ?_
    rintro e w4 ⟨rfl, hw⟩
    have hw2 := hw.symm
    clear hw E1
    subst hw2
    go_wp2_with fail
    refine (cG _ _ p13 T3).mono ?_
    rintro e w5 ⟨p5, c5, rfl, k5, hb5⟩
    have p15 := p13.later hb5
    have T5 := T3.later hb5
    have b05 := b03.trans (hb5.mono b03.size)
    clear cG p13 T3 b03 hb5
    go_wp2_with fail
    refine (dG _ _ p15).mono ?_
    rintro e w6 ⟨p6, c6, rfl, k6, hb6⟩
    have T6 := T5.later hb6
    have b06 := b05.trans (hb6.mono b05.size)
    have E2 := same_t _ _ X X w6 (k5.later hb6) k6.pa rfl
    clear dG p15 T5 b05 k5 k6 hb6
    go_wp2_with fail
    refine E2.mono ?_
    rintro e w7 ⟨rfl, hw⟩
    have hw2 := hw.symm
    clear hw E2
    subst hw2
    go_wp2_with fail
    refine (cC _).mono ?_
    rintro e w8 ⟨rfl, hb8⟩
    have T8 := T6.later hb8
    have b08 := b06.trans (hb8.mono b06.size)
    clear cC T6 b06 hb8
    go_wp2_with fail
    refine (dC _).mono ?_
    rintro e w9 ⟨rfl, hw⟩
    have hw2 := hw.symm
    clear hw dC
    subst hw2
    go_wp2_with fail
    refine (mkAwake_any _ T8).mono ?_
    rintro e w10 ⟨rfl, hb10⟩
    have b10 := b08.trans (hb10.mono b08.size)
    clear T8 b08 hb10
    go_wp2
    go_ret
    exact ⟨rfl, b10⟩
  · rw [if_neg hn] at hN
    subst hN
    go_enter Tryd.func3, Tryd.ntmps3
    go_wp2_with fail
    refine hF.mono ?_
    rintro e w1 ⟨p1, c1, rfl, hp, hw⟩
    have hw2 := hw.symm
    clear hw hF
    subst hw2
    go_wp2_with fail
    refine (cR _ _ hp hT).mono ?_
    rintro e w2 ⟨p2, c2, rfl, k2, hb2, _⟩
    have p12 := hp.later hb2
    have T2 := hT.later hb2
    clear cR hp hT
    go_wp2_with fail
    refine (dR _ _ p12).mono ?_
    rintro e w3 ⟨p3, c3, rfl, k3, hb3, _⟩
    have p13 := p12.later hb3
    have T3 := T2.later hb3
    have b03 := hb2.trans (hb3.mono hb2.size)
    have E1 := equal_t _ _ F F w3 (k2.later hb3) k3 rfl
    clear dR p12 T2 k2 k3 hb2 hb3
    go_wp2_with fail
    refine E1.mono ?_
    rintro e w4 ⟨rfl, hw⟩
    have hw2 := hw.symm
    clear hw E1
    subst hw2
    go_wp2_with fail
    refine (cG _ _ p13 T3).mono ?_
    rintro e w5 ⟨p5, c5, rfl, k5, hb5⟩
    have p15 := p13.later hb5
    have T5 := T3.later hb5
    have b05 := b03.trans (hb5.mono b03.size)
    clear cG p13 T3 b03 hb5
    go_wp2_with fail
    refine (dG _ _ p15).mono ?_
    rintro e w6 ⟨p6, c6, rfl, k6, hb6⟩
    have T6 := T5.later hb6
    have b06 := b05.trans (hb6.mono b05.size)
    have E2 := same_t _ _ X X w6 (k5.later hb6) k6.pa rfl
    clear dG p15 T5 b05 k5 k6 hb6
    go_wp2_with fail
    refine E2.mono ?_
    rintro e w7 ⟨rfl, hw⟩
    have hw2 := hw.symm
    clear hw E2
    subst hw2
    go_wp2_with fail
    refine (cC _).mono ?_
    rintro e w8 ⟨rfl, hb8⟩
    have T8 := T6.later hb8
    have b08 := b06.trans (hb8.mono b06.size)
    clear cC T6 b06 hb8
    go_wp2_with fail
    refine (dC _).mono ?_
    rintro e w9 ⟨rfl, hw⟩
    have hw2 := hw.symm
    clear hw dC
    subst hw2
    go_wp2_with fail
    refine (mkAwake_any _ T8).mono ?_
    rintro e w10 ⟨rfl, hb10⟩
    have b10 := b08.trans (hb10.mono b08.size)
    clear T8 b08 hb10
    go_wp2
    go_ret
    exact ⟨rfl, b10⟩

end Go.Proofs.YtichffdkihifpaaDoor
