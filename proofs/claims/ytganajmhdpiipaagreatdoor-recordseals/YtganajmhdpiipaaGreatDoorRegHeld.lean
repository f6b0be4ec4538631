/- What this text proves: a law for a walk, over any program: the beginning of a region that draws its order, its operations counted. -/
import Derived.Test.YtganajmhdpiipaaGreatDoorVocab
import Derived.Deep.RegionHeld3
namespace Go.Proofs.YtganajmhdpiipaaGreatDoor
open Go.RowKit

theorem wp_region_heldN {P : Program} {id : Nat} {ops : Array Oper} {Q : Exit → Act → World → Prop} {a : Act} {w : World} (hm : P.follows .mixedOrders = true) (S : World → Prop) (n : Nat) (hn : ops.size = n)
    (h : wpAnyH P .any ops Q S n (Array.replicate n false) a w.drew) : (Code.region id ops true).wp P Q a w := by
  subst hn
  exact wp_region_held hm h

end Go.Proofs.YtganajmhdpiipaaGreatDoor
