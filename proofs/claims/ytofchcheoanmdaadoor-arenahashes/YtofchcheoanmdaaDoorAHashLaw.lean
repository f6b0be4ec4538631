/- What this text proves: the walk of annalslaw09.ArenaHashes over this program: it answers true, and writes nothing that was there. -/
import Derived.Test.YtofchcheoanmdaaDoorAHashR
import Derived.Test.YtofchcheoanmdaaDoorAAwakeW
namespace Go.Proofs.YtofchcheoanmdaaDoor
open Go.RowKit

set_option maxRecDepth 100000 in
set_option maxHeartbeats 2000000 in
theorem hashesWalk (size n newest : Int) (vi vk vl vr : Value) (id key ll lr : List UInt8) (w : World) (hi : HB w vi id) (hk : HB w vk key) (hl : HB w vl ll) (hr : HB w vr lr) (hT : Tabs w) (h0 : -9223372036854775808 ≤ n) (h1 : n ≤ 9223372036854775807) (hsz : id.length ≤ 140737488351232) :
    Calls Tryd.prog 4 #[.int .i64 size, .int .i64 n, .int .i64 newest, vi, vk, vl, vr] w fun e w' => e = .returned (.bool true) ∧ Below w.heap.size w w' := by
  obtain ⟨pi, ci, rfl⟩ := hi.shape
  obtain ⟨pk, ck, rfl⟩ := hk.shape
  obtain ⟨pl, cl, rfl⟩ := hl.shape
  obtain ⟨pr, cr, rfl⟩ := hr.shape
  have hA := fun w' a b c => leafHash_any size n (.slice pi id.length ci) (.slice pk key.length ck) id key w' a b c
  have hB := fun w' a b => rleafHash_any size n (.slice pi id.length ci) (.slice pk key.length ck) id key w' a b
  have hC := fun w' a b c d => forkHash_any size n newest (.slice pi id.length ci) (.slice pl ll.length cl) (.slice pr lr.length cr) id ll lr w' a b c d h0 h1 hsz
  have hD := fun w' a b c => rforkHash_any size n newest (.slice pi id.length ci) (.slice pl ll.length cl) (.slice pr lr.length cr) id ll lr w' a b c h0 h1 hsz
  generalize leafF size id key n = F at *
  generalize forkF size n id newest ll lr = G at *
  go_enter Tryd.func4, Tryd.ntmps4
  go_wp2_with fail
  refine (hA _ hi hk hT).mono ?_
  rintro e w1 ⟨p1, c1, rfl, k1, hb1, _⟩
  go_wp2_with fail
  refine (hB _ (hi.later hb1) (hk.later hb1)).mono ?_
  rintro e w2 ⟨p2, c2, rfl, k2, hb2⟩
  have hb02 := hb1.trans (hb2.mono hb1.size)
  go_wp2_with fail
  refine (equal_t _ _ F F _ (k1.later hb2) k2 rfl).mono ?_
  rintro e w2' ⟨rfl, hw⟩
  have hw2 := hw.symm
  clear hw k1 k2
  subst hw2
  go_wp2_with fail
  refine (hC _ (hi.later hb02) (hl.later hb02) (hr.later hb02) (hT.later hb02)).mono ?_
  rintro e w3 ⟨p3, c3, rfl, k3, hb3, _⟩
  have hb03 := hb02.trans (hb3.mono hb02.size)
  go_wp2_with fail
  refine (hD _ (hi.later hb03) (hl.later hb03) (hr.later hb03)).mono ?_
  rintro e w4 ⟨p4, c4, rfl, k4, hb4⟩
  have hb04 := hb03.trans (hb4.mono hb03.size)
  go_wp2_with fail
  refine (equal_t _ _ G G _ (k3.later hb4) k4 rfl).mono ?_
  rintro e w4' ⟨rfl, hw⟩
  have hw2 := hw.symm
  clear hw k3 k4
  subst hw2
  go_wp2_with fail
  refine (arenaAwake_any _ (hT.later hb04)).mono ?_
  rintro e w5 ⟨rfl, hb5⟩
  have hb05 := hb04.trans (hb5.mono hb04.size)
  clear hA hB hC hD hi hk hl hr
  go_wp2
  go_ret
  exact ⟨rfl, hb05⟩

end Go.Proofs.YtofchcheoanmdaaDoor
