/- What this text proves: the walks of the document's LeafHash and ForkHash (annalsref09) over this program. -/
import Derived.Test.YtofchcheoanmdaaDoorAHashC
import Derived.Test.YtofchcheoanmdaaDoorHashR
import Derived.Test.YtofchcheoanmdaaDoorRFirst
namespace Go.Proofs.YtofchcheoanmdaaDoor
open Go.RowKit

set_option maxRecDepth 100000 in
set_option maxHeartbeats 1000000 in
theorem rleafHash_any (size since : Int) (vi vk : Value) (id key : List UInt8) (w : World) (hi : HB w vi id) (hk : HB w vk key) :
    Calls Tryd.prog 16 #[.int .i64 size, vi, vk, .int .i64 since] w fun e w' => ∃ p c, e = .returned (.slice p (leafF size id key since).length c) ∧ HB w' (.slice p (leafF size id key since).length c) (leafF size id key since) ∧ Below w.heap.size w w' := by
  obtain ⟨p, c, rfl⟩ := hi.shape
  obtain ⟨q, d, rfl⟩ := hk.shape
  have HF : Hid (leafF size id key since = hashF size 1 [id, key, numB since]) := rfl
  generalize leafF size id key since = F at *
  have hA := fun w' => rnumber_to since w'
  generalize numB since = A at *
  go_enter Tryd.func16, Tryd.ntmps16
  go_wp2_with fail
  refine (hA _).mono ?_
  rintro e w1 ⟨p1, c1, rfl, h1, hb1⟩
  have hi1 := hi.later hb1
  have hk1 := hk.later hb1
  clear hi hk hA
  go_wp2_with fail
  have hbA : Below w.heap.size w (w1.alloc (.cells #[.slice p id.length c, .slice q key.length d, .slice p1 8 c1] 31)) := hb1.alloc hb1.size _
  refine (rhash_to size 1 _ [id, key, A] _ (by simp) (by decide) (PA.lit w1 31 [_, _, _] _ 3 rfl rfl (by decide) (three_hb hi1 hk1 h1))).mono ?_
  rintro e w3 ⟨p3, c3, rfl, h3, hb3⟩
  rw [← HF.out] at h3 ⊢
  have hb03 : Below w.heap.size w w3 := hbA.trans (hb3.mono hbA.size)
  go_wp2
  go_ret
  exact ⟨_, _, rfl, h3, hb03⟩

set_option maxRecDepth 100000 in
set_option maxHeartbeats 1000000 in
theorem rforkHash_any (size depth newest : Int) (vp vl vr : Value) (pre ll lr : List UInt8) (w : World) (hp : HB w vp pre) (hl : HB w vl ll) (hr : HB w vr lr) (h0 : -9223372036854775808 ≤ depth) (h1 : depth ≤ 9223372036854775807) (hbig : pre.length ≤ 140737488351232) :
    Calls Tryd.prog 18 #[.int .i64 size, .int .i64 depth, vp, .int .i64 newest, vl, vr] w fun e w' => ∃ p c, e = .returned (.slice p (forkF size depth pre newest ll lr).length c) ∧ HB w' (.slice p (forkF size depth pre newest ll lr).length c) (forkF size depth pre newest ll lr) ∧ Below w.heap.size w w' := by
  obtain ⟨p, c, rfl⟩ := hp.shape
  obtain ⟨q, d, rfl⟩ := hl.shape
  obtain ⟨r, e, rfl⟩ := hr.shape
  have HF : Hid (forkF size depth pre newest ll lr = hashF size 2 [numB depth, firstF pre depth, numB newest, ll, lr]) := rfl
  generalize forkF size depth pre newest ll lr = F at *
  have hA := fun w' => rnumber_to depth w'
  have hB := fun w' => rnumber_to newest w'
  have hC := fun w' h => rfirst_any (.slice p pre.length c) pre depth w' h h0 h1 (by omega)
  generalize numB depth = A at *
  generalize numB newest = B at *
  generalize firstF pre depth = C at *
  go_enter Tryd.func18, Tryd.ntmps18
  go_wp2_with fail
  refine (hA _).mono ?_
  rintro x w1 ⟨p1, c1, rfl, k1, hb1⟩
  go_wp2_with fail
  refine (hC _ (hp.later hb1)).mono ?_
  rintro x w2 ⟨p2, c2, rfl, k2, hb2⟩
  have hb02 := hb1.trans (hb2.mono hb1.size)
  go_wp2_with fail
  refine (hB _).mono ?_
  rintro x w3 ⟨p3, c3, rfl, k3, hb3⟩
  have hb03 := hb02.trans (hb3.mono hb02.size)
  have k13 := (k1.later hb2).later hb3
  have k23 := k2.later hb3
  have hl3 := hl.later hb03
  have hr3 := hr.later hb03
  clear hp hl hr hA hB hC k1 k2 hb1 hb2 hb02 hb3
  go_wp2_with fail
  have hbA : Below w.heap.size w (w3.alloc (.cells #[.slice p1 8 c1, .slice p2 C.length c2, .slice p3 8 c3, .slice q ll.length d, .slice r lr.length e] 31)) := hb03.alloc hb03.size _
  refine (rhash_to size 2 _ [A, C, B, ll, lr] _ (by simp) (by decide) (PA.lit w3 31 [_, _, _, _, _] _ 5 rfl rfl (by decide) (five_hb k13 k23 k3 hl3 hr3))).mono ?_
  rintro x w4 ⟨p4, c4, rfl, k4, hb4⟩
  rw [← HF.out] at k4 ⊢
  have hb04 : Below w.heap.size w w4 := hbA.trans (hb4.mono hbA.size)
  go_wp2
  go_ret
  exact ⟨_, _, rfl, k4, hb04⟩

end Go.Proofs.YtofchcheoanmdaaDoor
