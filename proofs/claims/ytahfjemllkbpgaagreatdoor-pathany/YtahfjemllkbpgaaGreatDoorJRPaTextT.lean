/- What this text proves: the walks of the document's EmptyText, LeafText and ForkText (annalsref17) over this program. -/
import Derived.Test.YtahfjemllkbpgaaGreatDoorJPaText
import Derived.Test.YtahfjemllkbpgaaGreatDoorJA4
import Derived.Test.YtahfjemllkbpgaaGreatDoorJB1
namespace Go.Proofs.YtahfjemllkbpgaaGreatDoor
open Go.RowKit

theorem rtxt_any (tag : Nat) (v : Value) (ls : List (List UInt8)) (w : World) (ht : tag ≤ 255) (h : PA w v ls) (hn : ls.length ≤ 10) (hf : fits ls) :
    Calls Tryz.prog 56 #[.int .i64 (tag : Int), v] w fun y w' => ∃ p c, y = .returned (.tuple #[.slice p (UInt8.ofNat tag :: body ls).length c, .int .i64 0]) ∧ HB w' (.slice p (UInt8.ofNat tag :: body ls).length c) (UInt8.ofNat tag :: body ls) ∧ Below w.heap.size w w' ∧ TB w' (.slice p (UInt8.ofNat tag :: body ls).length c) := by
  refine (rtext_in (tag : Int) v ls w (by omega) (by omega) h (by omega)).mono ?_
  rintro y w' ⟨h1, _, hb⟩
  obtain ⟨v', rfl, ho⟩ := h1 hf
  have e : UInt8.ofNat (tag : Int).toNat :: body ls = UInt8.ofNat tag :: body ls := rfl
  rw [e] at ho
  have hh := HB.of_owns ho
  have hty := TB.of_owns ho
  obtain ⟨p, c, hv⟩ := hh.shape
  subst hv
  exact ⟨p, c, rfl, hh, hb, hty⟩

set_option maxRecDepth 100000 in
set_option maxHeartbeats 1000000 in
theorem rempty_any (w : World) :
    Calls Tryz.prog 31 #[] w fun y w' => ∃ p c, y = .returned (.slice p ([0] : List UInt8).length c) ∧ HB w' (.slice p ([0] : List UInt8).length c) [0] ∧ Below w.heap.size w w' ∧ TB w' (.slice p ([0] : List UInt8).length c) := by
  have hT := rtxt_any 0 (.slice none 0 0) [] w (by decide) (PA.nil w) (by simp) (by intro q hq; cases hq)
  have e : UInt8.ofNat 0 :: body [] = [0] := by simp [body]
  simp only [e] at hT
  clear e
  generalize ([0] : List UInt8) = T at *
  go_enter Tryz.func31, Tryz.ntmps31
  go_wp2_with fail
  refine hT.mono ?_
  rintro y w1 ⟨p1, c1, rfl, k1, hb1, t1⟩
  clear hT
  go_wp2
  go_ret
  exact ⟨_, _, rfl, k1, hb1, t1⟩

set_option maxRecDepth 100000 in
set_option maxHeartbeats 1000000 in
theorem rleafText_any (vi vk : Value) (id key : List UInt8) (si : Int) (w : World) (hi : HB w vi id) (hk : HB w vk key) (l1 : id.length ≤ 65535) (l2 : key.length ≤ 65535) :
    Calls Tryz.prog 32 #[vi, vk, .int .i64 si] w fun y w' => ∃ p c, y = .returned (.slice p (leafT id key si).length c) ∧ HB w' (.slice p (leafT id key si).length c) (leafT id key si) ∧ Below w.heap.size w w' ∧ TB w' (.slice p (leafT id key si).length c) := by
  obtain ⟨p, c, rfl⟩ := hi.shape
  obtain ⟨q, d, rfl⟩ := hk.shape
  have hT := fun v W h => rtxt_any 1 v [id, key, numB si] W (by decide) h (by simp) (by
    intro q hq
    have e2 := numB_len si
    simp only [List.mem_cons, List.not_mem_nil, or_false] at hq
    rcases hq with rfl | rfl | rfl <;> omega)
  have e : UInt8.ofNat 1 :: body [id, key, numB si] = leafT id key si := rfl
  simp only [e] at hT
  clear e l1 l2
  generalize leafT id key si = T at *
  have hA := fun w' => rnumber_to si w'
  generalize numB si = A at *
  go_enter Tryz.func32, Tryz.ntmps32
  go_wp2_with fail
  refine (hA _).mono ?_
  rintro e w1 ⟨p1, c1, rfl, h1, hb1⟩
  have hi1 := hi.later hb1
  have hk1 := hk.later hb1
  clear hi hk hA
  have hpa := PA.lit w1 22 [_, _, _] _ 3 rfl rfl (by decide) (three_hb hi1 hk1 h1)
  have hbA : Below w.heap.size w (w1.alloc (.cells #[.slice p id.length c, .slice q key.length d, .slice p1 8 c1] 22)) := hb1.alloc hb1.size _
  go_wp2_with fail
  refine (hT _ _ hpa).mono ?_
  rintro e w3 ⟨p3, c3, rfl, h3, hb3, t3⟩
  have HW : Below w.heap.size w w3 := hbA.trans (hb3.mono hbA.size)
  clear hT hpa hbA hb1 hb3
  go_wp2
  go_ret
  exact ⟨_, _, rfl, h3, HW, t3⟩

set_option maxRecDepth 100000 in
set_option maxHeartbeats 1000000 in
theorem rforkText_any (depth newest : Int) (vp vl vr : Value) (pre ll lr : List UInt8) (w : World) (hp : HB w vp pre) (hl : HB w vl ll) (hr : HB w vr lr) (h0 : -9223372036854775808 ≤ depth) (h1 : depth ≤ 9223372036854775807) (l1 : pre.length ≤ 65535) (l2 : ll.length ≤ 65535) (l3 : lr.length ≤ 65535) :
    Calls Tryz.prog 33 #[.int .i64 depth, vp, .int .i64 newest, vl, vr] w fun y w' => ∃ p c, y = .returned (.slice p (forkT depth pre newest ll lr).length c) ∧ HB w' (.slice p (forkT depth pre newest ll lr).length c) (forkT depth pre newest ll lr) ∧ Below w.heap.size w w' ∧ TB w' (.slice p (forkT depth pre newest ll lr).length c) := by
  obtain ⟨p, c, rfl⟩ := hp.shape
  obtain ⟨q, d, rfl⟩ := hl.shape
  obtain ⟨r, e, rfl⟩ := hr.shape
  have hT := fun v W h => rtxt_any 2 v [numB depth, firstF pre depth, numB newest, ll, lr] W (by decide) h (by simp) (by
    intro q hq
    have e1 := firstF_le pre depth
    have e2 := numB_len depth
    have e3 := numB_len newest
    simp only [List.mem_cons, List.not_mem_nil, or_false] at hq
    rcases hq with rfl | rfl | rfl | rfl | rfl <;> omega)
  have eq : UInt8.ofNat 2 :: body [numB depth, firstF pre depth, numB newest, ll, lr] = forkT depth pre newest ll lr := rfl
  simp only [eq] at hT
  clear eq
  generalize forkT depth pre newest ll lr = T at *
  have hA := fun w' => rnumber_to depth w'
  have hB := fun w' => rnumber_to newest w'
  have hC := fun w' h => rfirst_any (.slice p pre.length c) pre depth w' h h0 h1 (by omega)
  clear l1 l2 l3
  generalize numB depth = A at *
  generalize numB newest = B at *
  generalize firstF pre depth = C at *
  go_enter Tryz.func33, Tryz.ntmps33
  go_wp2_with fail
  refine (hA _).mono ?_
  rintro x w1 ⟨p1, c1, rfl, k1, hb1⟩
  go_wp2_with fail
  refine (hC _ (hp.later hb1)).mono ?_
  rintro x w2 ⟨p2, c2, rfl, k2, hb2⟩
  have hb02 := hb1.trans (hb2.mono hb1.size)
  go_wp2_with fail
  refine (hB _).mono ?_
  rintro x w3 ⟨p3, c3, rfl, k3, hb3⟩
  have hb03 := hb02.trans (hb3.mono hb02.size)
  have k13 := (k1.later hb2).later hb3
  have k23 := k2.later hb3
  have hl3 := hl.later hb03
  have hr3 := hr.later hb03
  clear hp hl hr hA hB hC k1 k2 hb1 hb2 hb02 hb3
  have hpa := PA.lit w3 22 [_, _, _, _, _] _ 5 rfl rfl (by decide) (five_hb k13 k23 k3 hl3 hr3)
  have hbA : Below w.heap.size w (w3.alloc (.cells #[.slice p1 8 c1, .slice p2 C.length c2, .slice p3 8 c3, .slice q ll.length d, .slice r lr.length e] 22)) := hb03.alloc hb03.size _
  go_wp2_with fail
  refine (hT _ _ hpa).mono ?_
  rintro x w4 ⟨p4, c4, rfl, k4, hb4, t4⟩
  have HW : Below w.heap.size w w4 := hbA.trans (hb4.mono hbA.size)
  clear hT hpa hbA hb4 hb03
  go_wp2
  go_ret
  exact ⟨_, _, rfl, k4, HW, t4⟩

end Go.Proofs.YtahfjemllkbpgaaGreatDoor
