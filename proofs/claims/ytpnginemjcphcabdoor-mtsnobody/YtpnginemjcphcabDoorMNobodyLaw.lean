/- What this text proves: the walk of the statement MtsNobody over this program: keys that no call made. -/
import Derived.Test.YtpnginemjcphcabDoorMKeysT
namespace Go.Proofs.YtpnginemjcphcabDoor
open Go.RowKit

theorem Tabs.size2 {w : World} (h : Tabs w) : 1 < w.heap.size := by
  obtain ⟨x, hx⟩ : ∃ x, kTab[0]? = some x := ⟨_, rfl⟩
  exact cell_lt (h.2 0 x hx)

set_option maxRecDepth 100000 in
set_option maxHeartbeats 2000000 in
theorem msign_none (pv : Value) (index : Int) (v : Value) (w : World) (hv : ∃ p n c, v = .slice p n c)
    (hm : ∀ w', Below w.heap.size w w' → Calls Tryd.prog 25 #[pv] w' fun e w'' => e = .returned (.bool true) ∧ w'' = w') :
    Calls Tryd.prog 11 #[pv, .int .i64 index, v] w fun e w' => e = .returned (.tuple #[.agg #[.int .i64 0, .slice none 0 0, .slice none 0 0], .int .i64 2]) ∧ Below w.heap.size w w' := by
  obtain ⟨p, n, c, rfl⟩ := hv
  go_enter Tryd.func11, Tryd.ntmps11
  go_wp2_with fail
  have bA := (Below.refl _ w).alloc (Nat.le_refl _) (.cells #[.int .i64 0, .slice none 0 0, .slice none 0 0] 30)
  refine (hm _ bA).mono ?_
  rintro e w1 ⟨rfl, hw1⟩
  subst hw1
  go_wp2
  have q0 := cell_of_row (w.alloc (.cells #[.int .i64 0, .slice none 0 0, .slice none 0 0] 30)) w.heap.size 0 _ _ _ (heap_alloc_new w _)
  have q1 := cell_of_row (w.alloc (.cells #[.int .i64 0, .slice none 0 0, .slice none 0 0] 30)) w.heap.size 1 _ _ _ (heap_alloc_new w _)
  have q2 := cell_of_row (w.alloc (.cells #[.int .i64 0, .slice none 0 0, .slice none 0 0] 30)) w.heap.size 2 _ _ _ (heap_alloc_new w _)
  simp at q0 q1 q2
  refine bodyPost_ret (v := .tuple #[.agg #[.int .i64 0, .slice none 0 0, .slice none 0 0], .int .i64 2]) ?_ rfl ⟨rfl, bA⟩
  simp only [results, Tryd.results11]
  go_simp

set_option maxRecDepth 100000 in
set_option maxHeartbeats 1000000 in
theorem public_none (pv : Value) (w : World) (hm : Calls Tryd.prog 25 #[pv] w fun e w'' => e = .returned (.bool true) ∧ w'' = w) :
    Calls Tryd.prog 14 #[pv] w fun e w' => e = .returned (.slice none 0 0) ∧ w' = w := by
  go_enter Tryd.func14, Tryd.ntmps14
  go_wp2_with fail
  refine hm.mono ?_
  rintro e w1 ⟨rfl, hw1⟩
  subst hw1
  go_wp2
  go_ret
  exact ⟨rfl, rfl⟩

set_option maxRecDepth 100000 in
set_option maxHeartbeats 4000000 in
theorem nobodyWalk (index : Int) (v : Value) (l : List UInt8) (w : World) (hv : HB w v l) (hT : Tabs w) :
    Calls Tryd.prog 8 #[.int .i64 index, v] w fun e w' => e = .returned (.bool true) ∧ Below w.heap.size w w' := by
  obtain ⟨p, c, rfl⟩ := hv.shape
  have b1 := (Below.refl _ w).alloc (Nat.le_refl _) (.cells #[.int .i64 0, .int .i64 0, .slice none 0 0, .int .u32 0, .int .i32 0, .int .u32 0, .slice none 0 0] 64)
  have k0 : (w.alloc (.cells #[.int .i64 0, .int .i64 0, .slice none 0 0, .int .u32 0, .int .i32 0, .int .u32 0, .slice none 0 0] 64)).cell? ⟨w.heap.size, 0, none⟩ = some (.int .i64 0) := by
    rw [cell_of_row _ _ 0 _ _ _ (heap_alloc_new w _)]
    rfl
  go_enter Tryd.func8, Tryd.ntmps8
  have b2 := b1.alloc b1.size (.cells #[.pointer none, .pointer (some ⟨w.heap.size, 0, none⟩)] 23)
  have b12 := (Below.refl _ (w.alloc (.cells #[.int .i64 0, .int .i64 0, .slice none 0 0, .int .u32 0, .int .i32 0, .int .u32 0, .slice none 0 0] 64))).alloc (Nat.le_refl _) (.cells #[.pointer none, .pointer (some ⟨w.heap.size, 0, none⟩)] 23)
  have k2 := cell_later b12 k0
  have r0 := cell_of_row ((w.alloc (.cells #[.int .i64 0, .int .i64 0, .slice none 0 0, .int .u32 0, .int .i32 0, .int .u32 0, .slice none 0 0] 64)).alloc (.cells #[.pointer none, .pointer (some ⟨w.heap.size, 0, none⟩)] 23)) (w.heap.size + 1) 0 #[.pointer none, .pointer (some ⟨w.heap.size, 0, none⟩)] 23 (0, 0) (by have := heap_alloc_new (w.alloc (.cells #[.int .i64 0, .int .i64 0, .slice none 0 0, .int .u32 0, .int .i32 0, .int .u32 0, .slice none 0 0] 64)) (.cells #[.pointer none, .pointer (some ⟨w.heap.size, 0, none⟩)] 23); simpa using this)
  have r1 := cell_of_row ((w.alloc (.cells #[.int .i64 0, .int .i64 0, .slice none 0 0, .int .u32 0, .int .i32 0, .int .u32 0, .slice none 0 0] 64)).alloc (.cells #[.pointer none, .pointer (some ⟨w.heap.size, 0, none⟩)] 23)) (w.heap.size + 1) 1 #[.pointer none, .pointer (some ⟨w.heap.size, 0, none⟩)] 23 (0, 0) (by have := heap_alloc_new (w.alloc (.cells #[.int .i64 0, .int .i64 0, .slice none 0 0, .int .u32 0, .int .i32 0, .int .u32 0, .slice none 0 0] 64)) (.cells #[.pointer none, .pointer (some ⟨w.heap.size, 0, none⟩)] 23); simpa using this)
  simp only [List.getElem?_toArray, List.getElem?_cons_zero, List.getElem?_cons_succ] at r0 r1
  have hA := fun w' hT' hs' => mtsAwake_any w' hT' hs'
  clear b1 b12 k0
  go_wp2
  generalize (w.alloc (.cells #[.int .i64 0, .int .i64 0, .slice none 0 0, .int .u32 0, .int .i32 0, .int .u32 0, .slice none 0 0] 64)).alloc (.cells #[.pointer none, .pointer (some ⟨w.heap.size, 0, none⟩)] 23) = w2 at *
  go_loopw [13] (fun i wr => ∃ k : Nat, k ≤ 2 ∧ i = .int .i64 k ∧ Below w2.heap.size w2 wr) (fun i _ => 2 - (intOf i).toNat)
  case atStart => exact ⟨0, by omega, rfl, Below.refl _ _⟩
  case round =>
    obtain ⟨k, hk, rfl, hbe⟩ := hrel
    have e0 := cell_later hbe r0
    have e1 := cell_later hbe r1
    have ek := cell_later hbe k2
    have hszr := hbe.size
    have hsz2 := b2.size
    rcases (show k = 0 ∨ k = 1 ∨ k = 2 by omega) with rfl | rfl | rfl
    · have hS := msign_none (.pointer none) index (.slice p l.length c) wr ⟨_, _, _, rfl⟩ (fun w' _ => missing_nil w')
      have hP := fun w' => public_none (.pointer none) w' (missing_nil w')
      go_wp2_with fail
      refine hS.mono ?_
      rintro e w3 ⟨rfl, hb3⟩
      have hb03 := hbe.trans (hb3.mono hszr)
      have bB := (Below.refl _ w3).alloc (Nat.le_refl _) (.cells #[.int .i64 0, .slice none 0 0, .slice none 0 0] 30)
      have hb04 := hb03.trans (bB.mono hb03.size)
      have s1 : (w3.alloc (.cells #[.int .i64 0, .slice none 0 0, .slice none 0 0] 30)).cell? ⟨w3.heap.size, 1, none⟩ = some (.slice none 0 0) := by
        rw [cell_of_row _ _ 1 _ _ _ (heap_alloc_new w3 _)]
        rfl
      have s2 : (w3.alloc (.cells #[.int .i64 0, .slice none 0 0, .slice none 0 0] 30)).cell? ⟨w3.heap.size, 2, none⟩ = some (.slice none 0 0) := by
        rw [cell_of_row _ _ 2 _ _ _ (heap_alloc_new w3 _)]
        rfl
      have hP4 := hP (w3.alloc (.cells #[.int .i64 0, .slice none 0 0, .slice none 0 0] 30))
      clear hS hP
      go_wp2_with fail
      refine hP4.mono ?_
      rintro e w5 ⟨rfl, hw5⟩
      have hw6 := hw5.symm
      clear hw5
      subst hw6
      go_wp2
      go_roundw
      case rel => first | exact ⟨1, by omega, by go_num, hb04⟩ | exact ⟨1, by omega, rfl, hb04⟩ | ((repeat apply Exists.intro); exact ⟨⟨1, by omega, rfl, hb04⟩, rfl⟩)
      case measure => simp [intOf]
    · have hS := msign_none (.pointer (some ⟨w.heap.size, 0, none⟩)) index (.slice p l.length c) wr ⟨_, _, _, rfl⟩ (fun w' hb => missing_none w.heap.size w' (cell_later hb ek))
      have hP := fun w' hb => public_none (.pointer (some ⟨w.heap.size, 0, none⟩)) w' (missing_none w.heap.size w' (cell_later (w := wr) hb ek))
      go_wp2_with fail
      refine hS.mono ?_
      rintro e w3 ⟨rfl, hb3⟩
      have hb03 := hbe.trans (hb3.mono hszr)
      have bB := (Below.refl _ w3).alloc (Nat.le_refl _) (.cells #[.int .i64 0, .slice none 0 0, .slice none 0 0] 30)
      have hb04 := hb03.trans (bB.mono hb03.size)
      have s1 : (w3.alloc (.cells #[.int .i64 0, .slice none 0 0, .slice none 0 0] 30)).cell? ⟨w3.heap.size, 1, none⟩ = some (.slice none 0 0) := by
        rw [cell_of_row _ _ 1 _ _ _ (heap_alloc_new w3 _)]
        rfl
      have s2 : (w3.alloc (.cells #[.int .i64 0, .slice none 0 0, .slice none 0 0] 30)).cell? ⟨w3.heap.size, 2, none⟩ = some (.slice none 0 0) := by
        rw [cell_of_row _ _ 2 _ _ _ (heap_alloc_new w3 _)]
        rfl
      have hP4 := hP (w3.alloc (.cells #[.int .i64 0, .slice none 0 0, .slice none 0 0] 30)) (hb3.trans (bB.mono hb3.size))
      clear hS hP
      go_wp2_with fail
      refine hP4.mono ?_
      rintro e w5 ⟨rfl, hw5⟩
      have hw6 := hw5.symm
      clear hw5
      subst hw6
      go_wp2
      go_roundw
      case rel => first | exact ⟨2, by omega, by go_num, hb04⟩ | exact ⟨2, by omega, rfl, hb04⟩ | ((repeat apply Exists.intro); exact ⟨⟨2, by omega, rfl, hb04⟩, rfl⟩)
      case measure => simp [intOf]
    · have hb : Below w.heap.size w wr := b2.trans (hbe.mono hsz2)
      clear e0 e1 ek
      go_wp2_with fail
      refine (hA _ (hT.later hb) (hT.later hb).size2).mono ?_
      rintro e w3 ⟨rfl, hb3⟩
      go_wp2
      go_ret
      exact ⟨rfl, hb.trans (hb3.mono hb.size)⟩

end Go.Proofs.YtpnginemjcphcabDoor
