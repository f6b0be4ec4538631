/- What this text proves: the walk of annalslaw11.awake over this program: it answers true. -/
import Derived.Test.YtichffdkihifpaaDoorKRoot
import Derived.Test.YtichffdkihifpaaDoorKCount
namespace Go.Proofs.YtichffdkihifpaaDoor
open Go.RowKit

theorem rootF_one (size : Int) (l : List UInt8) : rootF size [l] = l := by
  unfold rootF
  rw [if_neg (by simp), ovF_some (l := l) (by simp [knR])]

theorem PA.one (w : World) (a : Value) (la : List UInt8) (ha : HB w a la) : PA (w.alloc (.cells #[a] 25)) (.slice (some ⟨w.heap.size, 0, none⟩) 1 1) [la] := by
  refine ⟨_, 1, [a], rfl, Nat.le_refl _, by decide, (fun h => by cases h), rfl, fun _ => ⟨_, 0, rfl, fun i x hx => ?_⟩, fun i x l hx hl => ?_⟩
  · rw [Nat.zero_add, cell_of_row _ _ i _ _ _ (heap_alloc_new w _)]
    simpa using hx
  · have hbe := (Below.refl w.heap.size w).alloc (Nat.le_refl _) (.cells #[a] 25)
    match i with
    | 0 => simp at hx hl; subst hx; subst hl; exact ha.later hbe
    | n + 1 => simp at hx

theorem cnt_545 : cntF 5 4 5 = 1 := by decide +kernel

set_option maxRecDepth 100000 in
set_option maxHeartbeats 1000000 in
theorem mkAwake_any (w : World) (hT : Tabs w) :
    Calls Tryd.prog 17 #[] w fun e w' => e = .returned (.bool true) ∧ Below w.heap.size w w' := by
  have hC := fun w => count_any 5 4 5 w
  rw [cnt_545] at hC
  have l1 : ∀ w : World, HB (w.alloc (.cells #[.int .u8 1, .int .u8 2, .int .u8 3, .int .u8 4] 5)) (.slice (some ⟨w.heap.size, 0, none⟩) 4 4) [1, 2, 3, 4] := fun w => HB.lit w 5 [1, 2, 3, 4] _ 4 rfl rfl (by decide)
  have hb1 := (Below.refl w.heap.size w).alloc (Nat.le_refl _) (.cells #[.int .u8 1, .int .u8 2, .int .u8 3, .int .u8 4] 5)
  have hb2 := hb1.alloc hb1.size (.cells #[.slice (some ⟨w.heap.size, 0, none⟩) 4 4] 25)
  have hp := PA.one _ _ _ (l1 w)
  rw [show (w.alloc (.cells #[.int .u8 1, .int .u8 2, .int .u8 3, .int .u8 4] 5)).heap.size = w.heap.size + 1 by simp] at hp
  have hR := root_any 4 _ [[1, 2, 3, 4]] _ hp (hT.later hb2) (by decide) (by rw [rootF_one]; decide)
  rw [rootF_one] at hR
  obtain ⟨D, hD⟩ : ∃ D : List UInt8, D = [1, 2, 3, 4] := ⟨_, rfl⟩
  rw [← hD] at hR
  simp only [← hD] at l1
  rw [show D.length = 4 by rw [hD]; rfl] at hR
  clear hp hT hD
  have HB2 : Hid (Below w.heap.size w ((w.alloc (.cells #[.int .u8 1, .int .u8 2, .int .u8 3, .int .u8 4] 5)).alloc (.cells #[.slice (some ⟨w.heap.size, 0, none⟩) 4 4] 25))) := hb2
  clear hb1 hb2
  go_enter Tryd.func17, Tryd.ntmps17
  go_wp2_with fail
  refine hR.mono ?_
  rintro x w1 ⟨p1, c1, rfl, k1, hb1, _⟩
  clear hR
  have hbA : Below w.heap.size w w1 := HB2.out.trans (hb1.mono HB2.out.size)
  clear HB2 hb1
  have hbL := (Below.refl w1.heap.size w1).alloc (Nat.le_refl _) (.cells #[.int .u8 1, .int .u8 2, .int .u8 3, .int .u8 4] 5)
  have hE := equal_t _ _ D D _ (k1.later hbL) (l1 w1) rfl
  have hbB := hbA.trans (hbL.mono hbA.size)
  clear k1 l1 hbA hbL
  go_wp2_with fail
  refine hE.mono ?_
  rintro x w2 ⟨rfl, hw⟩
  subst hw
  clear hE
  go_wp2_with fail
  refine (hC _).mono ?_
  rintro x w3 ⟨rfl, hb3⟩
  have hb := hbB.trans (hb3.mono hbB.size)
  clear hC hbB hb3
  go_wp2
  go_ret
  exact ⟨rfl, hb⟩

end Go.Proofs.YtichffdkihifpaaDoor
