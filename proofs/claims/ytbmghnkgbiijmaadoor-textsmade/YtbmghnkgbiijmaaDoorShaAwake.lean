/- What this text proves: the walk of the statements' 'awake' (annalslaw01) over this program: it answers true, where the two tables lie in their variables. -/
import Derived.Test.YtbmghnkgbiijmaaDoorSum
import Derived.Test.YtbmghnkgbiijmaaDoorPrefix
import Derived.Lib.SlBytesConst
namespace Go.Proofs.YtbmghnkgbiijmaaDoor
open Go.RowKit

theorem sha_abc : (sha [97, 98, 99]).take 4 = [186, 120, 22, 191] := by decide +kernel

theorem HB.mark (w : World) (e : TypeId) (l : List UInt8) (cs : Array Value) (n : Nat) (fr : Nat × Nat) (hc : cs = (bcs l).toArray) (hn : n = l.length) (hm : n ≤ maxLen) : HB (w.alloc (.cells cs e fr)) (.slice (some ⟨w.heap.size, 0, none⟩) n n) l := by
  subst hc; subst hn
  refine ⟨_, l.length, rfl, Nat.le_refl _, hm, (fun h => by cases h), fun _ => ⟨_, 0, rfl, fun i x hx => ?_⟩⟩
  rw [Nat.zero_add, cell_of_row _ _ i _ _ _ (heap_alloc_new w _)]
  simp [bcs, hx]

set_option maxHeartbeats 1000000 in
theorem shaAwake_any (w : World) (hT : Tabs w) : Calls Tryd.prog 12 #[] w fun e w' => e = .returned (.bool true) ∧ Below w.heap.size w w' := by
  have kc := fun (w : World) (C : Array Value) (n c : Nat) => Lib.run_convert_bytes_const (P := Tryd.prog) w 22 5 C n c Tryd.underlying22 Tryd.underlying5
  have hb0 : Below w.heap.size w (w.alloc (.cells #[.int .u8 97, .int .u8 98, .int .u8 99] 5 (3, 4))) := (Below.refl _ w).alloc (Nat.le_refl _) _
  have hh0 : HB (w.alloc (.cells #[.int .u8 97, .int .u8 98, .int .u8 99] 5 (3, 4))) (.slice (some ⟨w.heap.size, 0, none⟩) 3 3) [97, 98, 99] := HB.mark w 5 _ _ 3 _ rfl rfl (by unfold maxLen; omega)
  have hT0 := hT.later hb0
  obtain ⟨W, hW⟩ : ∃ W, W = w.alloc (.cells #[.int .u8 97, .int .u8 98, .int .u8 99] 5 (3, 4)) := ⟨_, rfl⟩
  obtain ⟨D, hD⟩ : ∃ D, D = sha [97, 98, 99] := ⟨_, rfl⟩
  have HD : Hid (D.take 4 = [186, 120, 22, 191]) := by show _ = _; rw [hD]; exact sha_abc
  have HD2 : Hid (D.length = 32) := by show _ = _; rw [hD]; exact sha_length _
  have hsum := sum_any _ _ _ hh0 (by simp) hT0
  rw [← hD] at hsum
  clear hD
  go_enter Tryd.func12, Tryd.ntmps12
  go_wp2_with fail
  refine hsum.mono ?_
  clear hsum
  rintro e w1 ⟨v1, rfl, hown1, hb1⟩
  have hb01 : Below w.heap.size w w1 := hb0.trans (hb1.mono hb0.size)
  have hh1 := HB.of_owns hown1
  clear hown1 hb1 hh0 hT0 kc hb0 hW hT
  go_wp2_with fail
  refine (prefix_t _ _ D [186, 120, 22, 191] _ (hh1.later ((Below.refl _ w1).alloc (Nat.le_refl _) _)) (HB.lit w1 5 _ _ 4 rfl rfl (by unfold maxLen; omega)) (by rw [HD2.out]; decide) HD.out).mono ?_
  rintro e w2 ⟨rfl, hw⟩
  have hb2 : Below w.heap.size w w2 := by
    rw [hw]
    exact hb01.alloc hb01.size _
  clear hw hh1
  go_wp2
  go_ret
  exact ⟨rfl, hb2⟩

end Go.Proofs.YtbmghnkgbiijmaaDoor
