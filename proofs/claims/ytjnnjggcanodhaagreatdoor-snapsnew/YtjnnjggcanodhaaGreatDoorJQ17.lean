/- What this text proves: the walk of annalslaw22.awake over this program: it answers true. -/
import Derived.Test.YtjnnjggcanodhaaGreatDoorJQ16
import Derived.Lib.SlBytesConst
namespace Go.Proofs.YtjnnjggcanodhaaGreatDoor
open Go.RowKit

theorem HB.litS (w : World) (e : TypeId) (l : List UInt8) (cs : Array Value) (n : Nat) (fr : Nat × Nat) (hc : cs = (bcs l).toArray) (hn : n = l.length) (hm : n ≤ maxLen) : HB (w.alloc (.cells cs e fr)) (.slice (some ⟨w.heap.size, 0, none⟩) n n) l := by
  subst hc; subst hn
  refine ⟨_, l.length, rfl, Nat.le_refl _, hm, (fun h => by cases h), fun _ => ⟨_, 0, rfl, fun i x hx => ?_⟩⟩
  rw [Nat.zero_add, cell_of_row _ _ i _ _ _ (heap_alloc_new w _)]
  simp [bcs, hx]

theorem chk_small : chkV 4 6 2 4 60 3121 0 3 = 0 := by decide

set_option maxRecDepth 100000 in
set_option maxHeartbeats 2000000 in
theorem snAwake_any (w : World) (hT : Tabs w) :
    Calls Tryz.prog 10 #[] w fun x w' => x = .returned (.bool true) ∧ Below w.heap.size w w' := by
  have hS := small_zero w
  have hN := fun w => snew_ok 4 6 2 4 60 3121 0 3 w chk_small
  have kc := fun (w : World) (C : Array Value) (n c : Nat) => Lib.run_convert_bytes_const (P := Tryz.prog) w 46 5 C n c Tryz.underlying46 Tryz.underlying5
  obtain ⟨L, hL⟩ : ∃ L : List Nat, L = [0, 1] := ⟨_, rfl⟩
  have HL : Hid (L = [0, 1]) := hL
  clear hL
  go_enter Tryz.func10, Tryz.ntmps10
  go_wp2_with fail
  refine hS.mono ?_
  rintro x w1 ⟨rfl, b1⟩
  clear hS
  go_wp2_with fail
  refine (hN _).mono ?_
  rintro x w2 ⟨g, ga, n1, n2, rfl, H2, B1, B2, A2, l1, l2, l3, l4, b2⟩
  have bA := b1.trans (b2.mono b1.size)
  have hs1 := b1.size
  have hs2 := b2.size
  have lga := A2.lt
  clear hN
  have k0 := (Below.refl w2.heap.size w2).alloc (Nat.le_refl _) (.cells #[.int .u8 97] 5 (1, 2))
  have m0 := heap_alloc_new w2 (.cells #[.int .u8 97] 5 (1, 2))
  have z0 : (w2.alloc (.cells #[.int .u8 97] 5 (1, 2))).heap.size = w2.heap.size + 1 := by simp
  have k1 := k0.alloc k0.size (.cells #[.slice (some ⟨w2.heap.size, 0, none⟩) 1 1, .slice none 0 0] 69)
  have m1 := heap_alloc_new (w2.alloc (.cells #[.int .u8 97] 5 (1, 2))) (.cells #[.slice (some ⟨w2.heap.size, 0, none⟩) 1 1, .slice none 0 0] 69)
  have a1 := (Below.refl _ (w2.alloc (.cells #[.int .u8 97] 5 (1, 2)))).alloc (Nat.le_refl _) (.cells #[.slice (some ⟨w2.heap.size, 0, none⟩) 1 1, .slice none 0 0] 69)
  have m0' := (a1.block _ (by omega)).trans m0
  rw [z0] at m1
  have hI : HB (w2.alloc (.cells #[.int .u8 97] 5 (1, 2))) (.slice (some ⟨w2.heap.size, 0, none⟩) 1 1) [97] := HB.litS w2 5 [97] _ 1 (1, 2) rfl rfl (by decide)
  have hI1 := hI.later a1
  clear a1 hI
  go_wp2_with fail
  generalize hX : (w2.alloc (.cells #[.int .u8 97] 5 (1, 2))).alloc (.cells #[.slice (some ⟨w2.heap.size, 0, none⟩) 1 1, .slice none 0 0] 69) = X at *
  have bX := bA.trans (k1.mono bA.size)
  have hG := sgrow_first (base := w.heap.size) (SN.later H2 k1) (BK.later B1 k1) (BK.later B2 k1) (A2.later k1) m1 hI1 (fun a n c e => by simp only [Value.slice.injEq, Option.some.injEq] at e; rw [← e.1]; simp; omega) (hT.later bX) (by omega) (by omega) (by omega) (by omega)
  refine hG.mono ?_
  rintro x w3 ⟨ph, chh, pb, cb, pr, cr, rfl, H3, r3, b3⟩
  have b03 : Below w.heap.size w w3 := bX.trans b3
  have hLa := slast_ok H3 (by decide) (by decide)
  have hK := skept_two H3 r3
  rw [← HL.out] at hK
  clear hG H2 B1 B2 A2 l1 l2 l3 l4 b1 b2 bA k0 m0 z0 k1 m1 m0' hI1 hX bX b3 hT kc
  go_wp2_with fail
  refine hLa.mono ?_
  rintro x w4 ⟨rfl, hw⟩
  subst hw
  clear hLa
  go_wp2_with fail
  refine hK.mono ?_
  rintro x w5 ⟨v, rfl, hI5, b5⟩
  obtain ⟨p5, c5, rfl⟩ := hI5.shape
  have hA := (Below.refl w5.heap.size w5).alloc (Nat.le_refl _) (.cells #[.int .i64 0, .int .i64 1] 3)
  have hJ : IA (w5.alloc (.cells #[.int .i64 0, .int .i64 1] 3)) (.slice (some ⟨w5.heap.size, 0, none⟩) 2 2) L := IA.litF w5 3 L _ 2 (0, 0) (by rw [HL.out]; rfl) (by rw [HL.out]; rfl) (by decide)
  have hE := slequal_same _ _ L _ (hI5.later hA) hJ
  have b05 := b03.trans (b5.mono b03.size)
  have b06 := b05.trans (hA.mono b05.size)
  clear hK hJ
  go_wp2_with fail
  refine hE.mono ?_
  rintro x w6 ⟨rfl, b6⟩
  have bF := b06.trans (b6.mono b06.size)
  go_wp2
  go_ret
  exact ⟨rfl, bF⟩

end Go.Proofs.YtjnnjggcanodhaaGreatDoor
