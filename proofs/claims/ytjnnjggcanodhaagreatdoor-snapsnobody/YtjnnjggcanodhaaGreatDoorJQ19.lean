/- What this text proves: the walk of the statement SnapsNobody over this program: it answers true for any call. -/
import Derived.Test.YtjnnjggcanodhaaGreatDoorJQ17
namespace Go.Proofs.YtjnnjggcanodhaaGreatDoor
open Go.RowKit

set_option maxRecDepth 100000 in
set_option maxHeartbeats 4000000 in
theorem snNobodyWalk (op ep : Int) (pl : Option Addr) (nl cl : Nat) (w : World) (hT : Tabs w) :
    Calls Tryz.prog 4 #[.agg #[.int .i64 op, .int .i64 ep, .slice pl nl cl]] w fun x w' => x = .returned (.bool true) ∧ Below w.heap.size w w' := by
  have b0 := (Below.refl w.heap.size w).alloc (Nat.le_refl _) (.cells #[.int .i64 op, .int .i64 ep, .slice pl nl cl] 39)
  have g0 := heap_alloc_new w (.cells #[.int .i64 op, .int .i64 ep, .slice pl nl cl] 39)
  have z0 : (w.alloc (.cells #[.int .i64 op, .int .i64 ep, .slice pl nl cl] 39)).heap.size = w.heap.size + 1 := by simp
  obtain ⟨X0, hX0⟩ : ∃ X0, w.alloc (.cells #[.int .i64 op, .int .i64 ep, .slice pl nl cl] 39) = X0 := ⟨_, rfl⟩
  rw [hX0] at b0 g0 z0
  have b1 := (Below.refl X0.heap.size X0).alloc (Nat.le_refl _) (.cells #[.int .i64 0, .int .i64 0, .int .i64 0, .int .i64 0, .int .i64 0, .int .i64 0, .int .i64 0, .int .i64 0, .pointer none, .slice none 0 0, .slice none 0 0, .slice none 0 0] 44)
  have g1 := heap_alloc_new X0 (.cells #[.int .i64 0, .int .i64 0, .int .i64 0, .int .i64 0, .int .i64 0, .int .i64 0, .int .i64 0, .int .i64 0, .pointer none, .slice none 0 0, .slice none 0 0, .slice none 0 0] 44)
  have z1 : (X0.alloc (.cells #[.int .i64 0, .int .i64 0, .int .i64 0, .int .i64 0, .int .i64 0, .int .i64 0, .int .i64 0, .int .i64 0, .pointer none, .slice none 0 0, .slice none 0 0, .slice none 0 0] 44)).heap.size = w.heap.size + 2 := by simp [z0]
  obtain ⟨X1, hX1⟩ : ∃ X1, X0.alloc (.cells #[.int .i64 0, .int .i64 0, .int .i64 0, .int .i64 0, .int .i64 0, .int .i64 0, .int .i64 0, .int .i64 0, .pointer none, .slice none 0 0, .slice none 0 0, .slice none 0 0] 44) = X1 := ⟨_, rfl⟩
  rw [hX1] at b1 g1 z1
  rw [z0] at g1 b1
  have b2 := (Below.refl X1.heap.size X1).alloc (Nat.le_refl _) (.cells #[.pointer none, .pointer (some ⟨w.heap.size + 1, 0, none⟩)] 24)
  have g2 := heap_alloc_new X1 (.cells #[.pointer none, .pointer (some ⟨w.heap.size + 1, 0, none⟩)] 24)
  obtain ⟨X2, hX2⟩ : ∃ X2, X1.alloc (.cells #[.pointer none, .pointer (some ⟨w.heap.size + 1, 0, none⟩)] 24) = X2 := ⟨_, rfl⟩
  rw [hX2] at b2 g2
  rw [z1] at g2 b2
  have z2 : X2.heap.size = w.heap.size + 3 := by rw [← hX2]; simp [z1]
  have k1 := (b2.block _ (by omega)).trans g1
  have k0 := (b2.block _ (by omega)).trans ((b1.block _ (by omega)).trans g0)
  have B : Below w.heap.size w X2 := (b0.trans (b1.mono (by omega))).trans (b2.mono (by omega))
  have e1 : X2.cell? ⟨w.heap.size, 1, none⟩ = some (.int .i64 ep) := by rw [cell_of_row _ _ _ _ _ _ k0]; rfl
  have e2 : X2.cell? ⟨w.heap.size, 2, none⟩ = some (.slice pl nl cl) := by rw [cell_of_row _ _ _ _ _ _ k0]; rfl
  have p0 : X2.cell? ⟨w.heap.size + 2, 0, none⟩ = some (.pointer none) := by rw [cell_of_row _ _ _ _ _ _ g2]; rfl
  have p1 : X2.cell? ⟨w.heap.size + 2, 1, none⟩ = some (.pointer (some ⟨w.heap.size + 1, 0, none⟩)) := by rw [cell_of_row _ _ _ _ _ _ g2]; rfl
  have q8 : X2.cell? ⟨w.heap.size + 1, 8, none⟩ = some (.pointer none) := by rw [cell_of_row _ _ _ _ _ _ k1]; rfl
  clear b0 b1 b2 g0 g1 g2 k0 k1
  go_enter Tryz.func4, Tryz.ntmps4
  go_wp2
  try rw [hX0, hX1, hX2]
  clear hX0 hX1 hX2
  go_loopw [13] (fun v wr => ∃ k : Nat, k ≤ 2 ∧ v = .int .i64 (k : Int) ∧ Below X2.heap.size X2 wr) (fun v _ => 2 - (intOf v).toNat)
  case atStart => exact ⟨0, by omega, rfl, Below.refl _ _⟩
  case round =>
    obtain ⟨k, hk, rfl, hbe⟩ := hrel
    have Bw := B.trans (hbe.mono (by omega))
    by_cases hlt : k < 2
    · have hlt2 : (k : Int) < 2 := by omega
      obtain ⟨q, hq, hG⟩ : ∃ q, wr.cell? ⟨w.heap.size + 2, k, none⟩ = some (.pointer q) ∧ ∀ W, Below X2.heap.size X2 W → GoneS q W := by
        rcases (by omega : k = 0 ∨ k = 1) with rfl | rfl
        · exact ⟨none, cell_later hbe p0, fun W _ => sgone_nil W⟩
        · exact ⟨_, cell_later hbe p1, fun W hW => sgone_zero W _ (cell_later hW q8)⟩
      have f2 := cell_later hbe e2
      have HG : Hid (∀ W, Below X2.heap.size X2 W → GoneS q W) := hG
      have h1 := sgrow_gone q (.slice pl nl cl) wr (hG _ hbe)
      clear hG p0 p1 q8
      go_wp2_with fail
      refine h1.mono ?_
      rintro x w1 ⟨rfl, hw⟩
      subst hw
      have f1 := cell_later hbe e1
      have h2 := sroot_gone q ep w1 (fun W' hW => HG.out W' (hbe.trans (hW.mono hbe.size)))
      clear h1
      go_wp2_with fail
      refine h2.mono ?_
      rintro x w2 ⟨rfl, c2⟩
      have H2 := hbe.trans (c2.mono hbe.size)
      have h3 := sevict_gone q w2 (fun W' hW => HG.out W' (H2.trans (hW.mono H2.size)))
      clear h2
      go_wp2_with fail
      refine h3.mono ?_
      rintro x w3 ⟨rfl, c3⟩
      have H3 := H2.trans (c3.mono H2.size)
      have h4 := sdrop_gone q w3 (HG.out _ H3)
      clear h3
      go_wp2_with fail
      refine h4.mono ?_
      rintro x w4 ⟨rfl, hw⟩
      subst hw
      have h5 := slast_gone q w4 (HG.out _ H3)
      clear h4
      go_wp2_with fail
      refine h5.mono ?_
      rintro x w5 ⟨rfl, hw⟩
      subst hw
      have h6 := skept_gone q w5 (HG.out _ H3)
      clear h5
      go_wp2_with fail
      refine h6.mono ?_
      rintro x w6 ⟨rfl, hw⟩
      subst hw
      have h7 := sbuilt_gone q w6 (HG.out _ H3)
      clear h6
      go_wp2_with fail
      refine h7.mono ?_
      rintro x w7 ⟨rfl, hw⟩
      subst hw
      have h8 := sarena_gone q w7 (HG.out _ H3)
      clear h7
      go_wp2_with fail
      refine h8.mono ?_
      rintro x w8 ⟨rfl, hw⟩
      subst hw
      clear h8
      go_wp2
      go_roundw
      case rel => first | exact ⟨k + 1, by omega, by go_num, H3⟩ | ((repeat apply Exists.intro); exact ⟨⟨k + 1, by omega, by go_num, H3⟩, rfl⟩)
      case measure => simp [intOf]; omega
    · have hge : ¬ ((k : Int) < 2) := by omega
      have hA := snAwake_any wr (hT.later Bw)
      clear p0 p1 q8 e1 e2
      go_wp2_with fail
      refine hA.mono ?_
      rintro x w1 ⟨rfl, c1⟩
      have bF := Bw.trans (c1.mono Bw.size)
      go_wp2
      go_ret
      exact ⟨rfl, bF⟩

end Go.Proofs.YtjnnjggcanodhaaGreatDoor
