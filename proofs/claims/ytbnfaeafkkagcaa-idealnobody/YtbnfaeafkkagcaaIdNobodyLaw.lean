/- What this text proves: the walk of the statement IdealNobody over this program: whatever is asked, it answers true. -/
import Derived.Test.YtbnfaeafkkagcaaIdAwake
namespace Go.Proofs.Ytbnfaeafkkagcaa
open Go.RowKit

set_option maxRecDepth 100000 in
set_option maxHeartbeats 2000000 in
theorem idealNobody_walk (k fr to ti ep ix li : Int) (so : Bool) (id ba : Value) (w : World) :
    Calls Try.prog 3 #[.agg #[.int .i64 k, id, .int .i64 fr, .int .i64 to, .int .i64 ti, .bool so, .int .i64 ep, .int .i64 ix, .int .i64 li, ba]] w fun x w' => x = .returned (.bool true) ∧ Below w.heap.size w w' := by
  have b0 := (Below.refl w.heap.size w).alloc (Nat.le_refl _) (.cells #[.int .i64 k, id, .int .i64 fr, .int .i64 to, .int .i64 ti, .bool so, .int .i64 ep, .int .i64 ix, .int .i64 li, ba] 25)
  have g0 := heap_alloc_new w (.cells #[.int .i64 k, id, .int .i64 fr, .int .i64 to, .int .i64 ti, .bool so, .int .i64 ep, .int .i64 ix, .int .i64 li, ba] 25)
  obtain ⟨V, hV⟩ : ∃ V, w.alloc (.cells #[.int .i64 k, id, .int .i64 fr, .int .i64 to, .int .i64 ti, .bool so, .int .i64 ep, .int .i64 ix, .int .i64 li, ba] 25) = V := ⟨_, rfl⟩
  rw [hV] at b0 g0
  have sV : V.heap.size = w.heap.size + 1 := by rw [← hV]; simp
  have b1 := (Below.refl V.heap.size V).alloc (Nat.le_refl _) (.cells (mapC 0 0 0 0 0 0 0 0 none 0 0 none 0 0 0) 32)
  have g1 := heap_alloc_new V (.cells (mapC 0 0 0 0 0 0 0 0 none 0 0 none 0 0 0) 32)
  obtain ⟨V1, hV1⟩ : ∃ V1, V.alloc (.cells (mapC 0 0 0 0 0 0 0 0 none 0 0 none 0 0 0) 32) = V1 := ⟨_, rfl⟩
  rw [hV1] at b1 g1
  have sV1 : V1.heap.size = V.heap.size + 1 := by rw [← hV1]; simp
  have b2 := (Below.refl V1.heap.size V1).alloc (Nat.le_refl _) (.cells #[.pointer none, .pointer (some ⟨w.heap.size + 1, 0, none⟩)] 26)
  have g2 := heap_alloc_new V1 (.cells #[.pointer none, .pointer (some ⟨w.heap.size + 1, 0, none⟩)] 26)
  obtain ⟨V2, hV2⟩ : ∃ V2, V1.alloc (.cells #[.pointer none, .pointer (some ⟨w.heap.size + 1, 0, none⟩)] 26) = V2 := ⟨_, rfl⟩
  rw [hV2] at b2 g2
  unfold mapC at hV1
  have hf0 := fun e a1 a2 a3 a4 a5 a6 a7 a8 w => field0 e a1 a2 a3 a4 a5 a6 a7 a8 w
  go_enter Try.func3, Try.ntmps3
  go_wp2
  have bAll := b0.trans ((b1.trans (b2.mono b1.size)).mono b0.size)
  have g0' := ((b1.trans (b2.mono b1.size)).block _ (Array.getElem?_eq_some_iff.1 g0).1).trans g0
  have g1' := (b2.block _ (Array.getElem?_eq_some_iff.1 g1).1).trans g1
  rw [sV] at g1'
  rw [sV1, sV] at g2
  clear hV hV1 hV2 g0 g1 b1 b2
  go_loopw [9] (fun i wr => ∃ n : Nat, n ≤ 2 ∧ i = .int .i64 (n : Int) ∧ Below V2.heap.size V2 wr) (fun i _ => 2 - (intOf i).toNat)
  case atStart => exact ⟨0, by omega, rfl, Below.refl _ _⟩
  case round =>
    obtain ⟨n, hn, rfl, hb⟩ := hrel
    by_cases hlt : n < 2
    · have hlt2 : (n : Int) < 2 := by omega
      have gP := (hb.block _ (Array.getElem?_eq_some_iff.1 g2).1).trans g2
      have gA := (hb.block _ (Array.getElem?_eq_some_iff.1 g0').1).trans g0'
      have hq : ∃ q, wr.cell? ⟨w.heap.size + 1 + 1, n, none⟩ = some (.pointer q) ∧ ∀ W, Below V2.heap.size V2 W → GoneM q W := by
        have h01 : n = 0 ∨ n = 1 := by omega
        rcases h01 with rfl | rfl
        · exact ⟨none, by rw [cell_of_row _ _ 0 _ _ _ gP]; rfl, fun W _ => gone_nil W⟩
        · refine ⟨some ⟨w.heap.size + 1, 0, none⟩, by rw [cell_of_row _ _ 1 _ _ _ gP]; rfl, fun W hW => gone_zero W _ ?_⟩
          obtain ⟨_, _, _, _, _, _, _, _, m8, _, _⟩ := map_cells ((hW.block _ (Array.getElem?_eq_some_iff.1 g1').1).trans g1')
          exact m8
      obtain ⟨q, hc, hG⟩ := hq
      have a0 : wr.cell? ⟨w.heap.size, 0, none⟩ = some (.int .i64 k) := by rw [cell_of_row _ _ 0 _ _ _ gA]; rfl
      have a1 : wr.cell? ⟨w.heap.size, 1, none⟩ = some (id) := by rw [cell_of_row _ _ 1 _ _ _ gA]; rfl
      have a2 : wr.cell? ⟨w.heap.size, 2, none⟩ = some (.int .i64 fr) := by rw [cell_of_row _ _ 2 _ _ _ gA]; rfl
      have a3 : wr.cell? ⟨w.heap.size, 3, none⟩ = some (.int .i64 to) := by rw [cell_of_row _ _ 3 _ _ _ gA]; rfl
      have a4 : wr.cell? ⟨w.heap.size, 4, none⟩ = some (.int .i64 ti) := by rw [cell_of_row _ _ 4 _ _ _ gA]; rfl
      have a5 : wr.cell? ⟨w.heap.size, 5, none⟩ = some (.bool so) := by rw [cell_of_row _ _ 5 _ _ _ gA]; rfl
      have a6 : wr.cell? ⟨w.heap.size, 6, none⟩ = some (.int .i64 ep) := by rw [cell_of_row _ _ 6 _ _ _ gA]; rfl
      have a7 : wr.cell? ⟨w.heap.size, 7, none⟩ = some (.int .i64 ix) := by rw [cell_of_row _ _ 7 _ _ _ gA]; rfl
      have a8 : wr.cell? ⟨w.heap.size, 8, none⟩ = some (.int .i64 li) := by rw [cell_of_row _ _ 8 _ _ _ gA]; rfl
      have a9 : wr.cell? ⟨w.heap.size, 9, none⟩ = some (ba) := by rw [cell_of_row _ _ 9 _ _ _ gA]; rfl
      have h1 := back_gone q wr (hG wr hb)
      have h2 := do_gone q k fr to ti ep ix li so id ba wr (fun W hW => hG W (hb.trans (hW.mono hb.size)))
      clear gP gA g0' g1' g2
      go_wp2_with (first
        | (go_at_call 4; refine h1.mono ?_; rintro e w1 ⟨⟨v1, rfl⟩, hw⟩; have hw2 := hw.symm; clear hw; subst hw2)
        | (go_at_call 5; refine h2.mono ?_; rintro e w5 ⟨rfl, c5⟩; have b5 := hb.trans (c5.mono hb.size); have G5 := hG w5 b5)
        | (go_at_call 6; refine (epoch_gone q _ G5).mono ?_; rintro e w1 ⟨rfl, hw⟩; have hw2 := hw.symm; clear hw; subst hw2)
        | (go_at_call 7; refine (changes_gone q _ G5).mono ?_; rintro e w1 ⟨rfl, hw⟩; have hw2 := hw.symm; clear hw; subst hw2)
        | (go_at_call 8; refine (time_gone q 0 _ G5).mono ?_; rintro e w1 ⟨rfl, hw⟩; have hw2 := hw.symm; clear hw; subst hw2)
        | (go_at_call 9; refine (batch_gone q 1 _ G5).mono ?_; rintro e w1 ⟨rfl, hw⟩; have hw2 := hw.symm; clear hw; subst hw2)
        | (go_at_call 10; refine (now_gone q _ G5).mono ?_; rintro e w1 ⟨rfl, hw⟩; have hw2 := hw.symm; clear hw; subst hw2)
        | (go_at_call 11; refine (copy_gone q _ G5).mono ?_; rintro e w1 ⟨rfl, hw⟩; have hw2 := hw.symm; clear hw; subst hw2))
      go_roundw
      case rel => exact ⟨n + 1, by omega, by go_num, b5⟩
      case measure => simp [intOf]; omega
    · obtain rfl : n = 2 := by omega
      have hAw := idAwake_any wr
      go_wp2_with (go_at_call 12; refine hAw.mono ?_; rintro e w7 ⟨rfl, c7⟩)
      go_ret
      have bF := bAll.trans (hb.mono bAll.size)
      exact ⟨rfl, bF.trans (c7.mono bF.size)⟩

end Go.Proofs.Ytbnfaeafkkagcaa
